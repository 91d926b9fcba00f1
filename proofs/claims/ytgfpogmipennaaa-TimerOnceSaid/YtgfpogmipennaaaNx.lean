/- TimerNext: plain facts of what two arrays tell of a heap. No condition of the program's own. -/
import Derived.Test.YtgfpogmipennaaaOn
import Derived.Test.YtgfpogmipennaaaTz
namespace Go.Proofs.Ytgfpogmipennaaa
open Go.RowKit Go.Deep
/-- f tells each time, g which are set. -/
structure Nx (i : Nat) (f : Nat → Int) (g : Nat → Bool) (S : List It) : Prop where
  len : S.length ≤ i
  on : ∀ j : Nat, j < 20 → g j = isIn (j : Int) S
  tm : ∀ y ∈ S, ∃ j : Nat, j < 20 ∧ y.1 = (j : Int) ∧ f j = y.2
  rng : ∀ y ∈ S, 0 ≤ y.2 ∧ y.2 < 100
theorem isIn_ins {x : It} {S : List It} (id : Int) : isIn id (ins x S) = (decide (x.1 = id) || isIn id S) := by
  rw [Bool.eq_iff_iff, Bool.or_eq_true, isIn_iff, isIn_iff, decide_eq_true_iff]
  constructor
  · rintro ⟨y, hy, e⟩
    rcases mem_ins.1 hy with rfl | hy
    · exact .inl e
    · exact .inr ⟨y, hy, e⟩
  · rintro (e | ⟨y, hy, e⟩)
    · exact ⟨x, mem_ins.2 (.inl rfl), e⟩
    · exact ⟨y, mem_ins.2 (.inr hy), e⟩
theorem isIn_del {S : List It} (id k : Int) : isIn id (del k S) = (isIn id S && decide (id ≠ k)) := by
  rw [Bool.eq_iff_iff, Bool.and_eq_true, isIn_iff, isIn_iff, decide_eq_true_iff]
  constructor
  · rintro ⟨y, hy, e⟩
    obtain ⟨h1, h2⟩ := mem_del.1 hy
    exact ⟨⟨y, h1, e⟩, by rw [← e]; exact h2⟩
  · rintro ⟨⟨y, hy, e⟩, h2⟩
    exact ⟨y, mem_del.2 ⟨hy, by rw [e]; exact h2⟩, e⟩
theorem Nx.set {i : Nat} {f : Nat → Int} {g : Nat → Bool} {S : List It} (h : Nx i f g S) (hi : i < 60) (k : Nat) (hk : k < 20) (t : Int) (ht : 0 ≤ t ∧ t < 100) :
    setR (k : Int) S = 0 ∧ Nx (i + 1) (upd f k t) (upd g k true) (setT (k : Int) t S) := by
  have hr : setR (k : Int) S = 0 := by unfold setR; rw [if_neg (by omega), if_pos (.inr (by have := h.len; omega))]
  have e : setT (k : Int) t S = ins ((k : Int), t) (del (k : Int) S) := by unfold setT setS; rw [if_pos hr]
  refine ⟨hr, ?_⟩
  rw [e]
  refine ⟨?_, fun j hj => ?_, fun y hy => ?_, fun y hy => ?_⟩
  · rw [(ins_perm _ _).length_eq, List.length_cons]
    have : (del (k : Int) S).length ≤ S.length := List.length_filter_le _ _
    have := h.len
    omega
  · rw [isIn_ins, isIn_del]
    unfold upd
    by_cases e : j = k
    · rw [if_pos e, e]; simp
    · rw [if_neg e, h.on j hj]
      have h1 : decide (((k : Int), t).1 = (j : Int)) = false := by rw [decide_eq_false_iff_not]; show ¬ (k : Int) = (j : Int); omega
      have h2 : decide ((j : Int) ≠ (k : Int)) = true := by rw [decide_eq_true_iff]; omega
      rw [h1, h2]; simp
  · rcases mem_ins.1 hy with rfl | hy
    · exact ⟨k, hk, rfl, by unfold upd; rw [if_pos rfl]⟩
    · obtain ⟨h1, h2⟩ := mem_del.1 hy
      obtain ⟨j, j1, j2, j3⟩ := h.tm y h1
      exact ⟨j, j1, j2, by unfold upd; rw [if_neg (fun e => h2 (by rw [j2, e])), j3]⟩
  · rcases mem_ins.1 hy with rfl | hy
    · exact ht
    · exact h.rng y (mem_del.1 hy).1
theorem Nx.cancel {i : Nat} {f : Nat → Int} {g : Nat → Bool} {S : List It} (h : Nx i f g S) (c : Nat) : Nx i f (upd g c false) (del (c : Int) S) := by
  refine ⟨Nat.le_trans (List.length_filter_le _ _) h.len, fun j hj => ?_, fun y hy => h.tm y (mem_del.1 hy).1, fun y hy => h.rng y (mem_del.1 hy).1⟩
  rw [isIn_del]
  unfold upd
  by_cases e : j = c
  · rw [if_pos e, e]; simp
  · rw [if_neg e, h.on j hj]
    have h2 : decide ((j : Int) ≠ (c : Int)) = true := by rw [decide_eq_true_iff]; omega
    rw [h2]; simp
/-- How many have less ids, and the least of their times. -/
def cnt (j : Nat) (S : List It) : Nat := (S.filter (fun y => decide (y.1 < (j : Int)))).length
theorem cnt_step (j : Nat) : ∀ S : List It, (ids S).Nodup → cnt (j + 1) S = cnt j S + (if isIn (j : Int) S = true then 1 else 0)
  | [], _ => rfl
  | y :: r, hn => by
    obtain ⟨h1, h2⟩ := List.nodup_cons.1 (show (y.1 :: ids r).Nodup from hn)
    have ih := cnt_step j r h2
    have e1 : isIn (j : Int) (y :: r) = (decide (y.1 = (j : Int)) || isIn (j : Int) r) := by simp [isIn]
    have c1 : ∀ q : Nat, cnt q (y :: r) = (if y.1 < (q : Int) then 1 else 0) + cnt q r := fun q => by
      unfold cnt
      rw [List.filter_cons]
      by_cases hq : y.1 < (q : Int)
      · rw [if_pos (by simpa using hq), if_pos hq, List.length_cons]; omega
      · rw [if_neg (by simpa using hq), if_neg hq]; omega
    rw [c1, c1, ih, e1]
    by_cases hy : y.1 = (j : Int)
    · have hf : isIn (j : Int) r = false := isIn_false.2 (fun z hz e => h1 (by rw [hy, ← e]; exact List.mem_map_of_mem hz))
      have a1 : y.1 < ((j + 1 : Nat) : Int) := by omega
      have a2 : ¬ y.1 < (j : Int) := by omega
      rw [hf, if_pos a1, if_neg a2]
      simp [hy]
      omega
    · have : (y.1 < ((j + 1 : Nat) : Int)) ↔ (y.1 < (j : Int)) := by omega
      simp only [this, hy, decide_false, Bool.false_or]
      omega
def Lst (j : Nat) (S : List It) (m : Int) : Prop := (∀ y ∈ S, y.1 < (j : Int) → m ≤ y.2) ∧ (m = 1000 ∨ ∃ y ∈ S, y.1 < (j : Int) ∧ y.2 = m) ∧ m ≤ 1000
theorem Lst.off {j : Nat} {S : List It} {m : Int} (h : Lst j S m) (hn : isIn (j : Int) S = false) : Lst (j + 1) S m := by
  refine ⟨fun y hy hlt => h.1 y hy (by have := isIn_false.1 hn y hy; omega), ?_, h.2.2⟩
  rcases h.2.1 with e | ⟨y, hy, h1, h2⟩
  · exact .inl e
  · exact .inr ⟨y, hy, by omega, h2⟩
theorem Lst.on {i j : Nat} {f : Nat → Int} {g : Nat → Bool} {S : List It} {m : Int} (h : Lst j S m) (hx : Nx i f g S) (hn : isIn (j : Int) S = true) : Lst (j + 1) S (min m (f j)) := by
  have key : ∀ y ∈ S, y.1 = (j : Int) → y.2 = f j := fun y hy e => by
    obtain ⟨q, _, q2, q3⟩ := hx.tm y hy
    have : q = j := by omega
    rw [← this, q3]
  obtain ⟨z, hz, ez⟩ := isIn_iff.1 hn
  refine ⟨fun y hy hlt => ?_, ?_, by have := h.2.2; omega⟩
  · by_cases e : y.1 = (j : Int)
    · have := key y hy e; omega
    · have := h.1 y hy (by omega); omega
  · by_cases hm : m ≤ f j
    · rw [Int.min_eq_left hm]
      rcases h.2.1 with e | ⟨y, hy, h1, h2⟩
      · exact .inl e
      · exact .inr ⟨y, hy, by omega, h2⟩
    · rw [Int.min_eq_right (by omega)]
      exact .inr ⟨z, hz, by omega, key z hz ez⟩
theorem Lst.done {i : Nat} {f : Nat → Int} {g : Nat → Bool} {y : It} {r : List It} {m : Int} (h : Lst 20 (y :: r) m) (hx : Nx i f g (y :: r)) (hs : Srt (y :: r)) : m = y.2 := by
  have lt : ∀ z ∈ y :: r, z.1 < ((20 : Nat) : Int) := fun z hz => by
    obtain ⟨q, q1, q2, _⟩ := hx.tm z hz
    omega
  have h1 := h.1 y (by simp) (lt y (by simp))
  rcases h.2.1 with e | ⟨z, hz, _, e⟩
  · have := (hx.rng y (by simp)).2; omega
  · rcases List.mem_cons.1 hz with rfl | hz
    · exact e.symm
    · have := (List.pairwise_cons.1 hs).1 z hz
      unfold ilt at this
      omega
theorem cnt_all {i : Nat} {f : Nat → Int} {g : Nat → Bool} {S : List It} (hx : Nx i f g S) : cnt 20 S = S.length := by
  unfold cnt
  rw [List.filter_eq_self.2]
  intro z hz
  obtain ⟨q, q1, q2, _⟩ := hx.tm z hz
  simp only [decide_eq_true_eq]
  omega
end Go.Proofs.Ytgfpogmipennaaa
