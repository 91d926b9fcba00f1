/- Timers as rows in order of times and ids: plain facts, and what a heap of them holds. No condition of the program's own. -/
import Derived.Test.YtgfpogmipennaaaRm
namespace Go.Proofs.Ytgfpogmipennaaa
open Go.RowKit Go.Deep
def Srt (S : List It) : Prop := S.Pairwise ilt
def ins (x : It) : List It → List It
  | [] => [x]
  | y :: r => if ilt y x then y :: ins x r else x :: y :: r
def del (id : Int) (S : List It) : List It := S.filter (fun y => decide (y.1 ≠ id))
def isIn (id : Int) (S : List It) : Bool := S.any (fun y => decide (y.1 = id))
theorem ilt_trans {a b c : It} (h : ilt a b) (k : ilt b c) : ilt a c := by unfold ilt at *; omega
theorem ilt_irrefl (a : It) : ¬ ilt a a := by unfold ilt; omega
theorem ilt_or {a b : It} (h : ¬ ilt a b) (hne : a.1 ≠ b.1) : ilt b a := by unfold ilt at *; omega
theorem ins_perm (x : It) : ∀ S : List It, (ins x S).Perm (x :: S)
  | [] => List.Perm.refl _
  | y :: r => by
    unfold ins
    split
    · exact (List.Perm.cons y (ins_perm x r)).trans (List.Perm.swap x y r)
    · exact List.Perm.refl _
theorem mem_ins {x z : It} {S : List It} : z ∈ ins x S ↔ z = x ∨ z ∈ S := by rw [(ins_perm x S).mem_iff]; simp
theorem ins_srt (x : It) : ∀ S : List It, Srt S → (∀ y ∈ S, y.1 ≠ x.1) → Srt (ins x S)
  | [], _, _ => by simp [ins, Srt]
  | y :: r, h, hx => by
    obtain ⟨h1, h2⟩ := List.pairwise_cons.1 h
    unfold ins
    split
    · rename_i hy
      refine List.pairwise_cons.2 ⟨fun z hz => ?_, ins_srt x r h2 (fun z hz => hx z (by simp [hz]))⟩
      rcases mem_ins.1 hz with rfl | hz
      · exact hy
      · exact h1 z hz
    · rename_i hy
      have hxy := ilt_or hy (hx y (by simp))
      refine List.pairwise_cons.2 ⟨fun z hz => ?_, h⟩
      rcases List.mem_cons.1 hz with rfl | hz
      · exact hxy
      · exact ilt_trans hxy (h1 z hz)
theorem del_srt (id : Int) {S : List It} (h : Srt S) : Srt (del id S) := h.sublist List.filter_sublist
theorem mem_del {id : Int} {z : It} {S : List It} : z ∈ del id S ↔ z ∈ S ∧ z.1 ≠ id := by simp [del]
theorem isIn_iff {id : Int} {S : List It} : isIn id S = true ↔ ∃ y ∈ S, y.1 = id := by simp [isIn]
theorem isIn_false {id : Int} {S : List It} : isIn id S = false ↔ ∀ y ∈ S, y.1 ≠ id := by
  rw [← Bool.not_eq_true, isIn_iff]
  exact ⟨fun h y hy e => h ⟨y, hy, e⟩, fun h ⟨y, hy, e⟩ => h y hy e⟩
theorem del_none {id : Int} {S : List It} (h : isIn id S = false) : del id S = S := by
  unfold del; rw [List.filter_eq_self]; intro y hy; simpa using isIn_false.1 h y hy
theorem Srt.inj {S : List It} (h : Srt S) : S.Nodup := h.imp (fun {a b} hab e => by subst e; exact ilt_irrefl _ hab)
/-- Two rows in order that hold the same are the same. -/
theorem srt_unique : ∀ {S T : List It}, Srt S → Srt T → S.Perm T → S = T
  | [], T, _, _, h => h.nil_eq
  | x :: r, [], _, _, h => by have := h.length_eq; simp at this
  | x :: r, y :: q, hS, hT, h => by
    obtain ⟨h1, h2⟩ := List.pairwise_cons.1 hS
    obtain ⟨k1, k2⟩ := List.pairwise_cons.1 hT
    have e : x = y := by
      have hx : x ∈ y :: q := h.mem_iff.1 (by simp)
      have hy : y ∈ x :: r := h.mem_iff.2 (by simp)
      rcases List.mem_cons.1 hx with e | hx
      · exact e
      · rcases List.mem_cons.1 hy with e | hy
        · exact e.symm
        · exact absurd (ilt_trans (h1 y hy) (k1 x hx)) (ilt_irrefl _)
    subst e
    rw [srt_unique h2 k2 (List.Perm.cons_inv h)]
def ids (l : List It) : List Int := l.map Prod.fst
theorem Idx.nodup {l : List It} {m : Int → Option Int} (h : Idx l m) : (ids l).Nodup := by
  refine List.pairwise_iff_getElem.2 (fun i j hi hj hij e => ?_)
  simp only [ids, List.length_map] at hi hj
  simp only [ids, List.getElem_map] at e
  have := h.inj hi hj (by unfold itm List.getD; rw [List.getElem?_eq_getElem hi, List.getElem?_eq_getElem hj]; exact e)
  omega
theorem del_perm {l r : List It} {y : It} (h : l.Perm (y :: r)) (hn : (ids l).Nodup) : (del y.1 l).Perm r := by
  have h1 : (del y.1 l).Perm (del y.1 (y :: r)) := List.Perm.filter _ h
  have hn2 : (ids (y :: r)).Nodup := (List.Perm.map Prod.fst h).nodup hn
  have e : del y.1 (y :: r) = r := by
    unfold del
    rw [List.filter_cons]
    simp only [ne_eq, not_true_eq_false, decide_false, Bool.false_eq_true, if_false]
    rw [List.filter_eq_self]
    intro z hz
    obtain ⟨k, _⟩ := List.nodup_cons.1 (show (y.1 :: ids r).Nodup from hn2)
    simp only [decide_not, Bool.not_eq_eq_eq_not, Bool.not_true, decide_eq_false_iff_not]
    intro e
    exact k (by rw [← e]; exact List.mem_map_of_mem hz)
  rw [e] at h1
  exact h1
/-- A heap in memory that holds just S, in order. -/
def TS (w : World) (B : Nat) (S : List It) (F : Nat → Prop) : Prop := ∃ l, QS w B l F ∧ Hp l.length (itm l) ∧ l.Perm S ∧ Srt S
theorem QS.nodup {w : World} {B : Nat} {l : List It} {F : Nat → Prop} (h : QS w B l F) : (ids l).Nodup := by
  obtain ⟨v, mv, h, _⟩ := h
  rcases h.map with ⟨_, h1⟩ | ⟨b, m, _, _, h3⟩
  · rw [h1]; exact List.nodup_nil
  · exact h3.nodup
theorem TS.keep {w w' : World} {B : Nat} {S : List It} {F : Nat → Prop} (h : TS w B S F) (g : w.grownBy w' none) : TS w' B S F := by
  obtain ⟨l, q, r⟩ := h
  exact ⟨l, q.keep g, r⟩
theorem TS.apart {w w' : World} {B : Nat} {S : List It} {F G : Nat → Prop} (h : TS w B S F) (g : OnlyF G w w') (hFG : ∀ k, F k → k < w.heap.size → ¬ G k) : TS w' B S F := by
  obtain ⟨l, q, r⟩ := h
  exact ⟨l, q.apart g hFG, r⟩
theorem TS.wide {w : World} {B : Nat} {S : List It} {F G : Nat → Prop} (h : TS w B S F) (hG : ∀ k, F k → G k) : TS w B S G := by
  obtain ⟨l, q, r⟩ := h
  exact ⟨l, q.wide hG, r⟩
theorem TS.narrow {w : World} {B : Nat} {S : List It} {F : Nat → Prop} (h : TS w B S F) : TS w B S (fun k => F k ∧ k < w.heap.size) := by
  obtain ⟨l, q, r⟩ := h
  exact ⟨l, q.narrow, r⟩
theorem TS.srt {w : World} {B : Nat} {S : List It} {F : Nat → Prop} (h : TS w B S F) : Srt S := by
  obtain ⟨_, _, _, _, h⟩ := h; exact h
theorem TS.nodup {w : World} {B : Nat} {S : List It} {F : Nat → Prop} (h : TS w B S F) : (ids S).Nodup := by
  obtain ⟨l, q, _, p, _⟩ := h
  exact (List.Perm.map Prod.fst p).nodup q.nodup
/-- The first of a heap is the first in order. -/
theorem heap_first {l S : List It} (hp : Hp l.length (itm l)) (h : l.Perm S) (hS : Srt S) (h0 : 0 < l.length) : ∃ r, S = itm l 0 :: r := by
  cases S with
  | nil => have := h.length_eq; rw [List.length_nil] at this; omega
  | cons y r =>
    refine ⟨r, ?_⟩
    congr 1
    have h1 : itm l 0 ∈ y :: r := h.mem_iff.1 (List.mem_of_getElem? (itm_get h0))
    rcases List.mem_cons.1 h1 with e | h1
    · exact e.symm
    · have hy : y ∈ l := h.mem_iff.2 (by simp)
      obtain ⟨k, hk⟩ := List.mem_iff_getElem?.1 hy
      have := hp.first k (List.getElem?_eq_some_iff.1 hk).1
      rw [itm_of hk] at this
      exact absurd ((List.pairwise_cons.1 hS).1 _ h1) this
theorem split_at {l : List It} {i : Nat} (hi : i < l.length) : l = l.take i ++ itm l i :: l.drop (i + 1) := by
  have h1 := List.take_append_drop i l
  rw [List.drop_eq_getElem_cons hi] at h1
  rw [show itm l i = l[i] by unfold itm List.getD; rw [List.getElem?_eq_getElem hi]; rfl]
  exact h1.symm
theorem set_perm {l : List It} {i : Nat} (hi : i < l.length) (x : It) : (l.set i x).Perm (x :: (l.take i ++ l.drop (i + 1))) ∧ l.Perm (itm l i :: (l.take i ++ l.drop (i + 1))) := by
  refine ⟨?_, ?_⟩
  · rw [List.set_eq_take_append_cons_drop, if_pos hi]
    exact List.perm_middle
  · refine List.Perm.trans (List.Perm.of_eq (split_at hi)) List.perm_middle
end Go.Proofs.Ytgfpogmipennaaa
