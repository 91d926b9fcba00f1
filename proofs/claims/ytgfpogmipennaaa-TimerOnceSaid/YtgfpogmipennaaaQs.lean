/- A queue of timers in memory: its block, its row of items, its map; what keeps it. No condition of the program's own. -/
import Derived.Test.YtgfpogmipennaaaHx
import Derived.Test.YtgfpogmipennaaaWide
import Derived.Deep.RegionHeld3
import Derived.Deep.WholeRow
import Derived.Deep.OwnRows
namespace Go.Proofs.Ytgfpogmipennaaa
open Go.RowKit Go.Deep

def pc (l : List It) : List Value := l.flatMap fun p => [.int .i64 p.1, .int .i64 p.2]
theorem pc_len (l : List It) : (pc l).length = l.length * 2 := by
  induction l with
  | nil => rfl
  | cons p r ih => show (_ :: _ :: pc r).length = _; simp only [List.length_cons, ih]; omega
theorem pc_append (l m : List It) : pc (l ++ m) = pc l ++ pc m := by simp [pc]
theorem pc_one (l : List It) : ∀ u ∈ pc l, u.oneCell' = true := fun u hu => by
  obtain ⟨p, _, hp⟩ := List.mem_flatMap.1 hu
  simp at hp
  rcases hp with rfl | rfl <;> rfl
theorem pc_at (l : List It) : ∀ (i : Nat) (x : It), l[i]? = some x → (pc l)[2 * i]? = some (.int .i64 x.1) ∧ (pc l)[2 * i + 1]? = some (.int .i64 x.2) := by
  induction l with
  | nil => intro i x h; simp at h
  | cons p r ih =>
    intro i x h
    have e : pc (p :: r) = .int .i64 p.1 :: .int .i64 p.2 :: pc r := rfl
    cases i with
    | zero => simp at h; subst h; exact ⟨rfl, rfl⟩
    | succ k =>
      have := ih k x (by simpa using h)
      rw [e, show 2 * (k + 1) = 2 * k + 1 + 1 by omega]
      simpa using this
theorem pc_take (l : List It) (k : Nat) : pc (l.take k) = (pc l).take (k * 2) := by
  have h := congrArg pc (List.take_append_drop k l)
  rw [pc_append] at h
  by_cases hk : k ≤ l.length
  · rw [← h, List.take_left' (by rw [pc_len, List.length_take]; omega)]
  · rw [List.take_of_length_le (by omega), List.take_of_length_le (by rw [pc_len]; omega)]
theorem pc_set (l : List It) : ∀ (i : Nat) (x : It), i < l.length → pc (l.set i x) = ((pc l).set (i * 2) (.int .i64 x.1)).set (i * 2 + 1) (.int .i64 x.2) := by
  induction l with
  | nil => intro i x h; simp at h
  | cons p r ih =>
    intro i x h
    have e : ∀ (q : It) (s : List It), pc (q :: s) = .int .i64 q.1 :: .int .i64 q.2 :: pc s := fun _ _ => rfl
    cases i with
    | zero => simp [e]
    | succ k =>
      rw [List.set_cons_succ, e, e, ih k x (by simpa using h), show (k + 1) * 2 = k * 2 + 1 + 1 by omega]
      simp
theorem Try.info_item : (Try.prog.info? 56).map (fun i => (i.zero, i.size, i.bytes)) = some (some (.agg #[.int .i64 0, .int .i64 0]), 2, 16) := by kernel_rfl

/-- Nothing else than blocks of F has turned, and new ones. -/
structure OnlyF (F : Nat → Prop) (w w' : World) : Prop where
  os : w'.os = w.os
  tape : w'.tape = w.tape
  output : w'.output = w.output
  size : w.heap.size ≤ w'.heap.size
  block : ∀ k, k < w.heap.size → ¬ F k → w'.heap[k]? = w.heap[k]?
theorem OnlyF.refl (F : Nat → Prop) (w : World) : OnlyF F w w := ⟨rfl, rfl, rfl, Nat.le_refl _, fun _ _ _ => rfl⟩
theorem OnlyF.trans {F : Nat → Prop} {a b c : World} (h : OnlyF F a b) (k : OnlyF F b c) : OnlyF F a c :=
  ⟨k.os.trans h.os, k.tape.trans h.tape, k.output.trans h.output, Nat.le_trans h.size k.size, fun q hq hF => (k.block q (Nat.lt_of_lt_of_le hq h.size) hF).trans (h.block q hq hF)⟩
theorem OnlyF.of {F : Nat → Prop} {a b : World} {r : Option Nat} (h : a.grownBy b r) (hr : ∀ k, r = some k → F k) : OnlyF F a b :=
  ⟨h.os, h.tape, h.output, h.size, fun k hk hF => h.block k hk (fun e => hF (hr k e.symm))⟩
theorem OnlyF.still {F : Nat → Prop} {a b : World} (h : a.grownBy b none) : OnlyF F a b := OnlyF.of h (fun _ e => by cases e)
theorem OnlyF.to {F : Nat → Prop} {a b : World} (h : OnlyF F a b) (hF : ∀ k, F k → a.heap.size ≤ k) : a.grownBy b none :=
  ⟨h.os, h.tape, h.output, h.size, fun k hk _ => h.block k hk (fun e => by have := hF k e; omega)⟩

/-- The block B is a queue of the items l: v its row, mv its map. -/
structure QW (w : World) (B : Nat) (v mv : Value) (l : List It) : Prop where
  blk : w.heap[B]? = some (.cells #[v, mv] 54 (0, 0))
  row : w.ownsRow 0 56 2 v l.length (pc l)
  ne : v.ownBlock ≠ some B
  map : (mv = .map none ∧ l = []) ∨ ∃ b m, mv = .map (some b) ∧ MapIs w b m ∧ Idx l m
def fpQ (B : Nat) (v mv : Value) (k : Nat) : Prop := k = B ∨ v.ownBlock = some k ∨ mv = .map (some k)
/-- .. whose blocks are all of F. -/
def QS (w : World) (B : Nat) (l : List It) (F : Nat → Prop) : Prop := ∃ v mv, QW w B v mv l ∧ ∀ k, fpQ B v mv k → F k

theorem row_keep {w w' : World} {base e s n : Nat} {v : Value} {xs : List Value} (h : w.ownsRow base e s v n xs) (hk : ∀ g, v.ownBlock = some g → w'.heap[g]? = w.heap[g]?) : w'.ownsRow base e s v n xs := by
  rcases h.2 with hv | ⟨g, cap, cur, hv, hg, hh, h2⟩
  · exact ⟨h.1, .inl hv⟩
  · exact ⟨h.1, .inr ⟨g, cap, cur, hv, hg, (hk g (by rw [hv]; rfl)).trans hh, h2⟩⟩
theorem row_lt {w : World} {base e s n : Nat} {v : Value} {xs : List Value} (h : w.ownsRow base e s v n xs) : ∀ g, v.ownBlock = some g → g < w.heap.size := fun g hg => by
  rcases h.2 with ⟨hv, _⟩ | ⟨g', cap, cur, hv, _, hh, _⟩
  · rw [hv] at hg; cases hg
  · rw [hv] at hg; simp [Value.ownBlock] at hg; subst hg
    exact (Array.getElem?_eq_some_iff.1 hh).1
theorem QW.lt {w : World} {B : Nat} {v mv : Value} {l : List It} (h : QW w B v mv l) : ∀ k, fpQ B v mv k → k < w.heap.size := fun k hk => by
  rcases hk with rfl | hk | hk
  · exact (Array.getElem?_eq_some_iff.1 h.blk).1
  · exact row_lt h.row k hk
  · rcases h.map with ⟨h1, _⟩ | ⟨b, m, h1, h2, _⟩
    · rw [h1] at hk; cases hk
    · rw [h1] at hk; cases hk; exact h2.lt
theorem QW.keep {w w' : World} {B : Nat} {v mv : Value} {l : List It} (h : QW w B v mv l) (hk : ∀ k, fpQ B v mv k → w'.heap[k]? = w.heap[k]?) : QW w' B v mv l := by
  refine ⟨(hk B (.inl rfl)).trans h.blk, row_keep h.row (fun g hg => hk g (.inr (.inl hg))), h.ne, ?_⟩
  rcases h.map with h1 | ⟨b, m, h1, h2, h3⟩
  · exact .inl h1
  · exact .inr ⟨b, m, h1, h2.of_heap (hk b (.inr (.inr h1))), h3⟩
theorem QS.keep {w w' : World} {B : Nat} {l : List It} {F : Nat → Prop} (h : QS w B l F) (g : w.grownBy w' none) : QS w' B l F := by
  obtain ⟨v, mv, h, hF⟩ := h
  exact ⟨v, mv, h.keep (fun k hk => g.block k (h.lt k hk) (by simp)), hF⟩
/-- A queue that another one's doings leave as it is. -/
theorem QS.apart {w w' : World} {B : Nat} {l : List It} {F G : Nat → Prop} (h : QS w B l F) (g : OnlyF G w w') (hFG : ∀ k, F k → k < w.heap.size → ¬ G k) : QS w' B l F := by
  obtain ⟨v, mv, h, hF⟩ := h
  exact ⟨v, mv, h.keep (fun k hk => g.block k (h.lt k hk) (hFG k (hF k hk) (h.lt k hk))), hF⟩
theorem QS.narrow {w : World} {B : Nat} {l : List It} {F : Nat → Prop} (h : QS w B l F) : QS w B l (fun k => F k ∧ k < w.heap.size) := by
  obtain ⟨v, mv, h, hF⟩ := h
  exact ⟨v, mv, h, fun k hk => ⟨hF k hk, h.lt k hk⟩⟩
theorem QS.wide {w : World} {B : Nat} {l : List It} {F G : Nat → Prop} (h : QS w B l F) (hG : ∀ k, F k → G k) : QS w B l G := by
  obtain ⟨v, mv, h, hF⟩ := h
  exact ⟨v, mv, h, fun k hk => hG k (hF k hk)⟩
theorem cell_of_heap {w : World} {b : Nat} {arr : Array Value} {T : TypeId} {fr : Nat × Nat} (h : w.heap[b]? = some (.cells arr T fr)) (j : Nat) (v : Value) (hj : arr[j]? = some v) : w.cell? ⟨b, j, none⟩ = some v := by
  unfold World.cell?; rw [h]; exact hj
theorem thaw_of_heap {w : World} {b : Nat} {arr : Array Value} {T : TypeId} (h : w.heap[b]? = some (.cells arr T (0, 0))) (j : Nat) : w.frozen? ⟨b, j, none⟩ = false := by
  unfold World.frozen?; rw [show w.heap[(⟨b, j, none⟩ : Addr).block]? = _ from h]; simp
theorem heap_set1 {w : World} {B : Nat} {arr : Array Value} {T : TypeId} (h : w.heap[B]? = some (.cells arr T (0, 0))) (j : Nat) (u : Value) : (w.setCell ⟨B, j, none⟩ u).heap[B]? = some (.cells (arr.setIfInBounds j u) T (0, 0)) := by
  simp [World.setCell, Array.getElem?_modify, h]
theorem heap_other (w : World) {B C : Nat} (h : C ≠ B) (j : Nat) (u : Value) : (w.setCell ⟨B, j, none⟩ u).heap[C]? = w.heap[C]? := by
  simp [World.setCell, Array.getElem?_modify, Ne.symm h]
theorem QW.cells {w : World} {B : Nat} {v mv : Value} {l : List It} (h : QW w B v mv l) : w.cell? ⟨B, 0, none⟩ = some v ∧ w.cell? ⟨B, 1, none⟩ = some mv := ⟨cell_of_heap h.blk 0 _ rfl, cell_of_heap h.blk 1 _ rfl⟩
theorem QW.thaw {w : World} {B : Nat} {v mv : Value} {l : List It} (h : QW w B v mv l) (j : Nat) : w.frozen? ⟨B, j, none⟩ = false := thaw_of_heap h.blk j
theorem QW.slice {w : World} {B : Nat} {v mv : Value} {l : List It} (h : QW w B v mv l) : ∃ A c, v = .slice A l.length c := by
  rcases h.row.2 with ⟨hv, h0⟩ | ⟨g, cap, cur, hv, _⟩
  · exact ⟨none, 0, by rw [hv, h0]⟩
  · exact ⟨_, cap, hv⟩
/-- The row of a queue that is not empty. -/
theorem QW.form {w : World} {B : Nat} {v mv : Value} {l : List It} (h : QW w B v mv l) (hn : 0 < l.length) : ∃ g c cur, v = .slice (some ⟨g, 0, none⟩) l.length c ∧ g ≠ B ∧ g < w.heap.size ∧ w.heap[g]? = some (.cells cur 56 (0, 0)) ∧ l.length ≤ c ∧ c ≤ maxLen ∧ cur.size = c * 2 ∧
    cur.toList.take (l.length * 2) = pc l := by
  rcases h.row.2 with ⟨_, h0⟩ | ⟨g, cap, cur, hv, hb, hg, h1, h2, h3, h4⟩
  · omega
  · exact ⟨g, cap, cur, hv, fun e => h.ne (by rw [hv, e]; rfl), (Array.getElem?_eq_some_iff.1 hg).1, hg, h1, h2, h3, h4⟩
theorem QW.item {w : World} {l : List It} {g : Nat} {cur : Array Value} {T : TypeId} (hg : w.heap[g]? = some (.cells cur T (0, 0))) (ht : cur.toList.take (l.length * 2) = pc l) {i : Nat} (hi : i < l.length) :
    w.cell? ⟨g, i * 2, none⟩ = some (.int .i64 (itm l i).1) ∧ w.cell? ⟨g, i * 2 + 1, none⟩ = some (.int .i64 (itm l i).2) := by
  have h2 := pc_at l i _ (itm_get hi)
  rw [← ht, List.getElem?_take, List.getElem?_take, if_pos (by omega), if_pos (by omega), Nat.mul_comm] at h2
  exact ⟨cell_of_heap hg _ _ (by simpa using h2.1), cell_of_heap hg _ _ (by simpa using h2.2)⟩
/-- The map of a queue that is not empty. -/
theorem QW.mapped {w : World} {B : Nat} {v mv : Value} {l : List It} (h : QW w B v mv l) (hn : 0 < l.length) : ∃ b m, mv = .map (some b) ∧ MapIs w b m ∧ Idx l m ∧ b ≠ B := by
  rcases h.map with ⟨_, h1⟩ | ⟨b, m, h1, h2, h3⟩
  · rw [h1] at hn; simp at hn
  · refine ⟨b, m, h1, h2, h3, fun e => ?_⟩
    obtain ⟨es, c, h2⟩ := h2
    have := h2.heap
    rw [e, h.blk] at this
    cases this
/-- Two cells of an item set anew. -/
theorem take_set2 {cur : Array Value} {l : List It} {i : Nat} (x : It) (hi : i < l.length) (ht : cur.toList.take (l.length * 2) = pc l) :
    (((cur.setIfInBounds (i * 2) (.int .i64 x.1)).setIfInBounds (i * 2 + 1) (.int .i64 x.2)).toList.take ((l.set i x).length * 2)) = pc (l.set i x) := by
  rw [pc_set l i x hi, ← ht, List.length_set, Array.toList_setIfInBounds, Array.toList_setIfInBounds, List.take_set, List.take_set]
end Go.Proofs.Ytgfpogmipennaaa
