/- The walk of DiskStops: it returns true for every input. No condition. -/
import Derived.Test.YtmjfemnjkgfgfaaDkn
namespace Go.Proofs.Ytmjfemnjkgfgfaa
open Go.RowKit Go.Deep

/-- A disk's call answers E, and leaves d. -/
def Did (B g : Nat) (E : Int) (d : DS) (w : World) (e : Ending) (w' : World) : Prop := e = .returned (.int .i64 E) ∧ Dk w' B g d ∧ Below B w w'
theorem did_of {B g : Nat} {E : Int} {d d0 : DS} {w : World} (h : Dk w B g d0) : ∀ e w', (e = .returned (.int .i64 E) ∧ Dk w' B g d ∧ w.grownBy w' (some g)) → Did B g E d w e w' := fun e w' ⟨h1, h2, h3⟩ =>
  ⟨h1, h2, bel h3 (fun k hk => by cases hk; exact h.lt.1) (by have := h.lt; omega)⟩
theorem has_new (w : World) (cs : Array Value) (l : List Int) (h : cs.toList = bs l) : Has (w.alloc (.cells cs 5)) (w.alloc (.cells cs 5)).heap.size (some ⟨w.heap.size, 0, none⟩) (bs l) := by
  refine .inr ⟨w.heap.size, 0, rfl, by simp, fun j u hu => ?_⟩
  have hn := heap_alloc_new w (.cells cs 5)
  unfold World.cell?
  rw [hn]
  rw [← h, Array.getElem?_toList] at hu
  simpa using hu
theorem has_apart {w w' : World} {g lim : Nat} {A : Option Addr} {xs : List Value} (h : Has w lim A xs) (hg : w.grownBy w' (some g)) (hA : ∀ o, A ≠ some ⟨g, o, none⟩) : Has w' w'.heap.size A xs := by
  rcases h with h | ⟨b, off, rfl, hb, hc⟩
  · exact .inl h
  · by_cases hx : xs = []
    · exact .inl hx
    · have hbg : b ≠ g := fun e => hA off (by rw [e])
      have hlt : b < w.heap.size := by
        obtain ⟨u, hu⟩ : ∃ u, xs[0]? = some u := by
          cases xs with
          | nil => exact absurd rfl hx
          | cons u r => exact ⟨u, rfl⟩
        have := hc 0 u hu
        rcases Nat.lt_or_ge b w.heap.size with h | h
        · exact h
        · simp [World.cell?, Array.getElem?_eq_none h] at this
      exact .inr ⟨b, off, rfl, by have := hg.size; omega, fun j u hu => (World.cell?_of_block (hg.block b hlt (by simp; exact fun e => hbg e))).trans (hc j u hu)⟩
theorem made_list (n : Nat) : (madeCells #[Value.int .u8 0] n).toList = bs (List.replicate n 0) := by
  unfold madeCells bs
  apply List.ext_getElem
  · simp
  · intro i h1 h2
    simp [Nat.mod_one]
/-- How a disk stands that is to stop at its n-th operation, o operations done, i rounds. -/
structure Sv (n o : Int) (i : Nat) (d : DS) : Prop where
  rm : d.rm = 60
  st : d.st = n
  l : d.L.length ≤ i
  s : d.S.length ≤ 2
  sy : 0 ≤ d.sy ∧ d.sy ≤ d.L.length
  n0 : 1 ≤ n ∧ n ≤ 12
  o0 : 0 ≤ o
  i0 : i ≤ 30
  al : (d.dd = false ∧ d.sn = o ∧ d.op = o ∧ o < n) ∨ (d.dd = true ∧ o = n ∧ d.sn = n ∧ d.op = n - 1)
theorem Sv.ok {n o : Int} {i : Nat} {d : DS} (h : Sv n o i d) : Ok d := by
  have h1 := h.rm; have h2 := h.st; have h3 := h.l; have h4 := h.s; have h5 := h.n0; have h6 := h.o0; have h7 := h.i0; have h8 := h.al
  exact ⟨by omega, by omega, h.sy, by omega, by omega, by omega, by omega⟩
theorem Sv.wait {n o : Int} {i : Nat} {d : DS} (h : Sv n o i d) (hi : i < 30) : Sv n o (i + 1) d := ⟨h.rm, h.st, by have := h.l; omega, h.s, h.sy, h.n0, h.o0, by omega, h.al⟩
theorem goes_iff (st sn : Int) : goes st sn = decide (0 < st ∧ sn + 1 = st) := rfl
/-- An operation that is done, or at which the power goes. -/
theorem Sv.spend {n o : Int} {i : Nat} {d d' : DS} (h : Sv n o i d) (hd : d.dd = false) (hi : i < 30) (e1 : d'.rm = d.rm) (e2 : d'.st = d.st) (e3 : d'.sn = d.sn + 1) (e4 : d'.op = spO d.st d.sn d.op) (e5 : d'.dd = (d.dd || goes d.st d.sn))
    (l1 : d'.L.length ≤ i + 1) (s1 : d'.S.length ≤ 2) (y1 : 0 ≤ d'.sy ∧ d'.sy ≤ d'.L.length) : Sv n (o + 1) (i + 1) d' ∧ spR d.st d.sn = (if o + 1 = n then 18 else 0) := by
  obtain ⟨hn1, hn2, hn3, hn4⟩ : d.dd = false ∧ d.sn = o ∧ d.op = o ∧ o < n := by
    rcases h.al with h | h
    · exact h
    · rw [hd] at h; cases h.1
  have hst := h.st
  have hn0 := h.n0
  have ho0 := h.o0
  by_cases he : o + 1 = n
  · have hg : goes d.st d.sn = true := by rw [goes_iff, decide_eq_true_eq]; omega
    refine ⟨⟨by rw [e1, h.rm], by rw [e2, hst], l1, s1, y1, hn0, by omega, by omega, .inr ⟨by rw [e5, hg]; simp, he, by omega, by rw [e4, spO, if_pos hg]; omega⟩⟩, by rw [spR, if_pos hg, if_pos he]⟩
  · have hg : goes d.st d.sn = false := by rw [goes_iff, decide_eq_false_iff_not]; omega
    refine ⟨⟨by rw [e1, h.rm], by rw [e2, hst], l1, s1, y1, hn0, by omega, by omega, .inl ⟨by rw [e5, hg, hd]; rfl, by omega, by rw [e4, spO, if_neg (by rw [hg]; decide)]; omega, by omega⟩⟩, by rw [spR, if_neg (by rw [hg]; decide), if_neg he]⟩
def opR (o n : Int) : Int := if o + 1 = n then 18 else 0
theorem Sv.append {n o : Int} {i : Nat} {d : DS} (h : Sv n o i d) (hd : d.dd = false) (hi : i < 30) : Sv n (o + 1) (i + 1) (appendS d [1]) ∧ appendE d [1] = opR o n := by
  have h1 := h.rm; have h3 := h.l; have h4 := h.s; have h5 := h.sy
  have hf : ¬ d.rm < (d.L.length : Int) + d.S.length + ([1] : List Int).length := by simp; omega
  rw [show appendS d [1] = spendS { d with L := d.L ++ [1] } by unfold appendS; rw [if_neg (by rw [hd]; simp only [Bool.false_eq_true, false_or]; exact hf)], show appendE d [1] = spendE d by unfold appendE; rw [if_neg (by rw [hd]; decide), if_neg hf]]
  exact h.spend hd hi rfl rfl rfl rfl rfl (by show (d.L ++ [1]).length ≤ _; simp; omega) h4 (by show 0 ≤ d.sy ∧ d.sy ≤ ((d.L ++ [1]).length : Int); simp; omega)
theorem Sv.sync {n o : Int} {i : Nat} {d : DS} (h : Sv n o i d) (hd : d.dd = false) (hi : i < 30) : Sv n (o + 1) (i + 1) (syncS d) ∧ syncE d = opR o n := by
  have h3 := h.l; have h4 := h.s; have h5 := h.sy
  have hE : syncE d = spR d.st d.sn := by unfold syncE; rw [if_neg (by rw [hd]; decide)]
  rw [hE]
  unfold syncS
  rw [if_neg (by rw [hd]; decide)]
  split
  · exact h.spend hd hi rfl rfl rfl rfl rfl (by show d.L.length ≤ _; omega) h4 h5
  · exact h.spend hd hi rfl rfl rfl rfl rfl (by show d.L.length ≤ _; omega) h4 ⟨by show (0 : Int) ≤ (d.L.length : Int); omega, Int.le_refl _⟩
theorem Sv.swap {n o : Int} {i : Nat} {d : DS} (h : Sv n o i d) (hd : d.dd = false) (hi : i < 30) : Sv n (o + 1) (i + 1) (swapS d [2, 3]) ∧ swapE d [2, 3] = opR o n := by
  have h1 := h.rm; have h3 := h.l; have h4 := h.s; have h5 := h.sy
  have hf : ¬ d.rm < (([2, 3] : List Int).length : Int) := by simp; omega
  have hE : swapE d [2, 3] = spR d.st d.sn := by unfold swapE; rw [if_neg (by rw [hd]; decide), if_neg hf]
  rw [hE]
  unfold swapS
  rw [if_neg (by rw [hd]; simp only [Bool.false_eq_true, false_or]; exact hf)]
  split
  · exact h.spend hd hi rfl rfl rfl rfl rfl (by show (d.L.take 0).length ≤ _; simp) (by show ([2, 3] : List Int).length ≤ 2; simp) ⟨Int.le_refl _, by show ((0 : Nat) : Int) ≤ ((d.L.take 0).length : Int); simp⟩
  · exact h.spend hd hi rfl rfl rfl rfl rfl (by show d.L.length ≤ _; omega) h4 h5
theorem Sv.cut {n o : Int} {i : Nat} {d : DS} (h : Sv n o i d) (hd : d.dd = false) (hi : i < 30) : Sv n (o + 1) (i + 1) (cutS d 0) ∧ cutE d 0 = opR o n := by
  have h1 := h.rm; have h3 := h.l; have h4 := h.s; have h5 := h.sy
  have hf : ¬ ((0 : Int) < 0 ∨ (d.L.length : Int) < 0) := by omega
  have hE : cutE d 0 = spR d.st d.sn := by unfold cutE; rw [if_neg (by rw [hd]; decide), if_neg hf]
  rw [hE]
  unfold cutS
  rw [if_neg (by rw [hd]; simp only [Bool.false_eq_true, false_or]; exact hf)]
  split
  · exact h.spend hd hi rfl rfl rfl rfl rfl (by show (d.L.take 0).length ≤ _; simp) h4 ⟨by show (0 : Int) ≤ (((0 : Int).toNat : Nat) : Int); simp, by show ((((0 : Int).toNat : Nat)) : Int) ≤ ((d.L.take (0 : Int).toNat).length : Int); simp⟩
  · exact h.spend hd hi rfl rfl rfl rfl rfl (by show d.L.length ≤ _; omega) h4 h5
end Go.Proofs.Ytmjfemnjkgfgfaa
