/- The reference's disk: its cells, what its calls make of it. It turns only its own block, and makes fresh rows. Conditions: its numbers stay below 2^40. -/
import Derived.Test.YtmjfemnjkgfgfaaDf
namespace Go.Proofs.Ytmjfemnjkgfgfaa
open Go.RowKit Go.Deep
/-- In how many operations the power goes. -/
def leftOf (d : DS) : Int := if 0 < d.st ∧ d.sn < d.st then d.st - d.sn else 0
/-- A row that is read, in a block of F that is not g. -/
def Rv (w : World) (F : Nat → Prop) (g : Nat) (v : Value) (l : List Int) : Prop :=
  ∃ A c, v = .slice A l.length c ∧ l.length ≤ c ∧ (l = [] ∨ ∃ b off, A = some ⟨b, off, none⟩ ∧ b < w.heap.size ∧ b ≠ g ∧ F b ∧ ∀ j u, (bs l)[j]? = some u → w.cell? ⟨b, off + j, none⟩ = some u)
theorem Rv.has {w : World} {F : Nat → Prop} {g : Nat} {A : Option Addr} {n c : Nat} {l : List Int} (h : Rv w F g (.slice A n c) l) : Has w w.heap.size A (bs l) ∧ n = l.length ∧ l.length ≤ c := by
  obtain ⟨A', c', e, hc, h⟩ := h
  injection e with e1 e2 e3
  subst e1 e3
  refine ⟨?_, e2, hc⟩
  rcases h with h | ⟨b, off, hA, hb, _, _, hc⟩
  · exact .inl (by rw [h]; rfl)
  · exact .inr ⟨b, off, hA, hb, hc⟩
theorem Rv.nil (w : World) (F : Nat → Prop) (g : Nat) : Rv w F g (.slice none 0 0) [] := ⟨none, 0, rfl, Nat.le_refl _, .inl rfl⟩
theorem Rv.keep {w w' : World} {F : Nat → Prop} {g : Nat} {v : Value} {l : List Int} (h : Rv w F g v l) (hz : w.heap.size ≤ w'.heap.size) (hk : ∀ k, k < w.heap.size → k ≠ g → F k → w'.heap[k]? = w.heap[k]?) : Rv w' F g v l := by
  obtain ⟨A, c, e, hc, h⟩ := h
  refine ⟨A, c, e, hc, ?_⟩
  rcases h with h | ⟨b, off, hA, hb, hg, hF, hc⟩
  · exact .inl h
  · exact .inr ⟨b, off, hA, by omega, hg, hF, fun j u hu => (World.cell?_of_block (hk b hb hg hF)).trans (hc j u hu)⟩
theorem Rv.mono {w : World} {F F' : Nat → Prop} {g : Nat} {v : Value} {l : List Int} (h : Rv w F g v l) (hF : ∀ k, k < w.heap.size → F k → F' k) : Rv w F' g v l := by
  obtain ⟨A, c, e, hc, h⟩ := h
  refine ⟨A, c, e, hc, ?_⟩
  rcases h with h | ⟨b, off, hA, hb, hg, hf, hc⟩
  · exact .inl h
  · exact .inr ⟨b, off, hA, hb, hg, hF b hb hf, hc⟩
theorem Rv.own {w : World} {B n : Nat} {F : Nat → Prop} {g : Nat} {v : Value} {l : List Int} (h : w.ownsRow B 5 1 v n (bs l)) (hg : v.ownBlock ≠ some g) (hF : ∀ k, v.ownBlock = some k → F k) : Rv w F g v l := by
  have hn : n = l.length := by have := h.1; rw [bs_len] at this; omega
  subst hn
  rcases h.2 with ⟨hv, h0⟩ | ⟨q, cap, cur, hv, _, hq, h1, _, _⟩
  · have : l = [] := List.eq_nil_of_length_eq_zero h0
    subst this
    exact ⟨none, 0, hv, Nat.le_refl _, .inl rfl⟩
  · refine ⟨some ⟨q, 0, none⟩, cap, hv, by omega, ?_⟩
    rw [hv] at hg hF
    refine .inr ⟨q, 0, rfl, (Array.getElem?_eq_some_iff.1 hq).1, fun e => hg (by rw [e]; rfl), hF q rfl, fun j u hu => ?_⟩
    have := h.cells (g := q) (by rw [hv]; rfl) j u hu
    rw [Addr.add_lit] at this
    exact this
/-- The front of a row. -/
theorem Rv.front {w : World} {F : Nat → Prop} {g : Nat} {A : Option Addr} {c : Nat} {l : List Int} (h : Rv w F g (.slice A l.length c) l) (n : Nat) (hn : n ≤ l.length) : Rv w F g (.slice A n c) (l.take n) := by
  obtain ⟨A', c', e, hc, h⟩ := h
  injection e with e1 e2 e3
  subst e1 e3
  have hl : (l.take n).length = n := by rw [List.length_take]; omega
  refine ⟨A, c, by rw [hl], by omega, ?_⟩
  rcases h with h | ⟨b, off, hA, hb, hg, hF, hcc⟩
  · exact .inl (by rw [h]; exact List.take_nil)
  · refine .inr ⟨b, off, hA, hb, hg, hF, fun j u hu => hcc j u ?_⟩
    rw [show bs (l.take n) = (bs l).take n by simp [bs, List.map_take], List.getElem?_take] at hu
    split at hu
    · exact hu
    · cases hu
/-- The reference's disk in a state. -/
def RkV (w : World) (F : Nat → Prop) (g : Nat) (d : DS) (ev : Bool) (vL vS : Value) : Prop :=
  w.heap[g]? = some (.cells #[.int .i64 d.rm, vL, .int .i64 d.sy, vS, .int .i64 (leftOf d), .bool ev, .bool d.dd, .int .i64 d.op] 44 (0, 0)) ∧ Rv w F g vL d.L ∧ Rv w F g vS d.S
def Rk (w : World) (F : Nat → Prop) (g : Nat) (d : DS) : Prop := ∃ ev vL vS, RkV w F g d ev vL vS ∧ (0 < leftOf d → ev = (d.st % 2 == 0))
theorem RkV.lt {w : World} {F : Nat → Prop} {g : Nat} {d : DS} {ev : Bool} {vL vS : Value} (h : RkV w F g d ev vL vS) : g < w.heap.size := (Array.getElem?_eq_some_iff.1 h.1).1
theorem RkV.cells {w : World} {F : Nat → Prop} {g : Nat} {d : DS} {ev : Bool} {vL vS : Value} (h : RkV w F g d ev vL vS) : w.cell? ⟨g, 0, none⟩ = some (.int .i64 d.rm) ∧ w.cell? ⟨g, 1, none⟩ = some vL ∧ w.cell? ⟨g, 2, none⟩ = some (.int .i64 d.sy) ∧ w.cell? ⟨g, 3, none⟩ = some vS ∧ w.cell? ⟨g, 4, none⟩ = some (.int .i64 (leftOf d)) ∧ w.cell? ⟨g, 5, none⟩ = some (.bool ev) ∧ w.cell? ⟨g, 6, none⟩ = some (.bool d.dd) ∧ w.cell? ⟨g, 7, none⟩ = some (.int .i64 d.op) := by
  have h := h.1
  simp [World.cell?, h]
theorem RkV.fr {w : World} {F : Nat → Prop} {g : Nat} {d : DS} {ev : Bool} {vL vS : Value} (h : RkV w F g d ev vL vS) (i : Nat) : w.frozen? ⟨g, i, none⟩ = false := by
  have h := h.1
  simp [World.frozen?, h]
theorem Rk.keep {w w' : World} {F : Nat → Prop} {g : Nat} {d : DS} (h : Rk w F g d) (hz : w.heap.size ≤ w'.heap.size) (hk : ∀ k, k < w.heap.size → k = g ∨ F k → w'.heap[k]? = w.heap[k]?) : Rk w' F g d := by
  obtain ⟨ev, vL, vS, hV, he⟩ := h
  exact ⟨ev, vL, vS, ⟨(hk g hV.lt (.inl rfl)).trans hV.1, hV.2.1.keep hz (fun k h1 _ h2 => hk k h1 (.inr h2)), hV.2.2.keep hz (fun k h1 _ h2 => hk k h1 (.inr h2))⟩, he⟩
/-- The power spent: before the answer. -/
def goesS (d : DS) : DS := { d with sn := d.sn + 1, dd := goes d.st d.sn }
theorem left_goes (d : DS) (h : 0 ≤ d.sn) : (goes d.st d.sn = decide (leftOf d = 1)) ∧ leftOf (goesS d) = (if leftOf d = 0 then 0 else leftOf d - 1) := by
  unfold leftOf goes goesS
  dsimp only
  constructor
  · rw [Bool.eq_iff_iff, decide_eq_true_eq, decide_eq_true_eq]
    split <;> omega
  · repeat' split
    all_goals omega
set_option maxRecDepth 100000 in
theorem rgoes_any (F : Nat → Prop) (g : Nat) (d : DS) (ev : Bool) (vL vS : Value) (w : World) (h : RkV w F g d ev vL vS) (hk : Ok d) (hd : d.dd = false) (hst : d.st ≤ 9223372036854775807) :
    Calls Try.prog 30 #[.pointer (some ⟨g, 0, none⟩)] w fun e w' => e = .returned (.bool (goes d.st d.sn)) ∧ RkV w' F g (goesS d) ev vL vS ∧ w.grownBy w' (some g) := by
  have hl0 : 0 ≤ leftOf d := by unfold leftOf; split <;> omega
  obtain ⟨hg1, hg2⟩ := left_goes d hk.sn.1
  obtain ⟨c0, c1, c2, c3, c4, c5, c6, c7⟩ := h.cells
  have f4 := h.fr 4
  have f6 := h.fr 6
  obtain ⟨lf, hlf⟩ : ∃ x, leftOf d = x := ⟨_, rfl⟩
  rw [hlf] at hg1 hg2 c4 hl0
  have hlb : lf ≤ 9223372036854775807 := by rw [← hlf]; unfold leftOf; have := hk.sn.1; split <;> omega
  rw [hd] at c6
  by_cases h0 : lf = 0
  · subst h0
    have hgf : goes d.st d.sn = false := by rw [hg1]; rfl
    have hS : Hid (RkV w F g (goesS d) ev vL vS) := by
      refine ⟨?_, h.2.1, h.2.2⟩
      rw [show leftOf (goesS d) = 0 from hg2, show (goesS d).dd = false from hgf]
      have := h.1
      rw [hlf, hd] at this
      exact this
    rw [hgf]
    clear hg1 hg2 h hlf hd hgf
    go_enter Try.func30, Try.ntmps30
    go_wp2_with fail
    go_ret
    exact ⟨rfl, hS.out, only_refl _ _⟩
  · have hb0 : (lf == 0) = false := by rw [beq_eq_false_iff_ne]; exact h0
    have hw1 : IntKind.i64.wrap (lf - 1) = lf - 1 := by rw [IntKind.wrap_i64]; omega
    rw [if_neg h0] at hg2
    have hS : Hid (RkV ((w.setCell ⟨g, 4, none⟩ (.int .i64 (lf - 1))).setCell ⟨g, 6, none⟩ (.bool (goes d.st d.sn))) F g (goesS d) ev vL vS ∧ w.grownBy ((w.setCell ⟨g, 4, none⟩ (.int .i64 (lf - 1))).setCell ⟨g, 6, none⟩ (.bool (goes d.st d.sn))) (some g)) := by
      have gg : w.grownBy ((w.setCell ⟨g, 4, none⟩ (.int .i64 (lf - 1))).setCell ⟨g, 6, none⟩ (.bool (goes d.st d.sn))) (some g) := only_set (p := ⟨g, 6, none⟩) (only_set (p := ⟨g, 4, none⟩) (only_refl _ _) (.inl rfl) _) (.inl rfl) _
      refine ⟨⟨?_, h.2.1.keep gg.size (fun k hk hne _ => gg.block k hk (fun e => by injection e with e; exact hne e)), h.2.2.keep gg.size (fun k hk hne _ => gg.block k hk (fun e => by injection e with e; exact hne e))⟩, gg⟩
      rw [heap_set (heap_set h.1), hg2]
      rfl
    by_cases h1 : lf = 1
    · have hgt : goes d.st d.sn = true := by rw [hg1]; simp [h1]
      rw [hgt] at hS ⊢
      subst h1
      clear hg1 hg2 h hlf hd hgt
      go_enter Try.func30, Try.ntmps30
      go_wp2_with fail
      go_ret
      exact ⟨rfl, hS.out.1, hS.out.2⟩
    · have hgf : goes d.st d.sn = false := by rw [hg1]; simp [h1]
      have hb1 : (lf - 1 == 0) = false := by rw [beq_eq_false_iff_ne]; omega
      rw [hgf] at hS ⊢
      clear hg1 hg2 h hlf hd hgf
      go_enter Try.func30, Try.ntmps30
      go_wp2_with fail
      go_ret
      exact ⟨rfl, hS.out.1, hS.out.2⟩
set_option maxRecDepth 100000 in
/-- The answer. -/
theorem rend_any (F : Nat → Prop) (g : Nat) (d : DS) (ev : Bool) (vL vS : Value) (w : World) (h : RkV w F g d ev vL vS) (ho : 0 ≤ d.op ∧ d.op ≤ 1099511627776) :
    Calls Try.prog 31 #[.pointer (some ⟨g, 0, none⟩)] w fun e w' => e = .returned (.int .i64 (if d.dd = true then 18 else 0)) ∧ RkV w' F g { d with op := if d.dd = true then d.op else d.op + 1 } ev vL vS ∧ w.grownBy w' (some g) := by
  obtain ⟨c0, c1, c2, c3, c4, c5, c6, c7⟩ := h.cells
  have f7 := h.fr 7
  by_cases hd : d.dd = true
  rotate_left
  · rw [if_neg hd, if_neg hd]
    rw [show d.dd = false by simpa using hd] at c6
    have hw1 : IntKind.i64.wrap (d.op + 1) = d.op + 1 := by rw [IntKind.wrap_i64]; omega
    have gg : w.grownBy (w.setCell ⟨g, 7, none⟩ (.int .i64 (d.op + 1))) (some g) := only_set (p := ⟨g, 7, none⟩) (only_refl _ _) (.inl rfl) _
    have hS : Hid (RkV (w.setCell ⟨g, 7, none⟩ (.int .i64 (d.op + 1))) F g { d with op := d.op + 1 } ev vL vS ∧ w.grownBy (w.setCell ⟨g, 7, none⟩ (.int .i64 (d.op + 1))) (some g)) := by
      refine ⟨⟨?_, h.2.1.keep gg.size (fun k hk hne _ => gg.block k hk (fun e => by injection e with e; exact hne e)), h.2.2.keep gg.size (fun k hk hne _ => gg.block k hk (fun e => by injection e with e; exact hne e))⟩, gg⟩
      rw [heap_set h.1]
      rfl
    clear h hd gg
    go_enter Try.func31, Try.ntmps31
    go_wp2_with fail
    go_ret
    exact ⟨rfl, hS.out.1, hS.out.2⟩
  · rw [if_pos hd, if_pos hd]
    rw [hd] at c6
    have hS := Lib.hid h
    clear h hd
    go_enter Try.func31, Try.ntmps31
    go_wp2_with fail
    go_ret
    exact ⟨rfl, hS.out, only_refl _ _⟩
end Go.Proofs.Ytmjfemnjkgfgfaa
