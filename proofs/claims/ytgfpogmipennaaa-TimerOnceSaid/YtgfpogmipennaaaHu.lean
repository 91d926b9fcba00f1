/- queue.Swap, Less, Len, first: of a queue of items. No condition of the program's own. -/
import Derived.Test.YtgfpogmipennaaaHt
import Derived.Test.YtgfpogmipennaaaHt1
namespace Go.Proofs.Ytgfpogmipennaaa
open Go.RowKit Go.Deep

theorem QW.apart_map {w : World} {l : List It} {g b : Nat} {cur : Array Value} {T : TypeId} {es : Array MapEntry} {c : Nat} {m : Int → Option Int} (hg : w.heap[g]? = some (.cells cur T (0, 0))) (h : MapAt w b es c m) (_ : 0 ≤ l.length) : b ≠ g := fun e => by
  have := h.heap
  rw [e, hg] at this
  cases this
theorem MapAt.of_heap {w w' : World} {b : Nat} {es : Array MapEntry} {c : Nat} {m : Int → Option Int} (h : MapAt w b es c m) (e : w'.heap[b]? = w.heap[b]?) : MapAt w' b es c m := ⟨e.trans h.heap, h.st, h.int, h.has⟩
theorem undrew {F : Nat → Prop} {a b : World} (h : OnlyF F a.drew b) : OnlyF F a b := ⟨h.os, h.tape, h.output, h.size, h.block⟩
theorem cell_only {a w : World} {B : Nat} (h : a.grownBy w (some B)) (j : Nat) (u : Value) : a.grownBy (w.setCell ⟨B, j, none⟩ u) (some B) := only_set h (.inl rfl) u
theorem swap_q (B i j : Nat) (l : List It) (F : Nat → Prop) (w : World) (h : QS w B l F) (hi : i < l.length) (hj : j < l.length) :
    Calls Try.prog 54 #[.pointer (some ⟨B, 0, none⟩), .int .i64 i, .int .i64 j] w fun e w' => e = .returned (.tuple #[]) ∧ QS w' B (lswap l i j) F ∧ OnlyF F w w' := by
  obtain ⟨v, mv, h, hF⟩ := h
  obtain ⟨g, c, cur, rfl, hgB, hgl, hg, hc1, hc2, hcs, hct⟩ := h.form (by omega)
  obtain ⟨b, m, rfl, ⟨es, ck, hm⟩, hI, hbB⟩ := h.mapped (by omega)
  have hbg : b ≠ g := QW.apart_map (l := l) hg hm (Nat.zero_le _)
  obtain ⟨x, hx⟩ : ∃ x, x = itm l i := ⟨_, rfl⟩
  obtain ⟨y, hy⟩ : ∃ y, y = itm l j := ⟨_, rfl⟩
  have xi := QW.item hg hct hi
  have yj := QW.item hg hct hj
  rw [← hx] at xi
  rw [← hy] at yj
  obtain ⟨W, hW⟩ : ∃ W, ((((w.setCell ⟨g, i * 2, none⟩ (.int .i64 y.1)).setCell ⟨g, i * 2 + 1, none⟩ (.int .i64 y.2)).setCell ⟨g, j * 2, none⟩ (.int .i64 x.1)).setCell ⟨g, j * 2 + 1, none⟩ (.int .i64 x.2)).drew = W := ⟨_, rfl⟩
  obtain ⟨cur', hcur'⟩ : ∃ cur', cur' = ((((cur.setIfInBounds (i * 2) (.int .i64 y.1)).setIfInBounds (i * 2 + 1) (.int .i64 y.2)).setIfInBounds (j * 2) (.int .i64 x.1)).setIfInBounds (j * 2 + 1) (.int .i64 x.2)) := ⟨_, rfl⟩
  have Wg : W.heap[g]? = some (.cells cur' 56 (0, 0)) := by
    rw [← hW, hcur']
    exact heap_set1 (heap_set1 (heap_set1 (heap_set1 hg _ _) _ _) _ _) _ _
  have Wo : ∀ k, k ≠ g → W.heap[k]? = w.heap[k]? := fun k hk => by
    rw [← hW]
    exact (heap_other _ hk _ _).trans ((heap_other _ hk _ _).trans ((heap_other _ hk _ _).trans (heap_other _ hk _ _)))
  have Wt : cur'.toList.take ((lswap l i j).length * 2) = pc (lswap l i j) := by
    have a := take_set2 y hi hct
    have a2 := take_set2 (l := l.set i y) (i := j) x (by simpa using hj) a
    rw [← hcur'] at a2
    unfold lswap
    rw [← hx, ← hy]
    exact a2
  have Ws : cur'.size = c * 2 := by rw [hcur']; simpa using hcs
  have Wl : (lswap l i j).length = l.length := lswap_len l i j
  have Wonly : w.grownBy W (some g) := by
    rw [← hW]
    exact only_drew (cell_only (cell_only (cell_only (cell_only (only_refl _ _) _ _) _ _) _ _) _ _)
  have hWB : W.heap[B]? = some (.cells #[.slice (some ⟨g, 0, none⟩) l.length c, .map (some b)] 54 (0, 0)) := (Wo B (Ne.symm hgB)).trans h.blk
  have hm0 : MapAt W.drew b es ck m := hm.of_heap (Wo b hbg)
  have kd : Try.prog.underlying 3 = some (.int .i64) := Try.underlying3
  have km : Try.prog.underlying 48 = some (.map 3 3) := Try.underlying48
  have my : m y.1 = some (j : Int) := by rw [hy]; exact hI.at_ hj
  obtain ⟨p1, e1, hp1, hk1, E1⟩ := run_entry (P := Try.prog) km kd hm0 y.1 j my
  obtain ⟨es1, W1, E2, hm1, hG1, hs1, _, _⟩ := run_entry_store (P := Try.prog) (t := 48) hm0 hp1 hk1 i
  have mx : mput m y.1 i x.1 = some (i : Int) := by
    unfold mput
    split
    · rfl
    · rw [hx]; exact hI.at_ hi
  obtain ⟨p2, e2, hp2, hk2, E3⟩ := run_entry (P := Try.prog) km kd hm1 x.1 i mx
  obtain ⟨es2, W2, E4, hm2, hG2, hs2, _, _⟩ := run_entry_store (P := Try.prog) (t := 48) hm1 hp2 hk2 j
  have hidx : Idx (lswap l i j) (mput (mput m y.1 i) x.1 j) := by rw [hx, hy]; exact hI.swap hi hj
  have G12 : W.drew.grownBy W2 (some b) := only_step hG1 hG2 (fun k hk => .inl hk)
  have Ws0 : W.heap.size = w.heap.size := by rw [← hW]; simp [World.drew, World.setCell]
  have W2o : ∀ k, k ≠ b → k < W.heap.size → W2.heap[k]? = W.heap[k]? := fun k hk hl => G12.block k hl (fun e => hk (by injection e))
  have fin : QS W2 B (lswap l i j) F ∧ OnlyF F w W2 := by
    refine ⟨⟨_, _, ⟨(W2o B (Ne.symm hbB) (Nat.lt_of_lt_of_le (h.lt B (.inl rfl)) Wonly.size)).trans hWB, ?_, h.ne, .inr ⟨b, _, rfl, ⟨es2, ck, hm2⟩, hidx⟩⟩, hF⟩, ?_⟩
    · refine ⟨by rw [pc_len], .inr ⟨g, c, cur', by rw [Wl], Nat.zero_le _, (W2o g (Ne.symm hbg) (by omega)).trans Wg, by omega, hc2, Ws, Wt⟩⟩
    · exact OnlyF.trans (OnlyF.of Wonly (fun k hk => by cases hk; exact hF g (.inr (.inl rfl)))) (undrew (OnlyF.of G12 (fun k hk => by cases hk; exact hF b (.inr (.inr rfl)))))
  have gi : itm (lswap l i j) i = y ∨ i = j := by
    by_cases e : i = j
    · exact .inr e
    · left; rw [lswap_itm l i j hi hj]; unfold swp; rw [if_pos rfl, hy]
  have c0 : W.cell? ⟨B, 0, none⟩ = some (.slice (some ⟨g, 0, none⟩) l.length c) := cell_of_heap hWB 0 _ rfl
  have c1 : W.cell? ⟨B, 1, none⟩ = some (.map (some b)) := cell_of_heap hWB 1 _ rfl
  have li : i < (lswap l i j).length := by omega
  have lj : j < (lswap l i j).length := by omega
  by_cases hij : i = j
  · subst hij
    have exy : x = y := by rw [hx, hy]
    subst exy
    have q1 := (QW.item Wg Wt li).1
    rw [show itm (lswap l i i) i = x by rw [lswap_itm l i i hi hj]; unfold swp; rw [if_pos rfl, hx]] at q1
    refine (swap_one B g b l.length c i x w hi h.cells.1 xi.1 xi.2 (thaw_of_heap hg) W W1 W2 c0 c1 q1 e2.born e1.born _ _ E1 E2 E3 E4 hW).mono ?_
    rintro e w' ⟨he, rfl⟩
    exact ⟨he, fin⟩
  · have q1 := (QW.item Wg Wt li).1
    have q2 := (QW.item Wg Wt lj).1
    rw [lswap_itm l i j hi hj] at q1 q2
    rw [show swp (itm l) i j i = y by unfold swp; rw [if_pos rfl, hy]] at q1
    rw [show swp (itm l) i j j = x by unfold swp; rw [if_neg (Ne.symm hij), if_pos rfl, hx]] at q2
    refine (swap_two B g b l.length c i j x y w hi hj hij h.cells.1 (Ne.symm hgB) xi.1 xi.2 yj.1 yj.2 (thaw_of_heap hg) W W1 W2 c0 c1 q1 q2 e2.born e1.born _ _ E1 E2 E3 E4 hW).mono ?_
    rintro e w' ⟨he, rfl⟩
    exact ⟨he, fin⟩
/-- Less, of a queue. -/
theorem lessq (B i j : Nat) (l : List It) (F : Nat → Prop) (w : World) (h : QS w B l F) (hi : i < l.length) (hj : j < l.length) :
    Calls Try.prog 51 #[.pointer (some ⟨B, 0, none⟩), .int .i64 i, .int .i64 j] w fun e w' => e = .returned (.bool (decide (ilt (itm l i) (itm l j)))) ∧ w.grownBy w' none := by
  obtain ⟨v, mv, h, hF⟩ := h
  obtain ⟨g, c, cur, rfl, hgB, hgl, hg, hc1, hc2, hcs, hct⟩ := h.form (by omega)
  have xi := QW.item hg hct hi
  have yj := QW.item hg hct hj
  exact less_q B g l.length c i j _ _ w (h.lt B (.inl rfl)) hgl hi hj h.cells.1 xi.1 xi.2 yj.1 yj.2
theorem lenq (B : Nat) (l : List It) (F : Nat → Prop) (w : World) (h : QS w B l F) :
    Calls Try.prog 30 #[.pointer (some ⟨B, 0, none⟩)] w fun e w' => e = .returned (.int .i64 l.length) ∧ w = w' := by
  obtain ⟨v, mv, h, hF⟩ := h
  obtain ⟨A, c, rfl⟩ := h.slice
  exact len_q B l.length c A w h.cells.1
theorem firstq (B : Nat) (l : List It) (F : Nat → Prop) (w : World) (h : QS w B l F) (hn : 0 < l.length) :
    Calls Try.prog 29 #[.pointer (some ⟨B, 0, none⟩)] w fun e w' => e = .returned (.agg #[.int .i64 (itm l 0).1, .int .i64 (itm l 0).2]) ∧ w.grownBy w' none := by
  obtain ⟨v, mv, h, hF⟩ := h
  obtain ⟨g, c, cur, rfl, hgB, hgl, hg, hc1, hc2, hcs, hct⟩ := h.form (by omega)
  have xi := QW.item hg hct hn
  simp only [Nat.zero_mul, Nat.zero_add] at xi
  exact first_q B g l.length c _ w hn h.cells.1 (h.lt B (.inl rfl)) hgl xi.1 xi.2
end Go.Proofs.Ytgfpogmipennaaa
