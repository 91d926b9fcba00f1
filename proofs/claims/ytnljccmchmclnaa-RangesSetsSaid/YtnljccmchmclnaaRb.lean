/- The reference's Add of a range. No condition of the program's own. -/
import Derived.Test.YtnljccmchmclnaaRa
namespace Go.Proofs.Ytnljccmchmclnaa
open Go.RowKit Go.Deep

theorem rfold_snoc (l : List E2) (i : Nat) (y : E2) (hy : l[i]? = some y) (f t : Int) {A B : List E2} {F T : Int} (h : rfold (l.take i) [] f t [] = (A, F, T, B)) :
    rfold (l.take (i + 1)) [] f t [] = if y.2 < F then (A ++ [y], F, T, B) else if T < y.1 then (A, F, T, B ++ [y]) else (A, min F y.1, max T y.2, B) := by
  have e : l.take (i + 1) = l.take i ++ [y] := by rw [List.take_add_one, hy]; rfl
  rw [e, rfold_app, h]
  simp only [rfold]
/-- Two rows of the call's own in blocks of their own, and the box. -/
structure Rb (w wr : World) (l : List E2) (f t : Int) (i : Nat) (va vb : Value) (As Bs : List E2) (F T : Int) : Prop where
  ownA : wr.ownsRow (w.heap.size + 1) 24 2 va As.length (pc As)
  ownB : wr.ownsRow (w.heap.size + 1) 24 2 vb Bs.length (pc Bs)
  apart : ∀ k, va.ownBlock = some k → vb.ownBlock ≠ some k
  box : Bx wr w.heap.size F T
  is_ : rfold (l.take i) [] f t [] = (As, F, T, Bs)
  lens : As.length + Bs.length ≤ i
  grew : w.grownBy wr none
theorem Rb.keep {w wr w' : World} {l : List E2} {f t : Int} {i : Nat} {va vb : Value} {As Bs : List E2} {F T : Int} (h : Rb w wr l f t i va vb As Bs F T) (g : wr.grownBy w' none) : Rb w w' l f t i va vb As Bs F T :=
  ⟨h.ownA.kept g (by cases va.ownBlock <;> simp), h.ownB.kept g (by cases vb.ownBlock <;> simp), h.apart, h.box.keep g, h.is_, h.lens, grow2 h.grew g⟩
theorem Rb.ahead {w wr w' : World} {l : List E2} {f t : Int} {i : Nat} {va vb v' : Value} {As Bs : List E2} {F T : Int} {y : E2} (h : Rb w wr l f t i va vb As Bs F T) (hy : l[i]? = some y) (hlt : y.2 < F)
    (g : GrewW wr w' (w.heap.size + 1) 24 2 va v' (As.length + 1) (pc (As ++ [y]))) : Rb w w' l f t (i + 1) v' vb (As ++ [y]) Bs F T := by
  have hz := h.box.lt
  refine ⟨by rw [List.length_append]; exact g.own, h.ownB.kept g.only ?_, fun k hk => ?_, ?_, ?_, by rw [List.length_append]; have := h.lens; simp; omega, only_step h.grew g.only (fun k hk => .inr (by have := own_ge h.ownA k hk; omega))⟩
  · cases hv : vb.ownBlock with
    | none => exact .inl rfl
    | some k => exact .inr (fun e => h.apart k e.symm hv)
  · rcases g.at_ with e | ⟨q, e, hq⟩
    · exact h.apart k (e ▸ hk)
    · rw [e] at hk; cases hk
      intro hv
      have := (h.ownB.lt _ hv).2
      omega
  · exact (g.only.block _ hz (fun e => by have := own_ge h.ownA _ e.symm; omega)).trans h.box
  · rw [rfold_snoc l i y hy f t h.is_, if_pos hlt]
theorem Rb.behind {w wr w' : World} {l : List E2} {f t : Int} {i : Nat} {va vb v' : Value} {As Bs : List E2} {F T : Int} {y : E2} (h : Rb w wr l f t i va vb As Bs F T) (hy : l[i]? = some y) (hn : ¬ y.2 < F) (hlt : T < y.1)
    (g : GrewW wr w' (w.heap.size + 1) 24 2 vb v' (Bs.length + 1) (pc (Bs ++ [y]))) : Rb w w' l f t (i + 1) va v' As (Bs ++ [y]) F T := by
  have hz := h.box.lt
  refine ⟨h.ownA.kept g.only ?_, by rw [List.length_append]; exact g.own, fun k hk hv => ?_, ?_, ?_, by rw [List.length_append]; have := h.lens; simp; omega, only_step h.grew g.only (fun k hk => .inr (by have := own_ge h.ownB k hk; omega))⟩
  · cases hv : va.ownBlock with
    | none => exact .inl rfl
    | some k => exact .inr (fun e => h.apart k hv e.symm)
  · rcases g.at_ with e | ⟨q, e, hq⟩
    · exact h.apart k hk (e ▸ hv)
    · rw [e] at hv; cases hv
      have := (h.ownA.lt _ hk).2
      omega
  · exact (g.only.block _ hz (fun e => by have := own_ge h.ownB _ e.symm; omega)).trans h.box
  · rw [rfold_snoc l i y hy f t h.is_, if_neg hn, if_pos hlt]
theorem Rb.mid {w wr w' : World} {l : List E2} {f t : Int} {i : Nat} {va vb : Value} {As Bs : List E2} {F T F' T' : Int} {y : E2} (h : Rb w wr l f t i va vb As Bs F T) (hy : l[i]? = some y) (hn : ¬ y.2 < F) (hn2 : ¬ T < y.1)
    (hF : F' = min F y.1) (hT : T' = max T y.2) (g : wr.grownBy w' (some w.heap.size)) (hb : Bx w' w.heap.size F' T') : Rb w w' l f t (i + 1) va vb As Bs F' T' := by
  refine ⟨h.ownA.kept g (.inr (fun e => by have := own_ge h.ownA _ e; omega)), h.ownB.kept g (.inr (fun e => by have := own_ge h.ownB _ e; omega)), h.apart, hb, ?_, by have := h.lens; omega, only_step h.grew g (fun k hk => by cases hk; exact .inr (Nat.le_refl _))⟩
  rw [rfold_snoc l i y hy f t h.is_, if_neg hn, if_neg hn2, hF, hT]

set_option maxRecDepth 100000 in
set_option maxHeartbeats 8000000 in
theorem radd_any (A : Option Addr) (c : Nat) (l : List E2) (f t : Int) (w : World) (h : Vw w w.heap.size A c l) (hl : l.length ≤ 1073741824) (hr : okR (f, t)) (hw : RW l) :
    Calls Try.prog 18 #[.slice A l.length c, .agg #[.int .i64 f, .int .i64 t]] w (GotR w (addP l f t)) := by
  have HA := Lib.hid h
  have HW := Lib.hid hw
  unfold okR at hr
  simp only at hr
  have t0 : ¬ f < 0 := by omega
  have t1 : ¬ t ≤ f := by omega
  have t2 : ¬ (1073741824 : Int) < t := by omega
  have hft : f < t := by omega
  have HFT := Lib.hid hft
  have g0 := World.grownBy_alloc w (.cells #[.int .i64 f, .int .i64 t] 24) none
  have R0 : Hid (Rb w (w.alloc (.cells #[.int .i64 f, .int .i64 t] 24)) l f t 0 (.slice none 0 0) (.slice none 0 0) [] [] f t) := Lib.hid ⟨World.ownsRow_nil _ _ _ 2, World.ownsRow_nil _ _ _ 2, fun k hk => by simp [Value.ownBlock] at hk, Bx.new w f t, rfl, by simp, g0⟩
  clear h hr hw hft g0
  go_enter Try.func18, Try.ntmps18
  go_wp2_with fail
  go_loopw [5, 6, 7] (fun s5 s6 si wr => ∃ (i : Nat) (va vb : Value) (As Bs : List E2) (F T : Int), i ≤ l.length ∧ si = .int .i64 i ∧ va = s5 ∧ vb = s6 ∧ Hid (Rb w wr l f t i va vb As Bs F T)) (fun _ _ si _ => l.length - (intOf si).toNat)
  case atStart => exact ⟨0, _, _, [], [], f, t, Nat.zero_le _, rfl, rfl, rfl, R0⟩
  case round =>
    clear R0
    obtain ⟨i, va, vb, As, Bs, F, T, hi, rfl, rfl, rfl, RB⟩ := hrel
    obtain ⟨r1, r2⟩ := RB.out.box.cells
    have hlens := RB.out.lens
    by_cases hlt : i < l.length
    · have u1 : (i : Int) < (l.length : Int) := by omega
      have u0 : (0 : Int) ≤ (i : Int) := by omega
      have hes : IntKind.i64.wrap ((i : Int) + 1) = (i : Int) + 1 := by rw [IntKind.wrap_i64]; omega
      obtain ⟨y, hy⟩ : ∃ y, l[i]? = some y := ⟨_, List.getElem?_eq_getElem hlt⟩
      obtain ⟨b, off, e0, hb, y1, y2⟩ := (HA.out.keep RB.out.grew (Nat.le_refl _)).has.rng hy
      subst e0
      have HY := Lib.hid hy
      have k1 : ∀ k, (wr.drewN k).cell? ⟨w.heap.size, 0, none⟩ = some (.int .i64 F) := fun _ => r1
      have k2 : ∀ k, (wr.drewN k).cell? ⟨w.heap.size, 1, none⟩ = some (.int .i64 T) := fun _ => r2
      have q1 : ∀ k, (wr.drewN k).cell? ⟨b, off + i * 2, none⟩ = some (.int .i64 y.1) := fun _ => y1
      have q2 : ∀ k, (wr.drewN k).cell? ⟨b, off + i * 2 + 1, none⟩ = some (.int .i64 y.2) := fun _ => y2
      clear hy y1 y2 r1 r2
      by_cases hya : y.2 < F
      · go_wp2_with fail
        go_quiet (fail)
        obtain ⟨w3, hw3⟩ : ∃ w3, w3 = wr.drewN nq := ⟨_, rfl⟩
        have p1 := q1 nq
        have p2 := q2 nq
        have RB3 : Hid (Rb w w3 l f t i va vb As Bs F T) := Lib.hid (by rw [hw3]; exact RB.out.keep (only_drewN (only_refl _ none) nq))
        rw [← hw3] at p1 p2 ⊢
        clear hw3 q1 q2 k1 k2
        have zs : w.heap.size + 1 ≤ w3.heap.size := RB3.out.box.lt
        have HA5 := RB3.out.ownA
        have g1 := World.grownBy_alloc w3 (.cells #[.int .i64 y.1, .int .i64 y.2] 24) none
        have O1 : Hid ((w3.alloc (.cells #[.int .i64 y.1, .int .i64 y.2] 24)).ownsRow (w.heap.size + 1) 24 2 va As.length (pc As)) := Lib.hid (HA5.kept g1 (by cases (va).ownBlock <;> simp))
        have S1 := Lib.hid (src_one w3 y)
        have z1 : w.heap.size + 1 ≤ (w3.alloc (.cells #[.int .i64 y.1, .int .i64 y.2] 24)).heap.size := Nat.le_trans zs g1.size
        go_wp2_with (at_builtin; go_loud (refine app_r rfl _ _ 26 rfl (w.heap.size + 1) va As.length (pc As) rfl O1.out _ 1 (pc [y]) rfl S1.out (by omega) z1 ?_); intro v9 w9 g9; rw [← pc_append] at g9; have G9 := Lib.hid g9; clear g9)
        have RN := Lib.hid ((RB3.out.keep g1).ahead HY.out hya G9.out)
        clear g1 HA5
        refine ⟨⟨i + 1, _, _, _, _, F, T, by omega, by go_num, rfl, rfl, RN⟩, ?_⟩
        simp [intOf]; omega
      · by_cases hyb : T < y.1
        · go_wp2_with fail
          go_quiet (fail)
          go_wp2_with fail
          go_quiet (fail)
          generalize hw3 : World.drewN (World.drewN wr _) nq = w3
          have p1 : w3.cell? ⟨b, off + i * 2, none⟩ = some (.int .i64 y.1) := by rw [← hw3]; exact q1 0
          have p2 : w3.cell? ⟨b, off + i * 2 + 1, none⟩ = some (.int .i64 y.2) := by rw [← hw3]; exact q2 0
          have RB3 : Hid (Rb w w3 l f t i va vb As Bs F T) := Lib.hid (by rw [← hw3]; exact RB.out.keep (only_drewN (only_drewN (only_refl _ none) _) _))
          clear hw3 q1 q2 k1 k2
          have zs : w.heap.size + 1 ≤ w3.heap.size := RB3.out.box.lt
          have HB5 := RB3.out.ownB
          have g1 := World.grownBy_alloc w3 (.cells #[.int .i64 y.1, .int .i64 y.2] 24) none
          have O1 : Hid ((w3.alloc (.cells #[.int .i64 y.1, .int .i64 y.2] 24)).ownsRow (w.heap.size + 1) 24 2 vb Bs.length (pc Bs)) := Lib.hid (HB5.kept g1 (by cases (vb).ownBlock <;> simp))
          have S1 := Lib.hid (src_one w3 y)
          have z1 : w.heap.size + 1 ≤ (w3.alloc (.cells #[.int .i64 y.1, .int .i64 y.2] 24)).heap.size := Nat.le_trans zs g1.size
          go_wp2_with (at_builtin; go_loud (refine app_r rfl _ _ 26 rfl (w.heap.size + 1) vb Bs.length (pc Bs) rfl O1.out _ 1 (pc [y]) rfl S1.out (by omega) z1 ?_); intro v9 w9 g9; rw [← pc_append] at g9; have G9 := Lib.hid g9; clear g9)
          have RN := Lib.hid ((RB3.out.keep g1).behind HY.out (by omega) (by omega) G9.out)
          clear g1 HB5
          refine ⟨⟨i + 1, _, _, _, _, F, T, by omega, by go_num, rfl, rfl, RN⟩, ?_⟩
          simp [intOf]; omega
        · go_wp2_with fail
          go_quiet (fail)
          go_wp2_with fail
          go_quiet (fail)
          generalize hw3 : World.drewN (World.drewN wr _) nq = w3
          have p1 : w3.cell? ⟨b, off + i * 2, none⟩ = some (.int .i64 y.1) := by rw [← hw3]; exact q1 0
          have p2 : w3.cell? ⟨b, off + i * 2 + 1, none⟩ = some (.int .i64 y.2) := by rw [← hw3]; exact q2 0
          have RB3 : Hid (Rb w w3 l f t i va vb As Bs F T) := Lib.hid (by rw [← hw3]; exact RB.out.keep (only_drewN (only_drewN (only_refl _ none) _) _))
          clear hw3 q1 q2 k1 k2
          have zs : w.heap.size + 1 ≤ w3.heap.size := RB3.out.box.lt
          obtain ⟨F', hF⟩ : ∃ F', F' = min F y.1 := ⟨_, rfl⟩
          obtain ⟨T', hT⟩ : ∃ T', T' = max T y.2 := ⟨_, rfl⟩
          have HF : Hid ((if y.1 < F then y.1 else F) = F') := Lib.hid (by rw [hF]; split <;> omega)
          have HT : Hid ((if T < y.2 then y.2 else T) = T') := Lib.hid (by rw [hT]; split <;> omega)
          have HF0 := Lib.hid hF
          have HT0 := Lib.hid hT
          obtain ⟨c1, c2⟩ := RB3.out.box.cells
          have f1 := RB3.out.box.thaw
          clear hF hT
          go_wp2_with fail
          refine wp_region_still_tail 17 (by kernel_rfl) (by kernel_rfl) ?_
          simp only [List.take_succ_cons, List.take_zero, List.drop_succ_cons, List.drop_zero]
          repeat still_step
          refine wpStill_nil ?_
          rw [HF.out, HT.out]
          go_wp2_with fail
          have RN := Lib.hid (RB3.out.mid HY.out (by omega) (by omega) HF0.out HT0.out (only_drew (set_only (set_only (only_refl w3 _) 0 (.int .i64 F')) 1 (.int .i64 T'))) (RB3.out.box.set F' T'))
          refine ⟨⟨i + 1, _, _, _, _, F', T', by omega, by go_num, rfl, rfl, RN⟩, ?_⟩
          simp [intOf]; omega
    · have u1 : ¬ (i : Int) < (l.length : Int) := by omega
      have RES : Hid (addP l f t = As ++ [(F, T)] ++ Bs) := Lib.hid (by
        have h1 := RB.out.is_
        rw [List.take_of_length_le (by omega)] at h1
        rw [← radd_is l f t HW.out HFT.out, h1]; simp [rres])
      have LEN : Hid ((addP l f t).length = As.length + 1 + Bs.length) := Lib.hid (by rw [RES.out]; simp <;> omega)
      have g1 := World.grownBy_alloc wr (.cells #[.int .i64 F, .int .i64 T] 24) none
      have OA : Hid ((wr.alloc (.cells #[.int .i64 F, .int .i64 T] 24)).ownsRow (w.heap.size + 1) 24 2 va As.length (pc As)) := Lib.hid (RB.out.ownA.kept g1 (by cases (va).ownBlock <;> simp))
      have S1 := Lib.hid (src_one wr (F, T))
      have zs : w.heap.size + 1 ≤ wr.heap.size := RB.out.box.lt
      have z1 : w.heap.size + 1 ≤ (wr.alloc (.cells #[.int .i64 F, .int .i64 T] 24)).heap.size := Nat.le_trans zs g1.size
      have RB1 := Lib.hid (RB.out.keep g1)
      obtain ⟨Ab, cb, rfl⟩ := own_slice_w RB.out.ownB
      go_wp2_with (first
        | (at_builtin; refine app_r rfl _ _ 26 rfl (w.heap.size + 1) va As.length (pc As) rfl OA.out _ 1 (pc [(F, T)]) rfl S1.out (by omega) z1 ?_; intro v8 w8 g8; rw [← pc_append] at g8; have G8 := Lib.hid g8; have O8 := Lib.hid g8.own; have OB8 := RB1.out.ownB.kept g8.only (by cases hv : (Value.slice Ab Bs.length cb).ownBlock with | none => exact .inl rfl | some k => exact .inr (fun e => RB1.out.apart k e.symm hv)); have s8 : Hid (Src Try.prog 2 26 (.slice Ab Bs.length cb) Bs.length (pc Bs) w8) := Lib.hid (Src.all (Vw.own OB8).1 _ rfl); have z8 : w.heap.size + 1 ≤ w8.heap.size := Nat.le_trans z1 g8.only.size; clear g8 OB8)
        | (at_builtin; refine app_r rfl _ _ 26 rfl (w.heap.size + 1) v8 (As.length + 1) _ rfl O8.out (.slice Ab Bs.length cb) Bs.length (pc Bs) rfl s8.out (by omega) z8 ?_; intro v9 w9 g9; rw [← pc_append] at g9; have G9 := Lib.hid (G8.out.trans g9); clear g9))
      go_ret
      refine ⟨_, rfl, ?_, only_step (grow2 RB.out.grew g1) G9.out.only (fun k hk => .inr (by have := own_ge RB1.out.ownA k hk; omega))⟩
      rw [LEN.out, RES.out]; exact own_less G9.out.own (by omega)
end Go.Proofs.Ytnljccmchmclnaa
