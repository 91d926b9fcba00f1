/- The walk of RangesSets: it returns true for every input. No condition. -/
import Derived.Test.YtnljccmchmclnaaSc
import Derived.StillTailTactics
namespace Go.Proofs.Ytnljccmchmclnaa
open Go.RowKit Go.Deep

theorem Bx.set0 {w : World} {B : Nat} {f t : Int} (h : Bx w B f t) (f' : Int) : Bx (w.setCell ⟨B, 0, none⟩ (.int .i64 f')) B f' t := set_heap h 0 _
theorem Bx.set1 {w : World} {B : Nat} {f t : Int} (h : Bx w B f t) (t' : Int) : Bx (w.setCell ⟨B, 1, none⟩ (.int .i64 t')) B f t' := set_heap h 1 _
set_option maxRecDepth 100000 in
set_option maxHeartbeats 8000000 in
theorem rangesSets_walk (A0 : Option Addr) (c0 : Nat) (ns : List Int) (f t n : Int) (w : World) (h : Has w w.heap.size A0 (is_ ns)) (hb : ∀ n ∈ ns, -9223372036854775808 ≤ n ∧ n ≤ 9223372036854775807) (hf : -9223372036854775808 ≤ f ∧ f ≤ 9223372036854775807) (ht : -9223372036854775808 ≤ t ∧ t ≤ 9223372036854775807) (hn : -9223372036854775808 ≤ n ∧ n ≤ 9223372036854775807) :
    Calls Try.prog 3 #[.slice A0 ns.length c0, .agg #[.int .i64 f, .int .i64 t], .int .i64 n] w fun e w' => e = .returned (.bool true) ∧ w.grownBy w' none := by
  have HA := Lib.hid h
  have HB := Lib.hid hb
  have b0 := Lib.hid (Bx.new w f t)
  have g0 := Lib.hid (World.grownBy_alloc w (.cells #[.int .i64 f, .int .i64 t] 24) none)
  clear h hb
  go_enter Try.func3, Try.ntmps3
  go_wp2_with fail
  obtain ⟨w0, hw0⟩ : ∃ w0, w0 = w.alloc (.cells #[.int .i64 f, .int .i64 t] 24) := ⟨_, rfl⟩
  rw [← hw0] at b0 g0 ⊢
  clear hw0
  refine (known_any _).mono ?_
  rintro _ w1 ⟨rfl, g1⟩
  have b1 := Lib.hid (b0.out.keep g1)
  have G1 := Lib.hid (grow2 g0.out g1)
  clear g1
  go_wp2_with fail
  refine (of_any A0 c0 ns w1 (HA.out.up G1.out) HB.out).mono ?_
  rintro _ w2 ⟨v, l, rfl, ho, ok, g2⟩
  obtain ⟨A, c, rfl⟩ := own_slice_w ho
  have HO := Lib.hid ho
  have OL := Lib.hid ok
  have hl : l.length ≤ 20 := ok.len
  have b2 := Lib.hid (b1.out.keep g2)
  have G2 := Lib.hid (grow2 G1.out g2)
  have z1 : w.heap.size < w1.heap.size := b1.out.lt
  clear ho ok g2 HA HB G1 b0 b1 g0
  obtain ⟨f', hf'⟩ : ∃ x, x = f % 70 := ⟨_, rfl⟩
  obtain ⟨u, hu⟩ : ∃ x, x = t % 8 := ⟨_, rfl⟩
  have N1 : ∀ W, Hid (Calls Try.prog 10 #[.int .i64 f, .int .i64 70] W fun e w' => e = .returned (.int .i64 f') ∧ w' = W) := fun W => by rw [hf']; exact (within_any f 70 hf.1 hf.2 (by omega) (by omega) W).mono fun _ _ h => ⟨h.1, h.2.symm⟩
  have N2 : Hid (∀ W, Calls Try.prog 10 #[.int .i64 t, .int .i64 8] W fun e w' => e = .returned (.int .i64 u) ∧ w' = W) := fun W => by rw [hu]; exact (within_any t 8 ht.1 ht.2 (by omega) (by omega) W).mono fun _ _ h => ⟨h.1, h.2.symm⟩
  have f0 : 0 ≤ f' ∧ f' ≤ 69 := by omega
  have u0 : 0 ≤ u ∧ u ≤ 7 := by omega
  obtain ⟨t', ht'⟩ : ∃ x, x = f' + 1 + u := ⟨_, rfl⟩
  have y2 : IntKind.i64.wrap (f' + 1 + u) = t' := by rw [IntKind.wrap_i64]; omega
  have t0 : f' < t' ∧ t' ≤ 77 := by omega
  obtain ⟨r1, r2⟩ := b2.out.cells
  have fz := b2.out.thaw
  clear hf' hu hf ht ht'
  go_wp2_with fail
  refine (N1 _).out.mono ?_
  rintro _ w3 ⟨rfl, rfl⟩
  go_wp2_with fail
  obtain ⟨w4, hw4⟩ : ∃ w4, w4 = w3.setCell ⟨w.heap.size, 0, none⟩ (.int .i64 f') := ⟨_, rfl⟩
  rw [← hw4]
  have b4 : Bx w4 w.heap.size f' t := by rw [hw4]; exact b2.out.set0 f'
  have g34 : w3.grownBy w4 (some w.heap.size) := by rw [hw4]; exact set_only (only_refl w3 _) 0 _
  have HO4 := Lib.hid (HO.out.kept g34 (.inr (fun e => by have := own_ge HO.out _ e; have := b2.out.lt; omega)))
  have G4 := Lib.hid (only_step G2.out g34 (fun k hk => by cases hk; exact .inr (Nat.le_refl _)))
  have B4 := Lib.hid b4
  clear hw4 g34 r1 r2 fz N1 b2 HO G2
  obtain ⟨r1, r2⟩ := b4.cells
  have fz := b4.thaw
  have y1 : IntKind.i64.wrap (f' + 1) = f' + 1 := by rw [IntKind.wrap_i64]; omega
  clear b4
  go_wp2_with fail
  refine wp_region_still_tail 7 (by kernel_rfl) (by kernel_rfl) ?_
  simp only [List.take_succ_cons, List.take_zero, List.drop_succ_cons, List.drop_zero]
  repeat still_step
  still_call (N2.out _)
  repeat still_step
  refine wpStill_nil ?_
  go_wp2_with fail
  obtain ⟨w5, hw5⟩ : ∃ w5, w5 = (w4.setCell ⟨w.heap.size, 1, none⟩ (.int .i64 t')).drew := ⟨_, rfl⟩
  rw [← hw5]
  have b5 : Bx w5 w.heap.size f' t' := by rw [hw5]; exact B4.out.set1 t'
  have g45 : w4.grownBy w5 (some w.heap.size) := by rw [hw5]; exact only_drew (set_only (only_refl w4 _) 1 _)
  have LV := Lib.hid (Lv.of (Vw.own (HO4.out.kept g45 (.inr (fun e => by have := own_ge HO4.out _ e; omega)))).1)
  have G5 := Lib.hid (only_step G4.out g45 (fun k hk => by cases hk; exact .inr (Nat.le_refl _)))
  have B5 := Lib.hid b5
  have okr : okR (f', t') := ⟨f0.1, t0.1, by show t' ≤ _; omega⟩
  have AD := Lib.hid (add_lv LV.out (by omega) f' t' okr (only_refl w5 none))
  have SM0 := add_ok l f' t' OL.out.rw_ okr
  have sl := add_len l f' t'
  obtain ⟨sm, hsm⟩ : ∃ x, x = addP l f' t' := ⟨_, rfl⟩
  rw [← hsm] at AD SM0 sl
  have SM := Lib.hid SM0
  clear hw5 b5 g45 HO4 G4 B4 okr SM0 hsm r1 r2 fz N2 y1 y2
  refine AD.out.mono ?_
  rintro _ w6 ⟨As, cs, rfl, ls, g6⟩
  have LS := Lib.hid ls
  have LV := Lib.hid (LV.out.on g6)
  have B6 := Lib.hid (B5.out.keep g6)
  have G6 := Lib.hid (grow2 G5.out g6)
  clear ls g6 AD G5 B5
  have LN := Lib.hid (len_lv LV.out (by omega) OL.out.rw_ (only_refl w6 none))
  have kb := rlen_bound l OL.out.rw_.ok
  have kc := rlen_nn l OL.out.rw_
  obtain ⟨q, hq⟩ : ∃ q, q = rlen l := ⟨_, rfl⟩
  have HQ := Lib.hid hq
  rw [← hq] at LN kb kc
  obtain ⟨n', hn'⟩ : ∃ x, x = n % (q + 1) := ⟨_, rfl⟩
  have n0 : 0 ≤ n' := by rw [hn']; exact Int.emod_nonneg _ (by omega)
  have n1 : n' ≤ q := by have := Int.emod_lt_of_pos n (show 0 < q + 1 by omega); omega
  have NW : ∀ W, Hid (Calls Try.prog 10 #[.int .i64 n, .int .i64 (q + 1)] W fun e w' => e = .returned (.int .i64 n') ∧ W = w') := fun W => by rw [hn']; exact within_any n (q + 1) hn.1 hn.2 (by omega) (by omega) W
  have y1 : IntKind.i64.wrap (q + 1) = q + 1 := by rw [IntKind.wrap_i64]; omega
  clear hq hn' hn
  go_wp2_with fail
  refine LN.out.mono ?_
  rintro _ w7 ⟨rfl, g7⟩
  have G7 := Lib.hid g7
  clear g7 LN
  go_wp2_with fail
  refine (NW _).out.mono ?_
  rintro _ w7 ⟨rfl, rfl⟩
  have TC0 := take_lv LV.out (by omega) OL.out.rw_ n' n0 (by rw [← HQ.out]; exact n1) G7.out
  have TK0 := take_ok l n' OL.out.rw_ n0 (by rw [← HQ.out]; exact n1)
  have TI0 := fun k => taken_iff l n' k OL.out.rw_ n0 (by rw [← HQ.out]; exact n1)
  have BK0 := back_is l n' OL.out.rw_ n0 (by rw [← HQ.out]; exact n1)
  obtain ⟨a, ha⟩ : ∃ x, x = (takeP l n').1 := ⟨_, rfl⟩
  obtain ⟨b, hb⟩ : ∃ x, x = (takeP l n').2 := ⟨_, rfl⟩
  simp only [← ha, ← hb] at TC0 TK0 TI0 BK0
  have TC := Lib.hid TC0
  have TK := Lib.hid TK0
  have TI := Lib.hid TI0
  have BK := Lib.hid BK0
  have na := TK0.nT
  have nb := TK0.nS
  have la := TK0.lenT
  have lb := TK0.lenS
  rw [← HQ.out] at lb
  have LV := Lib.hid (LV.out.on G7.out)
  have LS := Lib.hid (LS.out.on G7.out)
  have B7 := Lib.hid (B6.out.keep G7.out)
  have G7 := Lib.hid (grow2 G6.out G7.out)
  clear TC0 TK0 TI0 BK0 ha hb NW G6 B6
  go_wp2_with fail
  refine TC.out.mono ?_
  rintro _ w8 ⟨Aa, ca, Ab, cb, rfl, lva, lvb, g8⟩
  have LA := Lib.hid lva
  have LB := Lib.hid lvb
  have LV := Lib.hid (LV.out.on g8)
  have LS := Lib.hid (LS.out.on g8)
  have B8 := Lib.hid (B7.out.keep g8)
  have G8 := Lib.hid (grow2 G7.out g8)
  have C1 := Lib.hid (len_lv LA.out (by omega) TK.out.t (only_refl w8 none))
  have C2 : ∀ V, w8.grownBy V none → Hid (Calls Try.prog 12 #[.slice Ab b.length cb] V fun e w' => e = .returned (.int .i64 (q - n')) ∧ w8.grownBy w' none) := fun V hV => by rw [← lb]; exact len_lv LB.out (by omega) TK.out.s hV
  have C3 : ∀ V, w8.grownBy V none → Hid (Calls Try.prog 12 #[.slice A l.length c] V fun e w' => e = .returned (.int .i64 q) ∧ w8.grownBy w' none) := fun V hV => by rw [HQ.out]; exact len_lv LV.out (by omega) OL.out.rw_ hV
  rw [la] at C1
  have y2 : IntKind.i64.wrap (q - n') = q - n' := by rw [IntKind.wrap_i64]; omega
  clear lva lvb g8 TC B7 G7 la lb
  go_wp2_with fail
  refine C1.out.mono ?_
  rintro _ w9 ⟨rfl, g9⟩
  have H9 := Lib.hid g9
  clear g9 C1
  go_wp2_with fail
  refine (C2 _ H9.out).out.mono ?_
  rintro _ w10 ⟨rfl, g10⟩
  have H10 := Lib.hid g10
  clear g10 C2
  go_wp2_with fail
  refine (C3 _ H10.out).out.mono ?_
  rintro _ w11 ⟨rfl, g11⟩
  have LA := Lib.hid (LA.out.on g11)
  have LB := Lib.hid (LB.out.on g11)
  have LV := Lib.hid (LV.out.on g11)
  have LS := Lib.hid (LS.out.on g11)
  have B11 := Lib.hid (B8.out.keep g11)
  have G11 := Lib.hid (grow2 G8.out g11)
  clear g11 C3 H9 H10 B8 G8 y1 y2
  go_wp2_with fail
  go_loopw [12, 13] (fun sk sj wr => ∃ (j : Nat) (Ak : Option Addr) (ck : Nat), j ≤ a.length ∧ sj = .int .i64 j ∧ sk = .slice Ak (addAll b (a.take j)).length ck ∧ Hid (Lv wr Ak ck (addAll b (a.take j))) ∧ Hid (w11.grownBy wr none)) (fun _ sj _ => a.length - (intOf sj).toNat)
  case atStart => exact ⟨0, Ab, cb, Nat.zero_le _, rfl, rfl, LB.out, only_refl _ _⟩
  case round =>
    obtain ⟨j, Aj, cj, hj, rfl, rfl, LK, hG2⟩ := hrel
    by_cases hlt2 : j < a.length
    · have v1 : (j : Int) < (a.length : Int) := by omega
      have v0 : (0 : Int) ≤ (j : Int) := by omega
      have hes : IntKind.i64.wrap ((j : Int) + 1) = (j : Int) + 1 := by rw [IntKind.wrap_i64]; omega
      obtain ⟨y, hy⟩ : ∃ y, a[j]? = some y := ⟨_, List.getElem?_eq_getElem hlt2⟩
      obtain ⟨bb, off, e0, r1, r2⟩ := LA.out.at_ hy hG2.out
      have HN := Lib.hid (addAll_take b a j y hy)
      have okr : okR (y.1, y.2) := TK.out.t.ok y (List.mem_of_getElem? hy)
      have hbl2 := (addAll_ok (a.take j) b TK.out.s (ok_take TK.out.t j)).2.2
      rw [List.length_take] at hbl2
      obtain ⟨B, hB⟩ : ∃ B, B = addAll b (a.take j) := ⟨_, rfl⟩
      rw [← hB] at LK HN hbl2 ⊢
      have AD := Lib.hid (add_lv LK.out (by omega) y.1 y.2 okr (only_refl wr none))
      rw [← HN.out] at AD
      subst e0
      clear hy hB okr
      go_wp2_with fail
      refine AD.out.mono ?_
      rintro _ w9 ⟨A9, c9, rfl, l9, g9⟩
      have L9 := Lib.hid l9
      have G9 := Lib.hid (grow2 hG2.out g9)
      clear l9 g9 AD
      go_wp2_with fail
      refine ⟨⟨j + 1, A9, c9, by omega, by go_num, rfl, L9, G9⟩, ?_⟩
      simp [intOf]; omega
    · have v1 : ¬ (j : Int) < (a.length : Int) := by omega
      rw [List.take_of_length_le (show a.length ≤ j by omega)] at LK ⊢
      rw [BK.out] at LK ⊢
      have LA := Lib.hid (LA.out.on hG2.out)
      have LB := Lib.hid (LB.out.on hG2.out)
      have LV := Lib.hid (LV.out.on hG2.out)
      have LS := Lib.hid (LS.out.on hG2.out)
      have B12 := Lib.hid (B11.out.keep hG2.out)
      have G12 := Lib.hid (grow2 G11.out hG2.out)
      obtain ⟨w12, hw12⟩ : ∃ x, x = wr := ⟨_, rfl⟩
      rw [← hw12] at LK LA LB LV LS B12 G12 ⊢
      clear hw12 hG2 B11 G11
      go_wp2_with fail
      go_loopw [14, 15] (fun sn sk wr => ∃ (k : Nat) (s : Int), k ≤ 90 ∧ sk = .int .i64 k ∧ sn = .int .i64 s ∧ Hid (s = cnt l k) ∧ Hid (w12.grownBy wr none)) (fun _ sk _ => 90 - (intOf sk).toNat)
      case atStart => exact ⟨0, 0, by omega, rfl, rfl, Lib.hid (cnt_zero l OL.out.rw_.ok).symm, only_refl _ _⟩
      case round =>
        obtain ⟨k, s, hk, rfl, rfl, HS, hG⟩ := hrel
        by_cases hlt : k < 90
        · have k1 : (k : Int) < 90 := by omega
          have k0 : (0 : Int) ≤ (k : Int) := by omega
          have hes : IntKind.i64.wrap ((k : Int) + 1) = (k : Int) + 1 := by rw [IntKind.wrap_i64]; omega
          have s0 := cnt_nn l k
          have s1 := cnt_le l OL.out.rw_ k
          have hSk := SM.out.2 k
          obtain ⟨hAk, hBk⟩ := TI.out k
          rw [← HS.out] at s0 s1 hAk hBk
          rw [← HQ.out] at s1
          have LVw := Lib.hid (LV.out.on hG.out)
          have LSw := Lib.hid (LS.out.on hG.out)
          have LAw := Lib.hid (LA.out.on hG.out)
          have LBw := Lib.hid (LB.out.on hG.out)
          have BW := Lib.hid (B12.out.keep hG.out)
          by_cases hx : mem l k
          · have HUP : Hid (s + 1 = cnt l ((k + 1 : Nat) : Int)) := Lib.hid (by rw [HS.out, Int.natCast_add]; exact (cnt_up l OL.out.rw_ k hx).symm)
            have y3 : IntKind.i64.wrap (s + 1) = s + 1 := by rw [IntKind.wrap_i64]; omega
            by_cases p1 : s < n'
            · have p2 : ¬ n' ≤ s := by omega
              have BWc := BW.out
              have CX : Hid (Calls Try.prog 14 #[.slice A l.length c, .int .i64 k] wr fun e w' => e = .returned (.bool true) ∧ wr.grownBy w' none) := Lib.hid (has_lv LVw.out (by omega) OL.out.rw_ k true (by simp only [true_iff]; exact hx) (only_refl wr none))
              have CS : ∀ V, wr.grownBy V none → Hid (Calls Try.prog 14 #[.slice As sm.length cs, .int .i64 k] V fun e w' => e = .returned (.bool true) ∧ wr.grownBy w' none) := fun V hV => has_lv LSw.out (by omega) SM.out.1 k true (by simp only [true_iff]; exact hSk.2 (.inl hx)) hV
              have CA : ∀ V, wr.grownBy V none → Hid (Calls Try.prog 14 #[.slice Aa a.length ca, .int .i64 k] V fun e w' => e = .returned (.bool true) ∧ wr.grownBy w' none) := fun V hV => has_lv LAw.out (by omega) TK.out.t k true (by simp only [true_iff]; exact hAk.2 ⟨hx, p1⟩) hV
              have CB : ∀ V, wr.grownBy V none → Hid (Calls Try.prog 14 #[.slice Ab b.length cb, .int .i64 k] V fun e w' => e = .returned (.bool false) ∧ wr.grownBy w' none) := fun V hV => has_lv LBw.out (by omega) TK.out.s k false (by simp only [Bool.false_eq_true, false_iff]; exact fun h => by have := (hBk.1 h).2; omega) hV
              clear BWc
              have BV : ∀ V, wr.grownBy V none → Hid (V.cell? ⟨w.heap.size, 0, none⟩ = some (.int .i64 f') ∧ V.cell? ⟨w.heap.size, 1, none⟩ = some (.int .i64 t')) := fun V hV => (BW.out.keep hV).cells
              clear hAk hBk hSk
              go_wp2_with fail
              refine CX.out.mono ?_
              rintro _ v1 ⟨rfl, h1⟩
              have H1 := Lib.hid h1
              clear h1 CX
              go_wp2_with fail
              refine (CS _ H1.out).out.mono ?_
              rintro _ v2 ⟨rfl, h2⟩
              have H2 := Lib.hid h2
              obtain ⟨x1, x2⟩ := (BV _ h2).out
              clear h2 CS BV
              go_wp2_with fail
              refine (CA _ H2.out).out.mono ?_
              rintro _ v3 ⟨rfl, h3⟩
              have H3 := Lib.hid h3
              clear h3 CA x1 x2
              go_wp2_with fail
              refine (CB _ H3.out).out.mono ?_
              rintro _ v4 ⟨rfl, h4⟩
              have H4 := Lib.hid h4
              clear h4 CB
              go_wp2_with fail
              obtain ⟨L, LO, LC⟩ := lessh_lv LVw.out (by omega) OL.out.rw_ k hx
              have LC4 := Lib.hid (LC v4 H4.out)
              have nL := LO.nL
              have lenL := LO.len
              rw [← HQ.out] at lenL
              have LOH := Lib.hid LO
              clear LC LO
              refine LC4.out.mono ?_
              rintro _ v5 ⟨A5, c5, rfl, l5, h5⟩
              have L5 := Lib.hid l5
              have H5 := Lib.hid (grow2 H4.out h5)
              clear l5 h5 LC4
              have CH := Lib.hid (has_lv L5.out (by omega) LOH.out.rw_ k false (by rw [LOH.out.mem_ k]; simp) (only_refl v5 none))
              have CL : ∀ V, v5.grownBy V none → Hid (Calls Try.prog 12 #[.slice A5 L.length c5] V fun e w' => e = .returned (.int .i64 (q - 1)) ∧ v5.grownBy w' none) := fun V hV => by rw [← lenL]; exact len_lv L5.out (by omega) LOH.out.rw_ hV
              have CQ : ∀ V, v5.grownBy V none → Hid (Calls Try.prog 12 #[.slice A l.length c] V fun e w' => e = .returned (.int .i64 q) ∧ v5.grownBy w' none) := fun V hV => by rw [HQ.out]; exact len_lv (LVw.out.on H5.out) (by omega) OL.out.rw_ hV
              have y9 : IntKind.i64.wrap (q - 1) = q - 1 := by rw [IntKind.wrap_i64]; omega
              clear lenL
              go_wp2_with fail
              refine CH.out.mono ?_
              rintro _ v6 ⟨rfl, h6⟩
              have H6 := Lib.hid h6
              clear h6 CH
              go_wp2_with fail
              refine (CL _ H6.out).out.mono ?_
              rintro _ v7 ⟨rfl, h7⟩
              have H7 := Lib.hid h7
              clear h7 CL
              go_wp2_with fail
              refine (CQ _ H7.out).out.mono ?_
              rintro _ v8 ⟨rfl, h8⟩
              have H8 := Lib.hid (grow2 hG.out (grow2 H5.out h8))
              clear h8 CQ
              go_wp2_with fail
              refine ⟨⟨k + 1, s + 1, by omega, by go_num, rfl, HUP, H8⟩, ?_⟩
              simp [intOf]; omega
            · have p2 : n' ≤ s := by omega
              have BWc := BW.out
              have CX : Hid (Calls Try.prog 14 #[.slice A l.length c, .int .i64 k] wr fun e w' => e = .returned (.bool true) ∧ wr.grownBy w' none) := Lib.hid (has_lv LVw.out (by omega) OL.out.rw_ k true (by simp only [true_iff]; exact hx) (only_refl wr none))
              have CS : ∀ V, wr.grownBy V none → Hid (Calls Try.prog 14 #[.slice As sm.length cs, .int .i64 k] V fun e w' => e = .returned (.bool true) ∧ wr.grownBy w' none) := fun V hV => has_lv LSw.out (by omega) SM.out.1 k true (by simp only [true_iff]; exact hSk.2 (.inl hx)) hV
              have CA : ∀ V, wr.grownBy V none → Hid (Calls Try.prog 14 #[.slice Aa a.length ca, .int .i64 k] V fun e w' => e = .returned (.bool false) ∧ wr.grownBy w' none) := fun V hV => has_lv LAw.out (by omega) TK.out.t k false (by simp only [Bool.false_eq_true, false_iff]; exact fun h => by have := (hAk.1 h).2; omega) hV
              have CB : ∀ V, wr.grownBy V none → Hid (Calls Try.prog 14 #[.slice Ab b.length cb, .int .i64 k] V fun e w' => e = .returned (.bool true) ∧ wr.grownBy w' none) := fun V hV => has_lv LBw.out (by omega) TK.out.s k true (by simp only [true_iff]; exact hBk.2 ⟨hx, by omega⟩) hV
              clear BWc
              have BV : ∀ V, wr.grownBy V none → Hid (V.cell? ⟨w.heap.size, 0, none⟩ = some (.int .i64 f') ∧ V.cell? ⟨w.heap.size, 1, none⟩ = some (.int .i64 t')) := fun V hV => (BW.out.keep hV).cells
              clear hAk hBk hSk
              go_wp2_with fail
              refine CX.out.mono ?_
              rintro _ v1 ⟨rfl, h1⟩
              have H1 := Lib.hid h1
              clear h1 CX
              go_wp2_with fail
              refine (CS _ H1.out).out.mono ?_
              rintro _ v2 ⟨rfl, h2⟩
              have H2 := Lib.hid h2
              obtain ⟨x1, x2⟩ := (BV _ h2).out
              clear h2 CS BV
              go_wp2_with fail
              refine (CA _ H2.out).out.mono ?_
              rintro _ v3 ⟨rfl, h3⟩
              have H3 := Lib.hid h3
              clear h3 CA x1 x2
              go_wp2_with fail
              refine (CB _ H3.out).out.mono ?_
              rintro _ v4 ⟨rfl, h4⟩
              have H4 := Lib.hid h4
              clear h4 CB
              go_wp2_with fail
              obtain ⟨L, LO, LC⟩ := lessh_lv LVw.out (by omega) OL.out.rw_ k hx
              have LC4 := Lib.hid (LC v4 H4.out)
              have nL := LO.nL
              have lenL := LO.len
              rw [← HQ.out] at lenL
              have LOH := Lib.hid LO
              clear LC LO
              refine LC4.out.mono ?_
              rintro _ v5 ⟨A5, c5, rfl, l5, h5⟩
              have L5 := Lib.hid l5
              have H5 := Lib.hid (grow2 H4.out h5)
              clear l5 h5 LC4
              have CH := Lib.hid (has_lv L5.out (by omega) LOH.out.rw_ k false (by rw [LOH.out.mem_ k]; simp) (only_refl v5 none))
              have CL : ∀ V, v5.grownBy V none → Hid (Calls Try.prog 12 #[.slice A5 L.length c5] V fun e w' => e = .returned (.int .i64 (q - 1)) ∧ v5.grownBy w' none) := fun V hV => by rw [← lenL]; exact len_lv L5.out (by omega) LOH.out.rw_ hV
              have CQ : ∀ V, v5.grownBy V none → Hid (Calls Try.prog 12 #[.slice A l.length c] V fun e w' => e = .returned (.int .i64 q) ∧ v5.grownBy w' none) := fun V hV => by rw [HQ.out]; exact len_lv (LVw.out.on H5.out) (by omega) OL.out.rw_ hV
              have y9 : IntKind.i64.wrap (q - 1) = q - 1 := by rw [IntKind.wrap_i64]; omega
              clear lenL
              go_wp2_with fail
              refine CH.out.mono ?_
              rintro _ v6 ⟨rfl, h6⟩
              have H6 := Lib.hid h6
              clear h6 CH
              go_wp2_with fail
              refine (CL _ H6.out).out.mono ?_
              rintro _ v7 ⟨rfl, h7⟩
              have H7 := Lib.hid h7
              clear h7 CL
              go_wp2_with fail
              refine (CQ _ H7.out).out.mono ?_
              rintro _ v8 ⟨rfl, h8⟩
              have H8 := Lib.hid (grow2 hG.out (grow2 H5.out h8))
              clear h8 CQ
              go_wp2_with fail
              refine ⟨⟨k + 1, s + 1, by omega, by go_num, rfl, HUP, H8⟩, ?_⟩
              simp [intOf]; omega
          · have HUP : Hid (s = cnt l ((k + 1 : Nat) : Int)) := Lib.hid (by rw [HS.out, Int.natCast_add]; exact (cnt_same l k hx).symm)
            by_cases p1 : f' ≤ (k : Int)
            · by_cases p2 : (k : Int) < t'
              · have BWc := BW.out
                have CX : Hid (Calls Try.prog 14 #[.slice A l.length c, .int .i64 k] wr fun e w' => e = .returned (.bool false) ∧ wr.grownBy w' none) := Lib.hid (has_lv LVw.out (by omega) OL.out.rw_ k false (by simp only [Bool.false_eq_true, false_iff]; exact hx) (only_refl wr none))
                have CS : ∀ V, wr.grownBy V none → Hid (Calls Try.prog 14 #[.slice As sm.length cs, .int .i64 k] V fun e w' => e = .returned (.bool true) ∧ wr.grownBy w' none) := fun V hV => has_lv LSw.out (by omega) SM.out.1 k true (by simp only [true_iff]; exact hSk.2 (.inr ⟨by omega, by omega⟩)) hV
                have CA : ∀ V, wr.grownBy V none → Hid (Calls Try.prog 14 #[.slice Aa a.length ca, .int .i64 k] V fun e w' => e = .returned (.bool false) ∧ wr.grownBy w' none) := fun V hV => has_lv LAw.out (by omega) TK.out.t k false (by simp only [Bool.false_eq_true, false_iff]; exact fun h => hx (hAk.1 h).1) hV
                have CB : ∀ V, wr.grownBy V none → Hid (Calls Try.prog 14 #[.slice Ab b.length cb, .int .i64 k] V fun e w' => e = .returned (.bool false) ∧ wr.grownBy w' none) := fun V hV => has_lv LBw.out (by omega) TK.out.s k false (by simp only [Bool.false_eq_true, false_iff]; exact fun h => hx (hBk.1 h).1) hV
                clear BWc
                have BV : ∀ V, wr.grownBy V none → Hid (V.cell? ⟨w.heap.size, 0, none⟩ = some (.int .i64 f') ∧ V.cell? ⟨w.heap.size, 1, none⟩ = some (.int .i64 t')) := fun V hV => (BW.out.keep hV).cells
                clear hAk hBk hSk
                go_wp2_with fail
                refine CX.out.mono ?_
                rintro _ v1 ⟨rfl, h1⟩
                have H1 := Lib.hid h1
                clear h1 CX
                go_wp2_with fail
                refine (CS _ H1.out).out.mono ?_
                rintro _ v2 ⟨rfl, h2⟩
                have H2 := Lib.hid h2
                obtain ⟨x1, x2⟩ := (BV _ h2).out
                clear h2 CS BV
                go_wp2_with fail
                refine (CA _ H2.out).out.mono ?_
                rintro _ v3 ⟨rfl, h3⟩
                have H3 := Lib.hid h3
                clear h3 CA x1 x2
                go_wp2_with fail
                refine (CB _ H3.out).out.mono ?_
                rintro _ v4 ⟨rfl, h4⟩
                have H4 := Lib.hid h4
                clear h4 CB
                go_wp2_with fail
                have LC4 := Lib.hid (lessm_lv LVw.out (by omega) k hx H4.out)
                refine LC4.out.mono ?_
                rintro _ v5 ⟨rfl, h5⟩
                have H8 := Lib.hid (grow2 hG.out (grow2 H4.out h5))
                clear h5 LC4
                go_wp2_with fail
                refine ⟨⟨k + 1, s, by omega, by go_num, rfl, HUP, H8⟩, ?_⟩
                simp [intOf]; omega
              · have BWc := BW.out
                have CX : Hid (Calls Try.prog 14 #[.slice A l.length c, .int .i64 k] wr fun e w' => e = .returned (.bool false) ∧ wr.grownBy w' none) := Lib.hid (has_lv LVw.out (by omega) OL.out.rw_ k false (by simp only [Bool.false_eq_true, false_iff]; exact hx) (only_refl wr none))
                have CS : ∀ V, wr.grownBy V none → Hid (Calls Try.prog 14 #[.slice As sm.length cs, .int .i64 k] V fun e w' => e = .returned (.bool false) ∧ wr.grownBy w' none) := fun V hV => has_lv LSw.out (by omega) SM.out.1 k false (by simp only [Bool.false_eq_true, false_iff]; exact fun h => (hSk.1 h).elim hx (fun q => by omega)) hV
                have CA : ∀ V, wr.grownBy V none → Hid (Calls Try.prog 14 #[.slice Aa a.length ca, .int .i64 k] V fun e w' => e = .returned (.bool false) ∧ wr.grownBy w' none) := fun V hV => has_lv LAw.out (by omega) TK.out.t k false (by simp only [Bool.false_eq_true, false_iff]; exact fun h => hx (hAk.1 h).1) hV
                have CB : ∀ V, wr.grownBy V none → Hid (Calls Try.prog 14 #[.slice Ab b.length cb, .int .i64 k] V fun e w' => e = .returned (.bool false) ∧ wr.grownBy w' none) := fun V hV => has_lv LBw.out (by omega) TK.out.s k false (by simp only [Bool.false_eq_true, false_iff]; exact fun h => hx (hBk.1 h).1) hV
                clear BWc
                have BV : ∀ V, wr.grownBy V none → Hid (V.cell? ⟨w.heap.size, 0, none⟩ = some (.int .i64 f') ∧ V.cell? ⟨w.heap.size, 1, none⟩ = some (.int .i64 t')) := fun V hV => (BW.out.keep hV).cells
                clear hAk hBk hSk
                go_wp2_with fail
                refine CX.out.mono ?_
                rintro _ v1 ⟨rfl, h1⟩
                have H1 := Lib.hid h1
                clear h1 CX
                go_wp2_with fail
                refine (CS _ H1.out).out.mono ?_
                rintro _ v2 ⟨rfl, h2⟩
                have H2 := Lib.hid h2
                obtain ⟨x1, x2⟩ := (BV _ h2).out
                clear h2 CS BV
                go_wp2_with fail
                refine (CA _ H2.out).out.mono ?_
                rintro _ v3 ⟨rfl, h3⟩
                have H3 := Lib.hid h3
                clear h3 CA x1 x2
                go_wp2_with fail
                refine (CB _ H3.out).out.mono ?_
                rintro _ v4 ⟨rfl, h4⟩
                have H4 := Lib.hid h4
                clear h4 CB
                go_wp2_with fail
                have LC4 := Lib.hid (lessm_lv LVw.out (by omega) k hx H4.out)
                refine LC4.out.mono ?_
                rintro _ v5 ⟨rfl, h5⟩
                have H8 := Lib.hid (grow2 hG.out (grow2 H4.out h5))
                clear h5 LC4
                go_wp2_with fail
                refine ⟨⟨k + 1, s, by omega, by go_num, rfl, HUP, H8⟩, ?_⟩
                simp [intOf]; omega
            · have BWc := BW.out
              have CX : Hid (Calls Try.prog 14 #[.slice A l.length c, .int .i64 k] wr fun e w' => e = .returned (.bool false) ∧ wr.grownBy w' none) := Lib.hid (has_lv LVw.out (by omega) OL.out.rw_ k false (by simp only [Bool.false_eq_true, false_iff]; exact hx) (only_refl wr none))
              have CS : ∀ V, wr.grownBy V none → Hid (Calls Try.prog 14 #[.slice As sm.length cs, .int .i64 k] V fun e w' => e = .returned (.bool false) ∧ wr.grownBy w' none) := fun V hV => has_lv LSw.out (by omega) SM.out.1 k false (by simp only [Bool.false_eq_true, false_iff]; exact fun h => (hSk.1 h).elim hx (fun q => by omega)) hV
              have CA : ∀ V, wr.grownBy V none → Hid (Calls Try.prog 14 #[.slice Aa a.length ca, .int .i64 k] V fun e w' => e = .returned (.bool false) ∧ wr.grownBy w' none) := fun V hV => has_lv LAw.out (by omega) TK.out.t k false (by simp only [Bool.false_eq_true, false_iff]; exact fun h => hx (hAk.1 h).1) hV
              have CB : ∀ V, wr.grownBy V none → Hid (Calls Try.prog 14 #[.slice Ab b.length cb, .int .i64 k] V fun e w' => e = .returned (.bool false) ∧ wr.grownBy w' none) := fun V hV => has_lv LBw.out (by omega) TK.out.s k false (by simp only [Bool.false_eq_true, false_iff]; exact fun h => hx (hBk.1 h).1) hV
              clear BWc
              have BV : ∀ V, wr.grownBy V none → Hid (V.cell? ⟨w.heap.size, 0, none⟩ = some (.int .i64 f') ∧ V.cell? ⟨w.heap.size, 1, none⟩ = some (.int .i64 t')) := fun V hV => (BW.out.keep hV).cells
              clear hAk hBk hSk
              go_wp2_with fail
              refine CX.out.mono ?_
              rintro _ v1 ⟨rfl, h1⟩
              have H1 := Lib.hid h1
              clear h1 CX
              go_wp2_with fail
              refine (CS _ H1.out).out.mono ?_
              rintro _ v2 ⟨rfl, h2⟩
              have H2 := Lib.hid h2
              obtain ⟨x1, x2⟩ := (BV _ h2).out
              clear h2 CS BV
              go_wp2_with fail
              refine (CA _ H2.out).out.mono ?_
              rintro _ v3 ⟨rfl, h3⟩
              have H3 := Lib.hid h3
              clear h3 CA x1 x2
              go_wp2_with fail
              refine (CB _ H3.out).out.mono ?_
              rintro _ v4 ⟨rfl, h4⟩
              have H4 := Lib.hid h4
              clear h4 CB
              go_wp2_with fail
              have LC4 := Lib.hid (lessm_lv LVw.out (by omega) k hx H4.out)
              refine LC4.out.mono ?_
              rintro _ v5 ⟨rfl, h5⟩
              have H8 := Lib.hid (grow2 hG.out (grow2 H4.out h5))
              clear h5 LC4
              go_wp2_with fail
              refine ⟨⟨k + 1, s, by omega, by go_num, rfl, HUP, H8⟩, ?_⟩
              simp [intOf]; omega
        · have k1 : ¬ (k : Int) < 90 := by omega
          have LKw := Lib.hid (LK.out.on hG.out)
          have LVw := Lib.hid (LV.out.on hG.out)
          have CS := Lib.hid (same_lv LKw.out LVw.out (by omega) true (by simp) (only_refl wr none))
          have C1 : ∀ V, wr.grownBy V none → Hid (Calls Try.prog 17 #[.slice As sm.length cs] V fun e w' => e = .returned (.bool true) ∧ wr.grownBy w' none) := fun V hV => row_lv (LS.out.on hG.out) (by omega) SM.out.1 hV
          have C2 : ∀ V, wr.grownBy V none → Hid (Calls Try.prog 17 #[.slice Aa a.length ca] V fun e w' => e = .returned (.bool true) ∧ wr.grownBy w' none) := fun V hV => row_lv (LA.out.on hG.out) (by omega) TK.out.t hV
          have C3 : ∀ V, wr.grownBy V none → Hid (Calls Try.prog 17 #[.slice Ab b.length cb] V fun e w' => e = .returned (.bool true) ∧ wr.grownBy w' none) := fun V hV => row_lv (LB.out.on hG.out) (by omega) TK.out.s hV
          have G13 := Lib.hid (grow2 G12.out hG.out)
          clear hG
          go_wp2_with fail
          refine CS.out.mono ?_
          rintro _ v1 ⟨rfl, h1⟩
          have H1 := Lib.hid h1
          clear h1 CS
          go_wp2_with fail
          refine (C1 _ H1.out).out.mono ?_
          rintro _ v2 ⟨rfl, h2⟩
          have H2 := Lib.hid h2
          clear h2 C1
          go_wp2_with fail
          refine (C2 _ H2.out).out.mono ?_
          rintro _ v3 ⟨rfl, h3⟩
          have H3 := Lib.hid h3
          clear h3 C2
          go_wp2_with fail
          refine (C3 _ H3.out).out.mono ?_
          rintro _ v4 ⟨rfl, h4⟩
          have H4 := Lib.hid (grow2 G13.out h4)
          clear h4 C3
          go_wp2_with fail
          go_ret
          exact ⟨rfl, H4.out⟩
end Go.Proofs.Ytnljccmchmclnaa
