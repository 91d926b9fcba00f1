/- JournalTorn: the law. No condition of the program's own. -/
import Derived.Test.YtpfahfakinonnaaDoorJ4
import Derived.Test.YtpfahfakinonnaaDoorGrs
import Derived.Test.YtpfahfakinonnaaDoorGrw
import Derived.Deep.RegionHeld3
namespace Go.Proofs.YtpfahfakinonnaaDoor
open Go.RowKit Go.Deep
set_option maxRecDepth 100000 in
set_option maxHeartbeats 4000000 in
theorem torn_run (A : Option Addr) (c : Nat) (L : List (List Int)) (At : Option Addr) (ct : Nat) (t : List Int) (Am : Option Addr) (cm : Nat) (m : List Int) (w : World) (hA : RR w A L) (bL : ∀ l ∈ L, ∀ x ∈ l, 0 ≤ x ∧ x ≤ 255) (ht : Has w w.heap.size At (bs t)) (bt : ∀ x ∈ t, 0 ≤ x ∧ x ≤ 255) (hm : Has w w.heap.size Am (bs m)) (bm : ∀ x ∈ m, 0 ≤ x ∧ x ≤ 255) (h10 : L.length ≤ 10) (lt : t.length ≤ 100) (lm : m.length ≤ 100) (hct : t.length ≤ ct) (hT : Tab w) :
    Calls Tryd.prog 5 #[.slice A L.length c, .slice At t.length ct, .slice Am m.length cm] w fun e w' => e = .returned (.bool true) ∧ w.grownBy w' none := by
  have KN := Lib.hid (known_any w hT)
  have t10 : ¬ (10 : Int) < L.length := by omega
  have t11 : ¬ (100 : Int) < t.length := by omega
  have t12 : ¬ (100 : Int) < m.length := by omega
  have HT := Lib.hid hT
  have HA := Lib.hid hA
  have HB := Lib.hid ht
  have HM := Lib.hid hm
  have BL := Lib.hid bL
  have BT := Lib.hid bt
  have BM := Lib.hid bm
  clear hT hA ht hm bL bt bm
  go_enter Tryd.func5, Tryd.ntmps5
  go_wp2_with fail
  refine KN.out.mono ?_
  rintro _ w0 ⟨rfl, g0⟩
  have z0 := g0.size
  have NW := Lib.hid (new_any w.heap.size 100000 w0 (by decide) (by decide) z0)
  rw [js_new] at NW
  go_wp2_with fail
  refine NW.out.mono ?_
  rintro _ w1 ⟨g, rfl, D1, g1⟩
  have glt := D1.lt
  have g01 := only_step g0 g1 (fun _ hk => .inl hk)
  have OP := Lib.hid (open_js w.heap.size g [] [] [] 0 0 w1 D1 (.inl ⟨rfl, rfl⟩) (by simp) (by simp) (by simp) (HT.out.grow g01))
  go_wp2_with fail
  refine OP.out.mono ?_
  rintro _ w2 ⟨q, sv, lv, rfl, _, _, J2, hq2, g2⟩
  have hqg : q ≠ g := by omega
  have hqw : w.heap.size ≤ q := by have := g01.size; omega
  have J0 : Hid (JS w w2 g q 0 [] [] [] 0 0) := ⟨D1.below g2, J2, only_step g01 g2 (fun _ hk => .inl hk), .inl ⟨rfl, rfl⟩, by simp, by simp, by simp, by omega, by omega⟩
  clear D1 OP NW KN J2 g2 g1 g0 g01
  go_wp2_with fail
  go_loopw [13, 14] (fun ss si wr => ∃ (i n : Nat) (k o : Int), i ≤ L.length ∧ si = .int .i64 i ∧ ss = .int .i64 n ∧ Hid ((logP (L.take i)).length = n) ∧ n ≤ 208 * i ∧ Hid (JS w wr g q i (L.take i) [] [] k o)) (fun _ si _ => L.length - (intOf si).toNat)
  case atStart => exact ⟨0, 0, 0, 0, Nat.zero_le _, rfl, rfl, rfl, Nat.zero_le _, J0⟩
  case round =>
    obtain ⟨i, n, k, o, hi, rfl, rfl, HN, hn, JW⟩ := hrel
    by_cases hlt : i < L.length
    · as_aux_lemma =>
        have v1 : (i : Int) < (L.length : Int) := by omega
        have v0 : (0 : Int) ≤ (i : Int) := by omega
        have vs : IntKind.i64.wrap ((i : Int) + 1) = (i : Int) + 1 := by rw [IntKind.wrap_i64]; omega
        obtain ⟨x, hx⟩ : ∃ x, L[i]? = some x := ⟨_, List.getElem?_eq_getElem hlt⟩
        have bx := Lib.hid (BL.out x (List.mem_of_getElem? hx))
        have hh := (HA.out.grow JW.out.2.2.1) i x hx
        obtain ⟨b, off, Ax, cx, rfl, hb, hc, _⟩ := hh
        have IL : i < 20 := by omega
        by_cases h2 : 200 < x.length
        · have t2 : (200 : Int) < x.length := by omega
          go_wp2_with fail
          go_ret
          exact ⟨rfl, JW.out.2.2.1⟩
        have t2 : ¬ (200 : Int) < x.length := by omega
        have hxw : Has w w.heap.size Ax (bs x) := by
          obtain ⟨b', off', Ax', cx', he, hb', hc', hh'⟩ := HA.out i x hx
          injection he with he
          injection he with he1 he2
          subst he1; subst he2
          have e1 := (World.cell?_of_block (a := ⟨b, off + i, none⟩) (JW.out.2.2.1.block b hb' (by simp))).symm.trans hc
          rw [hc'] at e1
          injection e1 with e1
          injection e1 with e1 _ _
          subst e1
          exact hh'
        have HX := Lib.hid hxw
        clear hxw
        have CELL := Lib.hid fun (W : World) (hW : w.grownBy W none) => show W.cell? ⟨b, off + i, none⟩ = some (.slice Ax x.length cx) from by
          obtain ⟨b', off', Ax', cx', he, hb', hc', hh'⟩ := HA.out i x hx
          injection he with he
          injection he with he1 he2
          subst he1; subst he2
          have e1 := (World.cell?_of_block (a := ⟨b, off + i, none⟩) (JW.out.2.2.1.block b hb' (by simp))).symm.trans hc
          have e2 := (World.cell?_of_block (a := ⟨b, off + i, none⟩) (hW.block b hb' (by simp)))
          exact e2.trans e1
        have TK : L.take (i + 1) = L.take i ++ [x] := by
          rw [List.take_add_one, hx]; rfl
        have AD := Lib.hid (js_addr JW.out IL hqg hqw Ax cx x HX.out bx.out (by omega) HT.out)
        rw [← TK] at AD
        have LN : Hid ((logP (L.take (i + 1))).length = n + 8 + x.length) := by
          show _ = _
          rw [TK, ← HN.out]
          simp [logP, frP_len]
          omega
        have y1 : IntKind.i64.wrap ((n : Int) + 8) = (n : Int) + 8 := by rw [IntKind.wrap_i64]; omega
        have y2 : IntKind.i64.wrap ((n : Int) + 8 + (x.length : Int)) = (n : Int) + 8 + (x.length : Int) := by rw [IntKind.wrap_i64]; omega
        clear TK
        go_wp2_with fail
        refine AD.out.mono ?_
        rintro _ w3 ⟨rfl, j3⟩
        have J3 := Lib.hid j3
        clear j3 AD
        have CL := CELL.out _ J3.out.2.2.1
        clear hc
        go_wp2_with fail
        exact ⟨⟨i + 1, n + 8 + x.length, (k + 2), (o + 2), by omega, by go_num, by go_num, LN, by omega, J3⟩, (by simp [intOf]; omega)⟩
    · have v1 : ¬ (i : Int) < (L.length : Int) := by omega
      obtain rfl : i = L.length := by omega
      have hlr : L.length ≤ 20 := by omega
      have JL : Hid (JS w wr g q L.length L [] [] k o) := by have := JW.out; rwa [List.take_length] at this
      have HN2 : Hid ((logP L).length = n) := by have := HN.out; rwa [List.take_length] at this
      have GW := JL.out.2.2.1
      have zW := GW.size
      have bR := Lib.hid JL.out.2.2.2.2.1
      have lR := Lib.hid JL.out.2.2.2.2.2.1
      have SC := Lib.hid (rscan_any At ct t wr ((HB.out.only GW (Nat.le_refl _) (fun _ h => by cases h)).more zW) BT.out (by omega) hct)
      obtain ⟨XX, hXX⟩ : ∃ XX, (scanP t).1 = XX := ⟨_, rfl⟩
      obtain ⟨YY, hYY⟩ : ∃ YY, (scanP t).2 = YY := ⟨_, rfl⟩
      rw [hXX, hYY] at SC
      have HXX := Lib.hid hXX
      clear hXX hYY JW HN
      by_cases hf : firstE t = 0
      · as_aux_lemma =>
          have t0 : (0 : Int) < (XX.length : Int) := by
            have h := scan_pos hf; rw [HXX.out] at h; omega
          clear hf
          go_wp2_with fail
          refine SC.out.mono ?_
          rintro _ w3 ⟨v3, rfl, r3, g3⟩
          obtain ⟨A3, c3, rfl⟩ := r3.form
          clear r3
          go_wp2_with fail
          go_ret
          exact ⟨rfl, only_step GW g3 (fun _ hk => .inl hk)⟩
      · as_aux_lemma =>
          have x0 : XX.length = 0 := by rw [← HXX.out, scanP_no hf]; rfl
          have HF := Lib.hid hf
          clear hf
          rw [List.eq_nil_of_length_eq_zero x0] at SC
          clear x0 HXX
          go_wp2_with fail
          refine SC.out.mono ?_
          rintro _ w3 ⟨v3, rfl, r3, g3⟩
          obtain ⟨A3, c3, rfl⟩ := r3.form
          rw [List.length_nil]
          have J3 := Lib.hid (JL.out.grown g3)
          have AP := Lib.hid (torn_app J3.out (by omega) At ct t HB.out lt)
          have kb := js_bounds J3.out (by omega)
          have kk := JL.out.2.2.2.2.2.2.2
          clear r3 SC
          go_wp2_with fail
          refine AP.out.mono ?_
          rintro _ w4 ⟨rfl, D4, G4⟩
          have OP := Lib.hid (torn_open (i := L.length) D4 G4 bR.out lR.out (Nat.le_refl _) (by omega) (by omega) (by omega) BT.out lt HF.out HT.out)
          have gw4 := D4.lt.2
          clear D4 AP kb kk
          go_wp2_with fail
          refine OP.out.mono ?_
          rintro _ w5 ⟨q5, s5, l5, k5, o5, rfl, r5, j5, hq5⟩
          have J5 := Lib.hid j5
          obtain ⟨A5, c5, rfl⟩ := r5.form
          have G5 := J5.out.2.2.1
          have hq5g : q5 ≠ g := by omega
          as_aux_lemma =>
            have hq5w : w.heap.size ≤ q5 := by have := G4.size; omega
            have RS := Lib.hid (rows_same A5 A c5 c L w5 r5.rr (HA.out.grow G5) (by omega))
            clear r5 j5 OP
            go_wp2_with fail
            refine RS.out.mono ?_
            rintro _ w6 ⟨rfl, g6⟩
            have J6 := Lib.hid (J5.out.grown g6)
            have LG := Lib.hid (log_any w.heap.size g _ w6 J6.out.1 (by show (logP L).length ≤ _; have := HN2.out; omega))
            clear RS
            go_wp2_with fail
            refine LG.out.mono ?_
            rintro _ w7 ⟨⟨v7, rfl, o7⟩, g7⟩
            obtain ⟨A7, c7, rfl⟩ := own_slice o7
            have J7 := Lib.hid (J6.out.grown g7)
            have en : (jsD L [] k5 o5).L.length = n := HN2.out
            rw [en]
            clear o7 LG en
            have ka := J7.out.2.1.c1
            go_wp2_with fail
            refine (count_eq q5 _ _ ka).mono ?_
            rintro _ wz ⟨rfl, hz⟩
            rw [hz]
            clear hz wz
            have AD := Lib.hid (js_addr J7.out (by omega) hq5g hq5w Am cm m HM.out BM.out (by omega) HT.out)
            clear ka
            go_wp2_with fail
            refine AD.out.mono ?_
            rintro _ w8 ⟨rfl, j8⟩
            as_aux_lemma =>
              have J8 := Lib.hid j8
              clear j8 AD
              have kb := js_bounds J8.out (by omega)
              have kk := J8.out.2.2.2.2.2.2.2
              have OP2 := Lib.hid (torn_open (i := L.length + 1 + 1) (t := []) (by have := J8.out.1; rwa [js_td] at this) J8.out.2.2.1 J8.out.2.2.2.2.1 J8.out.2.2.2.2.2.1 (by simp) (by omega) (by omega) (by omega) (by simp) (by simp) (by decide) HT.out)
              clear kb kk
              go_wp2_with fail
              refine OP2.out.mono ?_
              rintro _ w9 ⟨q9, s9, l9, k9, o9, rfl, r9, j9, hq9⟩
              have J9 := Lib.hid j9
              have G9 := J9.out.2.2.1
              obtain ⟨A9, c9, rfl⟩ := r9.form
              have R9 := r9.rr L.length m (by simp)
              obtain ⟨b9, off9, Ax9, cx9, rfl, hb9, hc9, hh9⟩ := R9
              rw [show (L ++ [m]).length = L.length + 1 by simp]
              have y1 : (L.length : Int) < (L.length : Int) + 1 := by omega
              have y0 : (0 : Int) ≤ (L.length : Int) := by omega
              have y3 : IntKind.i64.wrap ((L.length : Int) + 1) = (L.length : Int) + 1 := by rw [IntKind.wrap_i64]; omega
              obtain ⟨s, hs⟩ : ∃ s, s = strOfNums m := ⟨_, rfl⟩
              have SD : Hid (w9.drew.cell? ⟨b9, off9 + L.length, none⟩ = some (.slice Ax9 m.length cx9) ∧ (convert 33 9 (.slice Ax9 m.length cx9)).run Tryd.prog w9.drew = .ok (.string s) w9.drew ∧ (convert 33 9 (.slice Am m.length cm)).run Tryd.prog w9.drew = .ok (.string s) w9.drew) := by
                refine ⟨hc9, ?_, ?_⟩
                · rw [hs]; exact conv_string (hh9.only (only_drew (only_refl w9 none)) (Nat.le_refl _) (fun _ h => by cases h)) cx9
                · rw [hs]; exact conv_string (HM.out.only (only_drew G9) (Nat.le_refl _) (fun _ h => by cases h)) cm
              have GD := only_drew G9
              clear hs hc9 hh9 r9 j9 OP2
              go_wp2_with fail
              go_region_held3 (fun V => V.cell? ⟨b9, off9 + L.length, none⟩ = some (.slice Ax9 m.length cx9) ∧ (convert 33 9 (.slice Ax9 m.length cx9)).run Tryd.prog V = .ok (.string s) V ∧ (convert 33 9 (.slice Am m.length cm)).run Tryd.prog V = .ok (.string s) V) (first | exact SD.out) ((first | fail))
              go_wp2_with fail
              go_ret
              exact ⟨rfl, GD⟩
end Go.Proofs.YtpfahfakinonnaaDoor
