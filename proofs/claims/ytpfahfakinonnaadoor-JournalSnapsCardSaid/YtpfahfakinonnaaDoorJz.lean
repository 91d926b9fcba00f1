/- JournalSnaps: the law. No condition of the program's own. -/
import Derived.Test.YtpfahfakinonnaaDoorJy
import Derived.Deep.RegionHeld3
namespace Go.Proofs.YtpfahfakinonnaaDoor
open Go.RowKit Go.Deep
theorem JS.grow {w wr w' : World} {g q i : Nat} {recs : List (List Int)} {S sx : List Int} {k o : Int} (h : JS w wr g q i recs S sx k o) (hg : wr.grownBy w' none) : JS w w' g q i recs S sx k o := by
  obtain ⟨D, J, G, hS, bR, lR, nR, hk, ho⟩ := h
  exact ⟨D.below hg, J.grow hg, only_step G hg (fun _ hk => .inl hk), hS, bR, lR, nR, hk, ho⟩
set_option maxRecDepth 100000 in
set_option maxHeartbeats 2000000 in
theorem snaps_run (A : Option Addr) (c : Nat) (L : List (List Int)) (ev : Int) (w : World) (hA : RR w A L) (bL : ∀ l ∈ L, ∀ x ∈ l, 0 ≤ x ∧ x ≤ 255) (h20 : L.length ≤ 20) (e1 : -9223372036854775808 ≤ ev) (e2 : ev ≤ 9223372036854775807) (hT : Tab w) :
    Calls Tryd.prog 7 #[.slice A L.length c, .int .i64 ev] w fun e w' => e = .returned (.bool true) ∧ w.grownBy w' none := by
  have KN := Lib.hid (known_any w hT)
  have t0 : ¬ (20 : Int) < L.length := by omega
  obtain ⟨m, hm⟩ : ∃ m, ev % 5 = m := ⟨_, rfl⟩
  have WI := Lib.hid fun W => within_any ev 5 e1 e2 (by decide) (by decide) W
  rw [hm] at WI
  have m1 : 0 ≤ m := by omega
  have m2 : m < 5 := by omega
  have hw : IntKind.i64.wrap (1 + m) = 1 + m := by rw [IntKind.wrap_i64]; omega
  have hw2 : IntKind.i64.wrap (1 + m - 1) = m := by rw [IntKind.wrap_i64]; omega
  have hm0 : ((1 + m) == 0) = false := by rw [beq_eq_false_iff_ne]; omega
  have hmn : ¬ (1 + m) = 0 := by omega
  have HT := Lib.hid hT
  have HA := Lib.hid hA
  clear hm e1 e2 hT hA
  go_enter Tryd.func7, Tryd.ntmps7
  go_wp2_with fail
  refine KN.out.mono ?_
  rintro _ w0 ⟨rfl, g0⟩
  have z0 := g0.size
  go_wp2_with fail
  refine (WI.out _).mono ?_
  rintro _ wz ⟨rfl, hz⟩
  rw [hz]
  clear hz wz
  have NW := Lib.hid (new_any w.heap.size 100000 w0 (by decide) (by decide) z0)
  rw [js_new] at NW
  go_wp2_with fail
  refine NW.out.mono ?_
  rintro _ w1 ⟨g, rfl, D1, g1⟩
  have glt := D1.lt
  have g01 := only_step g0 g1 (fun _ hk => .inl hk)
  have OP := Lib.hid (open_js w.heap.size g [] [] [] 0 0 w1 D1 (.inl ⟨rfl, rfl⟩) (by simp) (by simp) (by simp) (HT.out.grow g01))
  go_wp2_with fail
  refine OP.out.mono ?_
  rintro _ w2 ⟨q, sv, lv, rfl, _, _, J2, hq2, g2⟩
  have hqg : q ≠ g := by omega
  have hqw : w.heap.size ≤ q := by have := g01.size; omega
  have J0 : Hid (JS w w2 g q 0 [] [] [] 0 0) := ⟨D1.below g2, J2, only_step g01 g2 (fun _ hk => .inl hk), .inl ⟨rfl, rfl⟩, by simp, by simp, by simp, by omega, by omega⟩
  clear D1 OP NW KN J2 g2 g1 g0 g01
  go_wp2_with fail
  go_loopw [11, 12, 13] (fun ss sn si wr => ∃ (i : Nat) (recs : List (List Int)) (S sx : List Int) (k o : Int), i ≤ L.length ∧ si = .int .i64 i ∧ ss = .string (strOfNums sx) ∧ sn = .int .i64 recs.length ∧ Hid (JS w wr g q i recs S sx k o)) (fun _ _ si _ => L.length - (intOf si).toNat)
  case atStart => exact ⟨0, [], [], [], 0, 0, Nat.zero_le _, rfl, by rfl, rfl, J0⟩
  case round =>
    obtain ⟨i, recs, S, sx, k, o, hi, rfl, rfl, rfl, JW⟩ := hrel
    by_cases hlt : i < L.length
    · have v1 : (i : Int) < (L.length : Int) := by omega
      have v0 : (0 : Int) ≤ (i : Int) := by omega
      have vs : IntKind.i64.wrap ((i : Int) + 1) = (i : Int) + 1 := by rw [IntKind.wrap_i64]; omega
      obtain ⟨x, hx⟩ : ∃ x, L[i]? = some x := ⟨_, List.getElem?_eq_getElem hlt⟩
      have bx := Lib.hid (bL x (List.mem_of_getElem? hx))
      have hh := (HA.out.grow JW.out.2.2.1) i x hx
      obtain ⟨b, off, Ax, cx, rfl, hb, hc, _⟩ := hh
      have IL : i < 20 := by omega
      by_cases h2 : 200 < x.length
      · have t2 : (200 : Int) < x.length := by omega
        go_wp2_with fail
        go_ret
        exact ⟨rfl, JW.out.2.2.1⟩
      have t2 : ¬ (200 : Int) < x.length := by omega
      have hxw : Has w w.heap.size Ax (bs x) := by
        obtain ⟨b', off', Ax', cx', he, hb', hc', hh'⟩ := HA.out i x hx
        injection he with he
        injection he with he1 he2
        subst he1; subst he2
        have e1 := (World.cell?_of_block (a := ⟨b, off + i, none⟩) (JW.out.2.2.1.block b hb' (by simp))).symm.trans hc
        rw [hc'] at e1
        injection e1 with e1
        injection e1 with e1 _ _
        subst e1
        exact hh'
      have HX := Lib.hid hxw
      clear hxw
      have CELL := Lib.hid fun (W : World) (hW : w.grownBy W none) => show W.cell? ⟨b, off + i, none⟩ = some (.slice Ax x.length cx) from by
        obtain ⟨b', off', Ax', cx', he, hb', hc', hh'⟩ := HA.out i x hx
        injection he with he
        injection he with he1 he2
        subst he1; subst he2
        have e1 := (World.cell?_of_block (a := ⟨b, off + i, none⟩) (JW.out.2.2.1.block b hb' (by simp))).symm.trans hc
        have e2 := (World.cell?_of_block (a := ⟨b, off + i, none⟩) (hW.block b hb' (by simp)))
        exact e2.trans e1
      have CONV := Lib.hid fun (W : World) (hW : w.grownBy W none) => show (convert 33 9 (.slice Ax x.length cx)).run Tryd.prog W = .ok (.string (strOfNums x)) W from conv_string (HX.out.only hW (Nat.le_refl _) (fun _ h => by cases h)) cx
      by_cases hmod : (i : Int) % (1 + m) = m
      · have tm : ((i : Int) % (1 + m) == m) = true := by rw [beq_iff_eq]; exact hmod
        have SN := Lib.hid (js_snap JW.out IL hqg hqw Ax cx x HX.out bx.out (by omega) HT.out)
        go_wp2_with fail
        refine SN.out.mono ?_
        rintro _ w3 ⟨rfl, j3⟩
        have J3 := Lib.hid j3
        clear j3 SN
        have G3 := J3.out.2.2.1
        have CL := CELL.out _ G3
        have CV := CONV.out _ G3
        have OP := Lib.hid (open_js w.heap.size g [] (frP x) x (k + 1) (o + 1) w3 J3.out.1 J3.out.2.2.2.1 J3.out.2.2.2.2.1 J3.out.2.2.2.2.2.1 (by have := J3.out.2.2.2.2.2.2.1; omega) (HT.out.grow G3))
        clear hc
        go_wp2_with fail
        refine OP.out.mono ?_
        rintro _ w4 ⟨q4, sv4, lv4, rfl, cv4, ⟨A4, c4, rfl⟩, JQ4, _, g4⟩
        have J4 := Lib.hid (J3.out.grow g4)
        have ka := J4.out.2.1.c1
        have kb := JQ4.c1
        have cv := cv4 w4 (only_refl _ _)
        clear CL CV OP cv4
        go_wp2_with fail
        refine (count_eq q _ _ ka).mono ?_
        rintro _ wz ⟨rfl, hz⟩
        rw [hz]
        clear hz wz
        go_wp2_with fail
        refine (count_eq q4 _ _ kb).mono ?_
        rintro _ wz ⟨rfl, hz⟩
        rw [hz]
        clear hz wz
        go_wp2_with fail
        exact ⟨⟨i + 1, [], (frP x), x, (k + 1), (o + 1), by omega, by go_num, rfl, (by rfl), J4⟩, (by simp [intOf]; omega)⟩
      · have tm : ((i : Int) % (1 + m) == m) = false := by rw [beq_eq_false_iff_ne]; exact hmod
        have AD := Lib.hid (js_addr JW.out IL hqg hqw Ax cx x HX.out bx.out (by omega) HT.out)
        have hn1 : IntKind.i64.wrap ((recs.length : Int) + 1) = (recs.length : Int) + 1 := by have := JW.out.2.2.2.2.2.2.1; rw [IntKind.wrap_i64]; omega
        go_wp2_with fail
        refine AD.out.mono ?_
        rintro _ w3 ⟨rfl, j3⟩
        have J3 := Lib.hid j3
        clear j3 AD
        have G3 := J3.out.2.2.1
        have CL := CELL.out _ G3
        have CV := CONV.out _ G3
        have OP := Lib.hid (open_js w.heap.size g (recs ++ [x]) S sx (k + 2) (o + 2) w3 J3.out.1 J3.out.2.2.2.1 J3.out.2.2.2.2.1 J3.out.2.2.2.2.2.1 (by have := J3.out.2.2.2.2.2.2.1; omega) (HT.out.grow G3))
        clear hc
        go_wp2_with fail
        refine OP.out.mono ?_
        rintro _ w4 ⟨q4, sv4, lv4, rfl, cv4, ⟨A4, c4, rfl⟩, JQ4, _, g4⟩
        have J4 := Lib.hid (J3.out.grow g4)
        have ka := J4.out.2.1.c1
        have kb := JQ4.c1
        have cv := cv4 w4 (only_refl _ _)
        clear CL CV OP cv4
        go_wp2_with fail
        refine (count_eq q _ _ ka).mono ?_
        rintro _ wz ⟨rfl, hz⟩
        rw [hz]
        clear hz wz
        go_wp2_with fail
        refine (count_eq q4 _ _ kb).mono ?_
        rintro _ wz ⟨rfl, hz⟩
        rw [hz]
        clear hz wz
        go_wp2_with fail
        exact ⟨⟨i + 1, (recs ++ [x]), S, sx, (k + 2), (o + 2), by omega, by go_num, rfl, (by simp), J4⟩, (by simp [intOf]; omega)⟩
    · have v1 : ¬ (i : Int) < (L.length : Int) := by omega
      go_wp2_with fail
      go_ret
      exact ⟨rfl, JW.out.2.2.1⟩
end Go.Proofs.YtpfahfakinonnaaDoor
