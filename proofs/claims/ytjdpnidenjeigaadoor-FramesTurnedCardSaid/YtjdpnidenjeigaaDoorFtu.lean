/- The walk of FramesTurned: it returns true for every input. Asked of the world: the table's cells. -/
import Derived.Test.YtjdpnidenjeigaaDoorFtp
namespace Go.Proofs.YtjdpnidenjeigaaDoor
open Go.RowKit Go.ChangeShapes

theorem cut_later {G T : Prop} (main : (Unit → T) → G) (pf : T) : G := main fun _ => pf
set_option maxRecDepth 100000 in
set_option maxHeartbeats 4000000 in
theorem turned_core (A : Option Addr) (ca : Nat) (L : List (List Int)) (at' bit : Int) (w : World) (hA : RR w A L) (hb : ∀ l ∈ L, ∀ x ∈ l, 0 ≤ x ∧ x ≤ 255) (hl : ∀ x ∈ L, x.length ≤ 300) (hn : L.length ≤ 10) (hpos : 0 < L.length) (hcap : L.length ≤ ca)
    (e1 : -9223372036854775808 ≤ at') (e2 : at' ≤ 9223372036854775807) (b1 : -9223372036854775808 ≤ bit) (b2 : bit ≤ 9223372036854775807) (hT : Tab w) :
    Calls Tryd.prog 7 #[.slice A L.length ca, .int .i64 at', .int .i64 bit] w fun e w' => e = .returned (.bool true) ∧ w.grownBy w' none := by
  have HA := Lib.hid hA
  have HB := Lib.hid hb
  have HL := Lib.hid hl
  have HT := Lib.hid hT
  have n0 : ((L.length : Int) == 0) = false := by rw [beq_eq_false_iff_ne]; omega
  have n0' : ¬ (L.length : Int) = 0 := by omega
  have nl0 : (0 : Int) ≤ (L.length : Int) := by omega
  obtain ⟨b, off, rfl⟩ : ∃ b off, A = some ⟨b, off, none⟩ := by
    obtain ⟨b, off, _, _, h, _⟩ := hA 0 _ (List.getElem?_eq_getElem hpos); exact ⟨b, off, h⟩
  -- hit
  have k1 := Int.emod_nonneg at' (show (L.length : Int) ≠ 0 by omega)
  have k2 := Int.emod_lt_of_pos at' (show (0 : Int) < (L.length : Int) by omega)
  obtain ⟨hit, hh⟩ : ∃ k : Nat, at' % (L.length : Int) = k := ⟨(at' % (L.length : Int)).toNat, by omega⟩
  have hhl : hit < L.length := by omega
  have WH : ∀ W, Hid (Calls Tryd.prog 14 #[.int .i64 at', .int .i64 L.length] W fun e w' => e = .returned (.int .i64 hit) ∧ W = w') := fun W => by rw [← hh]; exact within_any at' L.length e1 e2 (by omega) (by omega) W
  obtain ⟨x, hx⟩ : ∃ x, L[hit]? = some x := ⟨_, List.getElem?_eq_getElem hhl⟩
  have hxl := hl x (List.mem_of_getElem? hx)
  have hi0 : (0 : Int) ≤ (hit : Int) := by omega
  have hi1 : (hit : Int) < (L.length : Int) := by omega
  -- which byte
  obtain ⟨d, hd⟩ : ∃ d, d = at'.tdiv (L.length : Int) := ⟨_, rfl⟩
  have hd2 : -9223372036854775808 ≤ d ∧ d ≤ 9223372036854775807 := by
    have h1 := Int.natAbs_tdiv_le_natAbs at' (L.length : Int)
    rw [← hd] at h1
    by_cases h0 : 0 ≤ at'
    · have := Int.tdiv_nonneg h0 (show (0 : Int) ≤ (L.length : Int) by omega); omega
    · have h3 : at'.tdiv (L.length : Int) = -((-at').tdiv (L.length : Int)) := by rw [Int.neg_tdiv, Int.neg_neg]
      have := Int.tdiv_nonneg (show 0 ≤ -at' by omega) (show (0 : Int) ≤ (L.length : Int) by omega)
      omega
  have wd : IntKind.i64.wrap (at'.tdiv (L.length : Int)) = d := by rw [IntKind.wrap_i64]; omega
  have s1 := Int.emod_nonneg d (show (4 + (x.length : Int)) ≠ 0 by omega)
  have s2 := Int.emod_lt_of_pos d (show (0 : Int) < 4 + (x.length : Int) by omega)
  obtain ⟨t, ht⟩ : ∃ k : Nat, d % (4 + (x.length : Int)) = k := ⟨(d % (4 + (x.length : Int))).toNat, by omega⟩
  have htl : t < 4 + x.length := by omega
  have WT : ∀ W, Hid (Calls Tryd.prog 14 #[.int .i64 d, .int .i64 (4 + (x.length : Int))] W fun e w' => e = .returned (.int .i64 t) ∧ W = w') := fun W => by rw [← ht]; exact within_any d (4 + (x.length : Int)) hd2.1 hd2.2 (by omega) (by omega) W
  have q1 := Int.emod_nonneg bit (show (8 : Int) ≠ 0 by omega)
  have q2 := Int.emod_lt_of_pos bit (show (0 : Int) < 8 by omega)
  obtain ⟨sb, hsb⟩ : ∃ k : Nat, bit % 8 = k := ⟨(bit % 8).toNat, by omega⟩
  have hsl : sb < 8 := by omega
  have WB : ∀ W, Hid (Calls Tryd.prog 14 #[.int .i64 bit, .int .i64 8] W fun e w' => e = .returned (.int .i64 sb) ∧ W = w') := fun W => by rw [← hsb]; exact within_any bit 8 b1 b2 (by omega) (by omega) W
  -- the frame, the byte
  obtain ⟨y, hy⟩ : ∃ y, (frP x)[4 + t]? = some y := ⟨_, List.getElem?_eq_getElem (by rw [frP_len]; omega)⟩
  have hyb := frP_byte x (hb x (List.mem_of_getElem? hx)) y (List.mem_of_getElem? hy)
  obtain ⟨yn, rfl⟩ : ∃ m : Nat, y = m := ⟨y.toNat, by omega⟩
  obtain ⟨p, hp⟩ : ∃ p, p = 2 ^ sb := ⟨_, rfl⟩
  have hp8 : p < 256 := by rw [hp]; exact Nat.lt_of_lt_of_le (Nat.pow_lt_pow_right (by decide) hsl) (by decide)
  have hp0 : 0 < p := by rw [hp]; exact Nat.pow_pos (by decide)
  have wp2 : IntKind.u8.wrap ((2 : Int) ^ sb) = (p : Int) := by
    have h : ((2 : Int) ^ sb) = ((2 ^ sb : Nat) : Int) := by simp
    have := IntKind.wrap_u8 ((2 : Int) ^ sb); rw [this, h, ← hp]; omega
  obtain ⟨v, hv⟩ : ∃ v, v = yn ^^^ p := ⟨_, rfl⟩
  have hv8 : v < 256 := by rw [hv]; exact Nat.xor_lt_two_pow (n := 8) (by omega) hp8
  have wx : bits .xor .u8 (yn : Int) (p : Int) = (v : Int) := by rw [u8_xor_nat yn p (by omega) hp8, hv]
  have hvy : (v : Int) ≠ (yn : Int) := by
    intro h
    have h2 : v = yn := by omega
    have h3 := congrArg (yn ^^^ ·) h2
    rw [hv] at h3
    simp [← Nat.xor_assoc] at h3
    omega
  have wsb : IntKind.u64.wrap (sb : Int) = (sb : Int) := by have := IntKind.wrap_u64 (sb : Int); rw [this]; omega
  obtain ⟨M, hM⟩ : ∃ M, M = logP L := ⟨_, rfl⟩
  obtain ⟨st, hst⟩ : ∃ st, st = (logP (L.take hit)).length := ⟨_, rfl⟩
  have SC := scan_turned L hb hl hit x hx (4 + t) v yn (by omega) ⟨by omega, by omega⟩ hy hvy
  have OT := one_turned x (hb x (List.mem_of_getElem? hx)) (hl x (List.mem_of_getElem? hx)) (4 + t) v yn (by omega) ⟨by omega, by omega⟩ hy hvy
  have MB := logP_byte L hb
  have ML := logP_bound L hl
  rw [← hM, ← hst] at SC
  rw [← hM] at MB ML
  have hsplit : M = logP (L.take hit) ++ (frP x ++ logP (L.drop (hit + 1))) := by
    have e : L = L.take hit ++ (x :: L.drop (hit + 1)) := by
      have hi := (List.getElem?_eq_some_iff.1 hx)
      rw [← hi.2, ← List.drop_eq_getElem_cons hi.1, List.take_append_drop]
    rw [hM, show logP L = logP (L.take hit ++ (x :: L.drop (hit + 1))) by rw [← e]]
    unfold logP
    rw [List.flatMap_append]; rfl
  have hMlen : st + (8 + x.length) ≤ M.length := by rw [hsplit, List.length_append, List.length_append, frP_len, ← hst]; omega
  have hMat : M[st + (4 + t)]? = some (yn : Int) := by
    rw [hsplit, List.getElem?_append_right (by omega), ← hst, Nat.add_sub_cancel_left, List.getElem?_append_left (by rw [frP_len]; omega)]; exact hy
  have hslice : ((M.set (st + (4 + t)) (v : Int)).drop st).take (8 + x.length) = (frP x).set (4 + t) (v : Int) := by
    rw [hsplit, set_r _ _ _ _ (by omega), ← hst, Nat.add_sub_cancel_left, set_l _ _ _ _ (by rw [frP_len]; omega), List.drop_left' hst.symm]
    exact List.take_left' (by rw [List.length_set, frP_len]; omega)
  have mb : M.length ≤ 3080 := by
    have : L.length * 308 ≤ 10 * 308 := Nat.mul_le_mul_right _ hn
    omega
  have stM : st ≤ M.length := by omega
  have HM := Lib.hid hM
  have HST := Lib.hid hst
  have SC' := Lib.hid SC
  have OT' := Lib.hid OT
  have MB' := Lib.hid MB
  have HMAT := Lib.hid hMat
  have HSL := Lib.hid hslice
  have HX := Lib.hid hx
  have HHL := Lib.hid hhl
  have VY := Lib.hid hvy
  clear hM hst SC OT MB ML hsplit hMat hslice hx hA hb hl hT hh k1 k2 hd ht hsb q1 q2 s1 s2 hy hp hv hvy hd2 hyb
  go_enter Tryd.func7, Tryd.ntmps7
  go_wp2_with fail
  refine (known_any w HT.out).mono ?_
  rintro _ w1 ⟨rfl, g1⟩
  have G1 := Lib.hid g1
  clear g1
  have R1 := HA.out.grow G1.out
  have R1' := Lib.hid R1
  clear R1
  go_wp2_with fail
  refine (few_is (some ⟨b, off, none⟩) ca L true (iff_yes' ⟨HL.out, hn⟩) w1 R1'.out (by unfold maxLen; omega)).mono ?_
  rintro _ w2 ⟨rfl, rfl⟩
  go_wp2_with fail
  refine (WH _).out.mono ?_
  rintro _ w2 ⟨rfl, rfl⟩
  go_wp2_with fail
  refine (log_any (some ⟨b, off, none⟩) ca L w1 R1'.out HB.out HL.out hn).mono ?_
  rintro _ w3 ⟨v3, rfl, o3, g3⟩
  rw [← HM.out] at o3
  obtain ⟨A3, c3, rfl⟩ := own_slice o3
  have O3 := Lib.hid o3
  have G3 : Hid (w.grownBy w3 none) := only_step G1.out g3 (fun _ h => by cases h)
  have D3 : Hid (w1.grownBy w3 none) := g3
  have R3 := Lib.hid (R1'.out.grow g3)
  clear o3 g3 WH R1'
  go_wp2_with fail
  go_loopw [9, 10] (fun s9 s10 wr => ∃ i s : Nat, i ≤ hit ∧ s10 = .int .i64 i ∧ s9 = .int .i64 s ∧ s ≤ 3080 ∧ Hid (s = (logP (L.take i)).length) ∧ wr = w3) (fun _ s10 _ => hit - (intOf s10).toNat)
  case atStart => exact ⟨0, 0, Nat.zero_le _, rfl, rfl, by omega, rfl, rfl⟩
  case round =>
    obtain ⟨i, s, hi, rfl, rfl, hs3, HS, rfl⟩ := hrel
    by_cases hlt : i < hit
    · have v1 : (i : Int) < (hit : Int) := by omega
      have v0 : (0 : Int) ≤ (i : Int) := by omega
      have v2 : (i : Int) < (L.length : Int) := by omega
      have vs : IntKind.i64.wrap ((i : Int) + 1) = (i : Int) + 1 := by rw [IntKind.wrap_i64]; omega
      obtain ⟨z, hz⟩ : ∃ z, L[i]? = some z := ⟨_, List.getElem?_eq_getElem (by omega)⟩
      obtain ⟨b', off', Az, cz, e, hbz, hcz, _⟩ := R3.out i z hz
      obtain ⟨rfl, rfl⟩ : b = b' ∧ off = off' := by simpa using e
      have TS := congrArg List.length (logT_succ L i z hz)
      rw [List.length_append, frP_len] at TS
      have z3 := HL.out z (List.mem_of_getElem? hz)
      have tb : (logP (L.take (i + 1))).length ≤ 3080 := by
        have h1 := logP_bound (L.take (i + 1)) (fun y hy => HL.out y (List.mem_of_mem_take hy))
        have h2 : (L.take (i + 1)).length ≤ 10 := by rw [List.length_take]; omega
        have h3 : (L.take (i + 1)).length * 308 ≤ 10 * 308 := Nat.mul_le_mul_right _ h2
        omega
      have TS' : Hid (s + 8 + z.length = (logP (L.take (i + 1))).length) := by rw [← TS, HS.out]; show _ + 8 + _ = _; omega
      have tb' : s + 8 + z.length ≤ 3080 := by rw [TS'.out]; exact tb
      have w1' : IntKind.i64.wrap ((s : Int) + 8) = (s : Int) + 8 := by rw [IntKind.wrap_i64]; omega
      have w2' : IntKind.i64.wrap ((s : Int) + 8 + (z.length : Int)) = (s : Int) + 8 + (z.length : Int) := by rw [IntKind.wrap_i64]; omega
      clear hz TS tb e
      go_wp2_with fail
      exact ⟨⟨i + 1, s + 8 + z.length, by omega, by go_num, by go_num, tb', TS', trivial⟩, by simp [intOf]; omega⟩
    · have v1 : ¬ (i : Int) < (hit : Int) := by omega
      obtain rfl : i = hit := by omega
      obtain rfl : s = st := by rw [HS.out, HST.out]
      obtain ⟨b', off', Ax, cx, e, hbx, hcx, _⟩ := R3.out i x HX.out
      obtain ⟨rfl, rfl⟩ : b = b' ∧ off = off' := by simpa using e
      clear e
      have y1 : IntKind.i64.wrap (4 + (x.length : Int)) = 4 + (x.length : Int) := by rw [IntKind.wrap_i64]; omega
      have y2 : IntKind.i64.wrap ((s : Int) + 4) = (s : Int) + 4 := by rw [IntKind.wrap_i64]; omega
      obtain ⟨K, hK⟩ : ∃ K, K = s + (4 + t) := ⟨_, rfl⟩
      have y3 : IntKind.i64.wrap ((s : Int) + 4 + (t : Int)) = (K : Int) := by rw [IntKind.wrap_i64]; omega
      have KM : (K : Int) < (M.length : Int) := by omega
      have K0 : (0 : Int) ≤ (K : Int) := by omega
      have HMAT' := HMAT.out
      have HSL' := HSL.out
      have SC2 := SC'.out
      rw [← hK] at HMAT' HSL' SC2
      have HMAT2 := Lib.hid HMAT'
      have HSL2 := Lib.hid HSL'
      have SC3 := Lib.hid SC2
      obtain ⟨g, cg, hv3, hg⟩ := own_form O3.out (by omega)
      injection hv3 with ha3 hb3 hc3
      subst ha3
      clear hb3 hc3 hK HMAT' HSL' SC2
      go_wp2_with fail
      refine (WT _).out.mono ?_
      rintro _ w4 ⟨rfl, rfl⟩
      go_wp2_with fail
      have cK : wr.drew.cell? ⟨g, K, none⟩ = some (.int .u8 yn) := by
        have := O3.out.cells (g := g) rfl K (.int .u8 yn) (by simp only [bs, List.getElem?_map, HMAT2.out]; rfl)
        rw [Addr.add_lit, Nat.zero_add] at this
        exact this
      have fK : wr.drew.frozen? ⟨g, K, none⟩ = false := O3.out.frozenAt K
      have ST2 := O3.out.stored K (.int .u8 v)
      rw [show (bs M).set K (.int .u8 v) = bs (M.set K (v : Int)) by simp [bs, List.map_set]] at ST2
      have O4 := Lib.hid ST2.1
      have D4 := Lib.hid ST2.2
      have hsb0 : (0 : Int) ≤ (sb : Int) := by omega
      have hsb8 : (sb : Int) ≤ 8 := by omega
      clear ST2
      apply cut_later
      · intro key
        go_region_with (go_at_call 14; refine (WB _).out.mono ?_; rintro e wa ⟨rfl, rfl⟩)
        all_goals exact key ()
      clear cK fK
      obtain ⟨W, hW⟩ : ∃ W, W = (wr.setCell ⟨g, K, none⟩ (.int .u8 v)).drew := ⟨_, rfl⟩
      rw [← hW]
      have O5 : Hid (W.ownsRow w1.heap.size 5 1 (.slice (some ⟨g, 0, none⟩) M.length c3) M.length (bs (M.set K (v : Int)))) := by
        rw [hW]; exact O4.out.kept (only_drew (only_refl _ none)) (by cases (Value.slice (some ⟨g, 0, none⟩) M.length c3).ownBlock <;> simp)
      have GW1 : Hid (w1.grownBy W none) := by
        rw [hW]; exact only_drew (only_step D3.out D4.out (fun k hk => by cases hk; exact .inr hg))
      have GW : Hid (w.grownBy W none) := only_step G1.out GW1.out (fun _ h => by cases h)
      obtain ⟨Y, hY⟩ : ∃ Y, Y = M.set K (v : Int) := ⟨_, rfl⟩
      have YL := Lib.hid (show Y.length = M.length by rw [hY, List.length_set])
      have YB := Lib.hid (show ∀ z ∈ Y, 0 ≤ z ∧ z ≤ 255 from fun z hz => by
        rw [hY] at hz
        rcases List.mem_or_eq_of_mem_set hz with h | h
        · exact MB'.out z h
        · omega)
      have SC4 := SC3.out
      have HSL3 := HSL2.out
      rw [← hY] at O5 SC4 HSL3
      have HSL4 := Lib.hid HSL3
      have cM := own_cap O5.out
      have hW0 := Has.own O5.out
      have S1 := scan_any (some ⟨g, 0, none⟩) c3 Y W hW0 YB.out (by rw [YL.out]; omega) (by rw [YL.out]; exact cM) (HT.out.grow GW.out)
      rw [SC4, YL.out] at S1
      have S1' := Lib.hid S1
      have HW0 := Lib.hid hW0
      clear S1 SC4 HSL3 hW0 hW hY
      go_wp2_with fail
      refine S1'.out.mono ?_
      rintro _ w5 ⟨v5, rfl, r5, g5⟩
      obtain ⟨A5, c5, rfl⟩ := r5.form
      have TL := Lib.hid (show (L.take i).length = i by rw [List.length_take]; omega)
      rw [TL.out] at r5 ⊢
      have R5 := Lib.hid r5.rr
      have G5 : Hid (w.grownBy w5 none) := only_step GW.out g5 (fun _ h => by cases h)
      have RL5 := Lib.hid (HA.out.grow G5.out)
      obtain ⟨b', off', Bx, dx, e, hbx5, hcx5, _⟩ := RL5.out i x HX.out
      obtain ⟨rfl, rfl⟩ : b = b' ∧ off = off' := by simpa using e
      clear e
      obtain ⟨Fx, hFx⟩ : ∃ Fx, Fx = (frP x).set (4 + t) (v : Int) := ⟨_, rfl⟩
      have FXL := Lib.hid (show Fx.length = 8 + x.length by rw [hFx, List.length_set, frP_len]; omega)
      have OTx := OT'.out
      have HSL5 := HSL4.out
      rw [← hFx] at OTx HSL5
      have hFh : Has w5 w5.heap.size (some ⟨g, s, none⟩) (bs Fx) := by
        have h1 := ((HW0.out.drop' (n := s) (by rw [YL.out]; omega)).take (8 + x.length))
        simp only [Option.map_some, Addr.add_lit, Nat.zero_add] at h1
        rw [show (bs (Y.drop s)).take (8 + x.length) = bs ((Y.drop s).take (8 + x.length)) by simp [bs, List.map_take], HSL5] at h1
        exact (h1.only g5 (Nat.le_refl _) (fun _ h => by cases h)).more g5.size
      have O1 := one_any (some ⟨g, s, none⟩) (c3 - s) Fx w5 hFh (fun z hz => by rw [← HSL5] at hz; exact YB.out z (List.mem_of_mem_drop (List.mem_of_mem_take hz))) (by rw [FXL.out]; omega) (by rw [FXL.out]; omega) (HT.out.grow G5.out)
      rw [OTx, FXL.out] at O1
      have O1' := Lib.hid O1
      have z1 : IntKind.i64.wrap ((s : Int) + 8) = (s : Int) + 8 := by rw [IntKind.wrap_i64]; omega
      have z2 : IntKind.i64.wrap ((s : Int) + 8 + (x.length : Int)) = (s : Int) + 8 + (x.length : Int) := by rw [IntKind.wrap_i64]; omega
      have z3 : (0 : Int) ≤ (s : Int) := by omega
      have z4 : (s : Int) ≤ (s : Int) + 8 + (x.length : Int) := by omega
      have z5 : (s : Int) + 8 + (x.length : Int) ≤ (c3 : Int) := by omega
      have z6 : ((s : Int) + 8 + (x.length : Int)).toNat = s + 8 + x.length := by omega
      have z7 : s + 8 + x.length - s = 8 + x.length := by omega
      have z8 : ¬ c3 = s := by omega
      have z9 : (0 : Int) ≤ (s : Int) + 8 + (x.length : Int) := by omega
      clear r5 g5 S1' O1 OTx HSL5 hFh hFx
      go_wp2_with fail
      refine O1'.out.mono ?_
      rintro _ w6 ⟨v6, rfl, q6, g6⟩
      have G6 : Hid (w.grownBy w6 none) := only_step G5.out g6 (fun _ h => by cases h)
      have RS := rows_same A5 (some ⟨b, off, none⟩) c5 ca (L.take i) w6 (R5.out.grow g6) ((HA.out.grow G6.out).take i) (by rw [TL.out]; omega)
      rw [TL.out] at RS
      have RS' := Lib.hid RS
      have Q6 := Lib.hid q6
      have i0 : (i : Int) ≤ (ca : Int) := by omega
      have ii : (0 : Int) ≤ (i : Int) := by omega
      clear RS g6 O1' z1 z2 z3 z4 z5 z6 z7 z8 z9 q6
      go_wp2_with fail
      refine RS'.out.mono ?_
      rintro _ w7 ⟨rfl, g7⟩
      go_wp2_with fail
      go_ret
      exact ⟨rfl, only_step G6.out g7 (fun _ h => by cases h)⟩

theorem framesTurned_walk (A : Option Addr) (ca : Nat) (L : List (List Int)) (at' bit : Int) (w : World) (hA : RR w A L) (hb : ∀ l ∈ L, ∀ x ∈ l, 0 ≤ x ∧ x ≤ 255) (hcap : L.length ≤ ca) (hmax : L.length ≤ maxLen)
    (e1 : -9223372036854775808 ≤ at') (e2 : at' ≤ 9223372036854775807) (b1 : -9223372036854775808 ≤ bit) (b2 : bit ≤ 9223372036854775807) (hT : Tab w) :
    Calls Tryd.prog 7 #[.slice A L.length ca, .int .i64 at', .int .i64 bit] w fun e w' => e = .returned (.bool true) ∧ w.grownBy w' none := by
  rcases Nat.eq_zero_or_pos L.length with h0 | h0
  · have n0 : ((L.length : Int) == 0) = true := by rw [beq_iff_eq]; omega
    have HT := Lib.hid hT
    have HL := Lib.hid h0
    clear hA hb hT h0
    go_enter Tryd.func7, Tryd.ntmps7
    go_wp2_with fail
    refine (known_any w HT.out).mono ?_
    rintro _ w1 ⟨rfl, g1⟩
    go_wp2_with fail
    go_ret
    exact ⟨rfl, g1⟩
  · by_cases hf : (∀ x ∈ L, x.length ≤ 300) ∧ L.length ≤ 10
    · exact turned_core A ca L at' bit w hA hb hf.1 hf.2 h0 hcap e1 e2 b1 b2 hT
    · have n0 : ((L.length : Int) == 0) = false := by rw [beq_eq_false_iff_ne]; omega
      have HT := Lib.hid hT
      have HA := Lib.hid hA
      have HF := Lib.hid hf
      have HM := Lib.hid hmax
      clear hA hb hT hf hmax h0
      go_enter Tryd.func7, Tryd.ntmps7
      go_wp2_with fail
      refine (known_any w HT.out).mono ?_
      rintro _ w1 ⟨rfl, g1⟩
      have G1 := Lib.hid g1
      clear g1
      go_wp2_with fail
      refine (few_is A ca L false ⟨fun e => (by cases e), fun e => absurd e HF.out⟩ w1 (HA.out.grow G1.out) HM.out).mono ?_
      rintro _ w2 ⟨rfl, rfl⟩
      go_wp2_with fail
      go_ret
      exact ⟨rfl, G1.out⟩
end Go.Proofs.YtjdpnidenjeigaaDoor
