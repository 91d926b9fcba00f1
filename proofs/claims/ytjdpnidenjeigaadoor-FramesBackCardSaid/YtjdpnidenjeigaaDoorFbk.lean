/- The walk of FramesBack: it returns true for every input. Asked of the world: the table's cells. -/
import Derived.Test.YtjdpnidenjeigaaDoorFsn
namespace Go.Proofs.YtjdpnidenjeigaaDoor
open Go.RowKit Go.ChangeShapes

theorem own_lit0 (w : World) : (w.alloc (.cells #[] 5)).ownsRow w.heap.size 5 1 (.slice (some ⟨w.heap.size, 0, none⟩) 0 0) ([] : List Value).length [] :=
  ⟨rfl, .inr ⟨w.heap.size, 0, #[], rfl, Nat.le_refl _, heap_alloc_new w _, Nat.le_refl _, Nat.zero_le _, rfl, rfl⟩⟩
theorem Has.srcAt {w w' : World} {A : Option Addr} {l : List Int} (h : Has w w.heap.size A (bs l)) (hg : w.grownBy w' none) (c : Nat) : Src Tryd.prog 1 22 (.slice A l.length c) (bs l).length (bs l) w' := by
  have h := ((h.only hg (Nat.le_refl _) (fun _ h => by cases h)).more hg.size).src (P := Tryd.prog) (tx := 22) Tryd.underlying22 c (bs_one _)
  rw [bs_len] at h ⊢
  exact h
theorem logR_succ (k : Nat) (l : List Int) : logP (List.replicate k l) ++ frP l = logP (List.replicate (k + 1) l) := by
  unfold logP
  rw [List.replicate_succ', List.flatMap_append]
  simp
theorem logR_len (k : Nat) (l : List Int) : (logP (List.replicate k l)).length = k * (8 + l.length) := by
  rw [logP_len, List.map_replicate, List.sum_replicate_nat]

set_option maxRecDepth 100000 in
set_option maxHeartbeats 4000000 in
theorem back_core (A : Option Addr) (ca : Nat) (l : List Int) (n : Int) (w : World) (hA : Has w w.heap.size A (bs l)) (bl : ∀ x ∈ l, 0 ≤ x ∧ x ≤ 255)
    (hl : l.length ≤ 300) (e1 : -9223372036854775808 ≤ n) (e2 : n ≤ 9223372036854775807) (hT : Tab w) :
    Calls Tryd.prog 6 #[.slice A l.length ca, .int .i64 n] w fun e w' => e = .returned (.bool true) ∧ w.grownBy w' none := by
  have t1 : ¬ (300 : Int) < (l.length : Int) := by omega
  have HA := Lib.hid hA
  have HT := Lib.hid hT
  have BL := Lib.hid bl
  have FL := frP_len l
  have OE := one_fr l [] bl (by omega)
  rw [List.append_nil, if_pos rfl] at OE
  have RE := recP_fr l [] (by omega)
  rw [List.append_nil] at RE
  have BF := Lib.hid (frP_byte l bl)
  obtain ⟨F, hF⟩ : ∃ F, F = frP l := ⟨_, rfl⟩
  have HF := Lib.hid hF
  rw [← hF] at FL OE RE BF
  have F8 : 8 ≤ F.length := by omega
  have F9 : F.length ≤ 308 := by omega
  have FL' := Lib.hid FL
  have OE' := Lib.hid OE
  have RE' := Lib.hid RE
  have w8 : IntKind.i64.wrap ((l.length : Int) + 8) = (l.length : Int) + 8 := by rw [IntKind.wrap_i64]; omega
  have n8 : ((F.length : Int) != (l.length : Int) + 8) = false := by rw [FL]; simp
  have k1 := Int.emod_nonneg n (show (4 : Int) ≠ 0 by omega)
  have k2 := Int.emod_lt_of_pos n (show (0 : Int) < 4 by omega)
  obtain ⟨q, hq⟩ : ∃ q : Nat, n % 4 = q := ⟨(n % 4).toNat, by omega⟩
  have hq4 : q < 4 := by omega
  have WQ : ∀ W, Hid (Calls Tryd.prog 14 #[.int .i64 n, .int .i64 4] W fun e w' => e = .returned (.int .i64 q) ∧ W = w') := fun W => by rw [← hq]; exact within_any n 4 e1 e2 (by omega) (by omega) W
  obtain ⟨t, ht⟩ : ∃ t, t = strOfNums l := ⟨_, rfl⟩
  have CV : ∀ W, w.grownBy W none → Hid ((convert 22 9 (.slice A l.length ca)).run Tryd.prog W = .ok (.string t) W) := fun W hW => by
    rw [ht]; exact conv_string (HA.out.only hW (Nat.le_refl _) (fun _ h => by cases h)) ca
  have Ht := Lib.hid ht
  clear hF hA bl hT FL OE RE hq k1 k2 ht
  go_enter Tryd.func6, Tryd.ntmps6
  go_wp2_with fail
  refine (known_any w HT.out).mono ?_
  rintro _ w1 ⟨rfl, g1⟩
  have G1 := Lib.hid g1
  clear g1
  go_wp2_with fail
  refine (WQ _).out.mono ?_
  rintro _ w2 ⟨rfl, rfl⟩
  go_wp2_with fail
  go_loopw [5, 6, 7, 8, 9, 10] (fun s5 s6 _ _ _ _ wr => ∃ (k : Nat) (A' : Option Addr) (c' : Nat), k ≤ q ∧ s6 = .int .i64 k ∧ s5 = .slice A' (k * (8 + l.length)) c' ∧
      Hid (wr.ownsRow w1.heap.size 5 1 (.slice A' (k * (8 + l.length)) c') (bs (logP (List.replicate k l))).length (bs (logP (List.replicate k l)))) ∧ Hid (w1.grownBy wr none)) (fun _ s6 _ _ _ _ _ => q - (intOf s6).toNat)
  case atStart =>
    refine ⟨0, _, _, Nat.zero_le _, rfl, by rw [Nat.zero_mul], ?_, World.grownBy_alloc w1 _ none⟩
    rw [Nat.zero_mul]; exact own_lit0 w1
  case round =>
    obtain ⟨k, A', c', hk, rfl, rfl, HO, hG⟩ := hrel
    have GW : Hid (w.grownBy wr none) := only_step G1.out hG.out (fun _ h => by cases h)
    by_cases hlt : k < q
    · have u1 : (k : Int) < (q : Int) := by omega
      have hes : IntKind.i64.wrap ((k : Int) + 1) = (k : Int) + 1 := by rw [IntKind.wrap_i64]; omega
      go_wp2_with fail
      refine (frame_any A ca l wr ((HA.out.only GW.out (Nat.le_refl _) (fun _ h => by cases h)).more GW.out.size) BL.out (by omega) (HT.out.grow GW.out)).mono ?_
      rintro _ w3 ⟨v3, rfl, o3, g3⟩
      rw [← HF.out] at o3
      have G3 : Hid (w.grownBy w3 none) := only_step GW.out g3 (fun _ h => by cases h)
      have D3 : Hid (w1.grownBy w3 none) := only_step hG.out g3 (fun _ h => by cases h)
      have O3 : Hid (wr.grownBy w3 none) := g3
      have h3 : Hid (w3.ownsRow wr.heap.size 5 1 v3 F.length (bs F)) := by rw [bs_len] at o3; exact o3
      obtain ⟨A3, c3, rfl⟩ := own_slice h3.out
      have c3l := own_cap h3.out
      have H3 : Hid (Has w3 w3.heap.size A3 (bs F)) := Has.own h3.out
      have N3 := one_any A3 c3 F w3 H3.out BF.out (by omega) c3l (HT.out.grow G3.out)
      rw [OE'.out] at N3
      have N3' := Lib.hid N3
      clear g3 o3 N3
      go_wp2_with fail
      refine N3'.out.mono ?_
      rintro _ w4 ⟨v4, rfl, q4, g4⟩
      unfold OneV at q4
      rw [if_pos OE'.out, RE'.out] at q4
      have G4 : Hid (w.grownBy w4 none) := only_step G3.out g4 (fun _ h => by cases h)
      have D4 : Hid (w1.grownBy w4 none) := only_step D3.out g4 (fun _ h => by cases h)
      have cv1 := (CV w4 G4.out).out
      have q4' : w4.ownsRow w3.heap.size 5 1 v4 l.length (bs l) := by rw [bs_len] at q4; exact q4
      obtain ⟨A4, c4, rfl⟩ := own_slice q4'
      have cv2 : (convert 22 9 (.slice A4 l.length c4)).run Tryd.prog w4 = .ok (.string t) w4 := by rw [Ht.out]; exact conv_string (Has.own q4') c4
      have s4 := Lib.hid (H3.out.srcAt g4 c3)
      have own4 : Hid (w4.ownsRow w1.heap.size 5 1 (.slice A' (k * (8 + l.length)) c') (bs (logP (List.replicate k l))).length (bs (logP (List.replicate k l)))) := HO.out.kept (only_step O3.out g4 (fun _ h => by cases h)) (by cases (Value.slice A' (k * (8 + l.length)) c').ownBlock <;> simp)
      have l4 : (bs (logP (List.replicate k l))).length + (bs F).length ≤ 70368744177664 := by
        rw [bs_len, bs_len, logR_len]
        have : k * (8 + l.length) ≤ 4 * 308 := Nat.mul_le_mul (by omega) (by omega)
        omega
      have z4 := D4.out.size
      clear g4 q4 q4' N3'
      go_wp2_with (at_builtin; go_loud (refine app_bytes rfl _ _ 22 rfl w1.heap.size (.slice A' (k * (8 + l.length)) c') (bs (logP (List.replicate k l))) rfl own4.out (.slice A3 F.length c3) (bs F) rfl s4.out l4 z4 ?_); intro v5 w5 g5)
      rw [← bs_append, HF.out, logR_succ] at g5
      have D5 : Hid (w1.grownBy w5 none) := only_step D4.out g5.only (fun kk hk => .inr (by
        rcases own_at own4.out with h | ⟨r, h, hr⟩
        · rw [h] at hk; cases hk
        · rw [h] at hk; cases hk; exact hr))
      obtain ⟨A5, c5, e5⟩ := own_slice g5.own
      rw [bs_len, logR_len] at e5
      subst e5
      exact ⟨⟨k + 1, A5, c5, by omega, by go_num, rfl, g5.own, D5⟩, by simp [intOf]; omega⟩
    · have u1 : ¬ (k : Int) < (q : Int) := by omega
      obtain rfl : k = q := by omega
      obtain ⟨M, hM⟩ : ∃ M, M = logP (List.replicate k l) := ⟨_, rfl⟩
      have ML := Lib.hid (logR_len k l)
      rw [← hM] at HO ML
      have mb : k * (8 + l.length) ≤ 4 * 308 := Nat.mul_le_mul (by omega) (by omega)
      obtain ⟨r, hr⟩ : ∃ r, r = k * (8 + l.length) := ⟨_, rfl⟩
      rw [← hr] at HO ML mb ⊢
      have o1 : wr.ownsRow w1.heap.size 5 1 (.slice A' r c') r (bs M) := by have := HO.out; rw [bs_len, ML.out] at this; exact this
      have SC := scan_any A' c' M wr (Has.own o1) (by rw [hM]; exact logP_byte _ (fun x hx => by rw [List.eq_of_mem_replicate hx]; exact BL.out)) (by rw [ML.out]; omega) (by rw [ML.out]; exact own_cap o1) (HT.out.grow GW.out)
      have SP := scanP_log (List.replicate k l) [] (fun x hx => by rw [List.eq_of_mem_replicate hx]; exact BL.out) (fun x hx => by rw [List.eq_of_mem_replicate hx]; omega)
      rw [List.append_nil, ← hM, scanP_no (l := []) (by decide)] at SP
      rw [SP, ML.out, List.append_nil, Nat.add_zero] at SC
      have SC' := Lib.hid SC
      have HR := Lib.hid hr
      clear SC SP o1 hM hr
      go_wp2_with fail
      refine SC'.out.mono ?_
      rintro _ w3 ⟨v3, rfl, r3, g3⟩
      obtain ⟨A3, c3, e3⟩ := r3.form
      rw [List.length_replicate] at e3
      subst e3
      obtain ⟨B0, hB0⟩ : ∃ B, B = wr.heap.size := ⟨_, rfl⟩
      rw [← hB0] at r3
      have R3 := Lib.hid r3
      have G3 : Hid (w.grownBy w3 none) := only_step GW.out g3 (fun _ h => by cases h)
      clear r3 g3 SC' hB0
      go_wp2_with fail
      go_loopw [13] (fun sj wx => ∃ j : Nat, j ≤ k ∧ sj = .int .i64 j ∧ Hid (RL wx B0 (.slice A3 k c3) (List.replicate k l)) ∧ Hid (w.grownBy wx none)) (fun sj _ => k - (intOf sj).toNat)
      case atStart => exact ⟨0, Nat.zero_le _, rfl, R3, G3⟩
      case round =>
        obtain ⟨j, hj, rfl, HRj, hGj⟩ := hrel
        by_cases hjl : j < k
        · have v1 : (j : Int) < (k : Int) := by omega
          have v0 : (0 : Int) ≤ (j : Int) := by omega
          have vs : IntKind.i64.wrap ((j : Int) + 1) = (j : Int) + 1 := by rw [IntKind.wrap_i64]; omega
          obtain ⟨es, ho, he⟩ := HRj.out
          rw [List.length_replicate] at ho
          obtain ⟨g, cap, hv, hgb⟩ := own_form ho (by omega)
          injection hv with ha hb2 hc2
          subst ha
          clear hb2 hc2
          obtain ⟨Ax, cx, hx1, hx2, hx3⟩ := he j l (by simp [hjl])
          have hcell : wr.cell? ⟨g, j, none⟩ = some (.slice Ax l.length cx) := by
            have := ho.cells (g := g) rfl j _ hx1
            rw [Addr.add_lit, Nat.zero_add] at this
            exact this
          have hH : Has wr wr.heap.size Ax (bs l) := by
            rcases hx3 with h0 | ⟨b, off, e, hb, _, hc⟩
            · exact .inl (by rw [h0]; rfl)
            · exact .inr ⟨b, off, e, hb, hc⟩
          have SD : Hid (wr.drew.cell? ⟨g, j, none⟩ = some (.slice Ax l.length cx) ∧ (convert 22 9 (.slice Ax l.length cx)).run Tryd.prog wr.drew = .ok (.string t) wr.drew ∧ (convert 22 9 (.slice A l.length ca)).run Tryd.prog wr.drew = .ok (.string t) wr.drew) := by
            have hd : wr.grownBy wr.drew none := only_drew (only_refl _ _)
            refine ⟨hcell, ?_, (CV _ (only_drew hGj.out)).out⟩
            rw [Ht.out]; exact conv_string (hH.only hd (Nat.le_refl _) (fun _ h => by cases h)) cx
          have hR2 : Hid (RL wr.drew B0 (.slice (some ⟨g, 0, none⟩) k c3) (List.replicate k l)) := HRj.out.grow (only_drew (only_refl _ _))
          clear ho he hx1 hx2 hx3 hcell hH
          go_wp2_with fail
          go_region_held3 (fun V => V.cell? ⟨g, j, none⟩ = some (.slice Ax l.length cx) ∧ (convert 22 9 (.slice Ax l.length cx)).run Tryd.prog V = .ok (.string t) V ∧ (convert 22 9 (.slice A l.length ca)).run Tryd.prog V = .ok (.string t) V) (first | exact SD.out) ((first | fail))
          go_wp2_with fail
          exact ⟨⟨j + 1, by omega, by go_num, hR2, only_drew hGj.out⟩, by simp [intOf]; omega⟩
        · have v1 : ¬ (j : Int) < (k : Int) := by omega
          go_wp2_with fail
          go_ret
          exact ⟨rfl, hGj.out⟩

theorem framesBack_walk (A : Option Addr) (ca : Nat) (l : List Int) (n : Int) (w : World) (hA : Has w w.heap.size A (bs l)) (bl : ∀ x ∈ l, 0 ≤ x ∧ x ≤ 255)
    (e1 : -9223372036854775808 ≤ n) (e2 : n ≤ 9223372036854775807) (hT : Tab w) :
    Calls Tryd.prog 6 #[.slice A l.length ca, .int .i64 n] w fun e w' => e = .returned (.bool true) ∧ w.grownBy w' none := by
  by_cases h1 : l.length ≤ 300
  · exact back_core A ca l n w hA bl h1 e1 e2 hT
  · have t1 : (300 : Int) < (l.length : Int) := by omega
    have HT := Lib.hid hT
    clear hA bl hT
    go_enter Tryd.func6, Tryd.ntmps6
    go_wp2_with fail
    refine (known_any w HT.out).mono ?_
    rintro _ w1 ⟨rfl, g1⟩
    go_wp2_with fail
    go_ret
    exact ⟨rfl, g1⟩
end Go.Proofs.YtjdpnidenjeigaaDoor
