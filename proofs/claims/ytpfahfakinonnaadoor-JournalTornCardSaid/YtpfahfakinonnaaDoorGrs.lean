/- The reference's Scan tells the same. No condition of the program's own. -/
import Derived.Test.YtpfahfakinonnaaDoorGsn
namespace Go.Proofs.YtpfahfakinonnaaDoor
open Go.RowKit Go.ChangeShapes

theorem one_take (l : List Int) (h : 8 + rd4 l ≤ l.length) (hn : rd4 l ≤ 4194304) : oneE (l.take (8 + rd4 l)) = firstE l ∧ recP (l.take (8 + rd4 l)) = recP l := by
  have e1 : rd4 (l.take (8 + rd4 l)) = rd4 l := rd4_take l _ (by omega)
  have e2 : (l.take (8 + rd4 l)).length = 8 + rd4 l := by rw [List.length_take]; omega
  have e3 : recP (l.take (8 + rd4 l)) = recP l := by
    unfold recP
    rw [e1, List.drop_take, show 8 + rd4 l - 8 = rd4 l by omega, List.take_take, Nat.min_self]
  have e4 : rd4 ((l.take (8 + rd4 l)).drop 4) = rd4 (l.drop 4) := by
    rw [List.drop_take]; exact rd4_take _ _ (by omega)
  have f2 : firstE l = if crcP (recP l) = rd4 (l.drop 4) then 0 else 10 := by
    unfold firstE; rw [if_neg (show ¬ l.length < 8 by omega), if_neg (by omega), if_neg (by omega)]
  have f1 : firstE (l.take (8 + rd4 l)) = firstE l := by
    rw [f2]
    unfold firstE
    rw [e1, e2, e3, e4, if_neg (by omega), if_neg (by omega), if_neg (by omega)]
  refine ⟨?_, e3⟩
  unfold oneE
  rw [f1, e1, e2]
  by_cases h8 : firstE l = 8 ∨ firstE l = 5
  · rw [if_pos h8]
  · rw [if_neg h8, if_neg (by omega)]
set_option maxRecDepth 100000 in
set_option maxHeartbeats 4000000 in
theorem rscan_core (b off : Nat) (c : Nat) (l : List Int) (w : World) (h : Has w w.heap.size (some ⟨b, off, none⟩) (bs l)) (hb : ∀ x ∈ l, 0 ≤ x ∧ x ≤ 255) (hl : l.length ≤ 4294967296) (hc : l.length ≤ c) :
    Calls Tryd.prog 29 #[.slice (some ⟨b, off, none⟩) l.length c] w fun e w' => ∃ v, e = .returned (.tuple #[v, .int .i64 (scanP l).2]) ∧ RL w' w.heap.size v (scanP l).1 ∧ w.grownBy w' none := by
  have HA := Lib.hid h
  have HB := Lib.hid hb
  clear h hb
  obtain ⟨T, hTt⟩ : ∃ T, T = scanP l := ⟨_, rfl⟩
  have HTT := Lib.hid hTt
  rw [← hTt]
  clear hTt
  go_enter Tryd.func29, Tryd.ntmps29
  go_wp2_with fail
  go_loopw [4, 5] (fun s2 s3 wr => ∃ (n : Nat) (L : List (List Int)) (A' : Option Addr) (c' : Nat), n ≤ l.length ∧ s3 = .int .i64 n ∧ s2 = .slice A' L.length c' ∧ L.length ≤ n ∧ Hid (RL wr w.heap.size (.slice A' L.length c') L) ∧
    Hid (T.1 = L ++ (scanP (l.drop n)).1 ∧ T.2 = n + (scanP (l.drop n)).2) ∧ Hid (w.grownBy wr none)) (fun _ s3 _ => l.length - (intOf s3).toNat)
  case atStart => exact ⟨0, [], none, 0, Nat.zero_le _, rfl, rfl, Nat.le_refl _, RL.nil _ _, ⟨by rw [HTT.out]; rfl, by rw [HTT.out]; simp⟩, only_refl _ _⟩
  case round =>
    obtain ⟨n, L, A', c', hn, rfl, rfl, hLn, HR, HS, hG⟩ := hrel
    have n0 : (0 : Int) ≤ (n : Int) := by omega
    have w8 : IntKind.i64.wrap ((n : Int) + 8) = (n : Int) + 8 := by rw [IntKind.wrap_i64]; omega
    have DL : (l.drop n).length = l.length - n := List.length_drop
    have stop : firstE (l.drop n) ≠ 0 → Hid (T.1 = L ∧ T.2 = n) := fun h0 => by
      have h1 := HS.out.1
      have h2 := HS.out.2
      rw [scanP_no h0] at h1 h2
      exact ⟨by rw [h1]; exact List.append_nil _, by rw [h2]; rfl⟩
    by_cases h8 : n + 8 ≤ l.length
    · have t8 : (n : Int) + 8 ≤ (l.length : Int) := by omega
      have n1 : (n : Int) ≤ (l.length : Int) := by omega
      have hcn : ¬ c = n := by omega
      have HHd : ∀ V, w.grownBy V none → Has V V.heap.size (some ⟨b, off + n, none⟩) (bs (l.drop n)) := fun V hV => by
        have h := HA.out.drop' (n := n) hn
        simp only [Option.map_some, Addr.add_lit] at h
        exact (h.only hV (Nat.le_refl _) (fun _ h => by cases h)).more hV.size
      have DB : ∀ x ∈ l.drop n, 0 ≤ x ∧ x ≤ 255 := fun x hx => HB.out x (List.mem_of_mem_drop hx)
      have W1 := Lib.hid (get_any (some ⟨b, off + n, none⟩) (l.length - n) (c - n) (l.drop n) DL.symm wr (HHd wr hG.out) DB (by omega))
      have hr := rd4_lt (l.drop n) DB
      obtain ⟨m, hm⟩ : ∃ m, m = rd4 (l.drop n) := ⟨_, rfl⟩
      rw [← hm] at W1 hr
      have v1 : IntKind.i64.wrap (m : Int) = (m : Int) := by rw [IntKind.wrap_i64]; omega
      have v2 : IntKind.i64.wrap ((l.length : Int) - (n : Int)) = (l.length : Int) - (n : Int) := by rw [IntKind.wrap_i64]; omega
      have v3 : IntKind.i64.wrap ((l.length : Int) - (n : Int) - 8) = (l.length : Int) - (n : Int) - 8 := by rw [IntKind.wrap_i64]; omega
      by_cases hg : 4194304 < m
      · have t1 : (4194304 : Int) < (m : Int) := by omega
        have fin := stop (by unfold firstE; rw [DL, if_neg (by omega), if_pos (by omega)]; decide)
        clear stop HHd DB hm DL
        go_wp2_with fail
        refine W1.out.mono ?_
        rintro _ w3 ⟨rfl, g3⟩
        have G3 := Lib.hid g3
        clear g3
        go_wp2_with fail
        go_ret2
        exact ⟨_, by rw [fin.out.2]; rfl, by rw [fin.out.1]; exact HR.out.grow G3.out, only_step hG.out G3.out (fun _ h => by cases h)⟩
      · have t1 : ¬ (4194304 : Int) < (m : Int) := by omega
        by_cases hs : l.length - n - 8 < m
        · have t2 : (l.length : Int) - (n : Int) - 8 < (m : Int) := by omega
          have fin := stop (by unfold firstE; rw [DL, if_neg (by omega), if_neg (by omega), if_pos (by omega)]; decide)
          clear stop HHd DB hm DL
          go_wp2_with fail
          refine W1.out.mono ?_
          rintro _ w3 ⟨rfl, g3⟩
          have G3 := Lib.hid g3
          clear g3
          go_wp2_with fail
          go_ret2
          exact ⟨_, by rw [fin.out.2]; rfl, by rw [fin.out.1]; exact HR.out.grow G3.out, only_step hG.out G3.out (fun _ h => by cases h)⟩
        · have t2 : ¬ (l.length : Int) - (n : Int) - 8 < (m : Int) := by omega
          have OT := one_take (l.drop n) (by rw [DL, ← hm]; omega) (by omega)
          rw [← hm] at OT
          obtain ⟨X, hX⟩ : ∃ X, X = (l.drop n).take (8 + m) := ⟨_, rfl⟩
          rw [← hX] at OT
          have XL : X.length = 8 + m := by rw [hX, List.length_take, DL]; omega
          have XH : ∀ V, w.grownBy V none → Hid (Calls Tryd.prog 30 #[.slice (some ⟨b, off + n, none⟩) (8 + m) (c - n)] V fun e w' => ∃ v, e = .returned (.tuple #[v, .int .i64 (oneE X)]) ∧ OneV V w' X v ∧ V.grownBy w' none) := fun V hV => by
            have := rone_any (some ⟨b, off + n, none⟩) (c - n) X V (by
              rw [hX, show bs ((l.drop n).take (8 + m)) = (bs (l.drop n)).take (8 + m) by simp [bs, List.map_take]]
              exact (HHd V hV).take _) (fun x hx => by rw [hX] at hx; exact DB x (List.mem_of_mem_take hx)) (by omega) (by omega)
            rw [XL] at this
            exact this
          have y1 : IntKind.i64.wrap ((n : Int) + 8 + (m : Int)) = (n : Int) + 8 + (m : Int) := by rw [IntKind.wrap_i64]; omega
          have y2 : (n : Int) ≤ (n : Int) + 8 + (m : Int) := by omega
          have y3 : (n : Int) + 8 + (m : Int) ≤ (c : Int) := by omega
          have y4 : ((n : Int) + 8 + (m : Int)).toNat = n + 8 + m := by omega
          have y5 : n + 8 + m - n = 8 + m := by omega
          have y6 : (0 : Int) ≤ (n : Int) + 8 + (m : Int) := by omega
          have HM := Lib.hid hm
          have HXL := Lib.hid XL
          by_cases h0 : firstE (l.drop n) = 0
          · have SP := scanP_ok h0
            rw [h0] at OT
            rw [← hm] at SP
            have O0 := Lib.hid OT.1
            have OR := Lib.hid OT.2
            have XR := Lib.hid (show (recP X).length = m by rw [OR.out, recP_len _ (by rw [DL, ← hm]; omega), ← hm])
            obtain ⟨R, hR⟩ : ∃ R, R = recP X := ⟨_, rfl⟩
            have HRR := Lib.hid hR
            have XR' : Hid (R.length = m) := by rw [hR]; exact XR.out
            have SP' : Hid (scanP (l.drop n) = (R :: (scanP ((l.drop n).drop (8 + m))).1, 8 + m + (scanP ((l.drop n).drop (8 + m))).2)) := by rw [hR, OR.out]; exact SP
            clear stop HHd DB hm DL hX XL OT h0 SP hR XR
            go_wp2_with fail
            refine W1.out.mono ?_
            rintro _ w3 ⟨rfl, g3⟩
            have G3 : Hid (w.grownBy w3 none) := only_step hG.out g3 (fun _ h => by cases h)
            have R3 := Lib.hid (HR.out.grow g3)
            have N3 := XH w3 G3.out
            rw [O0.out] at N3
            clear g3 XH
            go_wp2_with fail
            refine N3.out.mono ?_
            rintro _ w4 ⟨v4, rfl, q4, g4⟩
            unfold OneV at q4
            rw [if_pos O0.out, ← HRR.out, bs_len] at q4
            obtain ⟨A4, c4, rfl⟩ := own_slice q4
            have O4 : Hid (w4.ownsRow w3.heap.size 5 1 (.slice A4 R.length c4) R.length (bs R)) := q4
            have G4 : Hid (w.grownBy w4 none) := only_step G3.out g4 (fun _ h => by cases h)
            have D4 : Hid (w3.grownBy w4 none) := g4
            obtain ⟨es, RE⟩ := R3.out
            have RE' := Lib.hid RE
            have esl : es.length = L.length := by have := RE.1.1; omega
            have own2 : Hid ((w4.alloc (.cells #[.slice A4 R.length c4] 33)).ownsRow w.heap.size 33 1 (.slice A' L.length c') es.length es) := by
              have h := RE.1.kept (only_alloc g4 (.cells #[.slice A4 R.length c4] 33)) (by cases (Value.slice A' L.length c').ownBlock <;> simp)
              rw [esl]; exact h
            have zz : w.heap.size ≤ (w4.alloc (.cells #[.slice A4 R.length c4] 33)).heap.size := Nat.le_trans G4.out.size (World.grownBy_alloc w4 _ none).size
            have elen : es.length + 1 ≤ 1099511627776 := by omega
            have x1 : IntKind.i64.wrap ((n : Int) + 8) = (n : Int) + 8 := w8
            clear q4 g4 RE N3
            go_wp2_with (at_builtin; go_loud (refine app_rows rfl _ _ 34 rfl w.heap.size (.slice A' L.length c') es rfl own2.out (.slice (some ⟨w4.heap.size, 0, none⟩) 1 1) [.slice A4 R.length c4] rfl (src_row w4 A4 R.length c4) elen zz ?_); intro v5 w5 g5; have R5 : Hid (RL w5 w.heap.size v5 (L ++ [R])) := RE'.out.add D4.out O4.out g5; have G5 : Hid (w.grownBy w5 none) := g5.all own2.out (only_alloc G4.out _) (Nat.le_refl _); clear g5; obtain ⟨A5, c5, rfl⟩ := R5.out.form)
            refine ⟨⟨n + (8 + m), L ++ [R], A5, c5, by omega, by go_num, by rw [List.length_append]; rfl, by rw [List.length_append]; show L.length + 1 ≤ _; omega, R5, ?_, G5⟩, ?_⟩
            · have h1 := HS.out.1
              have h2 := HS.out.2
              rw [SP'.out, List.drop_drop] at h1 h2
              exact ⟨by rw [h1, List.append_assoc]; rfl, by rw [h2]; show n + (8 + m + _) = n + (8 + m) + _; omega⟩
            · simp [intOf]; omega
          · have fin := stop h0
            obtain ⟨f, hf⟩ : ∃ f, f = oneE X := ⟨_, rfl⟩
            rw [← hf] at XH
            have t0 : (f != 0) = true := by rw [hf, OT.1]; simpa using h0
            clear stop HHd DB hm DL hX XL OT h0 hf
            go_wp2_with fail
            refine W1.out.mono ?_
            rintro _ w3 ⟨rfl, g3⟩
            have G3 : Hid (w.grownBy w3 none) := only_step hG.out g3 (fun _ h => by cases h)
            have D3 := Lib.hid g3
            have N3 := XH w3 G3.out
            clear g3 XH
            go_wp2_with fail
            refine N3.out.mono ?_
            rintro _ w4 ⟨v4, rfl, q4, g4⟩
            have Q4 := Lib.hid q4
            clear q4
            go_wp2_with fail
            go_ret2
            exact ⟨_, by rw [fin.out.2]; rfl, by rw [fin.out.1]; exact (HR.out.grow D3.out).grow g4, only_step G3.out g4 (fun _ h => by cases h)⟩
    · have t8 : ¬ (n : Int) + 8 ≤ (l.length : Int) := by omega
      have fin := stop (by unfold firstE; rw [DL, if_pos (by omega)]; decide)
      clear stop DL
      go_wp2_with fail
      go_ret2
      exact ⟨_, by rw [fin.out.2]; rfl, by rw [fin.out.1]; exact HR.out, hG.out⟩
theorem rscan_any (A : Option Addr) (c : Nat) (l : List Int) (w : World) (h : Has w w.heap.size A (bs l)) (hb : ∀ x ∈ l, 0 ≤ x ∧ x ≤ 255) (hl : l.length ≤ 4294967296) (hc : l.length ≤ c) :
    Calls Tryd.prog 29 #[.slice A l.length c] w fun e w' => ∃ v, e = .returned (.tuple #[v, .int .i64 (scanP l).2]) ∧ RL w' w.heap.size v (scanP l).1 ∧ w.grownBy w' none := by
  rcases h with h0 | ⟨b, off, rfl, hb0, hc0⟩
  · have hl0 : l = [] := by simpa [bs] using h0
    subst hl0
    rw [scanP_no (l := []) (by decide)]
    clear h0 hb
    go_enter Tryd.func29, Tryd.ntmps29
    go_wp2_with fail
    go_loopw [4, 5] (fun s2 s3 wr => s2 = .slice none 0 0 ∧ s3 = .int .i64 0 ∧ wr = w) (fun _ _ _ => 0)
    case atStart => exact ⟨rfl, rfl, rfl⟩
    case round =>
      obtain ⟨rfl, rfl, rfl⟩ := hrel
      go_wp2_with fail
      go_ret2
      exact ⟨_, rfl, RL.nil _ _, only_refl _ _⟩
  · exact rscan_core b off c l w (.inr ⟨b, off, rfl, hb0, hc0⟩) hb hl hc
end Go.Proofs.YtpfahfakinonnaaDoor
