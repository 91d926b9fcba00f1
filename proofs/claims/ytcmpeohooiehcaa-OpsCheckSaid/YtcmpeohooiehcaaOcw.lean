/- The law OpsCheck, walked: it returns true for every input. No condition. -/
import Derived.Test.YtcmpeohooiehcaaOrl
import Derived.Test.YtcmpeohooiehcaaOgd
namespace Go.Proofs.Ytcmpeohooiehcaa
open Go.RowKit Go.Deep

theorem keyP_ok (r : Nat) : textOk (keyP r) ∧ (keyP r).size ≠ 0 := by
  unfold keyP
  split
  · exact ⟨⟨by decide, fun i h => by
      have : i = 0 := by simp [ByteArray.size] at h; omega
      subst this; exact (by decide : 32 ≤ (97 : UInt8).toNat ∧ (97 : UInt8).toNat ≠ 127)⟩, by decide⟩
  · split
    · exact ⟨⟨by decide, fun i h => by
        have : i = 0 := by simp [ByteArray.size] at h; omega
        subst this; exact (by decide : 32 ≤ (98 : UInt8).toNat ∧ (98 : UInt8).toNat ≠ 127)⟩, by decide⟩
    · exact ⟨⟨by decide, fun i h => by
        have : i = 0 := by simp [ByteArray.size] at h; omega
        subst this; exact (by decide : 32 ≤ (120 : UInt8).toNat ∧ (120 : UInt8).toNat ≠ 127)⟩, by decide⟩
theorem textP_ok (r : Nat) : textOk (textP r) := by
  unfold textP
  split
  · exact tok_0'
  · split
    · exact ⟨by decide, fun i h => by
        have : i = 0 := by simp [ByteArray.size] at h; omega
        subst this; exact (by decide : 32 ≤ (116 : UInt8).toNat ∧ (116 : UInt8).toNat ≠ 127)⟩
    · split
      · exact ⟨by decide, fun i h => by
          rcases (show i = 0 ∨ i = 1 by simp [ByteArray.size] at h; omega) with rfl | rfl
          · exact (by decide : 32 ≤ (85 : UInt8).toNat ∧ (85 : UInt8).toNat ≠ 127)
          · exact (by decide : 32 ≤ (32 : UInt8).toNat ∧ (32 : UInt8).toNat ≠ 127)⟩
      · exact ⟨by decide, fun i h => by
          rcases (show i = 0 ∨ i = 1 by simp [ByteArray.size] at h; omega) with rfl | rfl
          · exact (by decide : 32 ≤ (32 : UInt8).toNat ∧ (32 : UInt8).toNat ≠ 127)
          · exact (by decide : 32 ≤ (118 : UInt8).toNat ∧ (118 : UInt8).toNat ≠ 127)⟩
theorem good_ok (d e s coll ver kind n time : Int) (a b : Nat) (l : List Dt) :
    checkF (d % 6) (1 + e % 3) (1 + s % 30) (coll % 3) (1 + ver % 3) (1 + kind % 5) (nG (1 + kind % 5) n) (time % 50) (keyP a) (textP b) (dotsF (1 + kind % 5) l) = 0 := by
  unfold checkF gateP
  rw [if_neg (fun h => h ⟨by omega, by omega⟩), if_neg (fun h => h ⟨by omega, by omega⟩), if_neg (fun h => h ⟨by omega, by omega⟩), if_neg (fun h => h ⟨by omega, by omega⟩), if_neg (fun h => h ⟨by omega, by omega⟩), if_neg (fun h => h ⟨by omega, by omega⟩), if_neg (fun h => h ⟨by omega, by omega⟩), if_neg (fun h => h (keyP_ok a).1), if_neg (fun h => h (textP_ok b))]
  have hk : 1 ≤ 1 + kind % 5 ∧ 1 + kind % 5 ≤ 5 := by omega
  obtain ⟨K, hK⟩ : ∃ K, 1 + kind % 5 = K := ⟨_, rfl⟩
  rw [hK] at hk ⊢
  clear hK
  unfold kindF
  by_cases h3 : K = 3
  · subst h3
    rw [if_pos rfl, if_neg (keyP_ok a).2]
    unfold dotsP dotsF
    rw [if_pos rfl, if_neg (by have := dotsG_len l; omega), (risesB_iff _).2 (dotsG_rises l)]
    rfl
  · rw [if_neg h3]
    unfold kindP nG
    rcases (show K = 1 ∨ K = 2 ∨ K = 4 ∨ K = 5 by omega) with rfl | rfl | rfl | rfl
    · rw [if_neg (by omega), if_neg (keyP_ok a).2, if_neg (by omega)]
    · rw [if_neg (by omega), if_neg (keyP_ok a).2, if_neg (by omega)]
    · rw [if_neg (by omega), if_neg (keyP_ok a).2, if_pos rfl, if_pos rfl]
      by_cases hz : n % 12 - 6 = 0
      · rw [if_pos hz]; decide
      · rw [if_neg hz, if_neg hz, if_pos ⟨by omega, by omega⟩]
    · rw [if_pos rfl, show (if (5 : Int) = 4 then (if n % 12 - 6 = 0 then (6 : Int) else n % 12 - 6) else if (5 : Int) = 5 then n % 30 else n) = n % 30 by simp, if_pos ⟨by omega, by omega⟩]
set_option maxRecDepth 100000 in
set_option maxHeartbeats 4000000 in
theorem opsCheck_walk (d e s coll ver kind n time which num : Int) (key text str : ByteArray) (A : Option Addr) (c : Nat) (l : List Dt) (w : World) (hd : I64 d) (he : I64 e) (hs : I64 s) (hc : I64 coll) (hv : I64 ver) (hk : I64 kind) (hn : I64 n) (ht : I64 time) (hw : I64 which) (hA : Has w w.heap.size A (dc l)) (hdw : ∀ p ∈ l, I64 p.1 ∧ I64 p.2.1 ∧ I64 p.2.2) (hca : l.length ≤ c) :
    Calls Try.prog 3 #[.agg #[.int .i64 d, .int .i64 e, .int .i64 s, .int .i64 coll, .int .i64 ver, .int .i64 kind, .string key, .string text, .int .i64 n, .int .i64 time, .slice A l.length c], .int .i64 which, .int .i64 num, .string str] w fun e' w' => e' = .returned (.bool true) ∧ w.grownBy w' none := by
  have HD := Lib.hid hdw
  have HA := Lib.hid hA
  have HI : Hid (I64 d ∧ I64 e ∧ I64 s ∧ I64 coll ∧ I64 ver ∧ I64 kind ∧ I64 n ∧ I64 time) := ⟨hd, he, hs, hc, hv, hk, hn, ht⟩
  have HW : ∀ W, Hid (Calls Try.prog 15 #[.int .i64 which, .int .i64 11] W fun e w' => e = .returned (.int .i64 (which % 11)) ∧ W = w') := fun W => within_any which 11 hw.1 hw.2 (by omega) (by omega) W
  have HCA := Lib.hid hca
  have hm1 := Int.emod_nonneg which (show (11 : Int) ≠ 0 by omega)
  have hm2 := Int.emod_lt_of_pos which (show (0 : Int) < 11 by omega)
  obtain ⟨m, hm⟩ : ∃ m, which % 11 = m := ⟨_, rfl⟩
  rw [hm] at HW hm1 hm2
  have HMM : Hid (0 ≤ m ∧ m < 11) := ⟨hm1, hm2⟩
  clear hm hm1 hm2 hdw hA hd he hs hc hv hk hn ht hw hca
  go_enter Try.func3, Try.ntmps3
  go_wp2_with fail
  obtain ⟨w1, hw1⟩ : ∃ Z, w.alloc (.cells #[.int .i64 d, .int .i64 e, .int .i64 s, .int .i64 coll, .int .i64 ver, .int .i64 kind, .string key, .string text, .int .i64 n, .int .i64 time, .slice A l.length c] 26) = Z := ⟨_, rfl⟩
  have B1 : OpB w1 w.heap.size d e s coll ver kind key text n time (.slice A l.length c) := by subst hw1; exact heap_alloc_new w _
  have g1 : w.grownBy w1 none := by subst hw1; exact World.grownBy_alloc w _ none
  rw [hw1]
  clear hw1
  refine (known_any _).mono ?_
  rintro _ w2 ⟨rfl, gk⟩
  have g2 : w.grownBy w2 none := only_step g1 gk (fun _ h => .inl h)
  have B2 := B1.other gk (by simp)
  clear B1 g1 gk w1
  obtain ⟨c0, c1, c2, c3, c4, c5, c6, c7, c8, c9, c10⟩ := B2.cells
  go_wp2_with fail
  obtain ⟨fb, hfb⟩ : ∃ fb, fewP key text l = fb := ⟨_, rfl⟩
  refine (few_any d e s coll ver kind n time key text A c l _).mono ?_
  rintro _ w3 ⟨rfl, g3⟩
  rw [hfb]
  have B3 := B2.other g3 (by simp)
  have G3 := only_step g2 g3 (fun _ h => .inl h)
  have HFB := Lib.hid hfb
  clear hfb B2 g3 g2 c0 c1 c2 c3 c4 c5 c6 c7 c8 c9 c10 w2
  cases fb
  · go_wp2_with fail
    go_ret
    exact ⟨rfl, G3⟩
  by_cases h60 : (60 : Int) < (str.size : Int)
  · go_wp2_with fail
    go_ret
    exact ⟨rfl, G3⟩
  have hf : key.size ≤ 60 ∧ text.size ≤ 60 ∧ l.length ≤ 12 := by
    have := HFB.out
    unfold fewP at this
    simpa using this
  have HF := Lib.hid hf
  clear hf
  obtain ⟨c0, c1, c2, c3, c4, c5, c6, c7, c8, c9, c10⟩ := B3.cells
  go_wp2_with fail
  refine (good_any d e s coll ver kind n time key text A c l _ HI.out.1 HI.out.2.1 HI.out.2.2.1 HI.out.2.2.2.1 HI.out.2.2.2.2.1 HI.out.2.2.2.2.2.1 HI.out.2.2.2.2.2.2.1 HI.out.2.2.2.2.2.2.2 (by have := HF.out.1; unfold maxLen; omega) (by have := HF.out.2.1; unfold maxLen; omega) (HA.out.up G3) HD.out (by have := HF.out.2.2; omega) HCA.out).mono ?_
  rintro _ w4 ⟨AL, cL, rfl, HO, g4⟩
  have GOK := Lib.hid (good_ok d e s coll ver kind n time (key.size % 3) (text.size % 4) l)
  obtain ⟨D, hD⟩ : ∃ x, d % 6 = x := ⟨_, rfl⟩
  obtain ⟨E, hE⟩ : ∃ x, 1 + e % 3 = x := ⟨_, rfl⟩
  obtain ⟨S, hS⟩ : ∃ x, 1 + s % 30 = x := ⟨_, rfl⟩
  obtain ⟨C, hC⟩ : ∃ x, coll % 3 = x := ⟨_, rfl⟩
  obtain ⟨V, hV⟩ : ∃ x, 1 + ver % 3 = x := ⟨_, rfl⟩
  obtain ⟨K, hK⟩ : ∃ x, 1 + kind % 5 = x := ⟨_, rfl⟩
  rw [hK] at HO GOK ⊢
  obtain ⟨NN, hNN⟩ : ∃ x, nG K n = x := ⟨_, rfl⟩
  obtain ⟨T, hT⟩ : ∃ x, time % 50 = x := ⟨_, rfl⟩
  obtain ⟨KY, hKY⟩ : ∃ x, keyP (key.size % 3) = x := ⟨_, rfl⟩
  obtain ⟨TX, hTX⟩ : ∃ x, textP (text.size % 4) = x := ⟨_, rfl⟩
  obtain ⟨L, hL⟩ : ∃ x, dotsF K l = x := ⟨_, rfl⟩
  rw [hD, hE, hS, hC, hV, hNN, hT, hKY, hTX, hL] at GOK ⊢
  rw [hL] at HO
  clear hD hE hS hC hV hK hNN hT hKY hTX hL
  have B4 := B3.other g4 (by simp)
  have G4 := only_step G3 g4 (fun _ h => .inl h)
  have HO' := Lib.hid HO
  clear HO c0 c1 c2 c3 c4 c5 c6 c7 c8 c9 c10
  go_wp2_with fail
  obtain ⟨w5, hw5⟩ : ∃ Z, w4.alloc (.cells #[.int .i64 D, .int .i64 E, .int .i64 S, .int .i64 C, .int .i64 V, .int .i64 K, .string KY, .string TX, .int .i64 NN, .int .i64 T, .slice AL L.length cL] 26) = Z := ⟨_, rfl⟩
  have g5 : w4.grownBy w5 none := by subst hw5; exact World.grownBy_alloc w4 _ none
  have BG : OpB w5 w4.heap.size D E S C V K KY TX NN T (.slice AL L.length cL) := by subst hw5; exact heap_alloc_new w4 _
  rw [hw5]
  clear hw5
  have BO := B4.other g5 (by simp)
  have G5 := only_step G4 g5 (fun _ h => .inl h)
  have hz := G4.size
  have HOw := HO'.out.kept g5 (by cases (Value.slice AL L.length cL).ownBlock <;> simp)
  obtain ⟨X, hX⟩ : ∃ X, checkF d e s coll ver kind n time key text l = X := ⟨_, rfl⟩
  have HXX := Lib.hid hX
  have HOk := Lib.hid HOw
  have HH := HA.out.up G5
  have HHg := Has.own_w HOw
  have CO : ∀ V', w5.grownBy V' none → Hid (Calls Try.prog 13 #[.agg #[.int .i64 d, .int .i64 e, .int .i64 s, .int .i64 coll, .int .i64 ver, .int .i64 kind, .string key, .string text, .int .i64 n, .int .i64 time, .slice A l.length c]] V' fun e' w' => e' = .returned (.int .i64 X) ∧ V'.grownBy w' none) := fun V' hV' => by rw [← HXX.out]; exact check_f d e s coll ver kind n time key text A c l V' (HH.up hV')
  have CR : ∀ V', w5.grownBy V' none → Hid (Calls Try.prog 14 #[.agg #[.int .i64 d, .int .i64 e, .int .i64 s, .int .i64 coll, .int .i64 ver, .int .i64 kind, .string key, .string text, .int .i64 n, .int .i64 time, .slice A l.length c]] V' fun e' w' => e' = .returned (.int .i64 X) ∧ V'.grownBy w' none) := fun V' hV' => by rw [← HXX.out]; exact rcheck_f d e s coll ver kind n time key text A c l V' (HH.up hV')
  have CG : ∀ V', w5.grownBy V' none → Hid (Calls Try.prog 13 #[.agg #[.int .i64 D, .int .i64 E, .int .i64 S, .int .i64 C, .int .i64 V, .int .i64 K, .string KY, .string TX, .int .i64 NN, .int .i64 T, .slice AL L.length cL]] V' fun e' w' => e' = .returned (.int .i64 0) ∧ V'.grownBy w' none) := fun V' hV' => by rw [← GOK.out]; exact check_f D E S C V K NN T KY TX AL cL L V' (HHg.up hV')
  have SO : ∀ U0, w5.grownBy U0 none → Hid (U0.cell? ⟨w.heap.size, 0, none⟩ = some (.int .i64 d) ∧ U0.cell? ⟨w.heap.size, 1, none⟩ = some (.int .i64 e) ∧ U0.cell? ⟨w.heap.size, 2, none⟩ = some (.int .i64 s) ∧ U0.cell? ⟨w.heap.size, 3, none⟩ = some (.int .i64 coll) ∧ U0.cell? ⟨w.heap.size, 4, none⟩ = some (.int .i64 ver) ∧ U0.cell? ⟨w.heap.size, 5, none⟩ = some (.int .i64 kind) ∧ U0.cell? ⟨w.heap.size, 6, none⟩ = some (.string key) ∧ U0.cell? ⟨w.heap.size, 7, none⟩ = some (.string text) ∧ U0.cell? ⟨w.heap.size, 8, none⟩ = some (.int .i64 n) ∧ U0.cell? ⟨w.heap.size, 9, none⟩ = some (.int .i64 time) ∧ U0.cell? ⟨w.heap.size, 10, none⟩ = some (.slice A l.length c)) := fun U0 hV => (BO.other hV (by simp)).cells
  have SG : ∀ U0, w5.grownBy U0 none → Hid (U0.cell? ⟨w4.heap.size, 0, none⟩ = some (.int .i64 D) ∧ U0.cell? ⟨w4.heap.size, 1, none⟩ = some (.int .i64 E) ∧ U0.cell? ⟨w4.heap.size, 2, none⟩ = some (.int .i64 S) ∧ U0.cell? ⟨w4.heap.size, 3, none⟩ = some (.int .i64 C) ∧ U0.cell? ⟨w4.heap.size, 4, none⟩ = some (.int .i64 V) ∧ U0.cell? ⟨w4.heap.size, 5, none⟩ = some (.int .i64 K) ∧ U0.cell? ⟨w4.heap.size, 6, none⟩ = some (.string KY) ∧ U0.cell? ⟨w4.heap.size, 7, none⟩ = some (.string TX) ∧ U0.cell? ⟨w4.heap.size, 8, none⟩ = some (.int .i64 NN) ∧ U0.cell? ⟨w4.heap.size, 9, none⟩ = some (.int .i64 T) ∧ U0.cell? ⟨w4.heap.size, 10, none⟩ = some (.slice AL L.length cL)) := fun U0 hV => (BG.other hV (by simp)).cells
  have d1 : w5.grownBy w5.drew none := only_drew (only_refl _ _)
  have hxx : (X != X) = false := by simp
  have S5o := SO _ d1
  have S5g := SG _ d1
  clear hX HOw HH HHg
  refine wp_region_late [(3, fun U0 => U0.cell? ⟨w.heap.size, 0, none⟩ = some (.int .i64 d) ∧ U0.cell? ⟨w.heap.size, 1, none⟩ = some (.int .i64 e) ∧ U0.cell? ⟨w.heap.size, 2, none⟩ = some (.int .i64 s) ∧ U0.cell? ⟨w.heap.size, 3, none⟩ = some (.int .i64 coll) ∧ U0.cell? ⟨w.heap.size, 4, none⟩ = some (.int .i64 ver) ∧ U0.cell? ⟨w.heap.size, 5, none⟩ = some (.int .i64 kind) ∧ U0.cell? ⟨w.heap.size, 6, none⟩ = some (.string key) ∧ U0.cell? ⟨w.heap.size, 7, none⟩ = some (.string text) ∧ U0.cell? ⟨w.heap.size, 8, none⟩ = some (.int .i64 n) ∧ U0.cell? ⟨w.heap.size, 9, none⟩ = some (.int .i64 time) ∧ U0.cell? ⟨w.heap.size, 10, none⟩ = some (.slice A l.length c)), (9, fun U0 => U0.cell? ⟨w4.heap.size, 0, none⟩ = some (.int .i64 D) ∧ U0.cell? ⟨w4.heap.size, 1, none⟩ = some (.int .i64 E) ∧ U0.cell? ⟨w4.heap.size, 2, none⟩ = some (.int .i64 S) ∧ U0.cell? ⟨w4.heap.size, 3, none⟩ = some (.int .i64 C) ∧ U0.cell? ⟨w4.heap.size, 4, none⟩ = some (.int .i64 V) ∧ U0.cell? ⟨w4.heap.size, 5, none⟩ = some (.int .i64 K) ∧ U0.cell? ⟨w4.heap.size, 6, none⟩ = some (.string KY) ∧ U0.cell? ⟨w4.heap.size, 7, none⟩ = some (.string TX) ∧ U0.cell? ⟨w4.heap.size, 8, none⟩ = some (.int .i64 NN) ∧ U0.cell? ⟨w4.heap.size, 9, none⟩ = some (.int .i64 T) ∧ U0.cell? ⟨w4.heap.size, 10, none⟩ = some (.slice AL L.length cL))] (by kernel_rfl) ?_
  refine wpAnyT_take 6 3 (i := 0) (oi := { dst := some 22, op := Op.load 26 (Operand.tmp 4), type := 26, pos := "law.go:66", after := #[], guard := none }) (v := ?_) (.head _) rfl (by kernel_rfl) (by kernel_rfl) (by kernel_rfl) (by kernel_rfl) (by kernel_rfl) (by kernel_rfl) (by rfl) (fun _ _ _ h => h) (by rfl) ?_ (holds2 (fun _ => S5o.out) (fun _ => S5g.out)) ?_
  rotate_left
  · (intro W hSw; (try dsimp only at hSw); go_simp; try with_reducible rfl)
  try simp only [Act.put, List.setIfInBounds_toArray, List.set_cons_zero, List.set_cons_succ]
  refine wpAnyT_take 6 3 (i := 2) (oi := { dst := some 24, op := Op.load 26 (Operand.tmp 4), type := 26, pos := "law.go:66", after := #[], guard := none }) (v := ?_) (.head _) rfl (by kernel_rfl) (by kernel_rfl) (by kernel_rfl) (by kernel_rfl) (by kernel_rfl) (by kernel_rfl) (by rfl) (fun _ _ _ h => h) (by rfl) ?_ (holds2 (fun _ => S5o.out) (fun _ => S5g.out)) ?_
  rotate_left
  · (intro W hSw; (try dsimp only at hSw); go_simp; try with_reducible rfl)
  try simp only [Act.put, List.setIfInBounds_toArray, List.set_cons_zero, List.set_cons_succ]
  refine wpAnyT_ready (rs := [1]) (by kernel_rfl) (by simp) (AllT.cons (o := { dst := some 23, op := Op.call { callee := Callee.value (Operand.func 13), args := #[Operand.tmp 22], argTypes := #[26] }, type := 30, pos := "law.go:66", after := #[{ on := 0, ground := Ground.data }], guard := none }) rfl (fun K hK => ?_) AllT.nil)
  go_simp
  go_at_call 13
  refine (CO _ d1).out.mono ?_
  rintro _ wa ⟨rfl, ga⟩
  have da : w5.grownBy wa none := only_step d1 ga (fun _ h => by cases h)
  refine hK.out _ _ (holds2 (fun _ => (SO _ da).out) (fun _ => (SG _ da).out)) ?_
  clear hK K
  try simp only [Act.put, List.setIfInBounds_toArray, List.set_cons_zero, List.set_cons_succ]
  refine wpAnyT_ready (rs := [3]) (by kernel_rfl) (by simp) (AllT.cons (o := { dst := some 25, op := Op.call { callee := Callee.value (Operand.func 14), args := #[Operand.tmp 24], argTypes := #[26] }, type := 3, pos := "law.go:66", after := #[{ on := 2, ground := Ground.data }, { on := 1, ground := Ground.chain }], guard := none }) rfl (fun K hK => ?_) AllT.nil)
  go_simp
  go_at_call 14
  refine (CR _ da).out.mono ?_
  rintro _ wb ⟨rfl, gb⟩
  have db : w5.grownBy wb none := only_step da gb (fun _ h => by cases h)
  refine hK.out _ _ (holds2 (late_no (by kernel_rfl)) (fun _ => (SG _ db).out)) ?_
  clear hK K
  try simp only [Act.put, List.setIfInBounds_toArray, List.set_cons_zero, List.set_cons_succ]
  refine wpAnyT_pure (i := 4) (oi := { dst := some 26, op := Op.binOp BinOp.neq 3 (Operand.tmp 23) (Operand.tmp 25) 3, type := 4, pos := "law.go:66", after := #[{ on := 1, ground := Ground.data }, { on := 3, ground := Ground.data }], guard := none }) (v := ?_) rfl (by kernel_rfl) (by kernel_rfl) (by kernel_rfl) (by kernel_rfl) (fun _ _ _ h => h) (Or.inl ⟨by rfl, ?_⟩) (holds2 (late_no (by kernel_rfl)) (fun _ => (SG _ db).out)) ?_
  rotate_left
  · (intro W; go_simp; (try rw [hxx]); try with_reducible rfl)
  try simp only [Act.put, List.setIfInBounds_toArray, List.set_cons_zero, List.set_cons_succ]
  refine wpAnyT_pure (i := 5) (oi := { dst := some 27, op := Op.move (Operand.tmp 26), type := 4, pos := "law.go:66", after := #[{ on := 4, ground := Ground.data }, { on := 3, ground := Ground.chain }], guard := none }) (v := ?_) rfl (by kernel_rfl) (by kernel_rfl) (by kernel_rfl) (by kernel_rfl) (fun _ _ _ h => h) (Or.inl ⟨by rfl, ?_⟩) (holds2 (late_no (by kernel_rfl)) (fun _ => (SG _ db).out)) ?_
  rotate_left
  · (intro W; go_simp; try with_reducible rfl)
  try simp only [Act.put, List.setIfInBounds_toArray, List.set_cons_zero, List.set_cons_succ]
  refine wpAnyT_take 6 9 (i := 6) (oi := { dst := some 28, op := Op.load 26 (Operand.tmp 9), type := 26, pos := "law.go:66", after := #[{ on := 5, ground := Ground.guard }], guard := some (5, false) }) (v := ?_) (.tail _ (.head _)) rfl (by kernel_rfl) (by kernel_rfl) (by kernel_rfl) (by kernel_rfl) (by kernel_rfl) (by kernel_rfl) (by rfl) (fun _ _ _ h => h) (by rfl) ?_ (holds2 (late_no (by kernel_rfl)) (fun _ => (SG _ db).out)) ?_
  rotate_left
  · (intro W hSw; (try dsimp only at hSw); go_simp; try with_reducible rfl)
  try simp only [Act.put, List.setIfInBounds_toArray, List.set_cons_zero, List.set_cons_succ]
  refine wpAnyT_ready (rs := [7]) (by kernel_rfl) (by simp) (AllT.cons (o := { dst := some 29, op := Op.call { callee := Callee.value (Operand.func 13), args := #[Operand.tmp 28], argTypes := #[26] }, type := 30, pos := "law.go:66", after := #[{ on := 6, ground := Ground.data }, { on := 5, ground := Ground.chain }, { on := 5, ground := Ground.guard }], guard := some (5, false) }) rfl (fun K hK => ?_) AllT.nil)
  go_simp
  go_at_call 13
  refine (CG _ db).out.mono ?_
  rintro _ wc ⟨rfl, gc⟩
  have dc : w5.grownBy wc none := only_step db gc (fun _ h => by cases h)
  refine hK.out _ _ (holds2 (late_no (by kernel_rfl)) (fun _ => (SG _ dc).out)) ?_
  clear hK K
  try simp only [Act.put, List.setIfInBounds_toArray, List.set_cons_zero, List.set_cons_succ]
  refine wpAnyT_pure (i := 8) (oi := { dst := some 30, op := Op.binOp BinOp.neq 30 (Operand.tmp 29) (Operand.const (Value.int IntKind.i64 0)) 30, type := 4, pos := "law.go:66", after := #[{ on := 7, ground := Ground.data }, { on := 5, ground := Ground.guard }], guard := some (5, false) }) (v := ?_) rfl (by kernel_rfl) (by kernel_rfl) (by kernel_rfl) (by kernel_rfl) (fun _ _ _ h => h) (Or.inl ⟨by rfl, ?_⟩) (holds2 (late_no (by kernel_rfl)) (fun _ => (SG _ dc).out)) ?_
  rotate_left
  · (intro W; go_simp; try with_reducible rfl)
  try simp only [Act.put, List.setIfInBounds_toArray, List.set_cons_zero, List.set_cons_succ]
  refine wpAnyT_ready (rs := [9]) (by kernel_rfl) (by simp) (AllT.cons (o := { dst := some 31, op := Op.pick (Operand.tmp 27) (Operand.const (Value.bool true)) (Operand.tmp 30), type := 4, pos := "law.go:66", after := #[{ on := 5, ground := Ground.data }, { on := 8, ground := Ground.data }], guard := none }) rfl (fun K hK => ?_) AllT.nil)
  go_simp
  refine hK.out _ _ (holds2 (late_no (by kernel_rfl)) (late_no (by kernel_rfl))) ?_
  clear hK K
  try simp only [Act.put, List.setIfInBounds_toArray, List.set_cons_zero, List.set_cons_succ]
  refine wpAnyT_done (by kernel_rfl) ?_ _
  go_wp2_with fail
  refine (HW _).out.mono ?_
  rintro _ wd ⟨rfl, rfl⟩
  have BGc := BG.other dc (by simp)
  have BOc := BO.other dc (by simp)
  have Gc := only_step G5 dc (fun _ h => .inl h)
  have HOc := Lib.hid (HOk.out.kept dc (by cases (Value.slice AL L.length cL).ownBlock <;> simp))
  have HAc := Lib.hid ((HA.out.kept Gc (Nat.le_refl _)))
  have zc := Gc.size
  clear CO CR CG SO SG S5o S5g d1 da db BG BO G5 g5 ga gb gc dc hxx HXX HOk GOK
  rcases (show m = 0 ∨ m = 1 ∨ m = 2 ∨ m = 3 ∨ m = 4 ∨ m = 5 ∨ m = 6 ∨ m = 7 ∨ m = 8 ∨ m = 9 ∨ m = 10 by have := HMM.out; omega) with rfl | rfl | rfl | rfl | rfl | rfl | rfl | rfl | rfl | rfl | rfl
  · as_aux_lemma =>
    obtain ⟨c0, c1, c2, c3, c4, c5, c6, c7, c8, c9, c10⟩ := BGc.cells
    obtain ⟨o0, o1, o2, o3, o4, o5, o6, o7, o8, o9, o10⟩ := BOc.cells
    have fq := BGc.fr 0
    go_wp2_with fail
    obtain ⟨U, hU⟩ : ∃ Z, wc.setCell ⟨w4.heap.size, 0, none⟩ (.int .i64 num) = Z := ⟨_, rfl⟩
    have BU : OpB U w4.heap.size num E S C V K KY TX NN T (.slice AL L.length cL) := by subst hU; exact BGc.set0 _
    have gU : wc.grownBy U (some w4.heap.size) := by subst hU; exact set_at (only_refl _ _) 0 _
    rw [hU]
    clear hU c0 c1 c2 c3 c4 c5 c6 c7 c8 c9 c10 o0 o1 o2 o3 o4 o5 o6 o7 o8 o9 o10 fq
    have GU := only_step Gc gU (fun k hk => by cases hk; exact .inr hz)
    have HHu := Has.own_w (HOc.out.kept gU (own_apart HOc.out BGc))
    obtain ⟨Y, hY⟩ : ∃ Y, checkF num E S C V K NN T KY TX L = Y := ⟨_, rfl⟩
    have HY := Lib.hid hY
    have C13 : ∀ V', U.grownBy V' none → Hid (Calls Try.prog 13 #[.agg #[.int .i64 num, .int .i64 E, .int .i64 S, .int .i64 C, .int .i64 V, .int .i64 K, .string KY, .string TX, .int .i64 NN, .int .i64 T, .slice AL L.length cL]] V' fun e' w' => e' = .returned (.int .i64 Y) ∧ V'.grownBy w' none) := fun V' hV' => by rw [← HY.out]; exact check_f num E S C V K NN T KY TX AL cL L V' (HHu.up hV')
    have C14 : ∀ V', U.grownBy V' none → Hid (Calls Try.prog 14 #[.agg #[.int .i64 num, .int .i64 E, .int .i64 S, .int .i64 C, .int .i64 V, .int .i64 K, .string KY, .string TX, .int .i64 NN, .int .i64 T, .slice AL L.length cL]] V' fun e' w' => e' = .returned (.int .i64 Y) ∧ V'.grownBy w' none) := fun V' hV' => by rw [← HY.out]; exact rcheck_f num E S C V K NN T KY TX AL cL L V' (HHu.up hV')
    have SU : ∀ U0, U.grownBy U0 none → Hid (U0.cell? ⟨w4.heap.size, 0, none⟩ = some (.int .i64 num) ∧ U0.cell? ⟨w4.heap.size, 1, none⟩ = some (.int .i64 E) ∧ U0.cell? ⟨w4.heap.size, 2, none⟩ = some (.int .i64 S) ∧ U0.cell? ⟨w4.heap.size, 3, none⟩ = some (.int .i64 C) ∧ U0.cell? ⟨w4.heap.size, 4, none⟩ = some (.int .i64 V) ∧ U0.cell? ⟨w4.heap.size, 5, none⟩ = some (.int .i64 K) ∧ U0.cell? ⟨w4.heap.size, 6, none⟩ = some (.string KY) ∧ U0.cell? ⟨w4.heap.size, 7, none⟩ = some (.string TX) ∧ U0.cell? ⟨w4.heap.size, 8, none⟩ = some (.int .i64 NN) ∧ U0.cell? ⟨w4.heap.size, 9, none⟩ = some (.int .i64 T) ∧ U0.cell? ⟨w4.heap.size, 10, none⟩ = some (.slice AL L.length cL)) := fun U0 hV => (BU.other hV (by simp)).cells
    have d1 : U.grownBy U.drew none := only_drew (only_refl _ _)
    have S5u := SU _ d1
    have hyy : (Y == Y) = true := by simp
    clear hY HHu
    refine wp_region_late [(3, fun U0 => U0.cell? ⟨w4.heap.size, 0, none⟩ = some (.int .i64 num) ∧ U0.cell? ⟨w4.heap.size, 1, none⟩ = some (.int .i64 E) ∧ U0.cell? ⟨w4.heap.size, 2, none⟩ = some (.int .i64 S) ∧ U0.cell? ⟨w4.heap.size, 3, none⟩ = some (.int .i64 C) ∧ U0.cell? ⟨w4.heap.size, 4, none⟩ = some (.int .i64 V) ∧ U0.cell? ⟨w4.heap.size, 5, none⟩ = some (.int .i64 K) ∧ U0.cell? ⟨w4.heap.size, 6, none⟩ = some (.string KY) ∧ U0.cell? ⟨w4.heap.size, 7, none⟩ = some (.string TX) ∧ U0.cell? ⟨w4.heap.size, 8, none⟩ = some (.int .i64 NN) ∧ U0.cell? ⟨w4.heap.size, 9, none⟩ = some (.int .i64 T) ∧ U0.cell? ⟨w4.heap.size, 10, none⟩ = some (.slice AL L.length cL))] (by kernel_rfl) ?_
    refine wpAnyT_take 6 3 (i := 0) (oi := { dst := some 82, op := Op.load 26 (Operand.tmp 9), type := 26, pos := "law.go:93", after := #[], guard := none }) (v := ?_) (.head _) rfl (by kernel_rfl) (by kernel_rfl) (by kernel_rfl) (by kernel_rfl) (by kernel_rfl) (by kernel_rfl) (by rfl) (fun _ _ _ h => h) (by rfl) ?_ (holds1 (fun _ => S5u.out)) ?_
    rotate_left
    · (intro W hSw; (try dsimp only at hSw); go_simp; try with_reducible rfl)
    try simp only [Act.put, List.setIfInBounds_toArray, List.set_cons_zero, List.set_cons_succ]
    refine wpAnyT_take 6 3 (i := 2) (oi := { dst := some 84, op := Op.load 26 (Operand.tmp 9), type := 26, pos := "law.go:93", after := #[], guard := none }) (v := ?_) (.head _) rfl (by kernel_rfl) (by kernel_rfl) (by kernel_rfl) (by kernel_rfl) (by kernel_rfl) (by kernel_rfl) (by rfl) (fun _ _ _ h => h) (by rfl) ?_ (holds1 (fun _ => S5u.out)) ?_
    rotate_left
    · (intro W hSw; (try dsimp only at hSw); go_simp; try with_reducible rfl)
    try simp only [Act.put, List.setIfInBounds_toArray, List.set_cons_zero, List.set_cons_succ]
    refine wpAnyT_ready (rs := [1]) (by kernel_rfl) (by simp) (AllT.cons (o := { dst := some 83, op := Op.call { callee := Callee.value (Operand.func 13), args := #[Operand.tmp 82], argTypes := #[26] }, type := 30, pos := "law.go:93", after := #[{ on := 0, ground := Ground.data }], guard := none }) rfl (fun K hK => ?_) AllT.nil)
    go_simp
    go_at_call 13
    refine (C13 _ d1).out.mono ?_
    rintro _ wa ⟨rfl, ga⟩
    have da : U.grownBy wa none := only_step d1 ga (fun _ h => by cases h)
    refine hK.out _ _ (holds1 (fun _ => (SU _ da).out)) ?_
    clear hK K
    try simp only [Act.put, List.setIfInBounds_toArray, List.set_cons_zero, List.set_cons_succ]
    refine wpAnyT_ready (rs := [3]) (by kernel_rfl) (by simp) (AllT.cons (o := { dst := some 85, op := Op.call { callee := Callee.value (Operand.func 14), args := #[Operand.tmp 84], argTypes := #[26] }, type := 3, pos := "law.go:93", after := #[{ on := 2, ground := Ground.data }, { on := 1, ground := Ground.chain }], guard := none }) rfl (fun K hK => ?_) AllT.nil)
    go_simp
    go_at_call 14
    refine (C14 _ da).out.mono ?_
    rintro _ wb ⟨rfl, gb⟩
    have db : U.grownBy wb none := only_step da gb (fun _ h => by cases h)
    refine hK.out _ _ (holds1 (late_no (by kernel_rfl))) ?_
    clear hK K
    try simp only [Act.put, List.setIfInBounds_toArray, List.set_cons_zero, List.set_cons_succ]
    refine wpAnyT_pure (i := 4) (oi := { dst := some 86, op := Op.binOp BinOp.eql 3 (Operand.tmp 83) (Operand.tmp 85) 3, type := 4, pos := "law.go:93", after := #[{ on := 1, ground := Ground.data }, { on := 3, ground := Ground.data }], guard := none }) (v := ?_) rfl (by kernel_rfl) (by kernel_rfl) (by kernel_rfl) (by kernel_rfl) (fun _ _ _ h => h) (Or.inl ⟨by rfl, ?_⟩) (holds1 (late_no (by kernel_rfl))) ?_
    rotate_left
    · (intro W; go_simp; (try rw [hyy]); try with_reducible rfl)
    try simp only [Act.put, List.setIfInBounds_toArray, List.set_cons_zero, List.set_cons_succ]
    refine wpAnyT_pure (i := 5) (oi := { dst := some 8, op := Op.assign (Operand.tmp 86), type := 4, pos := "law.go:93", after := #[{ on := 4, ground := Ground.data }, { on := 3, ground := Ground.chain }, { on := 0, ground := Ground.phase }, { on := 1, ground := Ground.phase }, { on := 2, ground := Ground.phase }, { on := 3, ground := Ground.phase }, { on := 4, ground := Ground.phase }], guard := none }) (v := ?_) rfl (by kernel_rfl) (by kernel_rfl) (by kernel_rfl) (by kernel_rfl) (fun _ _ _ h => h) (Or.inl ⟨by rfl, ?_⟩) (holds1 (late_no (by kernel_rfl))) ?_
    rotate_left
    · (intro W; go_simp; try with_reducible rfl)
    try simp only [Act.put, List.setIfInBounds_toArray, List.set_cons_zero, List.set_cons_succ]
    refine wpAnyT_done (by kernel_rfl) ?_ _
    go_wp2_with fail
    go_ret
    exact ⟨rfl, only_step GU db (fun _ h => by cases h)⟩
  · as_aux_lemma =>
    obtain ⟨c0, c1, c2, c3, c4, c5, c6, c7, c8, c9, c10⟩ := BGc.cells
    obtain ⟨o0, o1, o2, o3, o4, o5, o6, o7, o8, o9, o10⟩ := BOc.cells
    have fq := BGc.fr 1
    go_wp2_with fail
    obtain ⟨U, hU⟩ : ∃ Z, wc.setCell ⟨w4.heap.size, 1, none⟩ (.int .i64 num) = Z := ⟨_, rfl⟩
    have BU : OpB U w4.heap.size D num S C V K KY TX NN T (.slice AL L.length cL) := by subst hU; exact BGc.set1 _
    have gU : wc.grownBy U (some w4.heap.size) := by subst hU; exact set_at (only_refl _ _) 1 _
    rw [hU]
    clear hU c0 c1 c2 c3 c4 c5 c6 c7 c8 c9 c10 o0 o1 o2 o3 o4 o5 o6 o7 o8 o9 o10 fq
    have GU := only_step Gc gU (fun k hk => by cases hk; exact .inr hz)
    have HHu := Has.own_w (HOc.out.kept gU (own_apart HOc.out BGc))
    obtain ⟨Y, hY⟩ : ∃ Y, checkF D num S C V K NN T KY TX L = Y := ⟨_, rfl⟩
    have HY := Lib.hid hY
    have C13 : ∀ V', U.grownBy V' none → Hid (Calls Try.prog 13 #[.agg #[.int .i64 D, .int .i64 num, .int .i64 S, .int .i64 C, .int .i64 V, .int .i64 K, .string KY, .string TX, .int .i64 NN, .int .i64 T, .slice AL L.length cL]] V' fun e' w' => e' = .returned (.int .i64 Y) ∧ V'.grownBy w' none) := fun V' hV' => by rw [← HY.out]; exact check_f D num S C V K NN T KY TX AL cL L V' (HHu.up hV')
    have C14 : ∀ V', U.grownBy V' none → Hid (Calls Try.prog 14 #[.agg #[.int .i64 D, .int .i64 num, .int .i64 S, .int .i64 C, .int .i64 V, .int .i64 K, .string KY, .string TX, .int .i64 NN, .int .i64 T, .slice AL L.length cL]] V' fun e' w' => e' = .returned (.int .i64 Y) ∧ V'.grownBy w' none) := fun V' hV' => by rw [← HY.out]; exact rcheck_f D num S C V K NN T KY TX AL cL L V' (HHu.up hV')
    have SU : ∀ U0, U.grownBy U0 none → Hid (U0.cell? ⟨w4.heap.size, 0, none⟩ = some (.int .i64 D) ∧ U0.cell? ⟨w4.heap.size, 1, none⟩ = some (.int .i64 num) ∧ U0.cell? ⟨w4.heap.size, 2, none⟩ = some (.int .i64 S) ∧ U0.cell? ⟨w4.heap.size, 3, none⟩ = some (.int .i64 C) ∧ U0.cell? ⟨w4.heap.size, 4, none⟩ = some (.int .i64 V) ∧ U0.cell? ⟨w4.heap.size, 5, none⟩ = some (.int .i64 K) ∧ U0.cell? ⟨w4.heap.size, 6, none⟩ = some (.string KY) ∧ U0.cell? ⟨w4.heap.size, 7, none⟩ = some (.string TX) ∧ U0.cell? ⟨w4.heap.size, 8, none⟩ = some (.int .i64 NN) ∧ U0.cell? ⟨w4.heap.size, 9, none⟩ = some (.int .i64 T) ∧ U0.cell? ⟨w4.heap.size, 10, none⟩ = some (.slice AL L.length cL)) := fun U0 hV => (BU.other hV (by simp)).cells
    have d1 : U.grownBy U.drew none := only_drew (only_refl _ _)
    have S5u := SU _ d1
    have hyy : (Y == Y) = true := by simp
    clear hY HHu
    refine wp_region_late [(3, fun U0 => U0.cell? ⟨w4.heap.size, 0, none⟩ = some (.int .i64 D) ∧ U0.cell? ⟨w4.heap.size, 1, none⟩ = some (.int .i64 num) ∧ U0.cell? ⟨w4.heap.size, 2, none⟩ = some (.int .i64 S) ∧ U0.cell? ⟨w4.heap.size, 3, none⟩ = some (.int .i64 C) ∧ U0.cell? ⟨w4.heap.size, 4, none⟩ = some (.int .i64 V) ∧ U0.cell? ⟨w4.heap.size, 5, none⟩ = some (.int .i64 K) ∧ U0.cell? ⟨w4.heap.size, 6, none⟩ = some (.string KY) ∧ U0.cell? ⟨w4.heap.size, 7, none⟩ = some (.string TX) ∧ U0.cell? ⟨w4.heap.size, 8, none⟩ = some (.int .i64 NN) ∧ U0.cell? ⟨w4.heap.size, 9, none⟩ = some (.int .i64 T) ∧ U0.cell? ⟨w4.heap.size, 10, none⟩ = some (.slice AL L.length cL))] (by kernel_rfl) ?_
    refine wpAnyT_take 6 3 (i := 0) (oi := { dst := some 82, op := Op.load 26 (Operand.tmp 9), type := 26, pos := "law.go:93", after := #[], guard := none }) (v := ?_) (.head _) rfl (by kernel_rfl) (by kernel_rfl) (by kernel_rfl) (by kernel_rfl) (by kernel_rfl) (by kernel_rfl) (by rfl) (fun _ _ _ h => h) (by rfl) ?_ (holds1 (fun _ => S5u.out)) ?_
    rotate_left
    · (intro W hSw; (try dsimp only at hSw); go_simp; try with_reducible rfl)
    try simp only [Act.put, List.setIfInBounds_toArray, List.set_cons_zero, List.set_cons_succ]
    refine wpAnyT_take 6 3 (i := 2) (oi := { dst := some 84, op := Op.load 26 (Operand.tmp 9), type := 26, pos := "law.go:93", after := #[], guard := none }) (v := ?_) (.head _) rfl (by kernel_rfl) (by kernel_rfl) (by kernel_rfl) (by kernel_rfl) (by kernel_rfl) (by kernel_rfl) (by rfl) (fun _ _ _ h => h) (by rfl) ?_ (holds1 (fun _ => S5u.out)) ?_
    rotate_left
    · (intro W hSw; (try dsimp only at hSw); go_simp; try with_reducible rfl)
    try simp only [Act.put, List.setIfInBounds_toArray, List.set_cons_zero, List.set_cons_succ]
    refine wpAnyT_ready (rs := [1]) (by kernel_rfl) (by simp) (AllT.cons (o := { dst := some 83, op := Op.call { callee := Callee.value (Operand.func 13), args := #[Operand.tmp 82], argTypes := #[26] }, type := 30, pos := "law.go:93", after := #[{ on := 0, ground := Ground.data }], guard := none }) rfl (fun K hK => ?_) AllT.nil)
    go_simp
    go_at_call 13
    refine (C13 _ d1).out.mono ?_
    rintro _ wa ⟨rfl, ga⟩
    have da : U.grownBy wa none := only_step d1 ga (fun _ h => by cases h)
    refine hK.out _ _ (holds1 (fun _ => (SU _ da).out)) ?_
    clear hK K
    try simp only [Act.put, List.setIfInBounds_toArray, List.set_cons_zero, List.set_cons_succ]
    refine wpAnyT_ready (rs := [3]) (by kernel_rfl) (by simp) (AllT.cons (o := { dst := some 85, op := Op.call { callee := Callee.value (Operand.func 14), args := #[Operand.tmp 84], argTypes := #[26] }, type := 3, pos := "law.go:93", after := #[{ on := 2, ground := Ground.data }, { on := 1, ground := Ground.chain }], guard := none }) rfl (fun K hK => ?_) AllT.nil)
    go_simp
    go_at_call 14
    refine (C14 _ da).out.mono ?_
    rintro _ wb ⟨rfl, gb⟩
    have db : U.grownBy wb none := only_step da gb (fun _ h => by cases h)
    refine hK.out _ _ (holds1 (late_no (by kernel_rfl))) ?_
    clear hK K
    try simp only [Act.put, List.setIfInBounds_toArray, List.set_cons_zero, List.set_cons_succ]
    refine wpAnyT_pure (i := 4) (oi := { dst := some 86, op := Op.binOp BinOp.eql 3 (Operand.tmp 83) (Operand.tmp 85) 3, type := 4, pos := "law.go:93", after := #[{ on := 1, ground := Ground.data }, { on := 3, ground := Ground.data }], guard := none }) (v := ?_) rfl (by kernel_rfl) (by kernel_rfl) (by kernel_rfl) (by kernel_rfl) (fun _ _ _ h => h) (Or.inl ⟨by rfl, ?_⟩) (holds1 (late_no (by kernel_rfl))) ?_
    rotate_left
    · (intro W; go_simp; (try rw [hyy]); try with_reducible rfl)
    try simp only [Act.put, List.setIfInBounds_toArray, List.set_cons_zero, List.set_cons_succ]
    refine wpAnyT_pure (i := 5) (oi := { dst := some 8, op := Op.assign (Operand.tmp 86), type := 4, pos := "law.go:93", after := #[{ on := 4, ground := Ground.data }, { on := 3, ground := Ground.chain }, { on := 0, ground := Ground.phase }, { on := 1, ground := Ground.phase }, { on := 2, ground := Ground.phase }, { on := 3, ground := Ground.phase }, { on := 4, ground := Ground.phase }], guard := none }) (v := ?_) rfl (by kernel_rfl) (by kernel_rfl) (by kernel_rfl) (by kernel_rfl) (fun _ _ _ h => h) (Or.inl ⟨by rfl, ?_⟩) (holds1 (late_no (by kernel_rfl))) ?_
    rotate_left
    · (intro W; go_simp; try with_reducible rfl)
    try simp only [Act.put, List.setIfInBounds_toArray, List.set_cons_zero, List.set_cons_succ]
    refine wpAnyT_done (by kernel_rfl) ?_ _
    go_wp2_with fail
    go_ret
    exact ⟨rfl, only_step GU db (fun _ h => by cases h)⟩
  · as_aux_lemma =>
    obtain ⟨c0, c1, c2, c3, c4, c5, c6, c7, c8, c9, c10⟩ := BGc.cells
    obtain ⟨o0, o1, o2, o3, o4, o5, o6, o7, o8, o9, o10⟩ := BOc.cells
    have fq := BGc.fr 2
    go_wp2_with fail
    obtain ⟨U, hU⟩ : ∃ Z, wc.setCell ⟨w4.heap.size, 2, none⟩ (.int .i64 num) = Z := ⟨_, rfl⟩
    have BU : OpB U w4.heap.size D E num C V K KY TX NN T (.slice AL L.length cL) := by subst hU; exact BGc.set2 _
    have gU : wc.grownBy U (some w4.heap.size) := by subst hU; exact set_at (only_refl _ _) 2 _
    rw [hU]
    clear hU c0 c1 c2 c3 c4 c5 c6 c7 c8 c9 c10 o0 o1 o2 o3 o4 o5 o6 o7 o8 o9 o10 fq
    have GU := only_step Gc gU (fun k hk => by cases hk; exact .inr hz)
    have HHu := Has.own_w (HOc.out.kept gU (own_apart HOc.out BGc))
    obtain ⟨Y, hY⟩ : ∃ Y, checkF D E num C V K NN T KY TX L = Y := ⟨_, rfl⟩
    have HY := Lib.hid hY
    have C13 : ∀ V', U.grownBy V' none → Hid (Calls Try.prog 13 #[.agg #[.int .i64 D, .int .i64 E, .int .i64 num, .int .i64 C, .int .i64 V, .int .i64 K, .string KY, .string TX, .int .i64 NN, .int .i64 T, .slice AL L.length cL]] V' fun e' w' => e' = .returned (.int .i64 Y) ∧ V'.grownBy w' none) := fun V' hV' => by rw [← HY.out]; exact check_f D E num C V K NN T KY TX AL cL L V' (HHu.up hV')
    have C14 : ∀ V', U.grownBy V' none → Hid (Calls Try.prog 14 #[.agg #[.int .i64 D, .int .i64 E, .int .i64 num, .int .i64 C, .int .i64 V, .int .i64 K, .string KY, .string TX, .int .i64 NN, .int .i64 T, .slice AL L.length cL]] V' fun e' w' => e' = .returned (.int .i64 Y) ∧ V'.grownBy w' none) := fun V' hV' => by rw [← HY.out]; exact rcheck_f D E num C V K NN T KY TX AL cL L V' (HHu.up hV')
    have SU : ∀ U0, U.grownBy U0 none → Hid (U0.cell? ⟨w4.heap.size, 0, none⟩ = some (.int .i64 D) ∧ U0.cell? ⟨w4.heap.size, 1, none⟩ = some (.int .i64 E) ∧ U0.cell? ⟨w4.heap.size, 2, none⟩ = some (.int .i64 num) ∧ U0.cell? ⟨w4.heap.size, 3, none⟩ = some (.int .i64 C) ∧ U0.cell? ⟨w4.heap.size, 4, none⟩ = some (.int .i64 V) ∧ U0.cell? ⟨w4.heap.size, 5, none⟩ = some (.int .i64 K) ∧ U0.cell? ⟨w4.heap.size, 6, none⟩ = some (.string KY) ∧ U0.cell? ⟨w4.heap.size, 7, none⟩ = some (.string TX) ∧ U0.cell? ⟨w4.heap.size, 8, none⟩ = some (.int .i64 NN) ∧ U0.cell? ⟨w4.heap.size, 9, none⟩ = some (.int .i64 T) ∧ U0.cell? ⟨w4.heap.size, 10, none⟩ = some (.slice AL L.length cL)) := fun U0 hV => (BU.other hV (by simp)).cells
    have d1 : U.grownBy U.drew none := only_drew (only_refl _ _)
    have S5u := SU _ d1
    have hyy : (Y == Y) = true := by simp
    clear hY HHu
    refine wp_region_late [(3, fun U0 => U0.cell? ⟨w4.heap.size, 0, none⟩ = some (.int .i64 D) ∧ U0.cell? ⟨w4.heap.size, 1, none⟩ = some (.int .i64 E) ∧ U0.cell? ⟨w4.heap.size, 2, none⟩ = some (.int .i64 num) ∧ U0.cell? ⟨w4.heap.size, 3, none⟩ = some (.int .i64 C) ∧ U0.cell? ⟨w4.heap.size, 4, none⟩ = some (.int .i64 V) ∧ U0.cell? ⟨w4.heap.size, 5, none⟩ = some (.int .i64 K) ∧ U0.cell? ⟨w4.heap.size, 6, none⟩ = some (.string KY) ∧ U0.cell? ⟨w4.heap.size, 7, none⟩ = some (.string TX) ∧ U0.cell? ⟨w4.heap.size, 8, none⟩ = some (.int .i64 NN) ∧ U0.cell? ⟨w4.heap.size, 9, none⟩ = some (.int .i64 T) ∧ U0.cell? ⟨w4.heap.size, 10, none⟩ = some (.slice AL L.length cL))] (by kernel_rfl) ?_
    refine wpAnyT_take 6 3 (i := 0) (oi := { dst := some 82, op := Op.load 26 (Operand.tmp 9), type := 26, pos := "law.go:93", after := #[], guard := none }) (v := ?_) (.head _) rfl (by kernel_rfl) (by kernel_rfl) (by kernel_rfl) (by kernel_rfl) (by kernel_rfl) (by kernel_rfl) (by rfl) (fun _ _ _ h => h) (by rfl) ?_ (holds1 (fun _ => S5u.out)) ?_
    rotate_left
    · (intro W hSw; (try dsimp only at hSw); go_simp; try with_reducible rfl)
    try simp only [Act.put, List.setIfInBounds_toArray, List.set_cons_zero, List.set_cons_succ]
    refine wpAnyT_take 6 3 (i := 2) (oi := { dst := some 84, op := Op.load 26 (Operand.tmp 9), type := 26, pos := "law.go:93", after := #[], guard := none }) (v := ?_) (.head _) rfl (by kernel_rfl) (by kernel_rfl) (by kernel_rfl) (by kernel_rfl) (by kernel_rfl) (by kernel_rfl) (by rfl) (fun _ _ _ h => h) (by rfl) ?_ (holds1 (fun _ => S5u.out)) ?_
    rotate_left
    · (intro W hSw; (try dsimp only at hSw); go_simp; try with_reducible rfl)
    try simp only [Act.put, List.setIfInBounds_toArray, List.set_cons_zero, List.set_cons_succ]
    refine wpAnyT_ready (rs := [1]) (by kernel_rfl) (by simp) (AllT.cons (o := { dst := some 83, op := Op.call { callee := Callee.value (Operand.func 13), args := #[Operand.tmp 82], argTypes := #[26] }, type := 30, pos := "law.go:93", after := #[{ on := 0, ground := Ground.data }], guard := none }) rfl (fun K hK => ?_) AllT.nil)
    go_simp
    go_at_call 13
    refine (C13 _ d1).out.mono ?_
    rintro _ wa ⟨rfl, ga⟩
    have da : U.grownBy wa none := only_step d1 ga (fun _ h => by cases h)
    refine hK.out _ _ (holds1 (fun _ => (SU _ da).out)) ?_
    clear hK K
    try simp only [Act.put, List.setIfInBounds_toArray, List.set_cons_zero, List.set_cons_succ]
    refine wpAnyT_ready (rs := [3]) (by kernel_rfl) (by simp) (AllT.cons (o := { dst := some 85, op := Op.call { callee := Callee.value (Operand.func 14), args := #[Operand.tmp 84], argTypes := #[26] }, type := 3, pos := "law.go:93", after := #[{ on := 2, ground := Ground.data }, { on := 1, ground := Ground.chain }], guard := none }) rfl (fun K hK => ?_) AllT.nil)
    go_simp
    go_at_call 14
    refine (C14 _ da).out.mono ?_
    rintro _ wb ⟨rfl, gb⟩
    have db : U.grownBy wb none := only_step da gb (fun _ h => by cases h)
    refine hK.out _ _ (holds1 (late_no (by kernel_rfl))) ?_
    clear hK K
    try simp only [Act.put, List.setIfInBounds_toArray, List.set_cons_zero, List.set_cons_succ]
    refine wpAnyT_pure (i := 4) (oi := { dst := some 86, op := Op.binOp BinOp.eql 3 (Operand.tmp 83) (Operand.tmp 85) 3, type := 4, pos := "law.go:93", after := #[{ on := 1, ground := Ground.data }, { on := 3, ground := Ground.data }], guard := none }) (v := ?_) rfl (by kernel_rfl) (by kernel_rfl) (by kernel_rfl) (by kernel_rfl) (fun _ _ _ h => h) (Or.inl ⟨by rfl, ?_⟩) (holds1 (late_no (by kernel_rfl))) ?_
    rotate_left
    · (intro W; go_simp; (try rw [hyy]); try with_reducible rfl)
    try simp only [Act.put, List.setIfInBounds_toArray, List.set_cons_zero, List.set_cons_succ]
    refine wpAnyT_pure (i := 5) (oi := { dst := some 8, op := Op.assign (Operand.tmp 86), type := 4, pos := "law.go:93", after := #[{ on := 4, ground := Ground.data }, { on := 3, ground := Ground.chain }, { on := 0, ground := Ground.phase }, { on := 1, ground := Ground.phase }, { on := 2, ground := Ground.phase }, { on := 3, ground := Ground.phase }, { on := 4, ground := Ground.phase }], guard := none }) (v := ?_) rfl (by kernel_rfl) (by kernel_rfl) (by kernel_rfl) (by kernel_rfl) (fun _ _ _ h => h) (Or.inl ⟨by rfl, ?_⟩) (holds1 (late_no (by kernel_rfl))) ?_
    rotate_left
    · (intro W; go_simp; try with_reducible rfl)
    try simp only [Act.put, List.setIfInBounds_toArray, List.set_cons_zero, List.set_cons_succ]
    refine wpAnyT_done (by kernel_rfl) ?_ _
    go_wp2_with fail
    go_ret
    exact ⟨rfl, only_step GU db (fun _ h => by cases h)⟩
  · as_aux_lemma =>
    obtain ⟨c0, c1, c2, c3, c4, c5, c6, c7, c8, c9, c10⟩ := BGc.cells
    obtain ⟨o0, o1, o2, o3, o4, o5, o6, o7, o8, o9, o10⟩ := BOc.cells
    have fq := BGc.fr 3
    go_wp2_with fail
    obtain ⟨U, hU⟩ : ∃ Z, wc.setCell ⟨w4.heap.size, 3, none⟩ (.int .i64 num) = Z := ⟨_, rfl⟩
    have BU : OpB U w4.heap.size D E S num V K KY TX NN T (.slice AL L.length cL) := by subst hU; exact BGc.set3 _
    have gU : wc.grownBy U (some w4.heap.size) := by subst hU; exact set_at (only_refl _ _) 3 _
    rw [hU]
    clear hU c0 c1 c2 c3 c4 c5 c6 c7 c8 c9 c10 o0 o1 o2 o3 o4 o5 o6 o7 o8 o9 o10 fq
    have GU := only_step Gc gU (fun k hk => by cases hk; exact .inr hz)
    have HHu := Has.own_w (HOc.out.kept gU (own_apart HOc.out BGc))
    obtain ⟨Y, hY⟩ : ∃ Y, checkF D E S num V K NN T KY TX L = Y := ⟨_, rfl⟩
    have HY := Lib.hid hY
    have C13 : ∀ V', U.grownBy V' none → Hid (Calls Try.prog 13 #[.agg #[.int .i64 D, .int .i64 E, .int .i64 S, .int .i64 num, .int .i64 V, .int .i64 K, .string KY, .string TX, .int .i64 NN, .int .i64 T, .slice AL L.length cL]] V' fun e' w' => e' = .returned (.int .i64 Y) ∧ V'.grownBy w' none) := fun V' hV' => by rw [← HY.out]; exact check_f D E S num V K NN T KY TX AL cL L V' (HHu.up hV')
    have C14 : ∀ V', U.grownBy V' none → Hid (Calls Try.prog 14 #[.agg #[.int .i64 D, .int .i64 E, .int .i64 S, .int .i64 num, .int .i64 V, .int .i64 K, .string KY, .string TX, .int .i64 NN, .int .i64 T, .slice AL L.length cL]] V' fun e' w' => e' = .returned (.int .i64 Y) ∧ V'.grownBy w' none) := fun V' hV' => by rw [← HY.out]; exact rcheck_f D E S num V K NN T KY TX AL cL L V' (HHu.up hV')
    have SU : ∀ U0, U.grownBy U0 none → Hid (U0.cell? ⟨w4.heap.size, 0, none⟩ = some (.int .i64 D) ∧ U0.cell? ⟨w4.heap.size, 1, none⟩ = some (.int .i64 E) ∧ U0.cell? ⟨w4.heap.size, 2, none⟩ = some (.int .i64 S) ∧ U0.cell? ⟨w4.heap.size, 3, none⟩ = some (.int .i64 num) ∧ U0.cell? ⟨w4.heap.size, 4, none⟩ = some (.int .i64 V) ∧ U0.cell? ⟨w4.heap.size, 5, none⟩ = some (.int .i64 K) ∧ U0.cell? ⟨w4.heap.size, 6, none⟩ = some (.string KY) ∧ U0.cell? ⟨w4.heap.size, 7, none⟩ = some (.string TX) ∧ U0.cell? ⟨w4.heap.size, 8, none⟩ = some (.int .i64 NN) ∧ U0.cell? ⟨w4.heap.size, 9, none⟩ = some (.int .i64 T) ∧ U0.cell? ⟨w4.heap.size, 10, none⟩ = some (.slice AL L.length cL)) := fun U0 hV => (BU.other hV (by simp)).cells
    have d1 : U.grownBy U.drew none := only_drew (only_refl _ _)
    have S5u := SU _ d1
    have hyy : (Y == Y) = true := by simp
    clear hY HHu
    refine wp_region_late [(3, fun U0 => U0.cell? ⟨w4.heap.size, 0, none⟩ = some (.int .i64 D) ∧ U0.cell? ⟨w4.heap.size, 1, none⟩ = some (.int .i64 E) ∧ U0.cell? ⟨w4.heap.size, 2, none⟩ = some (.int .i64 S) ∧ U0.cell? ⟨w4.heap.size, 3, none⟩ = some (.int .i64 num) ∧ U0.cell? ⟨w4.heap.size, 4, none⟩ = some (.int .i64 V) ∧ U0.cell? ⟨w4.heap.size, 5, none⟩ = some (.int .i64 K) ∧ U0.cell? ⟨w4.heap.size, 6, none⟩ = some (.string KY) ∧ U0.cell? ⟨w4.heap.size, 7, none⟩ = some (.string TX) ∧ U0.cell? ⟨w4.heap.size, 8, none⟩ = some (.int .i64 NN) ∧ U0.cell? ⟨w4.heap.size, 9, none⟩ = some (.int .i64 T) ∧ U0.cell? ⟨w4.heap.size, 10, none⟩ = some (.slice AL L.length cL))] (by kernel_rfl) ?_
    refine wpAnyT_take 6 3 (i := 0) (oi := { dst := some 82, op := Op.load 26 (Operand.tmp 9), type := 26, pos := "law.go:93", after := #[], guard := none }) (v := ?_) (.head _) rfl (by kernel_rfl) (by kernel_rfl) (by kernel_rfl) (by kernel_rfl) (by kernel_rfl) (by kernel_rfl) (by rfl) (fun _ _ _ h => h) (by rfl) ?_ (holds1 (fun _ => S5u.out)) ?_
    rotate_left
    · (intro W hSw; (try dsimp only at hSw); go_simp; try with_reducible rfl)
    try simp only [Act.put, List.setIfInBounds_toArray, List.set_cons_zero, List.set_cons_succ]
    refine wpAnyT_take 6 3 (i := 2) (oi := { dst := some 84, op := Op.load 26 (Operand.tmp 9), type := 26, pos := "law.go:93", after := #[], guard := none }) (v := ?_) (.head _) rfl (by kernel_rfl) (by kernel_rfl) (by kernel_rfl) (by kernel_rfl) (by kernel_rfl) (by kernel_rfl) (by rfl) (fun _ _ _ h => h) (by rfl) ?_ (holds1 (fun _ => S5u.out)) ?_
    rotate_left
    · (intro W hSw; (try dsimp only at hSw); go_simp; try with_reducible rfl)
    try simp only [Act.put, List.setIfInBounds_toArray, List.set_cons_zero, List.set_cons_succ]
    refine wpAnyT_ready (rs := [1]) (by kernel_rfl) (by simp) (AllT.cons (o := { dst := some 83, op := Op.call { callee := Callee.value (Operand.func 13), args := #[Operand.tmp 82], argTypes := #[26] }, type := 30, pos := "law.go:93", after := #[{ on := 0, ground := Ground.data }], guard := none }) rfl (fun K hK => ?_) AllT.nil)
    go_simp
    go_at_call 13
    refine (C13 _ d1).out.mono ?_
    rintro _ wa ⟨rfl, ga⟩
    have da : U.grownBy wa none := only_step d1 ga (fun _ h => by cases h)
    refine hK.out _ _ (holds1 (fun _ => (SU _ da).out)) ?_
    clear hK K
    try simp only [Act.put, List.setIfInBounds_toArray, List.set_cons_zero, List.set_cons_succ]
    refine wpAnyT_ready (rs := [3]) (by kernel_rfl) (by simp) (AllT.cons (o := { dst := some 85, op := Op.call { callee := Callee.value (Operand.func 14), args := #[Operand.tmp 84], argTypes := #[26] }, type := 3, pos := "law.go:93", after := #[{ on := 2, ground := Ground.data }, { on := 1, ground := Ground.chain }], guard := none }) rfl (fun K hK => ?_) AllT.nil)
    go_simp
    go_at_call 14
    refine (C14 _ da).out.mono ?_
    rintro _ wb ⟨rfl, gb⟩
    have db : U.grownBy wb none := only_step da gb (fun _ h => by cases h)
    refine hK.out _ _ (holds1 (late_no (by kernel_rfl))) ?_
    clear hK K
    try simp only [Act.put, List.setIfInBounds_toArray, List.set_cons_zero, List.set_cons_succ]
    refine wpAnyT_pure (i := 4) (oi := { dst := some 86, op := Op.binOp BinOp.eql 3 (Operand.tmp 83) (Operand.tmp 85) 3, type := 4, pos := "law.go:93", after := #[{ on := 1, ground := Ground.data }, { on := 3, ground := Ground.data }], guard := none }) (v := ?_) rfl (by kernel_rfl) (by kernel_rfl) (by kernel_rfl) (by kernel_rfl) (fun _ _ _ h => h) (Or.inl ⟨by rfl, ?_⟩) (holds1 (late_no (by kernel_rfl))) ?_
    rotate_left
    · (intro W; go_simp; (try rw [hyy]); try with_reducible rfl)
    try simp only [Act.put, List.setIfInBounds_toArray, List.set_cons_zero, List.set_cons_succ]
    refine wpAnyT_pure (i := 5) (oi := { dst := some 8, op := Op.assign (Operand.tmp 86), type := 4, pos := "law.go:93", after := #[{ on := 4, ground := Ground.data }, { on := 3, ground := Ground.chain }, { on := 0, ground := Ground.phase }, { on := 1, ground := Ground.phase }, { on := 2, ground := Ground.phase }, { on := 3, ground := Ground.phase }, { on := 4, ground := Ground.phase }], guard := none }) (v := ?_) rfl (by kernel_rfl) (by kernel_rfl) (by kernel_rfl) (by kernel_rfl) (fun _ _ _ h => h) (Or.inl ⟨by rfl, ?_⟩) (holds1 (late_no (by kernel_rfl))) ?_
    rotate_left
    · (intro W; go_simp; try with_reducible rfl)
    try simp only [Act.put, List.setIfInBounds_toArray, List.set_cons_zero, List.set_cons_succ]
    refine wpAnyT_done (by kernel_rfl) ?_ _
    go_wp2_with fail
    go_ret
    exact ⟨rfl, only_step GU db (fun _ h => by cases h)⟩
  · as_aux_lemma =>
    obtain ⟨c0, c1, c2, c3, c4, c5, c6, c7, c8, c9, c10⟩ := BGc.cells
    obtain ⟨o0, o1, o2, o3, o4, o5, o6, o7, o8, o9, o10⟩ := BOc.cells
    have fq := BGc.fr 4
    go_wp2_with fail
    obtain ⟨U, hU⟩ : ∃ Z, wc.setCell ⟨w4.heap.size, 4, none⟩ (.int .i64 num) = Z := ⟨_, rfl⟩
    have BU : OpB U w4.heap.size D E S C num K KY TX NN T (.slice AL L.length cL) := by subst hU; exact BGc.set4 _
    have gU : wc.grownBy U (some w4.heap.size) := by subst hU; exact set_at (only_refl _ _) 4 _
    rw [hU]
    clear hU c0 c1 c2 c3 c4 c5 c6 c7 c8 c9 c10 o0 o1 o2 o3 o4 o5 o6 o7 o8 o9 o10 fq
    have GU := only_step Gc gU (fun k hk => by cases hk; exact .inr hz)
    have HHu := Has.own_w (HOc.out.kept gU (own_apart HOc.out BGc))
    obtain ⟨Y, hY⟩ : ∃ Y, checkF D E S C num K NN T KY TX L = Y := ⟨_, rfl⟩
    have HY := Lib.hid hY
    have C13 : ∀ V', U.grownBy V' none → Hid (Calls Try.prog 13 #[.agg #[.int .i64 D, .int .i64 E, .int .i64 S, .int .i64 C, .int .i64 num, .int .i64 K, .string KY, .string TX, .int .i64 NN, .int .i64 T, .slice AL L.length cL]] V' fun e' w' => e' = .returned (.int .i64 Y) ∧ V'.grownBy w' none) := fun V' hV' => by rw [← HY.out]; exact check_f D E S C num K NN T KY TX AL cL L V' (HHu.up hV')
    have C14 : ∀ V', U.grownBy V' none → Hid (Calls Try.prog 14 #[.agg #[.int .i64 D, .int .i64 E, .int .i64 S, .int .i64 C, .int .i64 num, .int .i64 K, .string KY, .string TX, .int .i64 NN, .int .i64 T, .slice AL L.length cL]] V' fun e' w' => e' = .returned (.int .i64 Y) ∧ V'.grownBy w' none) := fun V' hV' => by rw [← HY.out]; exact rcheck_f D E S C num K NN T KY TX AL cL L V' (HHu.up hV')
    have SU : ∀ U0, U.grownBy U0 none → Hid (U0.cell? ⟨w4.heap.size, 0, none⟩ = some (.int .i64 D) ∧ U0.cell? ⟨w4.heap.size, 1, none⟩ = some (.int .i64 E) ∧ U0.cell? ⟨w4.heap.size, 2, none⟩ = some (.int .i64 S) ∧ U0.cell? ⟨w4.heap.size, 3, none⟩ = some (.int .i64 C) ∧ U0.cell? ⟨w4.heap.size, 4, none⟩ = some (.int .i64 num) ∧ U0.cell? ⟨w4.heap.size, 5, none⟩ = some (.int .i64 K) ∧ U0.cell? ⟨w4.heap.size, 6, none⟩ = some (.string KY) ∧ U0.cell? ⟨w4.heap.size, 7, none⟩ = some (.string TX) ∧ U0.cell? ⟨w4.heap.size, 8, none⟩ = some (.int .i64 NN) ∧ U0.cell? ⟨w4.heap.size, 9, none⟩ = some (.int .i64 T) ∧ U0.cell? ⟨w4.heap.size, 10, none⟩ = some (.slice AL L.length cL)) := fun U0 hV => (BU.other hV (by simp)).cells
    have d1 : U.grownBy U.drew none := only_drew (only_refl _ _)
    have S5u := SU _ d1
    have hyy : (Y == Y) = true := by simp
    clear hY HHu
    refine wp_region_late [(3, fun U0 => U0.cell? ⟨w4.heap.size, 0, none⟩ = some (.int .i64 D) ∧ U0.cell? ⟨w4.heap.size, 1, none⟩ = some (.int .i64 E) ∧ U0.cell? ⟨w4.heap.size, 2, none⟩ = some (.int .i64 S) ∧ U0.cell? ⟨w4.heap.size, 3, none⟩ = some (.int .i64 C) ∧ U0.cell? ⟨w4.heap.size, 4, none⟩ = some (.int .i64 num) ∧ U0.cell? ⟨w4.heap.size, 5, none⟩ = some (.int .i64 K) ∧ U0.cell? ⟨w4.heap.size, 6, none⟩ = some (.string KY) ∧ U0.cell? ⟨w4.heap.size, 7, none⟩ = some (.string TX) ∧ U0.cell? ⟨w4.heap.size, 8, none⟩ = some (.int .i64 NN) ∧ U0.cell? ⟨w4.heap.size, 9, none⟩ = some (.int .i64 T) ∧ U0.cell? ⟨w4.heap.size, 10, none⟩ = some (.slice AL L.length cL))] (by kernel_rfl) ?_
    refine wpAnyT_take 6 3 (i := 0) (oi := { dst := some 82, op := Op.load 26 (Operand.tmp 9), type := 26, pos := "law.go:93", after := #[], guard := none }) (v := ?_) (.head _) rfl (by kernel_rfl) (by kernel_rfl) (by kernel_rfl) (by kernel_rfl) (by kernel_rfl) (by kernel_rfl) (by rfl) (fun _ _ _ h => h) (by rfl) ?_ (holds1 (fun _ => S5u.out)) ?_
    rotate_left
    · (intro W hSw; (try dsimp only at hSw); go_simp; try with_reducible rfl)
    try simp only [Act.put, List.setIfInBounds_toArray, List.set_cons_zero, List.set_cons_succ]
    refine wpAnyT_take 6 3 (i := 2) (oi := { dst := some 84, op := Op.load 26 (Operand.tmp 9), type := 26, pos := "law.go:93", after := #[], guard := none }) (v := ?_) (.head _) rfl (by kernel_rfl) (by kernel_rfl) (by kernel_rfl) (by kernel_rfl) (by kernel_rfl) (by kernel_rfl) (by rfl) (fun _ _ _ h => h) (by rfl) ?_ (holds1 (fun _ => S5u.out)) ?_
    rotate_left
    · (intro W hSw; (try dsimp only at hSw); go_simp; try with_reducible rfl)
    try simp only [Act.put, List.setIfInBounds_toArray, List.set_cons_zero, List.set_cons_succ]
    refine wpAnyT_ready (rs := [1]) (by kernel_rfl) (by simp) (AllT.cons (o := { dst := some 83, op := Op.call { callee := Callee.value (Operand.func 13), args := #[Operand.tmp 82], argTypes := #[26] }, type := 30, pos := "law.go:93", after := #[{ on := 0, ground := Ground.data }], guard := none }) rfl (fun K hK => ?_) AllT.nil)
    go_simp
    go_at_call 13
    refine (C13 _ d1).out.mono ?_
    rintro _ wa ⟨rfl, ga⟩
    have da : U.grownBy wa none := only_step d1 ga (fun _ h => by cases h)
    refine hK.out _ _ (holds1 (fun _ => (SU _ da).out)) ?_
    clear hK K
    try simp only [Act.put, List.setIfInBounds_toArray, List.set_cons_zero, List.set_cons_succ]
    refine wpAnyT_ready (rs := [3]) (by kernel_rfl) (by simp) (AllT.cons (o := { dst := some 85, op := Op.call { callee := Callee.value (Operand.func 14), args := #[Operand.tmp 84], argTypes := #[26] }, type := 3, pos := "law.go:93", after := #[{ on := 2, ground := Ground.data }, { on := 1, ground := Ground.chain }], guard := none }) rfl (fun K hK => ?_) AllT.nil)
    go_simp
    go_at_call 14
    refine (C14 _ da).out.mono ?_
    rintro _ wb ⟨rfl, gb⟩
    have db : U.grownBy wb none := only_step da gb (fun _ h => by cases h)
    refine hK.out _ _ (holds1 (late_no (by kernel_rfl))) ?_
    clear hK K
    try simp only [Act.put, List.setIfInBounds_toArray, List.set_cons_zero, List.set_cons_succ]
    refine wpAnyT_pure (i := 4) (oi := { dst := some 86, op := Op.binOp BinOp.eql 3 (Operand.tmp 83) (Operand.tmp 85) 3, type := 4, pos := "law.go:93", after := #[{ on := 1, ground := Ground.data }, { on := 3, ground := Ground.data }], guard := none }) (v := ?_) rfl (by kernel_rfl) (by kernel_rfl) (by kernel_rfl) (by kernel_rfl) (fun _ _ _ h => h) (Or.inl ⟨by rfl, ?_⟩) (holds1 (late_no (by kernel_rfl))) ?_
    rotate_left
    · (intro W; go_simp; (try rw [hyy]); try with_reducible rfl)
    try simp only [Act.put, List.setIfInBounds_toArray, List.set_cons_zero, List.set_cons_succ]
    refine wpAnyT_pure (i := 5) (oi := { dst := some 8, op := Op.assign (Operand.tmp 86), type := 4, pos := "law.go:93", after := #[{ on := 4, ground := Ground.data }, { on := 3, ground := Ground.chain }, { on := 0, ground := Ground.phase }, { on := 1, ground := Ground.phase }, { on := 2, ground := Ground.phase }, { on := 3, ground := Ground.phase }, { on := 4, ground := Ground.phase }], guard := none }) (v := ?_) rfl (by kernel_rfl) (by kernel_rfl) (by kernel_rfl) (by kernel_rfl) (fun _ _ _ h => h) (Or.inl ⟨by rfl, ?_⟩) (holds1 (late_no (by kernel_rfl))) ?_
    rotate_left
    · (intro W; go_simp; try with_reducible rfl)
    try simp only [Act.put, List.setIfInBounds_toArray, List.set_cons_zero, List.set_cons_succ]
    refine wpAnyT_done (by kernel_rfl) ?_ _
    go_wp2_with fail
    go_ret
    exact ⟨rfl, only_step GU db (fun _ h => by cases h)⟩
  · as_aux_lemma =>
    obtain ⟨c0, c1, c2, c3, c4, c5, c6, c7, c8, c9, c10⟩ := BGc.cells
    obtain ⟨o0, o1, o2, o3, o4, o5, o6, o7, o8, o9, o10⟩ := BOc.cells
    have fq := BGc.fr 5
    go_wp2_with fail
    obtain ⟨U, hU⟩ : ∃ Z, wc.setCell ⟨w4.heap.size, 5, none⟩ (.int .i64 num) = Z := ⟨_, rfl⟩
    have BU : OpB U w4.heap.size D E S C V num KY TX NN T (.slice AL L.length cL) := by subst hU; exact BGc.set5 _
    have gU : wc.grownBy U (some w4.heap.size) := by subst hU; exact set_at (only_refl _ _) 5 _
    rw [hU]
    clear hU c0 c1 c2 c3 c4 c5 c6 c7 c8 c9 c10 o0 o1 o2 o3 o4 o5 o6 o7 o8 o9 o10 fq
    have GU := only_step Gc gU (fun k hk => by cases hk; exact .inr hz)
    have HHu := Has.own_w (HOc.out.kept gU (own_apart HOc.out BGc))
    obtain ⟨Y, hY⟩ : ∃ Y, checkF D E S C V num NN T KY TX L = Y := ⟨_, rfl⟩
    have HY := Lib.hid hY
    have C13 : ∀ V', U.grownBy V' none → Hid (Calls Try.prog 13 #[.agg #[.int .i64 D, .int .i64 E, .int .i64 S, .int .i64 C, .int .i64 V, .int .i64 num, .string KY, .string TX, .int .i64 NN, .int .i64 T, .slice AL L.length cL]] V' fun e' w' => e' = .returned (.int .i64 Y) ∧ V'.grownBy w' none) := fun V' hV' => by rw [← HY.out]; exact check_f D E S C V num NN T KY TX AL cL L V' (HHu.up hV')
    have C14 : ∀ V', U.grownBy V' none → Hid (Calls Try.prog 14 #[.agg #[.int .i64 D, .int .i64 E, .int .i64 S, .int .i64 C, .int .i64 V, .int .i64 num, .string KY, .string TX, .int .i64 NN, .int .i64 T, .slice AL L.length cL]] V' fun e' w' => e' = .returned (.int .i64 Y) ∧ V'.grownBy w' none) := fun V' hV' => by rw [← HY.out]; exact rcheck_f D E S C V num NN T KY TX AL cL L V' (HHu.up hV')
    have SU : ∀ U0, U.grownBy U0 none → Hid (U0.cell? ⟨w4.heap.size, 0, none⟩ = some (.int .i64 D) ∧ U0.cell? ⟨w4.heap.size, 1, none⟩ = some (.int .i64 E) ∧ U0.cell? ⟨w4.heap.size, 2, none⟩ = some (.int .i64 S) ∧ U0.cell? ⟨w4.heap.size, 3, none⟩ = some (.int .i64 C) ∧ U0.cell? ⟨w4.heap.size, 4, none⟩ = some (.int .i64 V) ∧ U0.cell? ⟨w4.heap.size, 5, none⟩ = some (.int .i64 num) ∧ U0.cell? ⟨w4.heap.size, 6, none⟩ = some (.string KY) ∧ U0.cell? ⟨w4.heap.size, 7, none⟩ = some (.string TX) ∧ U0.cell? ⟨w4.heap.size, 8, none⟩ = some (.int .i64 NN) ∧ U0.cell? ⟨w4.heap.size, 9, none⟩ = some (.int .i64 T) ∧ U0.cell? ⟨w4.heap.size, 10, none⟩ = some (.slice AL L.length cL)) := fun U0 hV => (BU.other hV (by simp)).cells
    have d1 : U.grownBy U.drew none := only_drew (only_refl _ _)
    have S5u := SU _ d1
    have hyy : (Y == Y) = true := by simp
    clear hY HHu
    refine wp_region_late [(3, fun U0 => U0.cell? ⟨w4.heap.size, 0, none⟩ = some (.int .i64 D) ∧ U0.cell? ⟨w4.heap.size, 1, none⟩ = some (.int .i64 E) ∧ U0.cell? ⟨w4.heap.size, 2, none⟩ = some (.int .i64 S) ∧ U0.cell? ⟨w4.heap.size, 3, none⟩ = some (.int .i64 C) ∧ U0.cell? ⟨w4.heap.size, 4, none⟩ = some (.int .i64 V) ∧ U0.cell? ⟨w4.heap.size, 5, none⟩ = some (.int .i64 num) ∧ U0.cell? ⟨w4.heap.size, 6, none⟩ = some (.string KY) ∧ U0.cell? ⟨w4.heap.size, 7, none⟩ = some (.string TX) ∧ U0.cell? ⟨w4.heap.size, 8, none⟩ = some (.int .i64 NN) ∧ U0.cell? ⟨w4.heap.size, 9, none⟩ = some (.int .i64 T) ∧ U0.cell? ⟨w4.heap.size, 10, none⟩ = some (.slice AL L.length cL))] (by kernel_rfl) ?_
    refine wpAnyT_take 6 3 (i := 0) (oi := { dst := some 82, op := Op.load 26 (Operand.tmp 9), type := 26, pos := "law.go:93", after := #[], guard := none }) (v := ?_) (.head _) rfl (by kernel_rfl) (by kernel_rfl) (by kernel_rfl) (by kernel_rfl) (by kernel_rfl) (by kernel_rfl) (by rfl) (fun _ _ _ h => h) (by rfl) ?_ (holds1 (fun _ => S5u.out)) ?_
    rotate_left
    · (intro W hSw; (try dsimp only at hSw); go_simp; try with_reducible rfl)
    try simp only [Act.put, List.setIfInBounds_toArray, List.set_cons_zero, List.set_cons_succ]
    refine wpAnyT_take 6 3 (i := 2) (oi := { dst := some 84, op := Op.load 26 (Operand.tmp 9), type := 26, pos := "law.go:93", after := #[], guard := none }) (v := ?_) (.head _) rfl (by kernel_rfl) (by kernel_rfl) (by kernel_rfl) (by kernel_rfl) (by kernel_rfl) (by kernel_rfl) (by rfl) (fun _ _ _ h => h) (by rfl) ?_ (holds1 (fun _ => S5u.out)) ?_
    rotate_left
    · (intro W hSw; (try dsimp only at hSw); go_simp; try with_reducible rfl)
    try simp only [Act.put, List.setIfInBounds_toArray, List.set_cons_zero, List.set_cons_succ]
    refine wpAnyT_ready (rs := [1]) (by kernel_rfl) (by simp) (AllT.cons (o := { dst := some 83, op := Op.call { callee := Callee.value (Operand.func 13), args := #[Operand.tmp 82], argTypes := #[26] }, type := 30, pos := "law.go:93", after := #[{ on := 0, ground := Ground.data }], guard := none }) rfl (fun K hK => ?_) AllT.nil)
    go_simp
    go_at_call 13
    refine (C13 _ d1).out.mono ?_
    rintro _ wa ⟨rfl, ga⟩
    have da : U.grownBy wa none := only_step d1 ga (fun _ h => by cases h)
    refine hK.out _ _ (holds1 (fun _ => (SU _ da).out)) ?_
    clear hK K
    try simp only [Act.put, List.setIfInBounds_toArray, List.set_cons_zero, List.set_cons_succ]
    refine wpAnyT_ready (rs := [3]) (by kernel_rfl) (by simp) (AllT.cons (o := { dst := some 85, op := Op.call { callee := Callee.value (Operand.func 14), args := #[Operand.tmp 84], argTypes := #[26] }, type := 3, pos := "law.go:93", after := #[{ on := 2, ground := Ground.data }, { on := 1, ground := Ground.chain }], guard := none }) rfl (fun K hK => ?_) AllT.nil)
    go_simp
    go_at_call 14
    refine (C14 _ da).out.mono ?_
    rintro _ wb ⟨rfl, gb⟩
    have db : U.grownBy wb none := only_step da gb (fun _ h => by cases h)
    refine hK.out _ _ (holds1 (late_no (by kernel_rfl))) ?_
    clear hK K
    try simp only [Act.put, List.setIfInBounds_toArray, List.set_cons_zero, List.set_cons_succ]
    refine wpAnyT_pure (i := 4) (oi := { dst := some 86, op := Op.binOp BinOp.eql 3 (Operand.tmp 83) (Operand.tmp 85) 3, type := 4, pos := "law.go:93", after := #[{ on := 1, ground := Ground.data }, { on := 3, ground := Ground.data }], guard := none }) (v := ?_) rfl (by kernel_rfl) (by kernel_rfl) (by kernel_rfl) (by kernel_rfl) (fun _ _ _ h => h) (Or.inl ⟨by rfl, ?_⟩) (holds1 (late_no (by kernel_rfl))) ?_
    rotate_left
    · (intro W; go_simp; (try rw [hyy]); try with_reducible rfl)
    try simp only [Act.put, List.setIfInBounds_toArray, List.set_cons_zero, List.set_cons_succ]
    refine wpAnyT_pure (i := 5) (oi := { dst := some 8, op := Op.assign (Operand.tmp 86), type := 4, pos := "law.go:93", after := #[{ on := 4, ground := Ground.data }, { on := 3, ground := Ground.chain }, { on := 0, ground := Ground.phase }, { on := 1, ground := Ground.phase }, { on := 2, ground := Ground.phase }, { on := 3, ground := Ground.phase }, { on := 4, ground := Ground.phase }], guard := none }) (v := ?_) rfl (by kernel_rfl) (by kernel_rfl) (by kernel_rfl) (by kernel_rfl) (fun _ _ _ h => h) (Or.inl ⟨by rfl, ?_⟩) (holds1 (late_no (by kernel_rfl))) ?_
    rotate_left
    · (intro W; go_simp; try with_reducible rfl)
    try simp only [Act.put, List.setIfInBounds_toArray, List.set_cons_zero, List.set_cons_succ]
    refine wpAnyT_done (by kernel_rfl) ?_ _
    go_wp2_with fail
    go_ret
    exact ⟨rfl, only_step GU db (fun _ h => by cases h)⟩
  · as_aux_lemma =>
    obtain ⟨c0, c1, c2, c3, c4, c5, c6, c7, c8, c9, c10⟩ := BGc.cells
    obtain ⟨o0, o1, o2, o3, o4, o5, o6, o7, o8, o9, o10⟩ := BOc.cells
    have fq := BGc.fr 9
    go_wp2_with fail
    obtain ⟨U, hU⟩ : ∃ Z, wc.setCell ⟨w4.heap.size, 9, none⟩ (.int .i64 num) = Z := ⟨_, rfl⟩
    have BU : OpB U w4.heap.size D E S C V K KY TX NN num (.slice AL L.length cL) := by subst hU; exact BGc.set9 _
    have gU : wc.grownBy U (some w4.heap.size) := by subst hU; exact set_at (only_refl _ _) 9 _
    rw [hU]
    clear hU c0 c1 c2 c3 c4 c5 c6 c7 c8 c9 c10 o0 o1 o2 o3 o4 o5 o6 o7 o8 o9 o10 fq
    have GU := only_step Gc gU (fun k hk => by cases hk; exact .inr hz)
    have HHu := Has.own_w (HOc.out.kept gU (own_apart HOc.out BGc))
    obtain ⟨Y, hY⟩ : ∃ Y, checkF D E S C V K NN num KY TX L = Y := ⟨_, rfl⟩
    have HY := Lib.hid hY
    have C13 : ∀ V', U.grownBy V' none → Hid (Calls Try.prog 13 #[.agg #[.int .i64 D, .int .i64 E, .int .i64 S, .int .i64 C, .int .i64 V, .int .i64 K, .string KY, .string TX, .int .i64 NN, .int .i64 num, .slice AL L.length cL]] V' fun e' w' => e' = .returned (.int .i64 Y) ∧ V'.grownBy w' none) := fun V' hV' => by rw [← HY.out]; exact check_f D E S C V K NN num KY TX AL cL L V' (HHu.up hV')
    have C14 : ∀ V', U.grownBy V' none → Hid (Calls Try.prog 14 #[.agg #[.int .i64 D, .int .i64 E, .int .i64 S, .int .i64 C, .int .i64 V, .int .i64 K, .string KY, .string TX, .int .i64 NN, .int .i64 num, .slice AL L.length cL]] V' fun e' w' => e' = .returned (.int .i64 Y) ∧ V'.grownBy w' none) := fun V' hV' => by rw [← HY.out]; exact rcheck_f D E S C V K NN num KY TX AL cL L V' (HHu.up hV')
    have SU : ∀ U0, U.grownBy U0 none → Hid (U0.cell? ⟨w4.heap.size, 0, none⟩ = some (.int .i64 D) ∧ U0.cell? ⟨w4.heap.size, 1, none⟩ = some (.int .i64 E) ∧ U0.cell? ⟨w4.heap.size, 2, none⟩ = some (.int .i64 S) ∧ U0.cell? ⟨w4.heap.size, 3, none⟩ = some (.int .i64 C) ∧ U0.cell? ⟨w4.heap.size, 4, none⟩ = some (.int .i64 V) ∧ U0.cell? ⟨w4.heap.size, 5, none⟩ = some (.int .i64 K) ∧ U0.cell? ⟨w4.heap.size, 6, none⟩ = some (.string KY) ∧ U0.cell? ⟨w4.heap.size, 7, none⟩ = some (.string TX) ∧ U0.cell? ⟨w4.heap.size, 8, none⟩ = some (.int .i64 NN) ∧ U0.cell? ⟨w4.heap.size, 9, none⟩ = some (.int .i64 num) ∧ U0.cell? ⟨w4.heap.size, 10, none⟩ = some (.slice AL L.length cL)) := fun U0 hV => (BU.other hV (by simp)).cells
    have d1 : U.grownBy U.drew none := only_drew (only_refl _ _)
    have S5u := SU _ d1
    have hyy : (Y == Y) = true := by simp
    clear hY HHu
    refine wp_region_late [(3, fun U0 => U0.cell? ⟨w4.heap.size, 0, none⟩ = some (.int .i64 D) ∧ U0.cell? ⟨w4.heap.size, 1, none⟩ = some (.int .i64 E) ∧ U0.cell? ⟨w4.heap.size, 2, none⟩ = some (.int .i64 S) ∧ U0.cell? ⟨w4.heap.size, 3, none⟩ = some (.int .i64 C) ∧ U0.cell? ⟨w4.heap.size, 4, none⟩ = some (.int .i64 V) ∧ U0.cell? ⟨w4.heap.size, 5, none⟩ = some (.int .i64 K) ∧ U0.cell? ⟨w4.heap.size, 6, none⟩ = some (.string KY) ∧ U0.cell? ⟨w4.heap.size, 7, none⟩ = some (.string TX) ∧ U0.cell? ⟨w4.heap.size, 8, none⟩ = some (.int .i64 NN) ∧ U0.cell? ⟨w4.heap.size, 9, none⟩ = some (.int .i64 num) ∧ U0.cell? ⟨w4.heap.size, 10, none⟩ = some (.slice AL L.length cL))] (by kernel_rfl) ?_
    refine wpAnyT_take 6 3 (i := 0) (oi := { dst := some 82, op := Op.load 26 (Operand.tmp 9), type := 26, pos := "law.go:93", after := #[], guard := none }) (v := ?_) (.head _) rfl (by kernel_rfl) (by kernel_rfl) (by kernel_rfl) (by kernel_rfl) (by kernel_rfl) (by kernel_rfl) (by rfl) (fun _ _ _ h => h) (by rfl) ?_ (holds1 (fun _ => S5u.out)) ?_
    rotate_left
    · (intro W hSw; (try dsimp only at hSw); go_simp; try with_reducible rfl)
    try simp only [Act.put, List.setIfInBounds_toArray, List.set_cons_zero, List.set_cons_succ]
    refine wpAnyT_take 6 3 (i := 2) (oi := { dst := some 84, op := Op.load 26 (Operand.tmp 9), type := 26, pos := "law.go:93", after := #[], guard := none }) (v := ?_) (.head _) rfl (by kernel_rfl) (by kernel_rfl) (by kernel_rfl) (by kernel_rfl) (by kernel_rfl) (by kernel_rfl) (by rfl) (fun _ _ _ h => h) (by rfl) ?_ (holds1 (fun _ => S5u.out)) ?_
    rotate_left
    · (intro W hSw; (try dsimp only at hSw); go_simp; try with_reducible rfl)
    try simp only [Act.put, List.setIfInBounds_toArray, List.set_cons_zero, List.set_cons_succ]
    refine wpAnyT_ready (rs := [1]) (by kernel_rfl) (by simp) (AllT.cons (o := { dst := some 83, op := Op.call { callee := Callee.value (Operand.func 13), args := #[Operand.tmp 82], argTypes := #[26] }, type := 30, pos := "law.go:93", after := #[{ on := 0, ground := Ground.data }], guard := none }) rfl (fun K hK => ?_) AllT.nil)
    go_simp
    go_at_call 13
    refine (C13 _ d1).out.mono ?_
    rintro _ wa ⟨rfl, ga⟩
    have da : U.grownBy wa none := only_step d1 ga (fun _ h => by cases h)
    refine hK.out _ _ (holds1 (fun _ => (SU _ da).out)) ?_
    clear hK K
    try simp only [Act.put, List.setIfInBounds_toArray, List.set_cons_zero, List.set_cons_succ]
    refine wpAnyT_ready (rs := [3]) (by kernel_rfl) (by simp) (AllT.cons (o := { dst := some 85, op := Op.call { callee := Callee.value (Operand.func 14), args := #[Operand.tmp 84], argTypes := #[26] }, type := 3, pos := "law.go:93", after := #[{ on := 2, ground := Ground.data }, { on := 1, ground := Ground.chain }], guard := none }) rfl (fun K hK => ?_) AllT.nil)
    go_simp
    go_at_call 14
    refine (C14 _ da).out.mono ?_
    rintro _ wb ⟨rfl, gb⟩
    have db : U.grownBy wb none := only_step da gb (fun _ h => by cases h)
    refine hK.out _ _ (holds1 (late_no (by kernel_rfl))) ?_
    clear hK K
    try simp only [Act.put, List.setIfInBounds_toArray, List.set_cons_zero, List.set_cons_succ]
    refine wpAnyT_pure (i := 4) (oi := { dst := some 86, op := Op.binOp BinOp.eql 3 (Operand.tmp 83) (Operand.tmp 85) 3, type := 4, pos := "law.go:93", after := #[{ on := 1, ground := Ground.data }, { on := 3, ground := Ground.data }], guard := none }) (v := ?_) rfl (by kernel_rfl) (by kernel_rfl) (by kernel_rfl) (by kernel_rfl) (fun _ _ _ h => h) (Or.inl ⟨by rfl, ?_⟩) (holds1 (late_no (by kernel_rfl))) ?_
    rotate_left
    · (intro W; go_simp; (try rw [hyy]); try with_reducible rfl)
    try simp only [Act.put, List.setIfInBounds_toArray, List.set_cons_zero, List.set_cons_succ]
    refine wpAnyT_pure (i := 5) (oi := { dst := some 8, op := Op.assign (Operand.tmp 86), type := 4, pos := "law.go:93", after := #[{ on := 4, ground := Ground.data }, { on := 3, ground := Ground.chain }, { on := 0, ground := Ground.phase }, { on := 1, ground := Ground.phase }, { on := 2, ground := Ground.phase }, { on := 3, ground := Ground.phase }, { on := 4, ground := Ground.phase }], guard := none }) (v := ?_) rfl (by kernel_rfl) (by kernel_rfl) (by kernel_rfl) (by kernel_rfl) (fun _ _ _ h => h) (Or.inl ⟨by rfl, ?_⟩) (holds1 (late_no (by kernel_rfl))) ?_
    rotate_left
    · (intro W; go_simp; try with_reducible rfl)
    try simp only [Act.put, List.setIfInBounds_toArray, List.set_cons_zero, List.set_cons_succ]
    refine wpAnyT_done (by kernel_rfl) ?_ _
    go_wp2_with fail
    go_ret
    exact ⟨rfl, only_step GU db (fun _ h => by cases h)⟩
  · as_aux_lemma =>
    obtain ⟨c0, c1, c2, c3, c4, c5, c6, c7, c8, c9, c10⟩ := BGc.cells
    obtain ⟨o0, o1, o2, o3, o4, o5, o6, o7, o8, o9, o10⟩ := BOc.cells
    have fq := BGc.fr 6
    go_wp2_with fail
    obtain ⟨U, hU⟩ : ∃ Z, wc.setCell ⟨w4.heap.size, 6, none⟩ (.string str) = Z := ⟨_, rfl⟩
    have BU : OpB U w4.heap.size D E S C V K str TX NN T (.slice AL L.length cL) := by subst hU; exact BGc.set6 _
    have gU : wc.grownBy U (some w4.heap.size) := by subst hU; exact set_at (only_refl _ _) 6 _
    rw [hU]
    clear hU c0 c1 c2 c3 c4 c5 c6 c7 c8 c9 c10 o0 o1 o2 o3 o4 o5 o6 o7 o8 o9 o10 fq
    have GU := only_step Gc gU (fun k hk => by cases hk; exact .inr hz)
    have HHu := Has.own_w (HOc.out.kept gU (own_apart HOc.out BGc))
    obtain ⟨Y, hY⟩ : ∃ Y, checkF D E S C V K NN T str TX L = Y := ⟨_, rfl⟩
    have HY := Lib.hid hY
    have C13 : ∀ V', U.grownBy V' none → Hid (Calls Try.prog 13 #[.agg #[.int .i64 D, .int .i64 E, .int .i64 S, .int .i64 C, .int .i64 V, .int .i64 K, .string str, .string TX, .int .i64 NN, .int .i64 T, .slice AL L.length cL]] V' fun e' w' => e' = .returned (.int .i64 Y) ∧ V'.grownBy w' none) := fun V' hV' => by rw [← HY.out]; exact check_f D E S C V K NN T str TX AL cL L V' (HHu.up hV')
    have C14 : ∀ V', U.grownBy V' none → Hid (Calls Try.prog 14 #[.agg #[.int .i64 D, .int .i64 E, .int .i64 S, .int .i64 C, .int .i64 V, .int .i64 K, .string str, .string TX, .int .i64 NN, .int .i64 T, .slice AL L.length cL]] V' fun e' w' => e' = .returned (.int .i64 Y) ∧ V'.grownBy w' none) := fun V' hV' => by rw [← HY.out]; exact rcheck_f D E S C V K NN T str TX AL cL L V' (HHu.up hV')
    have SU : ∀ U0, U.grownBy U0 none → Hid (U0.cell? ⟨w4.heap.size, 0, none⟩ = some (.int .i64 D) ∧ U0.cell? ⟨w4.heap.size, 1, none⟩ = some (.int .i64 E) ∧ U0.cell? ⟨w4.heap.size, 2, none⟩ = some (.int .i64 S) ∧ U0.cell? ⟨w4.heap.size, 3, none⟩ = some (.int .i64 C) ∧ U0.cell? ⟨w4.heap.size, 4, none⟩ = some (.int .i64 V) ∧ U0.cell? ⟨w4.heap.size, 5, none⟩ = some (.int .i64 K) ∧ U0.cell? ⟨w4.heap.size, 6, none⟩ = some (.string str) ∧ U0.cell? ⟨w4.heap.size, 7, none⟩ = some (.string TX) ∧ U0.cell? ⟨w4.heap.size, 8, none⟩ = some (.int .i64 NN) ∧ U0.cell? ⟨w4.heap.size, 9, none⟩ = some (.int .i64 T) ∧ U0.cell? ⟨w4.heap.size, 10, none⟩ = some (.slice AL L.length cL)) := fun U0 hV => (BU.other hV (by simp)).cells
    have d1 : U.grownBy U.drew none := only_drew (only_refl _ _)
    have S5u := SU _ d1
    have hyy : (Y == Y) = true := by simp
    clear hY HHu
    refine wp_region_late [(3, fun U0 => U0.cell? ⟨w4.heap.size, 0, none⟩ = some (.int .i64 D) ∧ U0.cell? ⟨w4.heap.size, 1, none⟩ = some (.int .i64 E) ∧ U0.cell? ⟨w4.heap.size, 2, none⟩ = some (.int .i64 S) ∧ U0.cell? ⟨w4.heap.size, 3, none⟩ = some (.int .i64 C) ∧ U0.cell? ⟨w4.heap.size, 4, none⟩ = some (.int .i64 V) ∧ U0.cell? ⟨w4.heap.size, 5, none⟩ = some (.int .i64 K) ∧ U0.cell? ⟨w4.heap.size, 6, none⟩ = some (.string str) ∧ U0.cell? ⟨w4.heap.size, 7, none⟩ = some (.string TX) ∧ U0.cell? ⟨w4.heap.size, 8, none⟩ = some (.int .i64 NN) ∧ U0.cell? ⟨w4.heap.size, 9, none⟩ = some (.int .i64 T) ∧ U0.cell? ⟨w4.heap.size, 10, none⟩ = some (.slice AL L.length cL))] (by kernel_rfl) ?_
    refine wpAnyT_take 6 3 (i := 0) (oi := { dst := some 82, op := Op.load 26 (Operand.tmp 9), type := 26, pos := "law.go:93", after := #[], guard := none }) (v := ?_) (.head _) rfl (by kernel_rfl) (by kernel_rfl) (by kernel_rfl) (by kernel_rfl) (by kernel_rfl) (by kernel_rfl) (by rfl) (fun _ _ _ h => h) (by rfl) ?_ (holds1 (fun _ => S5u.out)) ?_
    rotate_left
    · (intro W hSw; (try dsimp only at hSw); go_simp; try with_reducible rfl)
    try simp only [Act.put, List.setIfInBounds_toArray, List.set_cons_zero, List.set_cons_succ]
    refine wpAnyT_take 6 3 (i := 2) (oi := { dst := some 84, op := Op.load 26 (Operand.tmp 9), type := 26, pos := "law.go:93", after := #[], guard := none }) (v := ?_) (.head _) rfl (by kernel_rfl) (by kernel_rfl) (by kernel_rfl) (by kernel_rfl) (by kernel_rfl) (by kernel_rfl) (by rfl) (fun _ _ _ h => h) (by rfl) ?_ (holds1 (fun _ => S5u.out)) ?_
    rotate_left
    · (intro W hSw; (try dsimp only at hSw); go_simp; try with_reducible rfl)
    try simp only [Act.put, List.setIfInBounds_toArray, List.set_cons_zero, List.set_cons_succ]
    refine wpAnyT_ready (rs := [1]) (by kernel_rfl) (by simp) (AllT.cons (o := { dst := some 83, op := Op.call { callee := Callee.value (Operand.func 13), args := #[Operand.tmp 82], argTypes := #[26] }, type := 30, pos := "law.go:93", after := #[{ on := 0, ground := Ground.data }], guard := none }) rfl (fun K hK => ?_) AllT.nil)
    go_simp
    go_at_call 13
    refine (C13 _ d1).out.mono ?_
    rintro _ wa ⟨rfl, ga⟩
    have da : U.grownBy wa none := only_step d1 ga (fun _ h => by cases h)
    refine hK.out _ _ (holds1 (fun _ => (SU _ da).out)) ?_
    clear hK K
    try simp only [Act.put, List.setIfInBounds_toArray, List.set_cons_zero, List.set_cons_succ]
    refine wpAnyT_ready (rs := [3]) (by kernel_rfl) (by simp) (AllT.cons (o := { dst := some 85, op := Op.call { callee := Callee.value (Operand.func 14), args := #[Operand.tmp 84], argTypes := #[26] }, type := 3, pos := "law.go:93", after := #[{ on := 2, ground := Ground.data }, { on := 1, ground := Ground.chain }], guard := none }) rfl (fun K hK => ?_) AllT.nil)
    go_simp
    go_at_call 14
    refine (C14 _ da).out.mono ?_
    rintro _ wb ⟨rfl, gb⟩
    have db : U.grownBy wb none := only_step da gb (fun _ h => by cases h)
    refine hK.out _ _ (holds1 (late_no (by kernel_rfl))) ?_
    clear hK K
    try simp only [Act.put, List.setIfInBounds_toArray, List.set_cons_zero, List.set_cons_succ]
    refine wpAnyT_pure (i := 4) (oi := { dst := some 86, op := Op.binOp BinOp.eql 3 (Operand.tmp 83) (Operand.tmp 85) 3, type := 4, pos := "law.go:93", after := #[{ on := 1, ground := Ground.data }, { on := 3, ground := Ground.data }], guard := none }) (v := ?_) rfl (by kernel_rfl) (by kernel_rfl) (by kernel_rfl) (by kernel_rfl) (fun _ _ _ h => h) (Or.inl ⟨by rfl, ?_⟩) (holds1 (late_no (by kernel_rfl))) ?_
    rotate_left
    · (intro W; go_simp; (try rw [hyy]); try with_reducible rfl)
    try simp only [Act.put, List.setIfInBounds_toArray, List.set_cons_zero, List.set_cons_succ]
    refine wpAnyT_pure (i := 5) (oi := { dst := some 8, op := Op.assign (Operand.tmp 86), type := 4, pos := "law.go:93", after := #[{ on := 4, ground := Ground.data }, { on := 3, ground := Ground.chain }, { on := 0, ground := Ground.phase }, { on := 1, ground := Ground.phase }, { on := 2, ground := Ground.phase }, { on := 3, ground := Ground.phase }, { on := 4, ground := Ground.phase }], guard := none }) (v := ?_) rfl (by kernel_rfl) (by kernel_rfl) (by kernel_rfl) (by kernel_rfl) (fun _ _ _ h => h) (Or.inl ⟨by rfl, ?_⟩) (holds1 (late_no (by kernel_rfl))) ?_
    rotate_left
    · (intro W; go_simp; try with_reducible rfl)
    try simp only [Act.put, List.setIfInBounds_toArray, List.set_cons_zero, List.set_cons_succ]
    refine wpAnyT_done (by kernel_rfl) ?_ _
    go_wp2_with fail
    go_ret
    exact ⟨rfl, only_step GU db (fun _ h => by cases h)⟩
  · as_aux_lemma =>
    obtain ⟨c0, c1, c2, c3, c4, c5, c6, c7, c8, c9, c10⟩ := BGc.cells
    obtain ⟨o0, o1, o2, o3, o4, o5, o6, o7, o8, o9, o10⟩ := BOc.cells
    have fq := BGc.fr 7
    go_wp2_with fail
    obtain ⟨U, hU⟩ : ∃ Z, wc.setCell ⟨w4.heap.size, 7, none⟩ (.string str) = Z := ⟨_, rfl⟩
    have BU : OpB U w4.heap.size D E S C V K KY str NN T (.slice AL L.length cL) := by subst hU; exact BGc.set7 _
    have gU : wc.grownBy U (some w4.heap.size) := by subst hU; exact set_at (only_refl _ _) 7 _
    rw [hU]
    clear hU c0 c1 c2 c3 c4 c5 c6 c7 c8 c9 c10 o0 o1 o2 o3 o4 o5 o6 o7 o8 o9 o10 fq
    have GU := only_step Gc gU (fun k hk => by cases hk; exact .inr hz)
    have HHu := Has.own_w (HOc.out.kept gU (own_apart HOc.out BGc))
    obtain ⟨Y, hY⟩ : ∃ Y, checkF D E S C V K NN T KY str L = Y := ⟨_, rfl⟩
    have HY := Lib.hid hY
    have C13 : ∀ V', U.grownBy V' none → Hid (Calls Try.prog 13 #[.agg #[.int .i64 D, .int .i64 E, .int .i64 S, .int .i64 C, .int .i64 V, .int .i64 K, .string KY, .string str, .int .i64 NN, .int .i64 T, .slice AL L.length cL]] V' fun e' w' => e' = .returned (.int .i64 Y) ∧ V'.grownBy w' none) := fun V' hV' => by rw [← HY.out]; exact check_f D E S C V K NN T KY str AL cL L V' (HHu.up hV')
    have C14 : ∀ V', U.grownBy V' none → Hid (Calls Try.prog 14 #[.agg #[.int .i64 D, .int .i64 E, .int .i64 S, .int .i64 C, .int .i64 V, .int .i64 K, .string KY, .string str, .int .i64 NN, .int .i64 T, .slice AL L.length cL]] V' fun e' w' => e' = .returned (.int .i64 Y) ∧ V'.grownBy w' none) := fun V' hV' => by rw [← HY.out]; exact rcheck_f D E S C V K NN T KY str AL cL L V' (HHu.up hV')
    have SU : ∀ U0, U.grownBy U0 none → Hid (U0.cell? ⟨w4.heap.size, 0, none⟩ = some (.int .i64 D) ∧ U0.cell? ⟨w4.heap.size, 1, none⟩ = some (.int .i64 E) ∧ U0.cell? ⟨w4.heap.size, 2, none⟩ = some (.int .i64 S) ∧ U0.cell? ⟨w4.heap.size, 3, none⟩ = some (.int .i64 C) ∧ U0.cell? ⟨w4.heap.size, 4, none⟩ = some (.int .i64 V) ∧ U0.cell? ⟨w4.heap.size, 5, none⟩ = some (.int .i64 K) ∧ U0.cell? ⟨w4.heap.size, 6, none⟩ = some (.string KY) ∧ U0.cell? ⟨w4.heap.size, 7, none⟩ = some (.string str) ∧ U0.cell? ⟨w4.heap.size, 8, none⟩ = some (.int .i64 NN) ∧ U0.cell? ⟨w4.heap.size, 9, none⟩ = some (.int .i64 T) ∧ U0.cell? ⟨w4.heap.size, 10, none⟩ = some (.slice AL L.length cL)) := fun U0 hV => (BU.other hV (by simp)).cells
    have d1 : U.grownBy U.drew none := only_drew (only_refl _ _)
    have S5u := SU _ d1
    have hyy : (Y == Y) = true := by simp
    clear hY HHu
    refine wp_region_late [(3, fun U0 => U0.cell? ⟨w4.heap.size, 0, none⟩ = some (.int .i64 D) ∧ U0.cell? ⟨w4.heap.size, 1, none⟩ = some (.int .i64 E) ∧ U0.cell? ⟨w4.heap.size, 2, none⟩ = some (.int .i64 S) ∧ U0.cell? ⟨w4.heap.size, 3, none⟩ = some (.int .i64 C) ∧ U0.cell? ⟨w4.heap.size, 4, none⟩ = some (.int .i64 V) ∧ U0.cell? ⟨w4.heap.size, 5, none⟩ = some (.int .i64 K) ∧ U0.cell? ⟨w4.heap.size, 6, none⟩ = some (.string KY) ∧ U0.cell? ⟨w4.heap.size, 7, none⟩ = some (.string str) ∧ U0.cell? ⟨w4.heap.size, 8, none⟩ = some (.int .i64 NN) ∧ U0.cell? ⟨w4.heap.size, 9, none⟩ = some (.int .i64 T) ∧ U0.cell? ⟨w4.heap.size, 10, none⟩ = some (.slice AL L.length cL))] (by kernel_rfl) ?_
    refine wpAnyT_take 6 3 (i := 0) (oi := { dst := some 82, op := Op.load 26 (Operand.tmp 9), type := 26, pos := "law.go:93", after := #[], guard := none }) (v := ?_) (.head _) rfl (by kernel_rfl) (by kernel_rfl) (by kernel_rfl) (by kernel_rfl) (by kernel_rfl) (by kernel_rfl) (by rfl) (fun _ _ _ h => h) (by rfl) ?_ (holds1 (fun _ => S5u.out)) ?_
    rotate_left
    · (intro W hSw; (try dsimp only at hSw); go_simp; try with_reducible rfl)
    try simp only [Act.put, List.setIfInBounds_toArray, List.set_cons_zero, List.set_cons_succ]
    refine wpAnyT_take 6 3 (i := 2) (oi := { dst := some 84, op := Op.load 26 (Operand.tmp 9), type := 26, pos := "law.go:93", after := #[], guard := none }) (v := ?_) (.head _) rfl (by kernel_rfl) (by kernel_rfl) (by kernel_rfl) (by kernel_rfl) (by kernel_rfl) (by kernel_rfl) (by rfl) (fun _ _ _ h => h) (by rfl) ?_ (holds1 (fun _ => S5u.out)) ?_
    rotate_left
    · (intro W hSw; (try dsimp only at hSw); go_simp; try with_reducible rfl)
    try simp only [Act.put, List.setIfInBounds_toArray, List.set_cons_zero, List.set_cons_succ]
    refine wpAnyT_ready (rs := [1]) (by kernel_rfl) (by simp) (AllT.cons (o := { dst := some 83, op := Op.call { callee := Callee.value (Operand.func 13), args := #[Operand.tmp 82], argTypes := #[26] }, type := 30, pos := "law.go:93", after := #[{ on := 0, ground := Ground.data }], guard := none }) rfl (fun K hK => ?_) AllT.nil)
    go_simp
    go_at_call 13
    refine (C13 _ d1).out.mono ?_
    rintro _ wa ⟨rfl, ga⟩
    have da : U.grownBy wa none := only_step d1 ga (fun _ h => by cases h)
    refine hK.out _ _ (holds1 (fun _ => (SU _ da).out)) ?_
    clear hK K
    try simp only [Act.put, List.setIfInBounds_toArray, List.set_cons_zero, List.set_cons_succ]
    refine wpAnyT_ready (rs := [3]) (by kernel_rfl) (by simp) (AllT.cons (o := { dst := some 85, op := Op.call { callee := Callee.value (Operand.func 14), args := #[Operand.tmp 84], argTypes := #[26] }, type := 3, pos := "law.go:93", after := #[{ on := 2, ground := Ground.data }, { on := 1, ground := Ground.chain }], guard := none }) rfl (fun K hK => ?_) AllT.nil)
    go_simp
    go_at_call 14
    refine (C14 _ da).out.mono ?_
    rintro _ wb ⟨rfl, gb⟩
    have db : U.grownBy wb none := only_step da gb (fun _ h => by cases h)
    refine hK.out _ _ (holds1 (late_no (by kernel_rfl))) ?_
    clear hK K
    try simp only [Act.put, List.setIfInBounds_toArray, List.set_cons_zero, List.set_cons_succ]
    refine wpAnyT_pure (i := 4) (oi := { dst := some 86, op := Op.binOp BinOp.eql 3 (Operand.tmp 83) (Operand.tmp 85) 3, type := 4, pos := "law.go:93", after := #[{ on := 1, ground := Ground.data }, { on := 3, ground := Ground.data }], guard := none }) (v := ?_) rfl (by kernel_rfl) (by kernel_rfl) (by kernel_rfl) (by kernel_rfl) (fun _ _ _ h => h) (Or.inl ⟨by rfl, ?_⟩) (holds1 (late_no (by kernel_rfl))) ?_
    rotate_left
    · (intro W; go_simp; (try rw [hyy]); try with_reducible rfl)
    try simp only [Act.put, List.setIfInBounds_toArray, List.set_cons_zero, List.set_cons_succ]
    refine wpAnyT_pure (i := 5) (oi := { dst := some 8, op := Op.assign (Operand.tmp 86), type := 4, pos := "law.go:93", after := #[{ on := 4, ground := Ground.data }, { on := 3, ground := Ground.chain }, { on := 0, ground := Ground.phase }, { on := 1, ground := Ground.phase }, { on := 2, ground := Ground.phase }, { on := 3, ground := Ground.phase }, { on := 4, ground := Ground.phase }], guard := none }) (v := ?_) rfl (by kernel_rfl) (by kernel_rfl) (by kernel_rfl) (by kernel_rfl) (fun _ _ _ h => h) (Or.inl ⟨by rfl, ?_⟩) (holds1 (late_no (by kernel_rfl))) ?_
    rotate_left
    · (intro W; go_simp; try with_reducible rfl)
    try simp only [Act.put, List.setIfInBounds_toArray, List.set_cons_zero, List.set_cons_succ]
    refine wpAnyT_done (by kernel_rfl) ?_ _
    go_wp2_with fail
    go_ret
    exact ⟨rfl, only_step GU db (fun _ h => by cases h)⟩
  · as_aux_lemma =>
    obtain ⟨c0, c1, c2, c3, c4, c5, c6, c7, c8, c9, c10⟩ := BGc.cells
    obtain ⟨o0, o1, o2, o3, o4, o5, o6, o7, o8, o9, o10⟩ := BOc.cells
    have fq := BGc.fr 8
    go_wp2_with fail
    obtain ⟨U, hU⟩ : ∃ Z, wc.setCell ⟨w4.heap.size, 8, none⟩ (.int .i64 num) = Z := ⟨_, rfl⟩
    have BU : OpB U w4.heap.size D E S C V K KY TX num T (.slice AL L.length cL) := by subst hU; exact BGc.set8 _
    have gU : wc.grownBy U (some w4.heap.size) := by subst hU; exact set_at (only_refl _ _) 8 _
    rw [hU]
    clear hU c0 c1 c2 c3 c4 c5 c6 c7 c8 c9 c10 o0 o1 o2 o3 o4 o5 o6 o7 o8 o9 o10 fq
    have GU := only_step Gc gU (fun k hk => by cases hk; exact .inr hz)
    have HHu := Has.own_w (HOc.out.kept gU (own_apart HOc.out BGc))
    obtain ⟨Y, hY⟩ : ∃ Y, checkF D E S C V K num T KY TX L = Y := ⟨_, rfl⟩
    have HY := Lib.hid hY
    have C13 : ∀ V', U.grownBy V' none → Hid (Calls Try.prog 13 #[.agg #[.int .i64 D, .int .i64 E, .int .i64 S, .int .i64 C, .int .i64 V, .int .i64 K, .string KY, .string TX, .int .i64 num, .int .i64 T, .slice AL L.length cL]] V' fun e' w' => e' = .returned (.int .i64 Y) ∧ V'.grownBy w' none) := fun V' hV' => by rw [← HY.out]; exact check_f D E S C V K num T KY TX AL cL L V' (HHu.up hV')
    have C14 : ∀ V', U.grownBy V' none → Hid (Calls Try.prog 14 #[.agg #[.int .i64 D, .int .i64 E, .int .i64 S, .int .i64 C, .int .i64 V, .int .i64 K, .string KY, .string TX, .int .i64 num, .int .i64 T, .slice AL L.length cL]] V' fun e' w' => e' = .returned (.int .i64 Y) ∧ V'.grownBy w' none) := fun V' hV' => by rw [← HY.out]; exact rcheck_f D E S C V K num T KY TX AL cL L V' (HHu.up hV')
    have SU : ∀ U0, U.grownBy U0 none → Hid (U0.cell? ⟨w4.heap.size, 0, none⟩ = some (.int .i64 D) ∧ U0.cell? ⟨w4.heap.size, 1, none⟩ = some (.int .i64 E) ∧ U0.cell? ⟨w4.heap.size, 2, none⟩ = some (.int .i64 S) ∧ U0.cell? ⟨w4.heap.size, 3, none⟩ = some (.int .i64 C) ∧ U0.cell? ⟨w4.heap.size, 4, none⟩ = some (.int .i64 V) ∧ U0.cell? ⟨w4.heap.size, 5, none⟩ = some (.int .i64 K) ∧ U0.cell? ⟨w4.heap.size, 6, none⟩ = some (.string KY) ∧ U0.cell? ⟨w4.heap.size, 7, none⟩ = some (.string TX) ∧ U0.cell? ⟨w4.heap.size, 8, none⟩ = some (.int .i64 num) ∧ U0.cell? ⟨w4.heap.size, 9, none⟩ = some (.int .i64 T) ∧ U0.cell? ⟨w4.heap.size, 10, none⟩ = some (.slice AL L.length cL)) := fun U0 hV => (BU.other hV (by simp)).cells
    have d1 : U.grownBy U.drew none := only_drew (only_refl _ _)
    have S5u := SU _ d1
    have hyy : (Y == Y) = true := by simp
    clear hY HHu
    refine wp_region_late [(3, fun U0 => U0.cell? ⟨w4.heap.size, 0, none⟩ = some (.int .i64 D) ∧ U0.cell? ⟨w4.heap.size, 1, none⟩ = some (.int .i64 E) ∧ U0.cell? ⟨w4.heap.size, 2, none⟩ = some (.int .i64 S) ∧ U0.cell? ⟨w4.heap.size, 3, none⟩ = some (.int .i64 C) ∧ U0.cell? ⟨w4.heap.size, 4, none⟩ = some (.int .i64 V) ∧ U0.cell? ⟨w4.heap.size, 5, none⟩ = some (.int .i64 K) ∧ U0.cell? ⟨w4.heap.size, 6, none⟩ = some (.string KY) ∧ U0.cell? ⟨w4.heap.size, 7, none⟩ = some (.string TX) ∧ U0.cell? ⟨w4.heap.size, 8, none⟩ = some (.int .i64 num) ∧ U0.cell? ⟨w4.heap.size, 9, none⟩ = some (.int .i64 T) ∧ U0.cell? ⟨w4.heap.size, 10, none⟩ = some (.slice AL L.length cL))] (by kernel_rfl) ?_
    refine wpAnyT_take 6 3 (i := 0) (oi := { dst := some 82, op := Op.load 26 (Operand.tmp 9), type := 26, pos := "law.go:93", after := #[], guard := none }) (v := ?_) (.head _) rfl (by kernel_rfl) (by kernel_rfl) (by kernel_rfl) (by kernel_rfl) (by kernel_rfl) (by kernel_rfl) (by rfl) (fun _ _ _ h => h) (by rfl) ?_ (holds1 (fun _ => S5u.out)) ?_
    rotate_left
    · (intro W hSw; (try dsimp only at hSw); go_simp; try with_reducible rfl)
    try simp only [Act.put, List.setIfInBounds_toArray, List.set_cons_zero, List.set_cons_succ]
    refine wpAnyT_take 6 3 (i := 2) (oi := { dst := some 84, op := Op.load 26 (Operand.tmp 9), type := 26, pos := "law.go:93", after := #[], guard := none }) (v := ?_) (.head _) rfl (by kernel_rfl) (by kernel_rfl) (by kernel_rfl) (by kernel_rfl) (by kernel_rfl) (by kernel_rfl) (by rfl) (fun _ _ _ h => h) (by rfl) ?_ (holds1 (fun _ => S5u.out)) ?_
    rotate_left
    · (intro W hSw; (try dsimp only at hSw); go_simp; try with_reducible rfl)
    try simp only [Act.put, List.setIfInBounds_toArray, List.set_cons_zero, List.set_cons_succ]
    refine wpAnyT_ready (rs := [1]) (by kernel_rfl) (by simp) (AllT.cons (o := { dst := some 83, op := Op.call { callee := Callee.value (Operand.func 13), args := #[Operand.tmp 82], argTypes := #[26] }, type := 30, pos := "law.go:93", after := #[{ on := 0, ground := Ground.data }], guard := none }) rfl (fun K hK => ?_) AllT.nil)
    go_simp
    go_at_call 13
    refine (C13 _ d1).out.mono ?_
    rintro _ wa ⟨rfl, ga⟩
    have da : U.grownBy wa none := only_step d1 ga (fun _ h => by cases h)
    refine hK.out _ _ (holds1 (fun _ => (SU _ da).out)) ?_
    clear hK K
    try simp only [Act.put, List.setIfInBounds_toArray, List.set_cons_zero, List.set_cons_succ]
    refine wpAnyT_ready (rs := [3]) (by kernel_rfl) (by simp) (AllT.cons (o := { dst := some 85, op := Op.call { callee := Callee.value (Operand.func 14), args := #[Operand.tmp 84], argTypes := #[26] }, type := 3, pos := "law.go:93", after := #[{ on := 2, ground := Ground.data }, { on := 1, ground := Ground.chain }], guard := none }) rfl (fun K hK => ?_) AllT.nil)
    go_simp
    go_at_call 14
    refine (C14 _ da).out.mono ?_
    rintro _ wb ⟨rfl, gb⟩
    have db : U.grownBy wb none := only_step da gb (fun _ h => by cases h)
    refine hK.out _ _ (holds1 (late_no (by kernel_rfl))) ?_
    clear hK K
    try simp only [Act.put, List.setIfInBounds_toArray, List.set_cons_zero, List.set_cons_succ]
    refine wpAnyT_pure (i := 4) (oi := { dst := some 86, op := Op.binOp BinOp.eql 3 (Operand.tmp 83) (Operand.tmp 85) 3, type := 4, pos := "law.go:93", after := #[{ on := 1, ground := Ground.data }, { on := 3, ground := Ground.data }], guard := none }) (v := ?_) rfl (by kernel_rfl) (by kernel_rfl) (by kernel_rfl) (by kernel_rfl) (fun _ _ _ h => h) (Or.inl ⟨by rfl, ?_⟩) (holds1 (late_no (by kernel_rfl))) ?_
    rotate_left
    · (intro W; go_simp; (try rw [hyy]); try with_reducible rfl)
    try simp only [Act.put, List.setIfInBounds_toArray, List.set_cons_zero, List.set_cons_succ]
    refine wpAnyT_pure (i := 5) (oi := { dst := some 8, op := Op.assign (Operand.tmp 86), type := 4, pos := "law.go:93", after := #[{ on := 4, ground := Ground.data }, { on := 3, ground := Ground.chain }, { on := 0, ground := Ground.phase }, { on := 1, ground := Ground.phase }, { on := 2, ground := Ground.phase }, { on := 3, ground := Ground.phase }, { on := 4, ground := Ground.phase }], guard := none }) (v := ?_) rfl (by kernel_rfl) (by kernel_rfl) (by kernel_rfl) (by kernel_rfl) (fun _ _ _ h => h) (Or.inl ⟨by rfl, ?_⟩) (holds1 (late_no (by kernel_rfl))) ?_
    rotate_left
    · (intro W; go_simp; try with_reducible rfl)
    try simp only [Act.put, List.setIfInBounds_toArray, List.set_cons_zero, List.set_cons_succ]
    refine wpAnyT_done (by kernel_rfl) ?_ _
    go_wp2_with fail
    go_ret
    exact ⟨rfl, only_step GU db (fun _ h => by cases h)⟩
  · as_aux_lemma =>
    obtain ⟨c0, c1, c2, c3, c4, c5, c6, c7, c8, c9, c10⟩ := BGc.cells
    obtain ⟨o0, o1, o2, o3, o4, o5, o6, o7, o8, o9, o10⟩ := BOc.cells
    have fq := BGc.fr 10
    go_wp2_with fail
    obtain ⟨U, hU⟩ : ∃ Z, wc.setCell ⟨w4.heap.size, 10, none⟩ (.slice A l.length c) = Z := ⟨_, rfl⟩
    have BU : OpB U w4.heap.size D E S C V K KY TX NN T (.slice A l.length c) := by subst hU; exact BGc.set10 _
    have gU : wc.grownBy U (some w4.heap.size) := by subst hU; exact set_at (only_refl _ _) 10 _
    rw [hU]
    clear hU c0 c1 c2 c3 c4 c5 c6 c7 c8 c9 c10 o0 o1 o2 o3 o4 o5 o6 o7 o8 o9 o10 fq
    have GU := only_step Gc gU (fun k hk => by cases hk; exact .inr hz)
    have HHu : Has U U.heap.size A (dc l) := (HAc.out.only gU zc (fun k hk => by cases hk; exact hz)).more GU.size
    obtain ⟨Y, hY⟩ : ∃ Y, checkF D E S C V K NN T KY TX l = Y := ⟨_, rfl⟩
    have HY := Lib.hid hY
    have C13 : ∀ V', U.grownBy V' none → Hid (Calls Try.prog 13 #[.agg #[.int .i64 D, .int .i64 E, .int .i64 S, .int .i64 C, .int .i64 V, .int .i64 K, .string KY, .string TX, .int .i64 NN, .int .i64 T, .slice A l.length c]] V' fun e' w' => e' = .returned (.int .i64 Y) ∧ V'.grownBy w' none) := fun V' hV' => by rw [← HY.out]; exact check_f D E S C V K NN T KY TX A c l V' (HHu.up hV')
    have C14 : ∀ V', U.grownBy V' none → Hid (Calls Try.prog 14 #[.agg #[.int .i64 D, .int .i64 E, .int .i64 S, .int .i64 C, .int .i64 V, .int .i64 K, .string KY, .string TX, .int .i64 NN, .int .i64 T, .slice A l.length c]] V' fun e' w' => e' = .returned (.int .i64 Y) ∧ V'.grownBy w' none) := fun V' hV' => by rw [← HY.out]; exact rcheck_f D E S C V K NN T KY TX A c l V' (HHu.up hV')
    have SU : ∀ U0, U.grownBy U0 none → Hid (U0.cell? ⟨w4.heap.size, 0, none⟩ = some (.int .i64 D) ∧ U0.cell? ⟨w4.heap.size, 1, none⟩ = some (.int .i64 E) ∧ U0.cell? ⟨w4.heap.size, 2, none⟩ = some (.int .i64 S) ∧ U0.cell? ⟨w4.heap.size, 3, none⟩ = some (.int .i64 C) ∧ U0.cell? ⟨w4.heap.size, 4, none⟩ = some (.int .i64 V) ∧ U0.cell? ⟨w4.heap.size, 5, none⟩ = some (.int .i64 K) ∧ U0.cell? ⟨w4.heap.size, 6, none⟩ = some (.string KY) ∧ U0.cell? ⟨w4.heap.size, 7, none⟩ = some (.string TX) ∧ U0.cell? ⟨w4.heap.size, 8, none⟩ = some (.int .i64 NN) ∧ U0.cell? ⟨w4.heap.size, 9, none⟩ = some (.int .i64 T) ∧ U0.cell? ⟨w4.heap.size, 10, none⟩ = some (.slice A l.length c)) := fun U0 hV => (BU.other hV (by simp)).cells
    have d1 : U.grownBy U.drew none := only_drew (only_refl _ _)
    have S5u := SU _ d1
    have hyy : (Y == Y) = true := by simp
    clear hY HHu
    refine wp_region_late [(3, fun U0 => U0.cell? ⟨w4.heap.size, 0, none⟩ = some (.int .i64 D) ∧ U0.cell? ⟨w4.heap.size, 1, none⟩ = some (.int .i64 E) ∧ U0.cell? ⟨w4.heap.size, 2, none⟩ = some (.int .i64 S) ∧ U0.cell? ⟨w4.heap.size, 3, none⟩ = some (.int .i64 C) ∧ U0.cell? ⟨w4.heap.size, 4, none⟩ = some (.int .i64 V) ∧ U0.cell? ⟨w4.heap.size, 5, none⟩ = some (.int .i64 K) ∧ U0.cell? ⟨w4.heap.size, 6, none⟩ = some (.string KY) ∧ U0.cell? ⟨w4.heap.size, 7, none⟩ = some (.string TX) ∧ U0.cell? ⟨w4.heap.size, 8, none⟩ = some (.int .i64 NN) ∧ U0.cell? ⟨w4.heap.size, 9, none⟩ = some (.int .i64 T) ∧ U0.cell? ⟨w4.heap.size, 10, none⟩ = some (.slice A l.length c))] (by kernel_rfl) ?_
    refine wpAnyT_take 6 3 (i := 0) (oi := { dst := some 82, op := Op.load 26 (Operand.tmp 9), type := 26, pos := "law.go:93", after := #[], guard := none }) (v := ?_) (.head _) rfl (by kernel_rfl) (by kernel_rfl) (by kernel_rfl) (by kernel_rfl) (by kernel_rfl) (by kernel_rfl) (by rfl) (fun _ _ _ h => h) (by rfl) ?_ (holds1 (fun _ => S5u.out)) ?_
    rotate_left
    · (intro W hSw; (try dsimp only at hSw); go_simp; try with_reducible rfl)
    try simp only [Act.put, List.setIfInBounds_toArray, List.set_cons_zero, List.set_cons_succ]
    refine wpAnyT_take 6 3 (i := 2) (oi := { dst := some 84, op := Op.load 26 (Operand.tmp 9), type := 26, pos := "law.go:93", after := #[], guard := none }) (v := ?_) (.head _) rfl (by kernel_rfl) (by kernel_rfl) (by kernel_rfl) (by kernel_rfl) (by kernel_rfl) (by kernel_rfl) (by rfl) (fun _ _ _ h => h) (by rfl) ?_ (holds1 (fun _ => S5u.out)) ?_
    rotate_left
    · (intro W hSw; (try dsimp only at hSw); go_simp; try with_reducible rfl)
    try simp only [Act.put, List.setIfInBounds_toArray, List.set_cons_zero, List.set_cons_succ]
    refine wpAnyT_ready (rs := [1]) (by kernel_rfl) (by simp) (AllT.cons (o := { dst := some 83, op := Op.call { callee := Callee.value (Operand.func 13), args := #[Operand.tmp 82], argTypes := #[26] }, type := 30, pos := "law.go:93", after := #[{ on := 0, ground := Ground.data }], guard := none }) rfl (fun K hK => ?_) AllT.nil)
    go_simp
    go_at_call 13
    refine (C13 _ d1).out.mono ?_
    rintro _ wa ⟨rfl, ga⟩
    have da : U.grownBy wa none := only_step d1 ga (fun _ h => by cases h)
    refine hK.out _ _ (holds1 (fun _ => (SU _ da).out)) ?_
    clear hK K
    try simp only [Act.put, List.setIfInBounds_toArray, List.set_cons_zero, List.set_cons_succ]
    refine wpAnyT_ready (rs := [3]) (by kernel_rfl) (by simp) (AllT.cons (o := { dst := some 85, op := Op.call { callee := Callee.value (Operand.func 14), args := #[Operand.tmp 84], argTypes := #[26] }, type := 3, pos := "law.go:93", after := #[{ on := 2, ground := Ground.data }, { on := 1, ground := Ground.chain }], guard := none }) rfl (fun K hK => ?_) AllT.nil)
    go_simp
    go_at_call 14
    refine (C14 _ da).out.mono ?_
    rintro _ wb ⟨rfl, gb⟩
    have db : U.grownBy wb none := only_step da gb (fun _ h => by cases h)
    refine hK.out _ _ (holds1 (late_no (by kernel_rfl))) ?_
    clear hK K
    try simp only [Act.put, List.setIfInBounds_toArray, List.set_cons_zero, List.set_cons_succ]
    refine wpAnyT_pure (i := 4) (oi := { dst := some 86, op := Op.binOp BinOp.eql 3 (Operand.tmp 83) (Operand.tmp 85) 3, type := 4, pos := "law.go:93", after := #[{ on := 1, ground := Ground.data }, { on := 3, ground := Ground.data }], guard := none }) (v := ?_) rfl (by kernel_rfl) (by kernel_rfl) (by kernel_rfl) (by kernel_rfl) (fun _ _ _ h => h) (Or.inl ⟨by rfl, ?_⟩) (holds1 (late_no (by kernel_rfl))) ?_
    rotate_left
    · (intro W; go_simp; (try rw [hyy]); try with_reducible rfl)
    try simp only [Act.put, List.setIfInBounds_toArray, List.set_cons_zero, List.set_cons_succ]
    refine wpAnyT_pure (i := 5) (oi := { dst := some 8, op := Op.assign (Operand.tmp 86), type := 4, pos := "law.go:93", after := #[{ on := 4, ground := Ground.data }, { on := 3, ground := Ground.chain }, { on := 0, ground := Ground.phase }, { on := 1, ground := Ground.phase }, { on := 2, ground := Ground.phase }, { on := 3, ground := Ground.phase }, { on := 4, ground := Ground.phase }], guard := none }) (v := ?_) rfl (by kernel_rfl) (by kernel_rfl) (by kernel_rfl) (by kernel_rfl) (fun _ _ _ h => h) (Or.inl ⟨by rfl, ?_⟩) (holds1 (late_no (by kernel_rfl))) ?_
    rotate_left
    · (intro W; go_simp; try with_reducible rfl)
    try simp only [Act.put, List.setIfInBounds_toArray, List.set_cons_zero, List.set_cons_succ]
    refine wpAnyT_done (by kernel_rfl) ?_ _
    go_wp2_with fail
    go_ret
    exact ⟨rfl, only_step GU db (fun _ h => by cases h)⟩
end Go.Proofs.Ytcmpeohooiehcaa
