/- The law OpsSames, walked: it returns true for every input. No condition. -/
import Derived.Test.YtcmpeohooiehcaaOi
namespace Go.Proofs.Ytcmpeohooiehcaa
open Go.RowKit Go.Deep Go.ChangeShapes
set_option maxRecDepth 100000 in
set_option maxHeartbeats 8000000 in
theorem opsSames_walk (d e s coll ver kind n time which : Int) (key text : ByteArray) (A : Option Addr) (c : Nat) (l : List Dt) (w : World) (hd : I64 d) (he : I64 e) (hs : I64 s) (hc : I64 coll) (hv : I64 ver) (hk : I64 kind) (hn : I64 n) (ht : I64 time) (hw : I64 which) (hA : Has w w.heap.size A (dc l)) (hdw : ∀ p ∈ l, I64 p.1 ∧ I64 p.2.1 ∧ I64 p.2.2) (hca : l.length ≤ c) :
    Calls Try.prog 9 #[.agg #[.int .i64 d, .int .i64 e, .int .i64 s, .int .i64 coll, .int .i64 ver, .int .i64 kind, .string key, .string text, .int .i64 n, .int .i64 time, .slice A l.length c], .int .i64 which] w fun e' w' => e' = .returned (.bool true) ∧ w.grownBy w' none := by
  have HD := Lib.hid hdw
  have HA := Lib.hid hA
  have HI : Hid (I64 d ∧ I64 e ∧ I64 s ∧ I64 coll ∧ I64 ver ∧ I64 kind ∧ I64 n ∧ I64 time) := ⟨hd, he, hs, hc, hv, hk, hn, ht⟩
  have HW : ∀ W, Hid (Calls Try.prog 15 #[.int .i64 which, .int .i64 10] W fun e w' => e = .returned (.int .i64 (which % 10)) ∧ W = w') := fun W => within_any which 10 hw.1 hw.2 (by omega) (by omega) W
  have HCA := Lib.hid hca
  have hm1 := Int.emod_nonneg which (show (10 : Int) ≠ 0 by omega)
  have hm2 := Int.emod_lt_of_pos which (show (0 : Int) < 10 by omega)
  obtain ⟨m, hm⟩ : ∃ m, which % 10 = m := ⟨_, rfl⟩
  rw [hm] at HW hm1 hm2
  have HMM : Hid (0 ≤ m ∧ m < 10) := ⟨hm1, hm2⟩
  clear hm hm1 hm2 hdw hA hd he hs hc hv hk hn ht hw hca
  go_enter Try.func9, Try.ntmps9
  go_wp2_with fail
  obtain ⟨w1, hw1⟩ : ∃ Z, w.alloc (.cells #[.int .i64 d, .int .i64 e, .int .i64 s, .int .i64 coll, .int .i64 ver, .int .i64 kind, .string key, .string text, .int .i64 n, .int .i64 time, .slice A l.length c] 26) = Z := ⟨_, rfl⟩
  have B1 : OpB w1 w.heap.size d e s coll ver kind key text n time (.slice A l.length c) := by subst hw1; exact heap_alloc_new w _
  have g1 : w.grownBy w1 none := by subst hw1; exact World.grownBy_alloc w _ none
  rw [hw1]
  clear hw1
  refine (known_any _).mono ?_
  rintro _ w2 ⟨rfl, gk⟩
  have g2 : w.grownBy w2 none := only_step g1 gk (fun _ h => .inl h)
  have B2 := B1.other gk (by simp)
  clear B1 g1 gk w1
  obtain ⟨c0, c1, c2, c3, c4, c5, c6, c7, c8, c9, c10⟩ := B2.cells
  go_wp2_with fail
  obtain ⟨fb, hfb⟩ : ∃ fb, fewP key text l = fb := ⟨_, rfl⟩
  refine (few_any d e s coll ver kind n time key text A c l _).mono ?_
  rintro _ w3 ⟨rfl, g3⟩
  rw [hfb]
  have B3 := B2.other g3 (by simp)
  have G3 := only_step g2 g3 (fun _ h => .inl h)
  have HFB := Lib.hid hfb
  clear hfb B2 g3 g2 c0 c1 c2 c3 c4 c5 c6 c7 c8 c9 c10 w2
  cases fb
  · go_wp2_with fail
    go_ret
    exact ⟨rfl, G3⟩
  have hf : key.size ≤ 60 ∧ text.size ≤ 60 ∧ l.length ≤ 12 := by
    have := HFB.out
    unfold fewP at this
    simpa using this
  have HF := Lib.hid hf
  clear hf HFB
  obtain ⟨c0, c1, c2, c3, c4, c5, c6, c7, c8, c9, c10⟩ := B3.cells
  go_upto_region 5 with fail
  have GD : ∀ V, w3.grownBy V none → Hid (Calls Try.prog 12 #[.agg #[.int .i64 d, .int .i64 e, .int .i64 s, .int .i64 coll, .int .i64 ver, .int .i64 kind, .string key, .string text, .int .i64 n, .int .i64 time, .slice A l.length c]] V (GoodV V d e s coll ver kind n time key text l)) := fun V hV => good_any d e s coll ver kind n time key text A c l V HI.out.1 HI.out.2.1 HI.out.2.2.1 HI.out.2.2.2.1 HI.out.2.2.2.2.1 HI.out.2.2.2.2.2.1 HI.out.2.2.2.2.2.2.1 HI.out.2.2.2.2.2.2.2 (by have := HF.out.1; unfold maxLen; omega) (by have := HF.out.2.1; unfold maxLen; omega) (HA.out.up (only_step G3 hV (fun _ h => .inl h))) HD.out (by have := HF.out.2.2; omega) HCA.out
  have OKG := Lib.hid (good_sm d e s coll ver kind n time (key.size % 3) (text.size % 4) l HI.out.2.2.2.2.2.2.1)
  obtain ⟨D, hD⟩ : ∃ x, d % 6 = x := ⟨_, rfl⟩
  obtain ⟨E, hE⟩ : ∃ x, 1 + e % 3 = x := ⟨_, rfl⟩
  obtain ⟨S, hS⟩ : ∃ x, 1 + s % 30 = x := ⟨_, rfl⟩
  obtain ⟨C, hC⟩ : ∃ x, coll % 3 = x := ⟨_, rfl⟩
  obtain ⟨V, hV⟩ : ∃ x, 1 + ver % 3 = x := ⟨_, rfl⟩
  obtain ⟨KD, hK⟩ : ∃ x, 1 + kind % 5 = x := ⟨_, rfl⟩
  obtain ⟨NN, hNN⟩ : ∃ x, nG KD n = x := ⟨_, rfl⟩
  obtain ⟨T, hT⟩ : ∃ x, time % 50 = x := ⟨_, rfl⟩
  obtain ⟨KY, hKY⟩ : ∃ x, keyP (key.size % 3) = x := ⟨_, rfl⟩
  obtain ⟨TX, hTX⟩ : ∃ x, textP (text.size % 4) = x := ⟨_, rfl⟩
  obtain ⟨L, hL⟩ : ∃ x, dotsF KD l = x := ⟨_, rfl⟩
  have HGV : ∀ V, Hid (GoodV V d e s coll ver kind n time key text l = GoodP V D E S C (1 + ver % 3) KD NN T KY TX L) := fun V => by
    unfold GoodV Hid
    rw [hK, hNN, hL, hD, hE, hS, hC, hT, hKY, hTX]
  rw [hK, hNN, hL, hD, hE, hS, hC, hT, hKY, hTX, hV] at OKG
  rw [hV] at HGV
  have HGD : ∀ W, w3.grownBy W none → Hid (Calls Try.prog 12 #[.agg #[.int .i64 d, .int .i64 e, .int .i64 s, .int .i64 coll, .int .i64 ver, .int .i64 kind, .string key, .string text, .int .i64 n, .int .i64 time, .slice A l.length c]] W (GoodP W D E S C V KD NN T KY TX L)) := fun W hW => by
    have h := (GD W hW).out
    rwa [(HGV W).out] at h
  clear GD HGV hD hE hS hC hV hK hNN hT hKY hTX hL HI HA HD HCA HF
  have d00 : w3.grownBy w3.drew none := only_drew (only_refl _ _)
  go_cut [5, 6] (fun s5 s6 wx => Pair9 w D E S C V KD NN T KY TX L s5 s6 wx)
  case first =>
    have SV : ∀ V0, w3.grownBy V0 none → Hid (V0.cell? ⟨w.heap.size, 0, none⟩ = some (.int .i64 d) ∧ V0.cell? ⟨w.heap.size, 1, none⟩ = some (.int .i64 e) ∧ V0.cell? ⟨w.heap.size, 2, none⟩ = some (.int .i64 s) ∧ V0.cell? ⟨w.heap.size, 3, none⟩ = some (.int .i64 coll) ∧ V0.cell? ⟨w.heap.size, 4, none⟩ = some (.int .i64 ver) ∧ V0.cell? ⟨w.heap.size, 5, none⟩ = some (.int .i64 kind) ∧ V0.cell? ⟨w.heap.size, 6, none⟩ = some (.string key) ∧ V0.cell? ⟨w.heap.size, 7, none⟩ = some (.string text) ∧ V0.cell? ⟨w.heap.size, 8, none⟩ = some (.int .i64 n) ∧ V0.cell? ⟨w.heap.size, 9, none⟩ = some (.int .i64 time) ∧ V0.cell? ⟨w.heap.size, 10, none⟩ = some (.slice A l.length c)) := fun V0 hV => (B3.other hV (by simp)).cells
    have S5 := SV _ d00
    clear c0 c1 c2 c3 c4 c5 c6 c7 c8 c9 c10
    refine wp_region_late [(3, fun V0 => V0.cell? ⟨w.heap.size, 0, none⟩ = some (.int .i64 d) ∧ V0.cell? ⟨w.heap.size, 1, none⟩ = some (.int .i64 e) ∧ V0.cell? ⟨w.heap.size, 2, none⟩ = some (.int .i64 s) ∧ V0.cell? ⟨w.heap.size, 3, none⟩ = some (.int .i64 coll) ∧ V0.cell? ⟨w.heap.size, 4, none⟩ = some (.int .i64 ver) ∧ V0.cell? ⟨w.heap.size, 5, none⟩ = some (.int .i64 kind) ∧ V0.cell? ⟨w.heap.size, 6, none⟩ = some (.string key) ∧ V0.cell? ⟨w.heap.size, 7, none⟩ = some (.string text) ∧ V0.cell? ⟨w.heap.size, 8, none⟩ = some (.int .i64 n) ∧ V0.cell? ⟨w.heap.size, 9, none⟩ = some (.int .i64 time) ∧ V0.cell? ⟨w.heap.size, 10, none⟩ = some (.slice A l.length c))] (by kernel_rfl) ?_
    obtain ⟨W0, hW0⟩ : ∃ Z, w3.drew = Z := ⟨_, rfl⟩
    have d0 : w3.grownBy W0 none := hW0 ▸ d00
    have S50 := SV _ d0
    rw [hW0]
    clear hW0 d00
    refine wpAnyT_take 4 3 (i := 0) (oi := { dst := some 12, op := Op.load 26 (Operand.tmp 2), type := 26, pos := "more.go:104", after := #[], guard := none }) (v := ?_) (.head _) rfl (by kernel_rfl) (by kernel_rfl) (by kernel_rfl) (by kernel_rfl) (by kernel_rfl) (by kernel_rfl) (by rfl) (fun _ _ _ h => h) (by rfl) ?_ (holds1 (fun _ => S50.out)) ?_
    rotate_left
    · (intro W hSw; (try dsimp only at hSw); go_simp; try with_reducible rfl)
    try simp only [Act.put, List.setIfInBounds_toArray, List.set_cons_zero, List.set_cons_succ]
    refine wpAnyT_take 4 3 (i := 2) (oi := { dst := some 14, op := Op.load 26 (Operand.tmp 2), type := 26, pos := "more.go:104", after := #[], guard := none }) (v := ?_) (.head _) rfl (by kernel_rfl) (by kernel_rfl) (by kernel_rfl) (by kernel_rfl) (by kernel_rfl) (by kernel_rfl) (by rfl) (fun _ _ _ h => h) (by rfl) ?_ (holds1 (fun _ => S50.out)) ?_
    rotate_left
    · (intro W hSw; (try dsimp only at hSw); go_simp; try with_reducible rfl)
    try simp only [Act.put, List.setIfInBounds_toArray, List.set_cons_zero, List.set_cons_succ]
    refine wpAnyT_ready (rs := [1, 4, 5]) (by kernel_rfl) (by simp) (AllT.cons (o := { dst := some 13, op := Op.call { callee := Callee.value (Operand.func 12), args := #[Operand.tmp 12], argTypes := #[26] }, type := 26, pos := "more.go:104", after := #[{ on := 0, ground := Ground.data }], guard := none }) rfl (fun K hK => ?_) (AllT.cons (o := { dst := some 5, op := Op.alloc 26, type := 0, pos := "more.go:104", after := #[], guard := none }) rfl (fun K hK => ?_) (AllT.cons (o := { dst := some 6, op := Op.alloc 26, type := 0, pos := "more.go:104", after := #[], guard := none }) rfl (fun K hK => ?_) AllT.nil)))
    · go_simp
      go_at_call 12
      refine (HGD _ d0).out.mono ?_
      rintro _ V1 ⟨A1, n1, rfl, O1, g1⟩
      have GG1 : w3.grownBy V1 none := only_step d0 g1 (fun _ h => .inl h)
      refine hK.out _ _ (holds1 (fun _ => (SV _ GG1).out)) ?_
      clear hK K
      try simp only [Act.put, List.setIfInBounds_toArray, List.set_cons_zero, List.set_cons_succ]
      refine wpAnyT_ready (rs := [3, 4, 5]) (by kernel_rfl) (by simp) (AllT.cons (o := { dst := some 15, op := Op.call { callee := Callee.value (Operand.func 12), args := #[Operand.tmp 14], argTypes := #[26] }, type := 26, pos := "more.go:104", after := #[{ on := 2, ground := Ground.data }, { on := 1, ground := Ground.chain }], guard := none }) rfl (fun K hK => ?_) (AllT.cons (o := { dst := some 5, op := Op.alloc 26, type := 0, pos := "more.go:104", after := #[], guard := none }) rfl (fun K hK => ?_) (AllT.cons (o := { dst := some 6, op := Op.alloc 26, type := 0, pos := "more.go:104", after := #[], guard := none }) rfl (fun K hK => ?_) AllT.nil)))
      · go_simp
        go_at_call 12
        refine (HGD _ GG1).out.mono ?_
        rintro _ V2 ⟨A2, n2, rfl, O2, g2⟩
        have GG2 : w3.grownBy V2 none := only_step GG1 g2 (fun _ h => .inl h)
        have O1_2 := O1.kept g2 (by cases (Value.slice A1 L.length n1).ownBlock <;> simp)
        refine hK.out _ _ (holds1 (late_no (by kernel_rfl))) ?_
        clear hK K
        try simp only [Act.put, List.setIfInBounds_toArray, List.set_cons_zero, List.set_cons_succ]
        refine wpAnyT_ready (rs := [4, 5]) (by kernel_rfl) (by simp) (AllT.cons (o := { dst := some 5, op := Op.alloc 26, type := 0, pos := "more.go:104", after := #[], guard := none }) rfl (fun K hK => ?_) (AllT.cons (o := { dst := some 6, op := Op.alloc 26, type := 0, pos := "more.go:104", after := #[], guard := none }) rfl (fun K hK => ?_) AllT.nil))
        · go_simp
          obtain ⟨V3, h3⟩ : ∃ Z, V2.alloc (.cells #[.int .i64 0, .int .i64 0, .int .i64 0, .int .i64 0, .int .i64 0, .int .i64 0, .string { data := #[] }, .string { data := #[] }, .int .i64 0, .int .i64 0, .slice none 0 0] 26) = Z := ⟨_, rfl⟩
          have g3 : V2.grownBy V3 none := by subst h3; exact World.grownBy_alloc _ _ none
          have Z3 : OpB V3 V2.heap.size 0 0 0 0 0 0 { data := #[] } { data := #[] } 0 0 (.slice none 0 0) := by subst h3; exact heap_alloc_new _ _
          rw [h3]
          clear h3
          have GG3 : w3.grownBy V3 none := only_step GG2 g3 (fun _ h => .inl h)
          have O1_2_3 := O1_2.kept g3 (by cases (Value.slice A1 L.length n1).ownBlock <;> simp)
          have O2_3 := O2.kept g3 (by cases (Value.slice A2 L.length n2).ownBlock <;> simp)
          have le4 : w3.heap.size ≤ V2.heap.size := GG2.size
          refine hK.out _ _ (holds1 (late_no (by kernel_rfl))) ?_
          clear hK K
          try simp only [Act.put, List.setIfInBounds_toArray, List.set_cons_zero, List.set_cons_succ]
          refine wpAnyT_ready (rs := [5]) (by kernel_rfl) (by simp) (AllT.cons (o := { dst := some 6, op := Op.alloc 26, type := 0, pos := "more.go:104", after := #[], guard := none }) rfl (fun K hK => ?_) AllT.nil)
          · go_simp
            obtain ⟨V4, h4⟩ : ∃ Z, V3.alloc (.cells #[.int .i64 0, .int .i64 0, .int .i64 0, .int .i64 0, .int .i64 0, .int .i64 0, .string { data := #[] }, .string { data := #[] }, .int .i64 0, .int .i64 0, .slice none 0 0] 26) = Z := ⟨_, rfl⟩
            have g4 : V3.grownBy V4 none := by subst h4; exact World.grownBy_alloc _ _ none
            have Z4 : OpB V4 V3.heap.size 0 0 0 0 0 0 { data := #[] } { data := #[] } 0 0 (.slice none 0 0) := by subst h4; exact heap_alloc_new _ _
            rw [h4]
            clear h4
            have GG4 : w3.grownBy V4 none := only_step GG3 g4 (fun _ h => .inl h)
            have O1_2_3_4 := O1_2_3.kept g4 (by cases (Value.slice A1 L.length n1).ownBlock <;> simp)
            have O2_3_4 := O2_3.kept g4 (by cases (Value.slice A2 L.length n2).ownBlock <;> simp)
            have Z3_4 := Z3.other g4 (by simp)
            have le5 : w3.heap.size ≤ V3.heap.size := GG3.size
            have ne : V2.heap.size ≠ V3.heap.size := by have := Z3.lt; omega
            refine hK.out _ _ (holds1 (late_no (by kernel_rfl))) ?_
            clear hK K
            try simp only [Act.put, List.setIfInBounds_toArray, List.set_cons_zero, List.set_cons_succ]
            refine wpAnyT_ready (rs := [6]) (by kernel_rfl) (by simp) (AllT.cons (o := { dst := none, op := Op.store 26 (Operand.tmp 5) (Operand.tmp 13), type := 0, pos := "more.go:104", after := #[{ on := 4, ground := Ground.data }, { on := 1, ground := Ground.data }, { on := 3, ground := Ground.chain }, { on := 0, ground := Ground.phase }, { on := 1, ground := Ground.phase }, { on := 2, ground := Ground.textOnly Departure.lateStores }, { on := 3, ground := Ground.textOnly Departure.lateStoresUnsure }, { on := 4, ground := Ground.phase }, { on := 5, ground := Ground.phase }], guard := none }) rfl (fun K hK => ?_) AllT.nil)
            obtain ⟨z0, z1, z2, z3, z4, z5, z6, z7, z8, z9, z10⟩ := Z3_4.cells
            have y0 := Z3_4.fr 0
            have y1 := Z3_4.fr 1
            have y2 := Z3_4.fr 2
            have y3 := Z3_4.fr 3
            have y4 := Z3_4.fr 4
            have y5 := Z3_4.fr 5
            have y6 := Z3_4.fr 6
            have y7 := Z3_4.fr 7
            have y8 := Z3_4.fr 8
            have y9 := Z3_4.fr 9
            have y10 := Z3_4.fr 10
            go_simp
            obtain ⟨X6, h6⟩ : ∃ Z, (((((((((((V4.setCell ⟨V2.heap.size, 0, none⟩ (.int .i64 D)).setCell ⟨V2.heap.size, 1, none⟩ (.int .i64 E)).setCell ⟨V2.heap.size, 2, none⟩ (.int .i64 S)).setCell ⟨V2.heap.size, 3, none⟩ (.int .i64 C)).setCell ⟨V2.heap.size, 4, none⟩ (.int .i64 V)).setCell ⟨V2.heap.size, 5, none⟩ (.int .i64 KD)).setCell ⟨V2.heap.size, 6, none⟩ (.string KY)).setCell ⟨V2.heap.size, 7, none⟩ (.string TX)).setCell ⟨V2.heap.size, 8, none⟩ (.int .i64 NN)).setCell ⟨V2.heap.size, 9, none⟩ (.int .i64 T)).setCell ⟨V2.heap.size, 10, none⟩ (.slice A1 L.length n1)) = Z := ⟨_, rfl⟩
            have M6 : OpB X6 V2.heap.size D E S C V KD KY TX NN T (.slice A1 L.length n1) := by subst h6; exact (((((((((((Z3_4.set0 _).set1 _).set2 _).set3 _).set4 _).set5 _).set6 _).set7 _).set8 _).set9 _).set10 _)
            have gs6 : V4.grownBy X6 (some (V2.heap.size)) := by subst h6; exact (set_at (set_at (set_at (set_at (set_at (set_at (set_at (set_at (set_at (set_at (set_at (only_refl _ _) 0 _) 1 _) 2 _) 3 _) 4 _) 5 _) 6 _) 7 _) 8 _) 9 _) 10 _)
            rw [h6]
            clear h6 z0 z1 z2 z3 z4 z5 z6 z7 z8 z9 z10 y0 y1 y2 y3 y4 y5 y6 y7 y8 y9 y10
            have gt6 : w3.grownBy X6 none := only_step GG4 gs6 (fun k hk => by cases hk; exact .inr le4)
            have r16 := O1_2_3_4.kept gs6 (own_apart O1_2_3_4 Z3_4)
            have r36 := O2_3_4.kept gs6 (own_apart O2_3_4 Z3_4)
            have zb6 := Z4.other gs6 (by intro e; injection e with e; omega)
            refine hK.out _ _ (holds1 (late_no (by kernel_rfl))) ?_
            clear hK K
            try simp only [Act.put, List.setIfInBounds_toArray, List.set_cons_zero, List.set_cons_succ]
            refine wpAnyT_ready (rs := [7]) (by kernel_rfl) (by simp) (AllT.cons (o := { dst := none, op := Op.store 26 (Operand.tmp 6) (Operand.tmp 15), type := 0, pos := "more.go:104", after := #[{ on := 5, ground := Ground.data }, { on := 3, ground := Ground.data }, { on := 6, ground := Ground.chain }, { on := 0, ground := Ground.phase }, { on := 1, ground := Ground.phase }, { on := 2, ground := Ground.phase }, { on := 3, ground := Ground.phase }, { on := 4, ground := Ground.phase }, { on := 5, ground := Ground.phase }, { on := 6, ground := Ground.phase }], guard := none }) rfl (fun K hK => ?_) AllT.nil)
            obtain ⟨z0, z1, z2, z3, z4, z5, z6, z7, z8, z9, z10⟩ := zb6.cells
            have y0 := zb6.fr 0
            have y1 := zb6.fr 1
            have y2 := zb6.fr 2
            have y3 := zb6.fr 3
            have y4 := zb6.fr 4
            have y5 := zb6.fr 5
            have y6 := zb6.fr 6
            have y7 := zb6.fr 7
            have y8 := zb6.fr 8
            have y9 := zb6.fr 9
            have y10 := zb6.fr 10
            go_simp
            obtain ⟨X7, h7⟩ : ∃ Z, (((((((((((X6.setCell ⟨V3.heap.size, 0, none⟩ (.int .i64 D)).setCell ⟨V3.heap.size, 1, none⟩ (.int .i64 E)).setCell ⟨V3.heap.size, 2, none⟩ (.int .i64 S)).setCell ⟨V3.heap.size, 3, none⟩ (.int .i64 C)).setCell ⟨V3.heap.size, 4, none⟩ (.int .i64 V)).setCell ⟨V3.heap.size, 5, none⟩ (.int .i64 KD)).setCell ⟨V3.heap.size, 6, none⟩ (.string KY)).setCell ⟨V3.heap.size, 7, none⟩ (.string TX)).setCell ⟨V3.heap.size, 8, none⟩ (.int .i64 NN)).setCell ⟨V3.heap.size, 9, none⟩ (.int .i64 T)).setCell ⟨V3.heap.size, 10, none⟩ (.slice A2 L.length n2)) = Z := ⟨_, rfl⟩
            have M7 : OpB X7 V3.heap.size D E S C V KD KY TX NN T (.slice A2 L.length n2) := by subst h7; exact (((((((((((zb6.set0 _).set1 _).set2 _).set3 _).set4 _).set5 _).set6 _).set7 _).set8 _).set9 _).set10 _)
            have gs7 : X6.grownBy X7 (some (V3.heap.size)) := by subst h7; exact (set_at (set_at (set_at (set_at (set_at (set_at (set_at (set_at (set_at (set_at (set_at (only_refl _ _) 0 _) 1 _) 2 _) 3 _) 4 _) 5 _) 6 _) 7 _) 8 _) 9 _) 10 _)
            rw [h7]
            clear h7 z0 z1 z2 z3 z4 z5 z6 z7 z8 z9 z10 y0 y1 y2 y3 y4 y5 y6 y7 y8 y9 y10
            have gt7 : w3.grownBy X7 none := only_step gt6 gs7 (fun k hk => by cases hk; exact .inr le5)
            have r17 := r16.kept gs7 (own_apart r16 zb6)
            have r37 := r36.kept gs7 (own_apart r36 zb6)
            have za7 := M6.other gs7 (by intro e; injection e with e; omega)
            refine hK.out _ _ (holds1 (late_no (by kernel_rfl))) ?_
            clear hK K
            try simp only [Act.put, List.setIfInBounds_toArray, List.set_cons_zero, List.set_cons_succ]
            refine wpAnyT_done (by kernel_rfl) ?_ _
            try go_wp2_with fail
            go_meet
            exact ⟨V2.heap.size, V3.heap.size, A1, n1, A2, n2, rfl, rfl, by omega, by have := G3.size; omega, za7, M7, ⟨_, r17⟩, ⟨_, r37⟩, only_step G3 gt7 (fun _ h => by cases h)⟩
        · go_simp
          obtain ⟨V5, h5⟩ : ∃ Z, V2.alloc (.cells #[.int .i64 0, .int .i64 0, .int .i64 0, .int .i64 0, .int .i64 0, .int .i64 0, .string { data := #[] }, .string { data := #[] }, .int .i64 0, .int .i64 0, .slice none 0 0] 26) = Z := ⟨_, rfl⟩
          have g5 : V2.grownBy V5 none := by subst h5; exact World.grownBy_alloc _ _ none
          have Z5 : OpB V5 V2.heap.size 0 0 0 0 0 0 { data := #[] } { data := #[] } 0 0 (.slice none 0 0) := by subst h5; exact heap_alloc_new _ _
          rw [h5]
          clear h5
          have GG5 : w3.grownBy V5 none := only_step GG2 g5 (fun _ h => .inl h)
          have O1_2_5 := O1_2.kept g5 (by cases (Value.slice A1 L.length n1).ownBlock <;> simp)
          have O2_5 := O2.kept g5 (by cases (Value.slice A2 L.length n2).ownBlock <;> simp)
          have le5 : w3.heap.size ≤ V2.heap.size := GG2.size
          refine hK.out _ _ (holds1 (late_no (by kernel_rfl))) ?_
          clear hK K
          try simp only [Act.put, List.setIfInBounds_toArray, List.set_cons_zero, List.set_cons_succ]
          refine wpAnyT_ready (rs := [4]) (by kernel_rfl) (by simp) (AllT.cons (o := { dst := some 5, op := Op.alloc 26, type := 0, pos := "more.go:104", after := #[], guard := none }) rfl (fun K hK => ?_) AllT.nil)
          · go_simp
            obtain ⟨V6, h6⟩ : ∃ Z, V5.alloc (.cells #[.int .i64 0, .int .i64 0, .int .i64 0, .int .i64 0, .int .i64 0, .int .i64 0, .string { data := #[] }, .string { data := #[] }, .int .i64 0, .int .i64 0, .slice none 0 0] 26) = Z := ⟨_, rfl⟩
            have g6 : V5.grownBy V6 none := by subst h6; exact World.grownBy_alloc _ _ none
            have Z6 : OpB V6 V5.heap.size 0 0 0 0 0 0 { data := #[] } { data := #[] } 0 0 (.slice none 0 0) := by subst h6; exact heap_alloc_new _ _
            rw [h6]
            clear h6
            have GG6 : w3.grownBy V6 none := only_step GG5 g6 (fun _ h => .inl h)
            have O1_2_5_6 := O1_2_5.kept g6 (by cases (Value.slice A1 L.length n1).ownBlock <;> simp)
            have O2_5_6 := O2_5.kept g6 (by cases (Value.slice A2 L.length n2).ownBlock <;> simp)
            have Z5_6 := Z5.other g6 (by simp)
            have le4 : w3.heap.size ≤ V5.heap.size := GG5.size
            have ne : V2.heap.size ≠ V5.heap.size := by have := Z5.lt; omega
            refine hK.out _ _ (holds1 (late_no (by kernel_rfl))) ?_
            clear hK K
            try simp only [Act.put, List.setIfInBounds_toArray, List.set_cons_zero, List.set_cons_succ]
            refine wpAnyT_ready (rs := [6]) (by kernel_rfl) (by simp) (AllT.cons (o := { dst := none, op := Op.store 26 (Operand.tmp 5) (Operand.tmp 13), type := 0, pos := "more.go:104", after := #[{ on := 4, ground := Ground.data }, { on := 1, ground := Ground.data }, { on := 3, ground := Ground.chain }, { on := 0, ground := Ground.phase }, { on := 1, ground := Ground.phase }, { on := 2, ground := Ground.textOnly Departure.lateStores }, { on := 3, ground := Ground.textOnly Departure.lateStoresUnsure }, { on := 4, ground := Ground.phase }, { on := 5, ground := Ground.phase }], guard := none }) rfl (fun K hK => ?_) AllT.nil)
            obtain ⟨z0, z1, z2, z3, z4, z5, z6, z7, z8, z9, z10⟩ := Z6.cells
            have y0 := Z6.fr 0
            have y1 := Z6.fr 1
            have y2 := Z6.fr 2
            have y3 := Z6.fr 3
            have y4 := Z6.fr 4
            have y5 := Z6.fr 5
            have y6 := Z6.fr 6
            have y7 := Z6.fr 7
            have y8 := Z6.fr 8
            have y9 := Z6.fr 9
            have y10 := Z6.fr 10
            go_simp
            obtain ⟨X6, h6⟩ : ∃ Z, (((((((((((V6.setCell ⟨V5.heap.size, 0, none⟩ (.int .i64 D)).setCell ⟨V5.heap.size, 1, none⟩ (.int .i64 E)).setCell ⟨V5.heap.size, 2, none⟩ (.int .i64 S)).setCell ⟨V5.heap.size, 3, none⟩ (.int .i64 C)).setCell ⟨V5.heap.size, 4, none⟩ (.int .i64 V)).setCell ⟨V5.heap.size, 5, none⟩ (.int .i64 KD)).setCell ⟨V5.heap.size, 6, none⟩ (.string KY)).setCell ⟨V5.heap.size, 7, none⟩ (.string TX)).setCell ⟨V5.heap.size, 8, none⟩ (.int .i64 NN)).setCell ⟨V5.heap.size, 9, none⟩ (.int .i64 T)).setCell ⟨V5.heap.size, 10, none⟩ (.slice A1 L.length n1)) = Z := ⟨_, rfl⟩
            have M6 : OpB X6 V5.heap.size D E S C V KD KY TX NN T (.slice A1 L.length n1) := by subst h6; exact (((((((((((Z6.set0 _).set1 _).set2 _).set3 _).set4 _).set5 _).set6 _).set7 _).set8 _).set9 _).set10 _)
            have gs6 : V6.grownBy X6 (some (V5.heap.size)) := by subst h6; exact (set_at (set_at (set_at (set_at (set_at (set_at (set_at (set_at (set_at (set_at (set_at (only_refl _ _) 0 _) 1 _) 2 _) 3 _) 4 _) 5 _) 6 _) 7 _) 8 _) 9 _) 10 _)
            rw [h6]
            clear h6 z0 z1 z2 z3 z4 z5 z6 z7 z8 z9 z10 y0 y1 y2 y3 y4 y5 y6 y7 y8 y9 y10
            have gt6 : w3.grownBy X6 none := only_step GG6 gs6 (fun k hk => by cases hk; exact .inr le4)
            have r16 := O1_2_5_6.kept gs6 (own_apart O1_2_5_6 Z6)
            have r36 := O2_5_6.kept gs6 (own_apart O2_5_6 Z6)
            have zb6 := Z5_6.other gs6 (by intro e; injection e with e; omega)
            refine hK.out _ _ (holds1 (late_no (by kernel_rfl))) ?_
            clear hK K
            try simp only [Act.put, List.setIfInBounds_toArray, List.set_cons_zero, List.set_cons_succ]
            refine wpAnyT_ready (rs := [7]) (by kernel_rfl) (by simp) (AllT.cons (o := { dst := none, op := Op.store 26 (Operand.tmp 6) (Operand.tmp 15), type := 0, pos := "more.go:104", after := #[{ on := 5, ground := Ground.data }, { on := 3, ground := Ground.data }, { on := 6, ground := Ground.chain }, { on := 0, ground := Ground.phase }, { on := 1, ground := Ground.phase }, { on := 2, ground := Ground.phase }, { on := 3, ground := Ground.phase }, { on := 4, ground := Ground.phase }, { on := 5, ground := Ground.phase }, { on := 6, ground := Ground.phase }], guard := none }) rfl (fun K hK => ?_) AllT.nil)
            obtain ⟨z0, z1, z2, z3, z4, z5, z6, z7, z8, z9, z10⟩ := zb6.cells
            have y0 := zb6.fr 0
            have y1 := zb6.fr 1
            have y2 := zb6.fr 2
            have y3 := zb6.fr 3
            have y4 := zb6.fr 4
            have y5 := zb6.fr 5
            have y6 := zb6.fr 6
            have y7 := zb6.fr 7
            have y8 := zb6.fr 8
            have y9 := zb6.fr 9
            have y10 := zb6.fr 10
            go_simp
            obtain ⟨X7, h7⟩ : ∃ Z, (((((((((((X6.setCell ⟨V2.heap.size, 0, none⟩ (.int .i64 D)).setCell ⟨V2.heap.size, 1, none⟩ (.int .i64 E)).setCell ⟨V2.heap.size, 2, none⟩ (.int .i64 S)).setCell ⟨V2.heap.size, 3, none⟩ (.int .i64 C)).setCell ⟨V2.heap.size, 4, none⟩ (.int .i64 V)).setCell ⟨V2.heap.size, 5, none⟩ (.int .i64 KD)).setCell ⟨V2.heap.size, 6, none⟩ (.string KY)).setCell ⟨V2.heap.size, 7, none⟩ (.string TX)).setCell ⟨V2.heap.size, 8, none⟩ (.int .i64 NN)).setCell ⟨V2.heap.size, 9, none⟩ (.int .i64 T)).setCell ⟨V2.heap.size, 10, none⟩ (.slice A2 L.length n2)) = Z := ⟨_, rfl⟩
            have M7 : OpB X7 V2.heap.size D E S C V KD KY TX NN T (.slice A2 L.length n2) := by subst h7; exact (((((((((((zb6.set0 _).set1 _).set2 _).set3 _).set4 _).set5 _).set6 _).set7 _).set8 _).set9 _).set10 _)
            have gs7 : X6.grownBy X7 (some (V2.heap.size)) := by subst h7; exact (set_at (set_at (set_at (set_at (set_at (set_at (set_at (set_at (set_at (set_at (set_at (only_refl _ _) 0 _) 1 _) 2 _) 3 _) 4 _) 5 _) 6 _) 7 _) 8 _) 9 _) 10 _)
            rw [h7]
            clear h7 z0 z1 z2 z3 z4 z5 z6 z7 z8 z9 z10 y0 y1 y2 y3 y4 y5 y6 y7 y8 y9 y10
            have gt7 : w3.grownBy X7 none := only_step gt6 gs7 (fun k hk => by cases hk; exact .inr le5)
            have r17 := r16.kept gs7 (own_apart r16 zb6)
            have r37 := r36.kept gs7 (own_apart r36 zb6)
            have za7 := M6.other gs7 (by intro e; injection e with e; omega)
            refine hK.out _ _ (holds1 (late_no (by kernel_rfl))) ?_
            clear hK K
            try simp only [Act.put, List.setIfInBounds_toArray, List.set_cons_zero, List.set_cons_succ]
            refine wpAnyT_done (by kernel_rfl) ?_ _
            try go_wp2_with fail
            go_meet
            exact ⟨V5.heap.size, V2.heap.size, A1, n1, A2, n2, rfl, rfl, by omega, by have := G3.size; omega, za7, M7, ⟨_, r17⟩, ⟨_, r37⟩, only_step G3 gt7 (fun _ h => by cases h)⟩
      · go_simp
        obtain ⟨V7, h7⟩ : ∃ Z, V1.alloc (.cells #[.int .i64 0, .int .i64 0, .int .i64 0, .int .i64 0, .int .i64 0, .int .i64 0, .string { data := #[] }, .string { data := #[] }, .int .i64 0, .int .i64 0, .slice none 0 0] 26) = Z := ⟨_, rfl⟩
        have g7 : V1.grownBy V7 none := by subst h7; exact World.grownBy_alloc _ _ none
        have Z7 : OpB V7 V1.heap.size 0 0 0 0 0 0 { data := #[] } { data := #[] } 0 0 (.slice none 0 0) := by subst h7; exact heap_alloc_new _ _
        rw [h7]
        clear h7
        have GG7 : w3.grownBy V7 none := only_step GG1 g7 (fun _ h => .inl h)
        have O1_7 := O1.kept g7 (by cases (Value.slice A1 L.length n1).ownBlock <;> simp)
        have le4 : w3.heap.size ≤ V1.heap.size := GG1.size
        refine hK.out _ _ (holds1 (fun _ => (SV _ GG7).out)) ?_
        clear hK K
        try simp only [Act.put, List.setIfInBounds_toArray, List.set_cons_zero, List.set_cons_succ]
        refine wpAnyT_ready (rs := [3, 5]) (by kernel_rfl) (by simp) (AllT.cons (o := { dst := some 15, op := Op.call { callee := Callee.value (Operand.func 12), args := #[Operand.tmp 14], argTypes := #[26] }, type := 26, pos := "more.go:104", after := #[{ on := 2, ground := Ground.data }, { on := 1, ground := Ground.chain }], guard := none }) rfl (fun K hK => ?_) (AllT.cons (o := { dst := some 6, op := Op.alloc 26, type := 0, pos := "more.go:104", after := #[], guard := none }) rfl (fun K hK => ?_) AllT.nil))
        · go_simp
          go_at_call 12
          refine (HGD _ GG7).out.mono ?_
          rintro _ V8 ⟨A8, n8, rfl, O8, g8⟩
          have GG8 : w3.grownBy V8 none := only_step GG7 g8 (fun _ h => .inl h)
          have O1_7_8 := O1_7.kept g8 (by cases (Value.slice A1 L.length n1).ownBlock <;> simp)
          have Z7_8 := Z7.other g8 (by simp)
          refine hK.out _ _ (holds1 (late_no (by kernel_rfl))) ?_
          clear hK K
          try simp only [Act.put, List.setIfInBounds_toArray, List.set_cons_zero, List.set_cons_succ]
          refine wpAnyT_ready (rs := [5]) (by kernel_rfl) (by simp) (AllT.cons (o := { dst := some 6, op := Op.alloc 26, type := 0, pos := "more.go:104", after := #[], guard := none }) rfl (fun K hK => ?_) AllT.nil)
          · go_simp
            obtain ⟨V9, h9⟩ : ∃ Z, V8.alloc (.cells #[.int .i64 0, .int .i64 0, .int .i64 0, .int .i64 0, .int .i64 0, .int .i64 0, .string { data := #[] }, .string { data := #[] }, .int .i64 0, .int .i64 0, .slice none 0 0] 26) = Z := ⟨_, rfl⟩
            have g9 : V8.grownBy V9 none := by subst h9; exact World.grownBy_alloc _ _ none
            have Z9 : OpB V9 V8.heap.size 0 0 0 0 0 0 { data := #[] } { data := #[] } 0 0 (.slice none 0 0) := by subst h9; exact heap_alloc_new _ _
            rw [h9]
            clear h9
            have GG9 : w3.grownBy V9 none := only_step GG8 g9 (fun _ h => .inl h)
            have O1_7_8_9 := O1_7_8.kept g9 (by cases (Value.slice A1 L.length n1).ownBlock <;> simp)
            have Z7_8_9 := Z7_8.other g9 (by simp)
            have O8_9 := O8.kept g9 (by cases (Value.slice A8 L.length n8).ownBlock <;> simp)
            have le5 : w3.heap.size ≤ V8.heap.size := GG8.size
            have ne : V1.heap.size ≠ V8.heap.size := by have := Z7_8.lt; omega
            refine hK.out _ _ (holds1 (late_no (by kernel_rfl))) ?_
            clear hK K
            try simp only [Act.put, List.setIfInBounds_toArray, List.set_cons_zero, List.set_cons_succ]
            refine wpAnyT_ready (rs := [6]) (by kernel_rfl) (by simp) (AllT.cons (o := { dst := none, op := Op.store 26 (Operand.tmp 5) (Operand.tmp 13), type := 0, pos := "more.go:104", after := #[{ on := 4, ground := Ground.data }, { on := 1, ground := Ground.data }, { on := 3, ground := Ground.chain }, { on := 0, ground := Ground.phase }, { on := 1, ground := Ground.phase }, { on := 2, ground := Ground.textOnly Departure.lateStores }, { on := 3, ground := Ground.textOnly Departure.lateStoresUnsure }, { on := 4, ground := Ground.phase }, { on := 5, ground := Ground.phase }], guard := none }) rfl (fun K hK => ?_) AllT.nil)
            obtain ⟨z0, z1, z2, z3, z4, z5, z6, z7, z8, z9, z10⟩ := Z7_8_9.cells
            have y0 := Z7_8_9.fr 0
            have y1 := Z7_8_9.fr 1
            have y2 := Z7_8_9.fr 2
            have y3 := Z7_8_9.fr 3
            have y4 := Z7_8_9.fr 4
            have y5 := Z7_8_9.fr 5
            have y6 := Z7_8_9.fr 6
            have y7 := Z7_8_9.fr 7
            have y8 := Z7_8_9.fr 8
            have y9 := Z7_8_9.fr 9
            have y10 := Z7_8_9.fr 10
            go_simp
            obtain ⟨X6, h6⟩ : ∃ Z, (((((((((((V9.setCell ⟨V1.heap.size, 0, none⟩ (.int .i64 D)).setCell ⟨V1.heap.size, 1, none⟩ (.int .i64 E)).setCell ⟨V1.heap.size, 2, none⟩ (.int .i64 S)).setCell ⟨V1.heap.size, 3, none⟩ (.int .i64 C)).setCell ⟨V1.heap.size, 4, none⟩ (.int .i64 V)).setCell ⟨V1.heap.size, 5, none⟩ (.int .i64 KD)).setCell ⟨V1.heap.size, 6, none⟩ (.string KY)).setCell ⟨V1.heap.size, 7, none⟩ (.string TX)).setCell ⟨V1.heap.size, 8, none⟩ (.int .i64 NN)).setCell ⟨V1.heap.size, 9, none⟩ (.int .i64 T)).setCell ⟨V1.heap.size, 10, none⟩ (.slice A1 L.length n1)) = Z := ⟨_, rfl⟩
            have M6 : OpB X6 V1.heap.size D E S C V KD KY TX NN T (.slice A1 L.length n1) := by subst h6; exact (((((((((((Z7_8_9.set0 _).set1 _).set2 _).set3 _).set4 _).set5 _).set6 _).set7 _).set8 _).set9 _).set10 _)
            have gs6 : V9.grownBy X6 (some (V1.heap.size)) := by subst h6; exact (set_at (set_at (set_at (set_at (set_at (set_at (set_at (set_at (set_at (set_at (set_at (only_refl _ _) 0 _) 1 _) 2 _) 3 _) 4 _) 5 _) 6 _) 7 _) 8 _) 9 _) 10 _)
            rw [h6]
            clear h6 z0 z1 z2 z3 z4 z5 z6 z7 z8 z9 z10 y0 y1 y2 y3 y4 y5 y6 y7 y8 y9 y10
            have gt6 : w3.grownBy X6 none := only_step GG9 gs6 (fun k hk => by cases hk; exact .inr le4)
            have r16 := O1_7_8_9.kept gs6 (own_apart O1_7_8_9 Z7_8_9)
            have r36 := O8_9.kept gs6 (own_apart O8_9 Z7_8_9)
            have zb6 := Z9.other gs6 (by intro e; injection e with e; omega)
            refine hK.out _ _ (holds1 (late_no (by kernel_rfl))) ?_
            clear hK K
            try simp only [Act.put, List.setIfInBounds_toArray, List.set_cons_zero, List.set_cons_succ]
            refine wpAnyT_ready (rs := [7]) (by kernel_rfl) (by simp) (AllT.cons (o := { dst := none, op := Op.store 26 (Operand.tmp 6) (Operand.tmp 15), type := 0, pos := "more.go:104", after := #[{ on := 5, ground := Ground.data }, { on := 3, ground := Ground.data }, { on := 6, ground := Ground.chain }, { on := 0, ground := Ground.phase }, { on := 1, ground := Ground.phase }, { on := 2, ground := Ground.phase }, { on := 3, ground := Ground.phase }, { on := 4, ground := Ground.phase }, { on := 5, ground := Ground.phase }, { on := 6, ground := Ground.phase }], guard := none }) rfl (fun K hK => ?_) AllT.nil)
            obtain ⟨z0, z1, z2, z3, z4, z5, z6, z7, z8, z9, z10⟩ := zb6.cells
            have y0 := zb6.fr 0
            have y1 := zb6.fr 1
            have y2 := zb6.fr 2
            have y3 := zb6.fr 3
            have y4 := zb6.fr 4
            have y5 := zb6.fr 5
            have y6 := zb6.fr 6
            have y7 := zb6.fr 7
            have y8 := zb6.fr 8
            have y9 := zb6.fr 9
            have y10 := zb6.fr 10
            go_simp
            obtain ⟨X7, h7⟩ : ∃ Z, (((((((((((X6.setCell ⟨V8.heap.size, 0, none⟩ (.int .i64 D)).setCell ⟨V8.heap.size, 1, none⟩ (.int .i64 E)).setCell ⟨V8.heap.size, 2, none⟩ (.int .i64 S)).setCell ⟨V8.heap.size, 3, none⟩ (.int .i64 C)).setCell ⟨V8.heap.size, 4, none⟩ (.int .i64 V)).setCell ⟨V8.heap.size, 5, none⟩ (.int .i64 KD)).setCell ⟨V8.heap.size, 6, none⟩ (.string KY)).setCell ⟨V8.heap.size, 7, none⟩ (.string TX)).setCell ⟨V8.heap.size, 8, none⟩ (.int .i64 NN)).setCell ⟨V8.heap.size, 9, none⟩ (.int .i64 T)).setCell ⟨V8.heap.size, 10, none⟩ (.slice A8 L.length n8)) = Z := ⟨_, rfl⟩
            have M7 : OpB X7 V8.heap.size D E S C V KD KY TX NN T (.slice A8 L.length n8) := by subst h7; exact (((((((((((zb6.set0 _).set1 _).set2 _).set3 _).set4 _).set5 _).set6 _).set7 _).set8 _).set9 _).set10 _)
            have gs7 : X6.grownBy X7 (some (V8.heap.size)) := by subst h7; exact (set_at (set_at (set_at (set_at (set_at (set_at (set_at (set_at (set_at (set_at (set_at (only_refl _ _) 0 _) 1 _) 2 _) 3 _) 4 _) 5 _) 6 _) 7 _) 8 _) 9 _) 10 _)
            rw [h7]
            clear h7 z0 z1 z2 z3 z4 z5 z6 z7 z8 z9 z10 y0 y1 y2 y3 y4 y5 y6 y7 y8 y9 y10
            have gt7 : w3.grownBy X7 none := only_step gt6 gs7 (fun k hk => by cases hk; exact .inr le5)
            have r17 := r16.kept gs7 (own_apart r16 zb6)
            have r37 := r36.kept gs7 (own_apart r36 zb6)
            have za7 := M6.other gs7 (by intro e; injection e with e; omega)
            refine hK.out _ _ (holds1 (late_no (by kernel_rfl))) ?_
            clear hK K
            try simp only [Act.put, List.setIfInBounds_toArray, List.set_cons_zero, List.set_cons_succ]
            refine wpAnyT_done (by kernel_rfl) ?_ _
            try go_wp2_with fail
            go_meet
            exact ⟨V1.heap.size, V8.heap.size, A1, n1, A8, n8, rfl, rfl, by omega, by have := G3.size; omega, za7, M7, ⟨_, r17⟩, ⟨_, r37⟩, only_step G3 gt7 (fun _ h => by cases h)⟩
        · go_simp
          obtain ⟨V10, h10⟩ : ∃ Z, V7.alloc (.cells #[.int .i64 0, .int .i64 0, .int .i64 0, .int .i64 0, .int .i64 0, .int .i64 0, .string { data := #[] }, .string { data := #[] }, .int .i64 0, .int .i64 0, .slice none 0 0] 26) = Z := ⟨_, rfl⟩
          have g10 : V7.grownBy V10 none := by subst h10; exact World.grownBy_alloc _ _ none
          have Z10 : OpB V10 V7.heap.size 0 0 0 0 0 0 { data := #[] } { data := #[] } 0 0 (.slice none 0 0) := by subst h10; exact heap_alloc_new _ _
          rw [h10]
          clear h10
          have GG10 : w3.grownBy V10 none := only_step GG7 g10 (fun _ h => .inl h)
          have O1_7_10 := O1_7.kept g10 (by cases (Value.slice A1 L.length n1).ownBlock <;> simp)
          have Z7_10 := Z7.other g10 (by simp)
          have le5 : w3.heap.size ≤ V7.heap.size := GG7.size
          have ne : V1.heap.size ≠ V7.heap.size := by have := Z7.lt; omega
          refine hK.out _ _ (holds1 (fun _ => (SV _ GG10).out)) ?_
          clear hK K
          try simp only [Act.put, List.setIfInBounds_toArray, List.set_cons_zero, List.set_cons_succ]
          refine wpAnyT_ready (rs := [3]) (by kernel_rfl) (by simp) (AllT.cons (o := { dst := some 15, op := Op.call { callee := Callee.value (Operand.func 12), args := #[Operand.tmp 14], argTypes := #[26] }, type := 26, pos := "more.go:104", after := #[{ on := 2, ground := Ground.data }, { on := 1, ground := Ground.chain }], guard := none }) rfl (fun K hK => ?_) AllT.nil)
          · go_simp
            go_at_call 12
            refine (HGD _ GG10).out.mono ?_
            rintro _ V11 ⟨A11, n11, rfl, O11, g11⟩
            have GG11 : w3.grownBy V11 none := only_step GG10 g11 (fun _ h => .inl h)
            have O1_7_10_11 := O1_7_10.kept g11 (by cases (Value.slice A1 L.length n1).ownBlock <;> simp)
            have Z7_10_11 := Z7_10.other g11 (by simp)
            have Z10_11 := Z10.other g11 (by simp)
            refine hK.out _ _ (holds1 (late_no (by kernel_rfl))) ?_
            clear hK K
            try simp only [Act.put, List.setIfInBounds_toArray, List.set_cons_zero, List.set_cons_succ]
            refine wpAnyT_ready (rs := [6]) (by kernel_rfl) (by simp) (AllT.cons (o := { dst := none, op := Op.store 26 (Operand.tmp 5) (Operand.tmp 13), type := 0, pos := "more.go:104", after := #[{ on := 4, ground := Ground.data }, { on := 1, ground := Ground.data }, { on := 3, ground := Ground.chain }, { on := 0, ground := Ground.phase }, { on := 1, ground := Ground.phase }, { on := 2, ground := Ground.textOnly Departure.lateStores }, { on := 3, ground := Ground.textOnly Departure.lateStoresUnsure }, { on := 4, ground := Ground.phase }, { on := 5, ground := Ground.phase }], guard := none }) rfl (fun K hK => ?_) AllT.nil)
            obtain ⟨z0, z1, z2, z3, z4, z5, z6, z7, z8, z9, z10⟩ := Z7_10_11.cells
            have y0 := Z7_10_11.fr 0
            have y1 := Z7_10_11.fr 1
            have y2 := Z7_10_11.fr 2
            have y3 := Z7_10_11.fr 3
            have y4 := Z7_10_11.fr 4
            have y5 := Z7_10_11.fr 5
            have y6 := Z7_10_11.fr 6
            have y7 := Z7_10_11.fr 7
            have y8 := Z7_10_11.fr 8
            have y9 := Z7_10_11.fr 9
            have y10 := Z7_10_11.fr 10
            go_simp
            obtain ⟨X6, h6⟩ : ∃ Z, (((((((((((V11.setCell ⟨V1.heap.size, 0, none⟩ (.int .i64 D)).setCell ⟨V1.heap.size, 1, none⟩ (.int .i64 E)).setCell ⟨V1.heap.size, 2, none⟩ (.int .i64 S)).setCell ⟨V1.heap.size, 3, none⟩ (.int .i64 C)).setCell ⟨V1.heap.size, 4, none⟩ (.int .i64 V)).setCell ⟨V1.heap.size, 5, none⟩ (.int .i64 KD)).setCell ⟨V1.heap.size, 6, none⟩ (.string KY)).setCell ⟨V1.heap.size, 7, none⟩ (.string TX)).setCell ⟨V1.heap.size, 8, none⟩ (.int .i64 NN)).setCell ⟨V1.heap.size, 9, none⟩ (.int .i64 T)).setCell ⟨V1.heap.size, 10, none⟩ (.slice A1 L.length n1)) = Z := ⟨_, rfl⟩
            have M6 : OpB X6 V1.heap.size D E S C V KD KY TX NN T (.slice A1 L.length n1) := by subst h6; exact (((((((((((Z7_10_11.set0 _).set1 _).set2 _).set3 _).set4 _).set5 _).set6 _).set7 _).set8 _).set9 _).set10 _)
            have gs6 : V11.grownBy X6 (some (V1.heap.size)) := by subst h6; exact (set_at (set_at (set_at (set_at (set_at (set_at (set_at (set_at (set_at (set_at (set_at (only_refl _ _) 0 _) 1 _) 2 _) 3 _) 4 _) 5 _) 6 _) 7 _) 8 _) 9 _) 10 _)
            rw [h6]
            clear h6 z0 z1 z2 z3 z4 z5 z6 z7 z8 z9 z10 y0 y1 y2 y3 y4 y5 y6 y7 y8 y9 y10
            have gt6 : w3.grownBy X6 none := only_step GG11 gs6 (fun k hk => by cases hk; exact .inr le4)
            have r16 := O1_7_10_11.kept gs6 (own_apart O1_7_10_11 Z7_10_11)
            have r36 := O11.kept gs6 (own_apart O11 Z7_10_11)
            have zb6 := Z10_11.other gs6 (by intro e; injection e with e; omega)
            refine hK.out _ _ (holds1 (late_no (by kernel_rfl))) ?_
            clear hK K
            try simp only [Act.put, List.setIfInBounds_toArray, List.set_cons_zero, List.set_cons_succ]
            refine wpAnyT_ready (rs := [7]) (by kernel_rfl) (by simp) (AllT.cons (o := { dst := none, op := Op.store 26 (Operand.tmp 6) (Operand.tmp 15), type := 0, pos := "more.go:104", after := #[{ on := 5, ground := Ground.data }, { on := 3, ground := Ground.data }, { on := 6, ground := Ground.chain }, { on := 0, ground := Ground.phase }, { on := 1, ground := Ground.phase }, { on := 2, ground := Ground.phase }, { on := 3, ground := Ground.phase }, { on := 4, ground := Ground.phase }, { on := 5, ground := Ground.phase }, { on := 6, ground := Ground.phase }], guard := none }) rfl (fun K hK => ?_) AllT.nil)
            obtain ⟨z0, z1, z2, z3, z4, z5, z6, z7, z8, z9, z10⟩ := zb6.cells
            have y0 := zb6.fr 0
            have y1 := zb6.fr 1
            have y2 := zb6.fr 2
            have y3 := zb6.fr 3
            have y4 := zb6.fr 4
            have y5 := zb6.fr 5
            have y6 := zb6.fr 6
            have y7 := zb6.fr 7
            have y8 := zb6.fr 8
            have y9 := zb6.fr 9
            have y10 := zb6.fr 10
            go_simp
            obtain ⟨X7, h7⟩ : ∃ Z, (((((((((((X6.setCell ⟨V7.heap.size, 0, none⟩ (.int .i64 D)).setCell ⟨V7.heap.size, 1, none⟩ (.int .i64 E)).setCell ⟨V7.heap.size, 2, none⟩ (.int .i64 S)).setCell ⟨V7.heap.size, 3, none⟩ (.int .i64 C)).setCell ⟨V7.heap.size, 4, none⟩ (.int .i64 V)).setCell ⟨V7.heap.size, 5, none⟩ (.int .i64 KD)).setCell ⟨V7.heap.size, 6, none⟩ (.string KY)).setCell ⟨V7.heap.size, 7, none⟩ (.string TX)).setCell ⟨V7.heap.size, 8, none⟩ (.int .i64 NN)).setCell ⟨V7.heap.size, 9, none⟩ (.int .i64 T)).setCell ⟨V7.heap.size, 10, none⟩ (.slice A11 L.length n11)) = Z := ⟨_, rfl⟩
            have M7 : OpB X7 V7.heap.size D E S C V KD KY TX NN T (.slice A11 L.length n11) := by subst h7; exact (((((((((((zb6.set0 _).set1 _).set2 _).set3 _).set4 _).set5 _).set6 _).set7 _).set8 _).set9 _).set10 _)
            have gs7 : X6.grownBy X7 (some (V7.heap.size)) := by subst h7; exact (set_at (set_at (set_at (set_at (set_at (set_at (set_at (set_at (set_at (set_at (set_at (only_refl _ _) 0 _) 1 _) 2 _) 3 _) 4 _) 5 _) 6 _) 7 _) 8 _) 9 _) 10 _)
            rw [h7]
            clear h7 z0 z1 z2 z3 z4 z5 z6 z7 z8 z9 z10 y0 y1 y2 y3 y4 y5 y6 y7 y8 y9 y10
            have gt7 : w3.grownBy X7 none := only_step gt6 gs7 (fun k hk => by cases hk; exact .inr le5)
            have r17 := r16.kept gs7 (own_apart r16 zb6)
            have r37 := r36.kept gs7 (own_apart r36 zb6)
            have za7 := M6.other gs7 (by intro e; injection e with e; omega)
            refine hK.out _ _ (holds1 (late_no (by kernel_rfl))) ?_
            clear hK K
            try simp only [Act.put, List.setIfInBounds_toArray, List.set_cons_zero, List.set_cons_succ]
            refine wpAnyT_done (by kernel_rfl) ?_ _
            try go_wp2_with fail
            go_meet
            exact ⟨V1.heap.size, V7.heap.size, A1, n1, A11, n11, rfl, rfl, by omega, by have := G3.size; omega, za7, M7, ⟨_, r17⟩, ⟨_, r37⟩, only_step G3 gt7 (fun _ h => by cases h)⟩
      · go_simp
        obtain ⟨V12, h12⟩ : ∃ Z, V1.alloc (.cells #[.int .i64 0, .int .i64 0, .int .i64 0, .int .i64 0, .int .i64 0, .int .i64 0, .string { data := #[] }, .string { data := #[] }, .int .i64 0, .int .i64 0, .slice none 0 0] 26) = Z := ⟨_, rfl⟩
        have g12 : V1.grownBy V12 none := by subst h12; exact World.grownBy_alloc _ _ none
        have Z12 : OpB V12 V1.heap.size 0 0 0 0 0 0 { data := #[] } { data := #[] } 0 0 (.slice none 0 0) := by subst h12; exact heap_alloc_new _ _
        rw [h12]
        clear h12
        have GG12 : w3.grownBy V12 none := only_step GG1 g12 (fun _ h => .inl h)
        have O1_12 := O1.kept g12 (by cases (Value.slice A1 L.length n1).ownBlock <;> simp)
        have le5 : w3.heap.size ≤ V1.heap.size := GG1.size
        refine hK.out _ _ (holds1 (fun _ => (SV _ GG12).out)) ?_
        clear hK K
        try simp only [Act.put, List.setIfInBounds_toArray, List.set_cons_zero, List.set_cons_succ]
        refine wpAnyT_ready (rs := [3, 4]) (by kernel_rfl) (by simp) (AllT.cons (o := { dst := some 15, op := Op.call { callee := Callee.value (Operand.func 12), args := #[Operand.tmp 14], argTypes := #[26] }, type := 26, pos := "more.go:104", after := #[{ on := 2, ground := Ground.data }, { on := 1, ground := Ground.chain }], guard := none }) rfl (fun K hK => ?_) (AllT.cons (o := { dst := some 5, op := Op.alloc 26, type := 0, pos := "more.go:104", after := #[], guard := none }) rfl (fun K hK => ?_) AllT.nil))
        · go_simp
          go_at_call 12
          refine (HGD _ GG12).out.mono ?_
          rintro _ V13 ⟨A13, n13, rfl, O13, g13⟩
          have GG13 : w3.grownBy V13 none := only_step GG12 g13 (fun _ h => .inl h)
          have O1_12_13 := O1_12.kept g13 (by cases (Value.slice A1 L.length n1).ownBlock <;> simp)
          have Z12_13 := Z12.other g13 (by simp)
          refine hK.out _ _ (holds1 (late_no (by kernel_rfl))) ?_
          clear hK K
          try simp only [Act.put, List.setIfInBounds_toArray, List.set_cons_zero, List.set_cons_succ]
          refine wpAnyT_ready (rs := [4]) (by kernel_rfl) (by simp) (AllT.cons (o := { dst := some 5, op := Op.alloc 26, type := 0, pos := "more.go:104", after := #[], guard := none }) rfl (fun K hK => ?_) AllT.nil)
          · go_simp
            obtain ⟨V14, h14⟩ : ∃ Z, V13.alloc (.cells #[.int .i64 0, .int .i64 0, .int .i64 0, .int .i64 0, .int .i64 0, .int .i64 0, .string { data := #[] }, .string { data := #[] }, .int .i64 0, .int .i64 0, .slice none 0 0] 26) = Z := ⟨_, rfl⟩
            have g14 : V13.grownBy V14 none := by subst h14; exact World.grownBy_alloc _ _ none
            have Z14 : OpB V14 V13.heap.size 0 0 0 0 0 0 { data := #[] } { data := #[] } 0 0 (.slice none 0 0) := by subst h14; exact heap_alloc_new _ _
            rw [h14]
            clear h14
            have GG14 : w3.grownBy V14 none := only_step GG13 g14 (fun _ h => .inl h)
            have O1_12_13_14 := O1_12_13.kept g14 (by cases (Value.slice A1 L.length n1).ownBlock <;> simp)
            have Z12_13_14 := Z12_13.other g14 (by simp)
            have O13_14 := O13.kept g14 (by cases (Value.slice A13 L.length n13).ownBlock <;> simp)
            have le4 : w3.heap.size ≤ V13.heap.size := GG13.size
            have ne : V1.heap.size ≠ V13.heap.size := by have := Z12_13.lt; omega
            refine hK.out _ _ (holds1 (late_no (by kernel_rfl))) ?_
            clear hK K
            try simp only [Act.put, List.setIfInBounds_toArray, List.set_cons_zero, List.set_cons_succ]
            refine wpAnyT_ready (rs := [6]) (by kernel_rfl) (by simp) (AllT.cons (o := { dst := none, op := Op.store 26 (Operand.tmp 5) (Operand.tmp 13), type := 0, pos := "more.go:104", after := #[{ on := 4, ground := Ground.data }, { on := 1, ground := Ground.data }, { on := 3, ground := Ground.chain }, { on := 0, ground := Ground.phase }, { on := 1, ground := Ground.phase }, { on := 2, ground := Ground.textOnly Departure.lateStores }, { on := 3, ground := Ground.textOnly Departure.lateStoresUnsure }, { on := 4, ground := Ground.phase }, { on := 5, ground := Ground.phase }], guard := none }) rfl (fun K hK => ?_) AllT.nil)
            obtain ⟨z0, z1, z2, z3, z4, z5, z6, z7, z8, z9, z10⟩ := Z14.cells
            have y0 := Z14.fr 0
            have y1 := Z14.fr 1
            have y2 := Z14.fr 2
            have y3 := Z14.fr 3
            have y4 := Z14.fr 4
            have y5 := Z14.fr 5
            have y6 := Z14.fr 6
            have y7 := Z14.fr 7
            have y8 := Z14.fr 8
            have y9 := Z14.fr 9
            have y10 := Z14.fr 10
            go_simp
            obtain ⟨X6, h6⟩ : ∃ Z, (((((((((((V14.setCell ⟨V13.heap.size, 0, none⟩ (.int .i64 D)).setCell ⟨V13.heap.size, 1, none⟩ (.int .i64 E)).setCell ⟨V13.heap.size, 2, none⟩ (.int .i64 S)).setCell ⟨V13.heap.size, 3, none⟩ (.int .i64 C)).setCell ⟨V13.heap.size, 4, none⟩ (.int .i64 V)).setCell ⟨V13.heap.size, 5, none⟩ (.int .i64 KD)).setCell ⟨V13.heap.size, 6, none⟩ (.string KY)).setCell ⟨V13.heap.size, 7, none⟩ (.string TX)).setCell ⟨V13.heap.size, 8, none⟩ (.int .i64 NN)).setCell ⟨V13.heap.size, 9, none⟩ (.int .i64 T)).setCell ⟨V13.heap.size, 10, none⟩ (.slice A1 L.length n1)) = Z := ⟨_, rfl⟩
            have M6 : OpB X6 V13.heap.size D E S C V KD KY TX NN T (.slice A1 L.length n1) := by subst h6; exact (((((((((((Z14.set0 _).set1 _).set2 _).set3 _).set4 _).set5 _).set6 _).set7 _).set8 _).set9 _).set10 _)
            have gs6 : V14.grownBy X6 (some (V13.heap.size)) := by subst h6; exact (set_at (set_at (set_at (set_at (set_at (set_at (set_at (set_at (set_at (set_at (set_at (only_refl _ _) 0 _) 1 _) 2 _) 3 _) 4 _) 5 _) 6 _) 7 _) 8 _) 9 _) 10 _)
            rw [h6]
            clear h6 z0 z1 z2 z3 z4 z5 z6 z7 z8 z9 z10 y0 y1 y2 y3 y4 y5 y6 y7 y8 y9 y10
            have gt6 : w3.grownBy X6 none := only_step GG14 gs6 (fun k hk => by cases hk; exact .inr le4)
            have r16 := O1_12_13_14.kept gs6 (own_apart O1_12_13_14 Z14)
            have r36 := O13_14.kept gs6 (own_apart O13_14 Z14)
            have zb6 := Z12_13_14.other gs6 (by intro e; injection e with e; omega)
            refine hK.out _ _ (holds1 (late_no (by kernel_rfl))) ?_
            clear hK K
            try simp only [Act.put, List.setIfInBounds_toArray, List.set_cons_zero, List.set_cons_succ]
            refine wpAnyT_ready (rs := [7]) (by kernel_rfl) (by simp) (AllT.cons (o := { dst := none, op := Op.store 26 (Operand.tmp 6) (Operand.tmp 15), type := 0, pos := "more.go:104", after := #[{ on := 5, ground := Ground.data }, { on := 3, ground := Ground.data }, { on := 6, ground := Ground.chain }, { on := 0, ground := Ground.phase }, { on := 1, ground := Ground.phase }, { on := 2, ground := Ground.phase }, { on := 3, ground := Ground.phase }, { on := 4, ground := Ground.phase }, { on := 5, ground := Ground.phase }, { on := 6, ground := Ground.phase }], guard := none }) rfl (fun K hK => ?_) AllT.nil)
            obtain ⟨z0, z1, z2, z3, z4, z5, z6, z7, z8, z9, z10⟩ := zb6.cells
            have y0 := zb6.fr 0
            have y1 := zb6.fr 1
            have y2 := zb6.fr 2
            have y3 := zb6.fr 3
            have y4 := zb6.fr 4
            have y5 := zb6.fr 5
            have y6 := zb6.fr 6
            have y7 := zb6.fr 7
            have y8 := zb6.fr 8
            have y9 := zb6.fr 9
            have y10 := zb6.fr 10
            go_simp
            obtain ⟨X7, h7⟩ : ∃ Z, (((((((((((X6.setCell ⟨V1.heap.size, 0, none⟩ (.int .i64 D)).setCell ⟨V1.heap.size, 1, none⟩ (.int .i64 E)).setCell ⟨V1.heap.size, 2, none⟩ (.int .i64 S)).setCell ⟨V1.heap.size, 3, none⟩ (.int .i64 C)).setCell ⟨V1.heap.size, 4, none⟩ (.int .i64 V)).setCell ⟨V1.heap.size, 5, none⟩ (.int .i64 KD)).setCell ⟨V1.heap.size, 6, none⟩ (.string KY)).setCell ⟨V1.heap.size, 7, none⟩ (.string TX)).setCell ⟨V1.heap.size, 8, none⟩ (.int .i64 NN)).setCell ⟨V1.heap.size, 9, none⟩ (.int .i64 T)).setCell ⟨V1.heap.size, 10, none⟩ (.slice A13 L.length n13)) = Z := ⟨_, rfl⟩
            have M7 : OpB X7 V1.heap.size D E S C V KD KY TX NN T (.slice A13 L.length n13) := by subst h7; exact (((((((((((zb6.set0 _).set1 _).set2 _).set3 _).set4 _).set5 _).set6 _).set7 _).set8 _).set9 _).set10 _)
            have gs7 : X6.grownBy X7 (some (V1.heap.size)) := by subst h7; exact (set_at (set_at (set_at (set_at (set_at (set_at (set_at (set_at (set_at (set_at (set_at (only_refl _ _) 0 _) 1 _) 2 _) 3 _) 4 _) 5 _) 6 _) 7 _) 8 _) 9 _) 10 _)
            rw [h7]
            clear h7 z0 z1 z2 z3 z4 z5 z6 z7 z8 z9 z10 y0 y1 y2 y3 y4 y5 y6 y7 y8 y9 y10
            have gt7 : w3.grownBy X7 none := only_step gt6 gs7 (fun k hk => by cases hk; exact .inr le5)
            have r17 := r16.kept gs7 (own_apart r16 zb6)
            have r37 := r36.kept gs7 (own_apart r36 zb6)
            have za7 := M6.other gs7 (by intro e; injection e with e; omega)
            refine hK.out _ _ (holds1 (late_no (by kernel_rfl))) ?_
            clear hK K
            try simp only [Act.put, List.setIfInBounds_toArray, List.set_cons_zero, List.set_cons_succ]
            refine wpAnyT_done (by kernel_rfl) ?_ _
            try go_wp2_with fail
            go_meet
            exact ⟨V13.heap.size, V1.heap.size, A1, n1, A13, n13, rfl, rfl, by omega, by have := G3.size; omega, za7, M7, ⟨_, r17⟩, ⟨_, r37⟩, only_step G3 gt7 (fun _ h => by cases h)⟩
        · go_simp
          obtain ⟨V15, h15⟩ : ∃ Z, V12.alloc (.cells #[.int .i64 0, .int .i64 0, .int .i64 0, .int .i64 0, .int .i64 0, .int .i64 0, .string { data := #[] }, .string { data := #[] }, .int .i64 0, .int .i64 0, .slice none 0 0] 26) = Z := ⟨_, rfl⟩
          have g15 : V12.grownBy V15 none := by subst h15; exact World.grownBy_alloc _ _ none
          have Z15 : OpB V15 V12.heap.size 0 0 0 0 0 0 { data := #[] } { data := #[] } 0 0 (.slice none 0 0) := by subst h15; exact heap_alloc_new _ _
          rw [h15]
          clear h15
          have GG15 : w3.grownBy V15 none := only_step GG12 g15 (fun _ h => .inl h)
          have O1_12_15 := O1_12.kept g15 (by cases (Value.slice A1 L.length n1).ownBlock <;> simp)
          have Z12_15 := Z12.other g15 (by simp)
          have le4 : w3.heap.size ≤ V12.heap.size := GG12.size
          have ne : V1.heap.size ≠ V12.heap.size := by have := Z12.lt; omega
          refine hK.out _ _ (holds1 (fun _ => (SV _ GG15).out)) ?_
          clear hK K
          try simp only [Act.put, List.setIfInBounds_toArray, List.set_cons_zero, List.set_cons_succ]
          refine wpAnyT_ready (rs := [3]) (by kernel_rfl) (by simp) (AllT.cons (o := { dst := some 15, op := Op.call { callee := Callee.value (Operand.func 12), args := #[Operand.tmp 14], argTypes := #[26] }, type := 26, pos := "more.go:104", after := #[{ on := 2, ground := Ground.data }, { on := 1, ground := Ground.chain }], guard := none }) rfl (fun K hK => ?_) AllT.nil)
          · go_simp
            go_at_call 12
            refine (HGD _ GG15).out.mono ?_
            rintro _ V16 ⟨A16, n16, rfl, O16, g16⟩
            have GG16 : w3.grownBy V16 none := only_step GG15 g16 (fun _ h => .inl h)
            have O1_12_15_16 := O1_12_15.kept g16 (by cases (Value.slice A1 L.length n1).ownBlock <;> simp)
            have Z12_15_16 := Z12_15.other g16 (by simp)
            have Z15_16 := Z15.other g16 (by simp)
            refine hK.out _ _ (holds1 (late_no (by kernel_rfl))) ?_
            clear hK K
            try simp only [Act.put, List.setIfInBounds_toArray, List.set_cons_zero, List.set_cons_succ]
            refine wpAnyT_ready (rs := [6]) (by kernel_rfl) (by simp) (AllT.cons (o := { dst := none, op := Op.store 26 (Operand.tmp 5) (Operand.tmp 13), type := 0, pos := "more.go:104", after := #[{ on := 4, ground := Ground.data }, { on := 1, ground := Ground.data }, { on := 3, ground := Ground.chain }, { on := 0, ground := Ground.phase }, { on := 1, ground := Ground.phase }, { on := 2, ground := Ground.textOnly Departure.lateStores }, { on := 3, ground := Ground.textOnly Departure.lateStoresUnsure }, { on := 4, ground := Ground.phase }, { on := 5, ground := Ground.phase }], guard := none }) rfl (fun K hK => ?_) AllT.nil)
            obtain ⟨z0, z1, z2, z3, z4, z5, z6, z7, z8, z9, z10⟩ := Z15_16.cells
            have y0 := Z15_16.fr 0
            have y1 := Z15_16.fr 1
            have y2 := Z15_16.fr 2
            have y3 := Z15_16.fr 3
            have y4 := Z15_16.fr 4
            have y5 := Z15_16.fr 5
            have y6 := Z15_16.fr 6
            have y7 := Z15_16.fr 7
            have y8 := Z15_16.fr 8
            have y9 := Z15_16.fr 9
            have y10 := Z15_16.fr 10
            go_simp
            obtain ⟨X6, h6⟩ : ∃ Z, (((((((((((V16.setCell ⟨V12.heap.size, 0, none⟩ (.int .i64 D)).setCell ⟨V12.heap.size, 1, none⟩ (.int .i64 E)).setCell ⟨V12.heap.size, 2, none⟩ (.int .i64 S)).setCell ⟨V12.heap.size, 3, none⟩ (.int .i64 C)).setCell ⟨V12.heap.size, 4, none⟩ (.int .i64 V)).setCell ⟨V12.heap.size, 5, none⟩ (.int .i64 KD)).setCell ⟨V12.heap.size, 6, none⟩ (.string KY)).setCell ⟨V12.heap.size, 7, none⟩ (.string TX)).setCell ⟨V12.heap.size, 8, none⟩ (.int .i64 NN)).setCell ⟨V12.heap.size, 9, none⟩ (.int .i64 T)).setCell ⟨V12.heap.size, 10, none⟩ (.slice A1 L.length n1)) = Z := ⟨_, rfl⟩
            have M6 : OpB X6 V12.heap.size D E S C V KD KY TX NN T (.slice A1 L.length n1) := by subst h6; exact (((((((((((Z15_16.set0 _).set1 _).set2 _).set3 _).set4 _).set5 _).set6 _).set7 _).set8 _).set9 _).set10 _)
            have gs6 : V16.grownBy X6 (some (V12.heap.size)) := by subst h6; exact (set_at (set_at (set_at (set_at (set_at (set_at (set_at (set_at (set_at (set_at (set_at (only_refl _ _) 0 _) 1 _) 2 _) 3 _) 4 _) 5 _) 6 _) 7 _) 8 _) 9 _) 10 _)
            rw [h6]
            clear h6 z0 z1 z2 z3 z4 z5 z6 z7 z8 z9 z10 y0 y1 y2 y3 y4 y5 y6 y7 y8 y9 y10
            have gt6 : w3.grownBy X6 none := only_step GG16 gs6 (fun k hk => by cases hk; exact .inr le4)
            have r16 := O1_12_15_16.kept gs6 (own_apart O1_12_15_16 Z15_16)
            have r36 := O16.kept gs6 (own_apart O16 Z15_16)
            have zb6 := Z12_15_16.other gs6 (by intro e; injection e with e; omega)
            refine hK.out _ _ (holds1 (late_no (by kernel_rfl))) ?_
            clear hK K
            try simp only [Act.put, List.setIfInBounds_toArray, List.set_cons_zero, List.set_cons_succ]
            refine wpAnyT_ready (rs := [7]) (by kernel_rfl) (by simp) (AllT.cons (o := { dst := none, op := Op.store 26 (Operand.tmp 6) (Operand.tmp 15), type := 0, pos := "more.go:104", after := #[{ on := 5, ground := Ground.data }, { on := 3, ground := Ground.data }, { on := 6, ground := Ground.chain }, { on := 0, ground := Ground.phase }, { on := 1, ground := Ground.phase }, { on := 2, ground := Ground.phase }, { on := 3, ground := Ground.phase }, { on := 4, ground := Ground.phase }, { on := 5, ground := Ground.phase }, { on := 6, ground := Ground.phase }], guard := none }) rfl (fun K hK => ?_) AllT.nil)
            obtain ⟨z0, z1, z2, z3, z4, z5, z6, z7, z8, z9, z10⟩ := zb6.cells
            have y0 := zb6.fr 0
            have y1 := zb6.fr 1
            have y2 := zb6.fr 2
            have y3 := zb6.fr 3
            have y4 := zb6.fr 4
            have y5 := zb6.fr 5
            have y6 := zb6.fr 6
            have y7 := zb6.fr 7
            have y8 := zb6.fr 8
            have y9 := zb6.fr 9
            have y10 := zb6.fr 10
            go_simp
            obtain ⟨X7, h7⟩ : ∃ Z, (((((((((((X6.setCell ⟨V1.heap.size, 0, none⟩ (.int .i64 D)).setCell ⟨V1.heap.size, 1, none⟩ (.int .i64 E)).setCell ⟨V1.heap.size, 2, none⟩ (.int .i64 S)).setCell ⟨V1.heap.size, 3, none⟩ (.int .i64 C)).setCell ⟨V1.heap.size, 4, none⟩ (.int .i64 V)).setCell ⟨V1.heap.size, 5, none⟩ (.int .i64 KD)).setCell ⟨V1.heap.size, 6, none⟩ (.string KY)).setCell ⟨V1.heap.size, 7, none⟩ (.string TX)).setCell ⟨V1.heap.size, 8, none⟩ (.int .i64 NN)).setCell ⟨V1.heap.size, 9, none⟩ (.int .i64 T)).setCell ⟨V1.heap.size, 10, none⟩ (.slice A16 L.length n16)) = Z := ⟨_, rfl⟩
            have M7 : OpB X7 V1.heap.size D E S C V KD KY TX NN T (.slice A16 L.length n16) := by subst h7; exact (((((((((((zb6.set0 _).set1 _).set2 _).set3 _).set4 _).set5 _).set6 _).set7 _).set8 _).set9 _).set10 _)
            have gs7 : X6.grownBy X7 (some (V1.heap.size)) := by subst h7; exact (set_at (set_at (set_at (set_at (set_at (set_at (set_at (set_at (set_at (set_at (set_at (only_refl _ _) 0 _) 1 _) 2 _) 3 _) 4 _) 5 _) 6 _) 7 _) 8 _) 9 _) 10 _)
            rw [h7]
            clear h7 z0 z1 z2 z3 z4 z5 z6 z7 z8 z9 z10 y0 y1 y2 y3 y4 y5 y6 y7 y8 y9 y10
            have gt7 : w3.grownBy X7 none := only_step gt6 gs7 (fun k hk => by cases hk; exact .inr le5)
            have r17 := r16.kept gs7 (own_apart r16 zb6)
            have r37 := r36.kept gs7 (own_apart r36 zb6)
            have za7 := M6.other gs7 (by intro e; injection e with e; omega)
            refine hK.out _ _ (holds1 (late_no (by kernel_rfl))) ?_
            clear hK K
            try simp only [Act.put, List.setIfInBounds_toArray, List.set_cons_zero, List.set_cons_succ]
            refine wpAnyT_done (by kernel_rfl) ?_ _
            try go_wp2_with fail
            go_meet
            exact ⟨V12.heap.size, V1.heap.size, A1, n1, A16, n16, rfl, rfl, by omega, by have := G3.size; omega, za7, M7, ⟨_, r17⟩, ⟨_, r37⟩, only_step G3 gt7 (fun _ h => by cases h)⟩
    · go_simp
      obtain ⟨V17, h17⟩ : ∃ Z, W0.alloc (.cells #[.int .i64 0, .int .i64 0, .int .i64 0, .int .i64 0, .int .i64 0, .int .i64 0, .string { data := #[] }, .string { data := #[] }, .int .i64 0, .int .i64 0, .slice none 0 0] 26) = Z := ⟨_, rfl⟩
      have g17 : W0.grownBy V17 none := by subst h17; exact World.grownBy_alloc _ _ none
      have Z17 : OpB V17 W0.heap.size 0 0 0 0 0 0 { data := #[] } { data := #[] } 0 0 (.slice none 0 0) := by subst h17; exact heap_alloc_new _ _
      rw [h17]
      clear h17
      have GG17 : w3.grownBy V17 none := only_step d0 g17 (fun _ h => .inl h)
      have le4 : w3.heap.size ≤ W0.heap.size := d0.size
      refine hK.out _ _ (holds1 (fun _ => (SV _ GG17).out)) ?_
      clear hK K
      try simp only [Act.put, List.setIfInBounds_toArray, List.set_cons_zero, List.set_cons_succ]
      refine wpAnyT_ready (rs := [1, 5]) (by kernel_rfl) (by simp) (AllT.cons (o := { dst := some 13, op := Op.call { callee := Callee.value (Operand.func 12), args := #[Operand.tmp 12], argTypes := #[26] }, type := 26, pos := "more.go:104", after := #[{ on := 0, ground := Ground.data }], guard := none }) rfl (fun K hK => ?_) (AllT.cons (o := { dst := some 6, op := Op.alloc 26, type := 0, pos := "more.go:104", after := #[], guard := none }) rfl (fun K hK => ?_) AllT.nil))
      · go_simp
        go_at_call 12
        refine (HGD _ GG17).out.mono ?_
        rintro _ V18 ⟨A18, n18, rfl, O18, g18⟩
        have GG18 : w3.grownBy V18 none := only_step GG17 g18 (fun _ h => .inl h)
        have Z17_18 := Z17.other g18 (by simp)
        refine hK.out _ _ (holds1 (fun _ => (SV _ GG18).out)) ?_
        clear hK K
        try simp only [Act.put, List.setIfInBounds_toArray, List.set_cons_zero, List.set_cons_succ]
        refine wpAnyT_ready (rs := [3, 5]) (by kernel_rfl) (by simp) (AllT.cons (o := { dst := some 15, op := Op.call { callee := Callee.value (Operand.func 12), args := #[Operand.tmp 14], argTypes := #[26] }, type := 26, pos := "more.go:104", after := #[{ on := 2, ground := Ground.data }, { on := 1, ground := Ground.chain }], guard := none }) rfl (fun K hK => ?_) (AllT.cons (o := { dst := some 6, op := Op.alloc 26, type := 0, pos := "more.go:104", after := #[], guard := none }) rfl (fun K hK => ?_) AllT.nil))
        · go_simp
          go_at_call 12
          refine (HGD _ GG18).out.mono ?_
          rintro _ V19 ⟨A19, n19, rfl, O19, g19⟩
          have GG19 : w3.grownBy V19 none := only_step GG18 g19 (fun _ h => .inl h)
          have Z17_18_19 := Z17_18.other g19 (by simp)
          have O18_19 := O18.kept g19 (by cases (Value.slice A18 L.length n18).ownBlock <;> simp)
          refine hK.out _ _ (holds1 (late_no (by kernel_rfl))) ?_
          clear hK K
          try simp only [Act.put, List.setIfInBounds_toArray, List.set_cons_zero, List.set_cons_succ]
          refine wpAnyT_ready (rs := [5]) (by kernel_rfl) (by simp) (AllT.cons (o := { dst := some 6, op := Op.alloc 26, type := 0, pos := "more.go:104", after := #[], guard := none }) rfl (fun K hK => ?_) AllT.nil)
          · go_simp
            obtain ⟨V20, h20⟩ : ∃ Z, V19.alloc (.cells #[.int .i64 0, .int .i64 0, .int .i64 0, .int .i64 0, .int .i64 0, .int .i64 0, .string { data := #[] }, .string { data := #[] }, .int .i64 0, .int .i64 0, .slice none 0 0] 26) = Z := ⟨_, rfl⟩
            have g20 : V19.grownBy V20 none := by subst h20; exact World.grownBy_alloc _ _ none
            have Z20 : OpB V20 V19.heap.size 0 0 0 0 0 0 { data := #[] } { data := #[] } 0 0 (.slice none 0 0) := by subst h20; exact heap_alloc_new _ _
            rw [h20]
            clear h20
            have GG20 : w3.grownBy V20 none := only_step GG19 g20 (fun _ h => .inl h)
            have Z17_18_19_20 := Z17_18_19.other g20 (by simp)
            have O18_19_20 := O18_19.kept g20 (by cases (Value.slice A18 L.length n18).ownBlock <;> simp)
            have O19_20 := O19.kept g20 (by cases (Value.slice A19 L.length n19).ownBlock <;> simp)
            have le5 : w3.heap.size ≤ V19.heap.size := GG19.size
            have ne : W0.heap.size ≠ V19.heap.size := by have := Z17_18_19.lt; omega
            refine hK.out _ _ (holds1 (late_no (by kernel_rfl))) ?_
            clear hK K
            try simp only [Act.put, List.setIfInBounds_toArray, List.set_cons_zero, List.set_cons_succ]
            refine wpAnyT_ready (rs := [6]) (by kernel_rfl) (by simp) (AllT.cons (o := { dst := none, op := Op.store 26 (Operand.tmp 5) (Operand.tmp 13), type := 0, pos := "more.go:104", after := #[{ on := 4, ground := Ground.data }, { on := 1, ground := Ground.data }, { on := 3, ground := Ground.chain }, { on := 0, ground := Ground.phase }, { on := 1, ground := Ground.phase }, { on := 2, ground := Ground.textOnly Departure.lateStores }, { on := 3, ground := Ground.textOnly Departure.lateStoresUnsure }, { on := 4, ground := Ground.phase }, { on := 5, ground := Ground.phase }], guard := none }) rfl (fun K hK => ?_) AllT.nil)
            obtain ⟨z0, z1, z2, z3, z4, z5, z6, z7, z8, z9, z10⟩ := Z17_18_19_20.cells
            have y0 := Z17_18_19_20.fr 0
            have y1 := Z17_18_19_20.fr 1
            have y2 := Z17_18_19_20.fr 2
            have y3 := Z17_18_19_20.fr 3
            have y4 := Z17_18_19_20.fr 4
            have y5 := Z17_18_19_20.fr 5
            have y6 := Z17_18_19_20.fr 6
            have y7 := Z17_18_19_20.fr 7
            have y8 := Z17_18_19_20.fr 8
            have y9 := Z17_18_19_20.fr 9
            have y10 := Z17_18_19_20.fr 10
            go_simp
            obtain ⟨X6, h6⟩ : ∃ Z, (((((((((((V20.setCell ⟨W0.heap.size, 0, none⟩ (.int .i64 D)).setCell ⟨W0.heap.size, 1, none⟩ (.int .i64 E)).setCell ⟨W0.heap.size, 2, none⟩ (.int .i64 S)).setCell ⟨W0.heap.size, 3, none⟩ (.int .i64 C)).setCell ⟨W0.heap.size, 4, none⟩ (.int .i64 V)).setCell ⟨W0.heap.size, 5, none⟩ (.int .i64 KD)).setCell ⟨W0.heap.size, 6, none⟩ (.string KY)).setCell ⟨W0.heap.size, 7, none⟩ (.string TX)).setCell ⟨W0.heap.size, 8, none⟩ (.int .i64 NN)).setCell ⟨W0.heap.size, 9, none⟩ (.int .i64 T)).setCell ⟨W0.heap.size, 10, none⟩ (.slice A18 L.length n18)) = Z := ⟨_, rfl⟩
            have M6 : OpB X6 W0.heap.size D E S C V KD KY TX NN T (.slice A18 L.length n18) := by subst h6; exact (((((((((((Z17_18_19_20.set0 _).set1 _).set2 _).set3 _).set4 _).set5 _).set6 _).set7 _).set8 _).set9 _).set10 _)
            have gs6 : V20.grownBy X6 (some (W0.heap.size)) := by subst h6; exact (set_at (set_at (set_at (set_at (set_at (set_at (set_at (set_at (set_at (set_at (set_at (only_refl _ _) 0 _) 1 _) 2 _) 3 _) 4 _) 5 _) 6 _) 7 _) 8 _) 9 _) 10 _)
            rw [h6]
            clear h6 z0 z1 z2 z3 z4 z5 z6 z7 z8 z9 z10 y0 y1 y2 y3 y4 y5 y6 y7 y8 y9 y10
            have gt6 : w3.grownBy X6 none := only_step GG20 gs6 (fun k hk => by cases hk; exact .inr le4)
            have r16 := O18_19_20.kept gs6 (own_apart O18_19_20 Z17_18_19_20)
            have r36 := O19_20.kept gs6 (own_apart O19_20 Z17_18_19_20)
            have zb6 := Z20.other gs6 (by intro e; injection e with e; omega)
            refine hK.out _ _ (holds1 (late_no (by kernel_rfl))) ?_
            clear hK K
            try simp only [Act.put, List.setIfInBounds_toArray, List.set_cons_zero, List.set_cons_succ]
            refine wpAnyT_ready (rs := [7]) (by kernel_rfl) (by simp) (AllT.cons (o := { dst := none, op := Op.store 26 (Operand.tmp 6) (Operand.tmp 15), type := 0, pos := "more.go:104", after := #[{ on := 5, ground := Ground.data }, { on := 3, ground := Ground.data }, { on := 6, ground := Ground.chain }, { on := 0, ground := Ground.phase }, { on := 1, ground := Ground.phase }, { on := 2, ground := Ground.phase }, { on := 3, ground := Ground.phase }, { on := 4, ground := Ground.phase }, { on := 5, ground := Ground.phase }, { on := 6, ground := Ground.phase }], guard := none }) rfl (fun K hK => ?_) AllT.nil)
            obtain ⟨z0, z1, z2, z3, z4, z5, z6, z7, z8, z9, z10⟩ := zb6.cells
            have y0 := zb6.fr 0
            have y1 := zb6.fr 1
            have y2 := zb6.fr 2
            have y3 := zb6.fr 3
            have y4 := zb6.fr 4
            have y5 := zb6.fr 5
            have y6 := zb6.fr 6
            have y7 := zb6.fr 7
            have y8 := zb6.fr 8
            have y9 := zb6.fr 9
            have y10 := zb6.fr 10
            go_simp
            obtain ⟨X7, h7⟩ : ∃ Z, (((((((((((X6.setCell ⟨V19.heap.size, 0, none⟩ (.int .i64 D)).setCell ⟨V19.heap.size, 1, none⟩ (.int .i64 E)).setCell ⟨V19.heap.size, 2, none⟩ (.int .i64 S)).setCell ⟨V19.heap.size, 3, none⟩ (.int .i64 C)).setCell ⟨V19.heap.size, 4, none⟩ (.int .i64 V)).setCell ⟨V19.heap.size, 5, none⟩ (.int .i64 KD)).setCell ⟨V19.heap.size, 6, none⟩ (.string KY)).setCell ⟨V19.heap.size, 7, none⟩ (.string TX)).setCell ⟨V19.heap.size, 8, none⟩ (.int .i64 NN)).setCell ⟨V19.heap.size, 9, none⟩ (.int .i64 T)).setCell ⟨V19.heap.size, 10, none⟩ (.slice A19 L.length n19)) = Z := ⟨_, rfl⟩
            have M7 : OpB X7 V19.heap.size D E S C V KD KY TX NN T (.slice A19 L.length n19) := by subst h7; exact (((((((((((zb6.set0 _).set1 _).set2 _).set3 _).set4 _).set5 _).set6 _).set7 _).set8 _).set9 _).set10 _)
            have gs7 : X6.grownBy X7 (some (V19.heap.size)) := by subst h7; exact (set_at (set_at (set_at (set_at (set_at (set_at (set_at (set_at (set_at (set_at (set_at (only_refl _ _) 0 _) 1 _) 2 _) 3 _) 4 _) 5 _) 6 _) 7 _) 8 _) 9 _) 10 _)
            rw [h7]
            clear h7 z0 z1 z2 z3 z4 z5 z6 z7 z8 z9 z10 y0 y1 y2 y3 y4 y5 y6 y7 y8 y9 y10
            have gt7 : w3.grownBy X7 none := only_step gt6 gs7 (fun k hk => by cases hk; exact .inr le5)
            have r17 := r16.kept gs7 (own_apart r16 zb6)
            have r37 := r36.kept gs7 (own_apart r36 zb6)
            have za7 := M6.other gs7 (by intro e; injection e with e; omega)
            refine hK.out _ _ (holds1 (late_no (by kernel_rfl))) ?_
            clear hK K
            try simp only [Act.put, List.setIfInBounds_toArray, List.set_cons_zero, List.set_cons_succ]
            refine wpAnyT_done (by kernel_rfl) ?_ _
            try go_wp2_with fail
            go_meet
            exact ⟨W0.heap.size, V19.heap.size, A18, n18, A19, n19, rfl, rfl, by omega, by have := G3.size; omega, za7, M7, ⟨_, r17⟩, ⟨_, r37⟩, only_step G3 gt7 (fun _ h => by cases h)⟩
        · go_simp
          obtain ⟨V21, h21⟩ : ∃ Z, V18.alloc (.cells #[.int .i64 0, .int .i64 0, .int .i64 0, .int .i64 0, .int .i64 0, .int .i64 0, .string { data := #[] }, .string { data := #[] }, .int .i64 0, .int .i64 0, .slice none 0 0] 26) = Z := ⟨_, rfl⟩
          have g21 : V18.grownBy V21 none := by subst h21; exact World.grownBy_alloc _ _ none
          have Z21 : OpB V21 V18.heap.size 0 0 0 0 0 0 { data := #[] } { data := #[] } 0 0 (.slice none 0 0) := by subst h21; exact heap_alloc_new _ _
          rw [h21]
          clear h21
          have GG21 : w3.grownBy V21 none := only_step GG18 g21 (fun _ h => .inl h)
          have Z17_18_21 := Z17_18.other g21 (by simp)
          have O18_21 := O18.kept g21 (by cases (Value.slice A18 L.length n18).ownBlock <;> simp)
          have le5 : w3.heap.size ≤ V18.heap.size := GG18.size
          have ne : W0.heap.size ≠ V18.heap.size := by have := Z17_18.lt; omega
          refine hK.out _ _ (holds1 (fun _ => (SV _ GG21).out)) ?_
          clear hK K
          try simp only [Act.put, List.setIfInBounds_toArray, List.set_cons_zero, List.set_cons_succ]
          refine wpAnyT_ready (rs := [3]) (by kernel_rfl) (by simp) (AllT.cons (o := { dst := some 15, op := Op.call { callee := Callee.value (Operand.func 12), args := #[Operand.tmp 14], argTypes := #[26] }, type := 26, pos := "more.go:104", after := #[{ on := 2, ground := Ground.data }, { on := 1, ground := Ground.chain }], guard := none }) rfl (fun K hK => ?_) AllT.nil)
          · go_simp
            go_at_call 12
            refine (HGD _ GG21).out.mono ?_
            rintro _ V22 ⟨A22, n22, rfl, O22, g22⟩
            have GG22 : w3.grownBy V22 none := only_step GG21 g22 (fun _ h => .inl h)
            have Z17_18_21_22 := Z17_18_21.other g22 (by simp)
            have O18_21_22 := O18_21.kept g22 (by cases (Value.slice A18 L.length n18).ownBlock <;> simp)
            have Z21_22 := Z21.other g22 (by simp)
            refine hK.out _ _ (holds1 (late_no (by kernel_rfl))) ?_
            clear hK K
            try simp only [Act.put, List.setIfInBounds_toArray, List.set_cons_zero, List.set_cons_succ]
            refine wpAnyT_ready (rs := [6]) (by kernel_rfl) (by simp) (AllT.cons (o := { dst := none, op := Op.store 26 (Operand.tmp 5) (Operand.tmp 13), type := 0, pos := "more.go:104", after := #[{ on := 4, ground := Ground.data }, { on := 1, ground := Ground.data }, { on := 3, ground := Ground.chain }, { on := 0, ground := Ground.phase }, { on := 1, ground := Ground.phase }, { on := 2, ground := Ground.textOnly Departure.lateStores }, { on := 3, ground := Ground.textOnly Departure.lateStoresUnsure }, { on := 4, ground := Ground.phase }, { on := 5, ground := Ground.phase }], guard := none }) rfl (fun K hK => ?_) AllT.nil)
            obtain ⟨z0, z1, z2, z3, z4, z5, z6, z7, z8, z9, z10⟩ := Z17_18_21_22.cells
            have y0 := Z17_18_21_22.fr 0
            have y1 := Z17_18_21_22.fr 1
            have y2 := Z17_18_21_22.fr 2
            have y3 := Z17_18_21_22.fr 3
            have y4 := Z17_18_21_22.fr 4
            have y5 := Z17_18_21_22.fr 5
            have y6 := Z17_18_21_22.fr 6
            have y7 := Z17_18_21_22.fr 7
            have y8 := Z17_18_21_22.fr 8
            have y9 := Z17_18_21_22.fr 9
            have y10 := Z17_18_21_22.fr 10
            go_simp
            obtain ⟨X6, h6⟩ : ∃ Z, (((((((((((V22.setCell ⟨W0.heap.size, 0, none⟩ (.int .i64 D)).setCell ⟨W0.heap.size, 1, none⟩ (.int .i64 E)).setCell ⟨W0.heap.size, 2, none⟩ (.int .i64 S)).setCell ⟨W0.heap.size, 3, none⟩ (.int .i64 C)).setCell ⟨W0.heap.size, 4, none⟩ (.int .i64 V)).setCell ⟨W0.heap.size, 5, none⟩ (.int .i64 KD)).setCell ⟨W0.heap.size, 6, none⟩ (.string KY)).setCell ⟨W0.heap.size, 7, none⟩ (.string TX)).setCell ⟨W0.heap.size, 8, none⟩ (.int .i64 NN)).setCell ⟨W0.heap.size, 9, none⟩ (.int .i64 T)).setCell ⟨W0.heap.size, 10, none⟩ (.slice A18 L.length n18)) = Z := ⟨_, rfl⟩
            have M6 : OpB X6 W0.heap.size D E S C V KD KY TX NN T (.slice A18 L.length n18) := by subst h6; exact (((((((((((Z17_18_21_22.set0 _).set1 _).set2 _).set3 _).set4 _).set5 _).set6 _).set7 _).set8 _).set9 _).set10 _)
            have gs6 : V22.grownBy X6 (some (W0.heap.size)) := by subst h6; exact (set_at (set_at (set_at (set_at (set_at (set_at (set_at (set_at (set_at (set_at (set_at (only_refl _ _) 0 _) 1 _) 2 _) 3 _) 4 _) 5 _) 6 _) 7 _) 8 _) 9 _) 10 _)
            rw [h6]
            clear h6 z0 z1 z2 z3 z4 z5 z6 z7 z8 z9 z10 y0 y1 y2 y3 y4 y5 y6 y7 y8 y9 y10
            have gt6 : w3.grownBy X6 none := only_step GG22 gs6 (fun k hk => by cases hk; exact .inr le4)
            have r16 := O18_21_22.kept gs6 (own_apart O18_21_22 Z17_18_21_22)
            have r36 := O22.kept gs6 (own_apart O22 Z17_18_21_22)
            have zb6 := Z21_22.other gs6 (by intro e; injection e with e; omega)
            refine hK.out _ _ (holds1 (late_no (by kernel_rfl))) ?_
            clear hK K
            try simp only [Act.put, List.setIfInBounds_toArray, List.set_cons_zero, List.set_cons_succ]
            refine wpAnyT_ready (rs := [7]) (by kernel_rfl) (by simp) (AllT.cons (o := { dst := none, op := Op.store 26 (Operand.tmp 6) (Operand.tmp 15), type := 0, pos := "more.go:104", after := #[{ on := 5, ground := Ground.data }, { on := 3, ground := Ground.data }, { on := 6, ground := Ground.chain }, { on := 0, ground := Ground.phase }, { on := 1, ground := Ground.phase }, { on := 2, ground := Ground.phase }, { on := 3, ground := Ground.phase }, { on := 4, ground := Ground.phase }, { on := 5, ground := Ground.phase }, { on := 6, ground := Ground.phase }], guard := none }) rfl (fun K hK => ?_) AllT.nil)
            obtain ⟨z0, z1, z2, z3, z4, z5, z6, z7, z8, z9, z10⟩ := zb6.cells
            have y0 := zb6.fr 0
            have y1 := zb6.fr 1
            have y2 := zb6.fr 2
            have y3 := zb6.fr 3
            have y4 := zb6.fr 4
            have y5 := zb6.fr 5
            have y6 := zb6.fr 6
            have y7 := zb6.fr 7
            have y8 := zb6.fr 8
            have y9 := zb6.fr 9
            have y10 := zb6.fr 10
            go_simp
            obtain ⟨X7, h7⟩ : ∃ Z, (((((((((((X6.setCell ⟨V18.heap.size, 0, none⟩ (.int .i64 D)).setCell ⟨V18.heap.size, 1, none⟩ (.int .i64 E)).setCell ⟨V18.heap.size, 2, none⟩ (.int .i64 S)).setCell ⟨V18.heap.size, 3, none⟩ (.int .i64 C)).setCell ⟨V18.heap.size, 4, none⟩ (.int .i64 V)).setCell ⟨V18.heap.size, 5, none⟩ (.int .i64 KD)).setCell ⟨V18.heap.size, 6, none⟩ (.string KY)).setCell ⟨V18.heap.size, 7, none⟩ (.string TX)).setCell ⟨V18.heap.size, 8, none⟩ (.int .i64 NN)).setCell ⟨V18.heap.size, 9, none⟩ (.int .i64 T)).setCell ⟨V18.heap.size, 10, none⟩ (.slice A22 L.length n22)) = Z := ⟨_, rfl⟩
            have M7 : OpB X7 V18.heap.size D E S C V KD KY TX NN T (.slice A22 L.length n22) := by subst h7; exact (((((((((((zb6.set0 _).set1 _).set2 _).set3 _).set4 _).set5 _).set6 _).set7 _).set8 _).set9 _).set10 _)
            have gs7 : X6.grownBy X7 (some (V18.heap.size)) := by subst h7; exact (set_at (set_at (set_at (set_at (set_at (set_at (set_at (set_at (set_at (set_at (set_at (only_refl _ _) 0 _) 1 _) 2 _) 3 _) 4 _) 5 _) 6 _) 7 _) 8 _) 9 _) 10 _)
            rw [h7]
            clear h7 z0 z1 z2 z3 z4 z5 z6 z7 z8 z9 z10 y0 y1 y2 y3 y4 y5 y6 y7 y8 y9 y10
            have gt7 : w3.grownBy X7 none := only_step gt6 gs7 (fun k hk => by cases hk; exact .inr le5)
            have r17 := r16.kept gs7 (own_apart r16 zb6)
            have r37 := r36.kept gs7 (own_apart r36 zb6)
            have za7 := M6.other gs7 (by intro e; injection e with e; omega)
            refine hK.out _ _ (holds1 (late_no (by kernel_rfl))) ?_
            clear hK K
            try simp only [Act.put, List.setIfInBounds_toArray, List.set_cons_zero, List.set_cons_succ]
            refine wpAnyT_done (by kernel_rfl) ?_ _
            try go_wp2_with fail
            go_meet
            exact ⟨W0.heap.size, V18.heap.size, A18, n18, A22, n22, rfl, rfl, by omega, by have := G3.size; omega, za7, M7, ⟨_, r17⟩, ⟨_, r37⟩, only_step G3 gt7 (fun _ h => by cases h)⟩
      · go_simp
        obtain ⟨V23, h23⟩ : ∃ Z, V17.alloc (.cells #[.int .i64 0, .int .i64 0, .int .i64 0, .int .i64 0, .int .i64 0, .int .i64 0, .string { data := #[] }, .string { data := #[] }, .int .i64 0, .int .i64 0, .slice none 0 0] 26) = Z := ⟨_, rfl⟩
        have g23 : V17.grownBy V23 none := by subst h23; exact World.grownBy_alloc _ _ none
        have Z23 : OpB V23 V17.heap.size 0 0 0 0 0 0 { data := #[] } { data := #[] } 0 0 (.slice none 0 0) := by subst h23; exact heap_alloc_new _ _
        rw [h23]
        clear h23
        have GG23 : w3.grownBy V23 none := only_step GG17 g23 (fun _ h => .inl h)
        have Z17_23 := Z17.other g23 (by simp)
        have le5 : w3.heap.size ≤ V17.heap.size := GG17.size
        have ne : W0.heap.size ≠ V17.heap.size := by have := Z17.lt; omega
        refine hK.out _ _ (holds1 (fun _ => (SV _ GG23).out)) ?_
        clear hK K
        try simp only [Act.put, List.setIfInBounds_toArray, List.set_cons_zero, List.set_cons_succ]
        refine wpAnyT_ready (rs := [1]) (by kernel_rfl) (by simp) (AllT.cons (o := { dst := some 13, op := Op.call { callee := Callee.value (Operand.func 12), args := #[Operand.tmp 12], argTypes := #[26] }, type := 26, pos := "more.go:104", after := #[{ on := 0, ground := Ground.data }], guard := none }) rfl (fun K hK => ?_) AllT.nil)
        · go_simp
          go_at_call 12
          refine (HGD _ GG23).out.mono ?_
          rintro _ V24 ⟨A24, n24, rfl, O24, g24⟩
          have GG24 : w3.grownBy V24 none := only_step GG23 g24 (fun _ h => .inl h)
          have Z17_23_24 := Z17_23.other g24 (by simp)
          have Z23_24 := Z23.other g24 (by simp)
          refine hK.out _ _ (holds1 (fun _ => (SV _ GG24).out)) ?_
          clear hK K
          try simp only [Act.put, List.setIfInBounds_toArray, List.set_cons_zero, List.set_cons_succ]
          refine wpAnyT_ready (rs := [3]) (by kernel_rfl) (by simp) (AllT.cons (o := { dst := some 15, op := Op.call { callee := Callee.value (Operand.func 12), args := #[Operand.tmp 14], argTypes := #[26] }, type := 26, pos := "more.go:104", after := #[{ on := 2, ground := Ground.data }, { on := 1, ground := Ground.chain }], guard := none }) rfl (fun K hK => ?_) AllT.nil)
          · go_simp
            go_at_call 12
            refine (HGD _ GG24).out.mono ?_
            rintro _ V25 ⟨A25, n25, rfl, O25, g25⟩
            have GG25 : w3.grownBy V25 none := only_step GG24 g25 (fun _ h => .inl h)
            have Z17_23_24_25 := Z17_23_24.other g25 (by simp)
            have Z23_24_25 := Z23_24.other g25 (by simp)
            have O24_25 := O24.kept g25 (by cases (Value.slice A24 L.length n24).ownBlock <;> simp)
            refine hK.out _ _ (holds1 (late_no (by kernel_rfl))) ?_
            clear hK K
            try simp only [Act.put, List.setIfInBounds_toArray, List.set_cons_zero, List.set_cons_succ]
            refine wpAnyT_ready (rs := [6]) (by kernel_rfl) (by simp) (AllT.cons (o := { dst := none, op := Op.store 26 (Operand.tmp 5) (Operand.tmp 13), type := 0, pos := "more.go:104", after := #[{ on := 4, ground := Ground.data }, { on := 1, ground := Ground.data }, { on := 3, ground := Ground.chain }, { on := 0, ground := Ground.phase }, { on := 1, ground := Ground.phase }, { on := 2, ground := Ground.textOnly Departure.lateStores }, { on := 3, ground := Ground.textOnly Departure.lateStoresUnsure }, { on := 4, ground := Ground.phase }, { on := 5, ground := Ground.phase }], guard := none }) rfl (fun K hK => ?_) AllT.nil)
            obtain ⟨z0, z1, z2, z3, z4, z5, z6, z7, z8, z9, z10⟩ := Z17_23_24_25.cells
            have y0 := Z17_23_24_25.fr 0
            have y1 := Z17_23_24_25.fr 1
            have y2 := Z17_23_24_25.fr 2
            have y3 := Z17_23_24_25.fr 3
            have y4 := Z17_23_24_25.fr 4
            have y5 := Z17_23_24_25.fr 5
            have y6 := Z17_23_24_25.fr 6
            have y7 := Z17_23_24_25.fr 7
            have y8 := Z17_23_24_25.fr 8
            have y9 := Z17_23_24_25.fr 9
            have y10 := Z17_23_24_25.fr 10
            go_simp
            obtain ⟨X6, h6⟩ : ∃ Z, (((((((((((V25.setCell ⟨W0.heap.size, 0, none⟩ (.int .i64 D)).setCell ⟨W0.heap.size, 1, none⟩ (.int .i64 E)).setCell ⟨W0.heap.size, 2, none⟩ (.int .i64 S)).setCell ⟨W0.heap.size, 3, none⟩ (.int .i64 C)).setCell ⟨W0.heap.size, 4, none⟩ (.int .i64 V)).setCell ⟨W0.heap.size, 5, none⟩ (.int .i64 KD)).setCell ⟨W0.heap.size, 6, none⟩ (.string KY)).setCell ⟨W0.heap.size, 7, none⟩ (.string TX)).setCell ⟨W0.heap.size, 8, none⟩ (.int .i64 NN)).setCell ⟨W0.heap.size, 9, none⟩ (.int .i64 T)).setCell ⟨W0.heap.size, 10, none⟩ (.slice A24 L.length n24)) = Z := ⟨_, rfl⟩
            have M6 : OpB X6 W0.heap.size D E S C V KD KY TX NN T (.slice A24 L.length n24) := by subst h6; exact (((((((((((Z17_23_24_25.set0 _).set1 _).set2 _).set3 _).set4 _).set5 _).set6 _).set7 _).set8 _).set9 _).set10 _)
            have gs6 : V25.grownBy X6 (some (W0.heap.size)) := by subst h6; exact (set_at (set_at (set_at (set_at (set_at (set_at (set_at (set_at (set_at (set_at (set_at (only_refl _ _) 0 _) 1 _) 2 _) 3 _) 4 _) 5 _) 6 _) 7 _) 8 _) 9 _) 10 _)
            rw [h6]
            clear h6 z0 z1 z2 z3 z4 z5 z6 z7 z8 z9 z10 y0 y1 y2 y3 y4 y5 y6 y7 y8 y9 y10
            have gt6 : w3.grownBy X6 none := only_step GG25 gs6 (fun k hk => by cases hk; exact .inr le4)
            have r16 := O24_25.kept gs6 (own_apart O24_25 Z17_23_24_25)
            have r36 := O25.kept gs6 (own_apart O25 Z17_23_24_25)
            have zb6 := Z23_24_25.other gs6 (by intro e; injection e with e; omega)
            refine hK.out _ _ (holds1 (late_no (by kernel_rfl))) ?_
            clear hK K
            try simp only [Act.put, List.setIfInBounds_toArray, List.set_cons_zero, List.set_cons_succ]
            refine wpAnyT_ready (rs := [7]) (by kernel_rfl) (by simp) (AllT.cons (o := { dst := none, op := Op.store 26 (Operand.tmp 6) (Operand.tmp 15), type := 0, pos := "more.go:104", after := #[{ on := 5, ground := Ground.data }, { on := 3, ground := Ground.data }, { on := 6, ground := Ground.chain }, { on := 0, ground := Ground.phase }, { on := 1, ground := Ground.phase }, { on := 2, ground := Ground.phase }, { on := 3, ground := Ground.phase }, { on := 4, ground := Ground.phase }, { on := 5, ground := Ground.phase }, { on := 6, ground := Ground.phase }], guard := none }) rfl (fun K hK => ?_) AllT.nil)
            obtain ⟨z0, z1, z2, z3, z4, z5, z6, z7, z8, z9, z10⟩ := zb6.cells
            have y0 := zb6.fr 0
            have y1 := zb6.fr 1
            have y2 := zb6.fr 2
            have y3 := zb6.fr 3
            have y4 := zb6.fr 4
            have y5 := zb6.fr 5
            have y6 := zb6.fr 6
            have y7 := zb6.fr 7
            have y8 := zb6.fr 8
            have y9 := zb6.fr 9
            have y10 := zb6.fr 10
            go_simp
            obtain ⟨X7, h7⟩ : ∃ Z, (((((((((((X6.setCell ⟨V17.heap.size, 0, none⟩ (.int .i64 D)).setCell ⟨V17.heap.size, 1, none⟩ (.int .i64 E)).setCell ⟨V17.heap.size, 2, none⟩ (.int .i64 S)).setCell ⟨V17.heap.size, 3, none⟩ (.int .i64 C)).setCell ⟨V17.heap.size, 4, none⟩ (.int .i64 V)).setCell ⟨V17.heap.size, 5, none⟩ (.int .i64 KD)).setCell ⟨V17.heap.size, 6, none⟩ (.string KY)).setCell ⟨V17.heap.size, 7, none⟩ (.string TX)).setCell ⟨V17.heap.size, 8, none⟩ (.int .i64 NN)).setCell ⟨V17.heap.size, 9, none⟩ (.int .i64 T)).setCell ⟨V17.heap.size, 10, none⟩ (.slice A25 L.length n25)) = Z := ⟨_, rfl⟩
            have M7 : OpB X7 V17.heap.size D E S C V KD KY TX NN T (.slice A25 L.length n25) := by subst h7; exact (((((((((((zb6.set0 _).set1 _).set2 _).set3 _).set4 _).set5 _).set6 _).set7 _).set8 _).set9 _).set10 _)
            have gs7 : X6.grownBy X7 (some (V17.heap.size)) := by subst h7; exact (set_at (set_at (set_at (set_at (set_at (set_at (set_at (set_at (set_at (set_at (set_at (only_refl _ _) 0 _) 1 _) 2 _) 3 _) 4 _) 5 _) 6 _) 7 _) 8 _) 9 _) 10 _)
            rw [h7]
            clear h7 z0 z1 z2 z3 z4 z5 z6 z7 z8 z9 z10 y0 y1 y2 y3 y4 y5 y6 y7 y8 y9 y10
            have gt7 : w3.grownBy X7 none := only_step gt6 gs7 (fun k hk => by cases hk; exact .inr le5)
            have r17 := r16.kept gs7 (own_apart r16 zb6)
            have r37 := r36.kept gs7 (own_apart r36 zb6)
            have za7 := M6.other gs7 (by intro e; injection e with e; omega)
            refine hK.out _ _ (holds1 (late_no (by kernel_rfl))) ?_
            clear hK K
            try simp only [Act.put, List.setIfInBounds_toArray, List.set_cons_zero, List.set_cons_succ]
            refine wpAnyT_done (by kernel_rfl) ?_ _
            try go_wp2_with fail
            go_meet
            exact ⟨W0.heap.size, V17.heap.size, A24, n24, A25, n25, rfl, rfl, by omega, by have := G3.size; omega, za7, M7, ⟨_, r17⟩, ⟨_, r37⟩, only_step G3 gt7 (fun _ h => by cases h)⟩
    · go_simp
      obtain ⟨V26, h26⟩ : ∃ Z, W0.alloc (.cells #[.int .i64 0, .int .i64 0, .int .i64 0, .int .i64 0, .int .i64 0, .int .i64 0, .string { data := #[] }, .string { data := #[] }, .int .i64 0, .int .i64 0, .slice none 0 0] 26) = Z := ⟨_, rfl⟩
      have g26 : W0.grownBy V26 none := by subst h26; exact World.grownBy_alloc _ _ none
      have Z26 : OpB V26 W0.heap.size 0 0 0 0 0 0 { data := #[] } { data := #[] } 0 0 (.slice none 0 0) := by subst h26; exact heap_alloc_new _ _
      rw [h26]
      clear h26
      have GG26 : w3.grownBy V26 none := only_step d0 g26 (fun _ h => .inl h)
      have le5 : w3.heap.size ≤ W0.heap.size := d0.size
      refine hK.out _ _ (holds1 (fun _ => (SV _ GG26).out)) ?_
      clear hK K
      try simp only [Act.put, List.setIfInBounds_toArray, List.set_cons_zero, List.set_cons_succ]
      refine wpAnyT_ready (rs := [1, 4]) (by kernel_rfl) (by simp) (AllT.cons (o := { dst := some 13, op := Op.call { callee := Callee.value (Operand.func 12), args := #[Operand.tmp 12], argTypes := #[26] }, type := 26, pos := "more.go:104", after := #[{ on := 0, ground := Ground.data }], guard := none }) rfl (fun K hK => ?_) (AllT.cons (o := { dst := some 5, op := Op.alloc 26, type := 0, pos := "more.go:104", after := #[], guard := none }) rfl (fun K hK => ?_) AllT.nil))
      · go_simp
        go_at_call 12
        refine (HGD _ GG26).out.mono ?_
        rintro _ V27 ⟨A27, n27, rfl, O27, g27⟩
        have GG27 : w3.grownBy V27 none := only_step GG26 g27 (fun _ h => .inl h)
        have Z26_27 := Z26.other g27 (by simp)
        refine hK.out _ _ (holds1 (fun _ => (SV _ GG27).out)) ?_
        clear hK K
        try simp only [Act.put, List.setIfInBounds_toArray, List.set_cons_zero, List.set_cons_succ]
        refine wpAnyT_ready (rs := [3, 4]) (by kernel_rfl) (by simp) (AllT.cons (o := { dst := some 15, op := Op.call { callee := Callee.value (Operand.func 12), args := #[Operand.tmp 14], argTypes := #[26] }, type := 26, pos := "more.go:104", after := #[{ on := 2, ground := Ground.data }, { on := 1, ground := Ground.chain }], guard := none }) rfl (fun K hK => ?_) (AllT.cons (o := { dst := some 5, op := Op.alloc 26, type := 0, pos := "more.go:104", after := #[], guard := none }) rfl (fun K hK => ?_) AllT.nil))
        · go_simp
          go_at_call 12
          refine (HGD _ GG27).out.mono ?_
          rintro _ V28 ⟨A28, n28, rfl, O28, g28⟩
          have GG28 : w3.grownBy V28 none := only_step GG27 g28 (fun _ h => .inl h)
          have Z26_27_28 := Z26_27.other g28 (by simp)
          have O27_28 := O27.kept g28 (by cases (Value.slice A27 L.length n27).ownBlock <;> simp)
          refine hK.out _ _ (holds1 (late_no (by kernel_rfl))) ?_
          clear hK K
          try simp only [Act.put, List.setIfInBounds_toArray, List.set_cons_zero, List.set_cons_succ]
          refine wpAnyT_ready (rs := [4]) (by kernel_rfl) (by simp) (AllT.cons (o := { dst := some 5, op := Op.alloc 26, type := 0, pos := "more.go:104", after := #[], guard := none }) rfl (fun K hK => ?_) AllT.nil)
          · go_simp
            obtain ⟨V29, h29⟩ : ∃ Z, V28.alloc (.cells #[.int .i64 0, .int .i64 0, .int .i64 0, .int .i64 0, .int .i64 0, .int .i64 0, .string { data := #[] }, .string { data := #[] }, .int .i64 0, .int .i64 0, .slice none 0 0] 26) = Z := ⟨_, rfl⟩
            have g29 : V28.grownBy V29 none := by subst h29; exact World.grownBy_alloc _ _ none
            have Z29 : OpB V29 V28.heap.size 0 0 0 0 0 0 { data := #[] } { data := #[] } 0 0 (.slice none 0 0) := by subst h29; exact heap_alloc_new _ _
            rw [h29]
            clear h29
            have GG29 : w3.grownBy V29 none := only_step GG28 g29 (fun _ h => .inl h)
            have Z26_27_28_29 := Z26_27_28.other g29 (by simp)
            have O27_28_29 := O27_28.kept g29 (by cases (Value.slice A27 L.length n27).ownBlock <;> simp)
            have O28_29 := O28.kept g29 (by cases (Value.slice A28 L.length n28).ownBlock <;> simp)
            have le4 : w3.heap.size ≤ V28.heap.size := GG28.size
            have ne : W0.heap.size ≠ V28.heap.size := by have := Z26_27_28.lt; omega
            refine hK.out _ _ (holds1 (late_no (by kernel_rfl))) ?_
            clear hK K
            try simp only [Act.put, List.setIfInBounds_toArray, List.set_cons_zero, List.set_cons_succ]
            refine wpAnyT_ready (rs := [6]) (by kernel_rfl) (by simp) (AllT.cons (o := { dst := none, op := Op.store 26 (Operand.tmp 5) (Operand.tmp 13), type := 0, pos := "more.go:104", after := #[{ on := 4, ground := Ground.data }, { on := 1, ground := Ground.data }, { on := 3, ground := Ground.chain }, { on := 0, ground := Ground.phase }, { on := 1, ground := Ground.phase }, { on := 2, ground := Ground.textOnly Departure.lateStores }, { on := 3, ground := Ground.textOnly Departure.lateStoresUnsure }, { on := 4, ground := Ground.phase }, { on := 5, ground := Ground.phase }], guard := none }) rfl (fun K hK => ?_) AllT.nil)
            obtain ⟨z0, z1, z2, z3, z4, z5, z6, z7, z8, z9, z10⟩ := Z29.cells
            have y0 := Z29.fr 0
            have y1 := Z29.fr 1
            have y2 := Z29.fr 2
            have y3 := Z29.fr 3
            have y4 := Z29.fr 4
            have y5 := Z29.fr 5
            have y6 := Z29.fr 6
            have y7 := Z29.fr 7
            have y8 := Z29.fr 8
            have y9 := Z29.fr 9
            have y10 := Z29.fr 10
            go_simp
            obtain ⟨X6, h6⟩ : ∃ Z, (((((((((((V29.setCell ⟨V28.heap.size, 0, none⟩ (.int .i64 D)).setCell ⟨V28.heap.size, 1, none⟩ (.int .i64 E)).setCell ⟨V28.heap.size, 2, none⟩ (.int .i64 S)).setCell ⟨V28.heap.size, 3, none⟩ (.int .i64 C)).setCell ⟨V28.heap.size, 4, none⟩ (.int .i64 V)).setCell ⟨V28.heap.size, 5, none⟩ (.int .i64 KD)).setCell ⟨V28.heap.size, 6, none⟩ (.string KY)).setCell ⟨V28.heap.size, 7, none⟩ (.string TX)).setCell ⟨V28.heap.size, 8, none⟩ (.int .i64 NN)).setCell ⟨V28.heap.size, 9, none⟩ (.int .i64 T)).setCell ⟨V28.heap.size, 10, none⟩ (.slice A27 L.length n27)) = Z := ⟨_, rfl⟩
            have M6 : OpB X6 V28.heap.size D E S C V KD KY TX NN T (.slice A27 L.length n27) := by subst h6; exact (((((((((((Z29.set0 _).set1 _).set2 _).set3 _).set4 _).set5 _).set6 _).set7 _).set8 _).set9 _).set10 _)
            have gs6 : V29.grownBy X6 (some (V28.heap.size)) := by subst h6; exact (set_at (set_at (set_at (set_at (set_at (set_at (set_at (set_at (set_at (set_at (set_at (only_refl _ _) 0 _) 1 _) 2 _) 3 _) 4 _) 5 _) 6 _) 7 _) 8 _) 9 _) 10 _)
            rw [h6]
            clear h6 z0 z1 z2 z3 z4 z5 z6 z7 z8 z9 z10 y0 y1 y2 y3 y4 y5 y6 y7 y8 y9 y10
            have gt6 : w3.grownBy X6 none := only_step GG29 gs6 (fun k hk => by cases hk; exact .inr le4)
            have r16 := O27_28_29.kept gs6 (own_apart O27_28_29 Z29)
            have r36 := O28_29.kept gs6 (own_apart O28_29 Z29)
            have zb6 := Z26_27_28_29.other gs6 (by intro e; injection e with e; omega)
            refine hK.out _ _ (holds1 (late_no (by kernel_rfl))) ?_
            clear hK K
            try simp only [Act.put, List.setIfInBounds_toArray, List.set_cons_zero, List.set_cons_succ]
            refine wpAnyT_ready (rs := [7]) (by kernel_rfl) (by simp) (AllT.cons (o := { dst := none, op := Op.store 26 (Operand.tmp 6) (Operand.tmp 15), type := 0, pos := "more.go:104", after := #[{ on := 5, ground := Ground.data }, { on := 3, ground := Ground.data }, { on := 6, ground := Ground.chain }, { on := 0, ground := Ground.phase }, { on := 1, ground := Ground.phase }, { on := 2, ground := Ground.phase }, { on := 3, ground := Ground.phase }, { on := 4, ground := Ground.phase }, { on := 5, ground := Ground.phase }, { on := 6, ground := Ground.phase }], guard := none }) rfl (fun K hK => ?_) AllT.nil)
            obtain ⟨z0, z1, z2, z3, z4, z5, z6, z7, z8, z9, z10⟩ := zb6.cells
            have y0 := zb6.fr 0
            have y1 := zb6.fr 1
            have y2 := zb6.fr 2
            have y3 := zb6.fr 3
            have y4 := zb6.fr 4
            have y5 := zb6.fr 5
            have y6 := zb6.fr 6
            have y7 := zb6.fr 7
            have y8 := zb6.fr 8
            have y9 := zb6.fr 9
            have y10 := zb6.fr 10
            go_simp
            obtain ⟨X7, h7⟩ : ∃ Z, (((((((((((X6.setCell ⟨W0.heap.size, 0, none⟩ (.int .i64 D)).setCell ⟨W0.heap.size, 1, none⟩ (.int .i64 E)).setCell ⟨W0.heap.size, 2, none⟩ (.int .i64 S)).setCell ⟨W0.heap.size, 3, none⟩ (.int .i64 C)).setCell ⟨W0.heap.size, 4, none⟩ (.int .i64 V)).setCell ⟨W0.heap.size, 5, none⟩ (.int .i64 KD)).setCell ⟨W0.heap.size, 6, none⟩ (.string KY)).setCell ⟨W0.heap.size, 7, none⟩ (.string TX)).setCell ⟨W0.heap.size, 8, none⟩ (.int .i64 NN)).setCell ⟨W0.heap.size, 9, none⟩ (.int .i64 T)).setCell ⟨W0.heap.size, 10, none⟩ (.slice A28 L.length n28)) = Z := ⟨_, rfl⟩
            have M7 : OpB X7 W0.heap.size D E S C V KD KY TX NN T (.slice A28 L.length n28) := by subst h7; exact (((((((((((zb6.set0 _).set1 _).set2 _).set3 _).set4 _).set5 _).set6 _).set7 _).set8 _).set9 _).set10 _)
            have gs7 : X6.grownBy X7 (some (W0.heap.size)) := by subst h7; exact (set_at (set_at (set_at (set_at (set_at (set_at (set_at (set_at (set_at (set_at (set_at (only_refl _ _) 0 _) 1 _) 2 _) 3 _) 4 _) 5 _) 6 _) 7 _) 8 _) 9 _) 10 _)
            rw [h7]
            clear h7 z0 z1 z2 z3 z4 z5 z6 z7 z8 z9 z10 y0 y1 y2 y3 y4 y5 y6 y7 y8 y9 y10
            have gt7 : w3.grownBy X7 none := only_step gt6 gs7 (fun k hk => by cases hk; exact .inr le5)
            have r17 := r16.kept gs7 (own_apart r16 zb6)
            have r37 := r36.kept gs7 (own_apart r36 zb6)
            have za7 := M6.other gs7 (by intro e; injection e with e; omega)
            refine hK.out _ _ (holds1 (late_no (by kernel_rfl))) ?_
            clear hK K
            try simp only [Act.put, List.setIfInBounds_toArray, List.set_cons_zero, List.set_cons_succ]
            refine wpAnyT_done (by kernel_rfl) ?_ _
            try go_wp2_with fail
            go_meet
            exact ⟨V28.heap.size, W0.heap.size, A27, n27, A28, n28, rfl, rfl, by omega, by have := G3.size; omega, za7, M7, ⟨_, r17⟩, ⟨_, r37⟩, only_step G3 gt7 (fun _ h => by cases h)⟩
        · go_simp
          obtain ⟨V30, h30⟩ : ∃ Z, V27.alloc (.cells #[.int .i64 0, .int .i64 0, .int .i64 0, .int .i64 0, .int .i64 0, .int .i64 0, .string { data := #[] }, .string { data := #[] }, .int .i64 0, .int .i64 0, .slice none 0 0] 26) = Z := ⟨_, rfl⟩
          have g30 : V27.grownBy V30 none := by subst h30; exact World.grownBy_alloc _ _ none
          have Z30 : OpB V30 V27.heap.size 0 0 0 0 0 0 { data := #[] } { data := #[] } 0 0 (.slice none 0 0) := by subst h30; exact heap_alloc_new _ _
          rw [h30]
          clear h30
          have GG30 : w3.grownBy V30 none := only_step GG27 g30 (fun _ h => .inl h)
          have Z26_27_30 := Z26_27.other g30 (by simp)
          have O27_30 := O27.kept g30 (by cases (Value.slice A27 L.length n27).ownBlock <;> simp)
          have le4 : w3.heap.size ≤ V27.heap.size := GG27.size
          have ne : W0.heap.size ≠ V27.heap.size := by have := Z26_27.lt; omega
          refine hK.out _ _ (holds1 (fun _ => (SV _ GG30).out)) ?_
          clear hK K
          try simp only [Act.put, List.setIfInBounds_toArray, List.set_cons_zero, List.set_cons_succ]
          refine wpAnyT_ready (rs := [3]) (by kernel_rfl) (by simp) (AllT.cons (o := { dst := some 15, op := Op.call { callee := Callee.value (Operand.func 12), args := #[Operand.tmp 14], argTypes := #[26] }, type := 26, pos := "more.go:104", after := #[{ on := 2, ground := Ground.data }, { on := 1, ground := Ground.chain }], guard := none }) rfl (fun K hK => ?_) AllT.nil)
          · go_simp
            go_at_call 12
            refine (HGD _ GG30).out.mono ?_
            rintro _ V31 ⟨A31, n31, rfl, O31, g31⟩
            have GG31 : w3.grownBy V31 none := only_step GG30 g31 (fun _ h => .inl h)
            have Z26_27_30_31 := Z26_27_30.other g31 (by simp)
            have O27_30_31 := O27_30.kept g31 (by cases (Value.slice A27 L.length n27).ownBlock <;> simp)
            have Z30_31 := Z30.other g31 (by simp)
            refine hK.out _ _ (holds1 (late_no (by kernel_rfl))) ?_
            clear hK K
            try simp only [Act.put, List.setIfInBounds_toArray, List.set_cons_zero, List.set_cons_succ]
            refine wpAnyT_ready (rs := [6]) (by kernel_rfl) (by simp) (AllT.cons (o := { dst := none, op := Op.store 26 (Operand.tmp 5) (Operand.tmp 13), type := 0, pos := "more.go:104", after := #[{ on := 4, ground := Ground.data }, { on := 1, ground := Ground.data }, { on := 3, ground := Ground.chain }, { on := 0, ground := Ground.phase }, { on := 1, ground := Ground.phase }, { on := 2, ground := Ground.textOnly Departure.lateStores }, { on := 3, ground := Ground.textOnly Departure.lateStoresUnsure }, { on := 4, ground := Ground.phase }, { on := 5, ground := Ground.phase }], guard := none }) rfl (fun K hK => ?_) AllT.nil)
            obtain ⟨z0, z1, z2, z3, z4, z5, z6, z7, z8, z9, z10⟩ := Z30_31.cells
            have y0 := Z30_31.fr 0
            have y1 := Z30_31.fr 1
            have y2 := Z30_31.fr 2
            have y3 := Z30_31.fr 3
            have y4 := Z30_31.fr 4
            have y5 := Z30_31.fr 5
            have y6 := Z30_31.fr 6
            have y7 := Z30_31.fr 7
            have y8 := Z30_31.fr 8
            have y9 := Z30_31.fr 9
            have y10 := Z30_31.fr 10
            go_simp
            obtain ⟨X6, h6⟩ : ∃ Z, (((((((((((V31.setCell ⟨V27.heap.size, 0, none⟩ (.int .i64 D)).setCell ⟨V27.heap.size, 1, none⟩ (.int .i64 E)).setCell ⟨V27.heap.size, 2, none⟩ (.int .i64 S)).setCell ⟨V27.heap.size, 3, none⟩ (.int .i64 C)).setCell ⟨V27.heap.size, 4, none⟩ (.int .i64 V)).setCell ⟨V27.heap.size, 5, none⟩ (.int .i64 KD)).setCell ⟨V27.heap.size, 6, none⟩ (.string KY)).setCell ⟨V27.heap.size, 7, none⟩ (.string TX)).setCell ⟨V27.heap.size, 8, none⟩ (.int .i64 NN)).setCell ⟨V27.heap.size, 9, none⟩ (.int .i64 T)).setCell ⟨V27.heap.size, 10, none⟩ (.slice A27 L.length n27)) = Z := ⟨_, rfl⟩
            have M6 : OpB X6 V27.heap.size D E S C V KD KY TX NN T (.slice A27 L.length n27) := by subst h6; exact (((((((((((Z30_31.set0 _).set1 _).set2 _).set3 _).set4 _).set5 _).set6 _).set7 _).set8 _).set9 _).set10 _)
            have gs6 : V31.grownBy X6 (some (V27.heap.size)) := by subst h6; exact (set_at (set_at (set_at (set_at (set_at (set_at (set_at (set_at (set_at (set_at (set_at (only_refl _ _) 0 _) 1 _) 2 _) 3 _) 4 _) 5 _) 6 _) 7 _) 8 _) 9 _) 10 _)
            rw [h6]
            clear h6 z0 z1 z2 z3 z4 z5 z6 z7 z8 z9 z10 y0 y1 y2 y3 y4 y5 y6 y7 y8 y9 y10
            have gt6 : w3.grownBy X6 none := only_step GG31 gs6 (fun k hk => by cases hk; exact .inr le4)
            have r16 := O27_30_31.kept gs6 (own_apart O27_30_31 Z30_31)
            have r36 := O31.kept gs6 (own_apart O31 Z30_31)
            have zb6 := Z26_27_30_31.other gs6 (by intro e; injection e with e; omega)
            refine hK.out _ _ (holds1 (late_no (by kernel_rfl))) ?_
            clear hK K
            try simp only [Act.put, List.setIfInBounds_toArray, List.set_cons_zero, List.set_cons_succ]
            refine wpAnyT_ready (rs := [7]) (by kernel_rfl) (by simp) (AllT.cons (o := { dst := none, op := Op.store 26 (Operand.tmp 6) (Operand.tmp 15), type := 0, pos := "more.go:104", after := #[{ on := 5, ground := Ground.data }, { on := 3, ground := Ground.data }, { on := 6, ground := Ground.chain }, { on := 0, ground := Ground.phase }, { on := 1, ground := Ground.phase }, { on := 2, ground := Ground.phase }, { on := 3, ground := Ground.phase }, { on := 4, ground := Ground.phase }, { on := 5, ground := Ground.phase }, { on := 6, ground := Ground.phase }], guard := none }) rfl (fun K hK => ?_) AllT.nil)
            obtain ⟨z0, z1, z2, z3, z4, z5, z6, z7, z8, z9, z10⟩ := zb6.cells
            have y0 := zb6.fr 0
            have y1 := zb6.fr 1
            have y2 := zb6.fr 2
            have y3 := zb6.fr 3
            have y4 := zb6.fr 4
            have y5 := zb6.fr 5
            have y6 := zb6.fr 6
            have y7 := zb6.fr 7
            have y8 := zb6.fr 8
            have y9 := zb6.fr 9
            have y10 := zb6.fr 10
            go_simp
            obtain ⟨X7, h7⟩ : ∃ Z, (((((((((((X6.setCell ⟨W0.heap.size, 0, none⟩ (.int .i64 D)).setCell ⟨W0.heap.size, 1, none⟩ (.int .i64 E)).setCell ⟨W0.heap.size, 2, none⟩ (.int .i64 S)).setCell ⟨W0.heap.size, 3, none⟩ (.int .i64 C)).setCell ⟨W0.heap.size, 4, none⟩ (.int .i64 V)).setCell ⟨W0.heap.size, 5, none⟩ (.int .i64 KD)).setCell ⟨W0.heap.size, 6, none⟩ (.string KY)).setCell ⟨W0.heap.size, 7, none⟩ (.string TX)).setCell ⟨W0.heap.size, 8, none⟩ (.int .i64 NN)).setCell ⟨W0.heap.size, 9, none⟩ (.int .i64 T)).setCell ⟨W0.heap.size, 10, none⟩ (.slice A31 L.length n31)) = Z := ⟨_, rfl⟩
            have M7 : OpB X7 W0.heap.size D E S C V KD KY TX NN T (.slice A31 L.length n31) := by subst h7; exact (((((((((((zb6.set0 _).set1 _).set2 _).set3 _).set4 _).set5 _).set6 _).set7 _).set8 _).set9 _).set10 _)
            have gs7 : X6.grownBy X7 (some (W0.heap.size)) := by subst h7; exact (set_at (set_at (set_at (set_at (set_at (set_at (set_at (set_at (set_at (set_at (set_at (only_refl _ _) 0 _) 1 _) 2 _) 3 _) 4 _) 5 _) 6 _) 7 _) 8 _) 9 _) 10 _)
            rw [h7]
            clear h7 z0 z1 z2 z3 z4 z5 z6 z7 z8 z9 z10 y0 y1 y2 y3 y4 y5 y6 y7 y8 y9 y10
            have gt7 : w3.grownBy X7 none := only_step gt6 gs7 (fun k hk => by cases hk; exact .inr le5)
            have r17 := r16.kept gs7 (own_apart r16 zb6)
            have r37 := r36.kept gs7 (own_apart r36 zb6)
            have za7 := M6.other gs7 (by intro e; injection e with e; omega)
            refine hK.out _ _ (holds1 (late_no (by kernel_rfl))) ?_
            clear hK K
            try simp only [Act.put, List.setIfInBounds_toArray, List.set_cons_zero, List.set_cons_succ]
            refine wpAnyT_done (by kernel_rfl) ?_ _
            try go_wp2_with fail
            go_meet
            exact ⟨V27.heap.size, W0.heap.size, A27, n27, A31, n31, rfl, rfl, by omega, by have := G3.size; omega, za7, M7, ⟨_, r17⟩, ⟨_, r37⟩, only_step G3 gt7 (fun _ h => by cases h)⟩
      · go_simp
        obtain ⟨V32, h32⟩ : ∃ Z, V26.alloc (.cells #[.int .i64 0, .int .i64 0, .int .i64 0, .int .i64 0, .int .i64 0, .int .i64 0, .string { data := #[] }, .string { data := #[] }, .int .i64 0, .int .i64 0, .slice none 0 0] 26) = Z := ⟨_, rfl⟩
        have g32 : V26.grownBy V32 none := by subst h32; exact World.grownBy_alloc _ _ none
        have Z32 : OpB V32 V26.heap.size 0 0 0 0 0 0 { data := #[] } { data := #[] } 0 0 (.slice none 0 0) := by subst h32; exact heap_alloc_new _ _
        rw [h32]
        clear h32
        have GG32 : w3.grownBy V32 none := only_step GG26 g32 (fun _ h => .inl h)
        have Z26_32 := Z26.other g32 (by simp)
        have le4 : w3.heap.size ≤ V26.heap.size := GG26.size
        have ne : W0.heap.size ≠ V26.heap.size := by have := Z26.lt; omega
        refine hK.out _ _ (holds1 (fun _ => (SV _ GG32).out)) ?_
        clear hK K
        try simp only [Act.put, List.setIfInBounds_toArray, List.set_cons_zero, List.set_cons_succ]
        refine wpAnyT_ready (rs := [1]) (by kernel_rfl) (by simp) (AllT.cons (o := { dst := some 13, op := Op.call { callee := Callee.value (Operand.func 12), args := #[Operand.tmp 12], argTypes := #[26] }, type := 26, pos := "more.go:104", after := #[{ on := 0, ground := Ground.data }], guard := none }) rfl (fun K hK => ?_) AllT.nil)
        · go_simp
          go_at_call 12
          refine (HGD _ GG32).out.mono ?_
          rintro _ V33 ⟨A33, n33, rfl, O33, g33⟩
          have GG33 : w3.grownBy V33 none := only_step GG32 g33 (fun _ h => .inl h)
          have Z26_32_33 := Z26_32.other g33 (by simp)
          have Z32_33 := Z32.other g33 (by simp)
          refine hK.out _ _ (holds1 (fun _ => (SV _ GG33).out)) ?_
          clear hK K
          try simp only [Act.put, List.setIfInBounds_toArray, List.set_cons_zero, List.set_cons_succ]
          refine wpAnyT_ready (rs := [3]) (by kernel_rfl) (by simp) (AllT.cons (o := { dst := some 15, op := Op.call { callee := Callee.value (Operand.func 12), args := #[Operand.tmp 14], argTypes := #[26] }, type := 26, pos := "more.go:104", after := #[{ on := 2, ground := Ground.data }, { on := 1, ground := Ground.chain }], guard := none }) rfl (fun K hK => ?_) AllT.nil)
          · go_simp
            go_at_call 12
            refine (HGD _ GG33).out.mono ?_
            rintro _ V34 ⟨A34, n34, rfl, O34, g34⟩
            have GG34 : w3.grownBy V34 none := only_step GG33 g34 (fun _ h => .inl h)
            have Z26_32_33_34 := Z26_32_33.other g34 (by simp)
            have Z32_33_34 := Z32_33.other g34 (by simp)
            have O33_34 := O33.kept g34 (by cases (Value.slice A33 L.length n33).ownBlock <;> simp)
            refine hK.out _ _ (holds1 (late_no (by kernel_rfl))) ?_
            clear hK K
            try simp only [Act.put, List.setIfInBounds_toArray, List.set_cons_zero, List.set_cons_succ]
            refine wpAnyT_ready (rs := [6]) (by kernel_rfl) (by simp) (AllT.cons (o := { dst := none, op := Op.store 26 (Operand.tmp 5) (Operand.tmp 13), type := 0, pos := "more.go:104", after := #[{ on := 4, ground := Ground.data }, { on := 1, ground := Ground.data }, { on := 3, ground := Ground.chain }, { on := 0, ground := Ground.phase }, { on := 1, ground := Ground.phase }, { on := 2, ground := Ground.textOnly Departure.lateStores }, { on := 3, ground := Ground.textOnly Departure.lateStoresUnsure }, { on := 4, ground := Ground.phase }, { on := 5, ground := Ground.phase }], guard := none }) rfl (fun K hK => ?_) AllT.nil)
            obtain ⟨z0, z1, z2, z3, z4, z5, z6, z7, z8, z9, z10⟩ := Z32_33_34.cells
            have y0 := Z32_33_34.fr 0
            have y1 := Z32_33_34.fr 1
            have y2 := Z32_33_34.fr 2
            have y3 := Z32_33_34.fr 3
            have y4 := Z32_33_34.fr 4
            have y5 := Z32_33_34.fr 5
            have y6 := Z32_33_34.fr 6
            have y7 := Z32_33_34.fr 7
            have y8 := Z32_33_34.fr 8
            have y9 := Z32_33_34.fr 9
            have y10 := Z32_33_34.fr 10
            go_simp
            obtain ⟨X6, h6⟩ : ∃ Z, (((((((((((V34.setCell ⟨V26.heap.size, 0, none⟩ (.int .i64 D)).setCell ⟨V26.heap.size, 1, none⟩ (.int .i64 E)).setCell ⟨V26.heap.size, 2, none⟩ (.int .i64 S)).setCell ⟨V26.heap.size, 3, none⟩ (.int .i64 C)).setCell ⟨V26.heap.size, 4, none⟩ (.int .i64 V)).setCell ⟨V26.heap.size, 5, none⟩ (.int .i64 KD)).setCell ⟨V26.heap.size, 6, none⟩ (.string KY)).setCell ⟨V26.heap.size, 7, none⟩ (.string TX)).setCell ⟨V26.heap.size, 8, none⟩ (.int .i64 NN)).setCell ⟨V26.heap.size, 9, none⟩ (.int .i64 T)).setCell ⟨V26.heap.size, 10, none⟩ (.slice A33 L.length n33)) = Z := ⟨_, rfl⟩
            have M6 : OpB X6 V26.heap.size D E S C V KD KY TX NN T (.slice A33 L.length n33) := by subst h6; exact (((((((((((Z32_33_34.set0 _).set1 _).set2 _).set3 _).set4 _).set5 _).set6 _).set7 _).set8 _).set9 _).set10 _)
            have gs6 : V34.grownBy X6 (some (V26.heap.size)) := by subst h6; exact (set_at (set_at (set_at (set_at (set_at (set_at (set_at (set_at (set_at (set_at (set_at (only_refl _ _) 0 _) 1 _) 2 _) 3 _) 4 _) 5 _) 6 _) 7 _) 8 _) 9 _) 10 _)
            rw [h6]
            clear h6 z0 z1 z2 z3 z4 z5 z6 z7 z8 z9 z10 y0 y1 y2 y3 y4 y5 y6 y7 y8 y9 y10
            have gt6 : w3.grownBy X6 none := only_step GG34 gs6 (fun k hk => by cases hk; exact .inr le4)
            have r16 := O33_34.kept gs6 (own_apart O33_34 Z32_33_34)
            have r36 := O34.kept gs6 (own_apart O34 Z32_33_34)
            have zb6 := Z26_32_33_34.other gs6 (by intro e; injection e with e; omega)
            refine hK.out _ _ (holds1 (late_no (by kernel_rfl))) ?_
            clear hK K
            try simp only [Act.put, List.setIfInBounds_toArray, List.set_cons_zero, List.set_cons_succ]
            refine wpAnyT_ready (rs := [7]) (by kernel_rfl) (by simp) (AllT.cons (o := { dst := none, op := Op.store 26 (Operand.tmp 6) (Operand.tmp 15), type := 0, pos := "more.go:104", after := #[{ on := 5, ground := Ground.data }, { on := 3, ground := Ground.data }, { on := 6, ground := Ground.chain }, { on := 0, ground := Ground.phase }, { on := 1, ground := Ground.phase }, { on := 2, ground := Ground.phase }, { on := 3, ground := Ground.phase }, { on := 4, ground := Ground.phase }, { on := 5, ground := Ground.phase }, { on := 6, ground := Ground.phase }], guard := none }) rfl (fun K hK => ?_) AllT.nil)
            obtain ⟨z0, z1, z2, z3, z4, z5, z6, z7, z8, z9, z10⟩ := zb6.cells
            have y0 := zb6.fr 0
            have y1 := zb6.fr 1
            have y2 := zb6.fr 2
            have y3 := zb6.fr 3
            have y4 := zb6.fr 4
            have y5 := zb6.fr 5
            have y6 := zb6.fr 6
            have y7 := zb6.fr 7
            have y8 := zb6.fr 8
            have y9 := zb6.fr 9
            have y10 := zb6.fr 10
            go_simp
            obtain ⟨X7, h7⟩ : ∃ Z, (((((((((((X6.setCell ⟨W0.heap.size, 0, none⟩ (.int .i64 D)).setCell ⟨W0.heap.size, 1, none⟩ (.int .i64 E)).setCell ⟨W0.heap.size, 2, none⟩ (.int .i64 S)).setCell ⟨W0.heap.size, 3, none⟩ (.int .i64 C)).setCell ⟨W0.heap.size, 4, none⟩ (.int .i64 V)).setCell ⟨W0.heap.size, 5, none⟩ (.int .i64 KD)).setCell ⟨W0.heap.size, 6, none⟩ (.string KY)).setCell ⟨W0.heap.size, 7, none⟩ (.string TX)).setCell ⟨W0.heap.size, 8, none⟩ (.int .i64 NN)).setCell ⟨W0.heap.size, 9, none⟩ (.int .i64 T)).setCell ⟨W0.heap.size, 10, none⟩ (.slice A34 L.length n34)) = Z := ⟨_, rfl⟩
            have M7 : OpB X7 W0.heap.size D E S C V KD KY TX NN T (.slice A34 L.length n34) := by subst h7; exact (((((((((((zb6.set0 _).set1 _).set2 _).set3 _).set4 _).set5 _).set6 _).set7 _).set8 _).set9 _).set10 _)
            have gs7 : X6.grownBy X7 (some (W0.heap.size)) := by subst h7; exact (set_at (set_at (set_at (set_at (set_at (set_at (set_at (set_at (set_at (set_at (set_at (only_refl _ _) 0 _) 1 _) 2 _) 3 _) 4 _) 5 _) 6 _) 7 _) 8 _) 9 _) 10 _)
            rw [h7]
            clear h7 z0 z1 z2 z3 z4 z5 z6 z7 z8 z9 z10 y0 y1 y2 y3 y4 y5 y6 y7 y8 y9 y10
            have gt7 : w3.grownBy X7 none := only_step gt6 gs7 (fun k hk => by cases hk; exact .inr le5)
            have r17 := r16.kept gs7 (own_apart r16 zb6)
            have r37 := r36.kept gs7 (own_apart r36 zb6)
            have za7 := M6.other gs7 (by intro e; injection e with e; omega)
            refine hK.out _ _ (holds1 (late_no (by kernel_rfl))) ?_
            clear hK K
            try simp only [Act.put, List.setIfInBounds_toArray, List.set_cons_zero, List.set_cons_succ]
            refine wpAnyT_done (by kernel_rfl) ?_ _
            try go_wp2_with fail
            go_meet
            exact ⟨V26.heap.size, W0.heap.size, A33, n33, A34, n34, rfl, rfl, by omega, by have := G3.size; omega, za7, M7, ⟨_, r17⟩, ⟨_, r37⟩, only_step G3 gt7 (fun _ h => by cases h)⟩
  case rest =>
    obtain ⟨qa, qb, AL, cL, BL, dL, rfl, rfl, ne, hqb, Ba, Bb, ⟨bA, Va⟩, ⟨bB, Vb⟩, Gc⟩ := hcut
    clear B3 G3 HGD d00 c0 c1 c2 c3 c4 c5 c6 c7 c8 c9 c10
    go_upto_block 0 with (go_at_call 15; refine (HW _).out.mono ?_; rintro _ wd ⟨rfl, rfl⟩)
    go_cut [4] (fun s4 wx => s4 = .bool false ∧ Arm9 w D E S C V KD NN T KY TX L qa qb AL cL wx)
    case first =>
      have HWC := Lib.hid (And.intro Ba (And.intro Va (And.intro Vb (And.intro Gc (And.intro ne hqb)))))
      have zb := Bb.lt
      clear Ba Va Vb Gc ne hqb HW
      have SM := OKG.out
      have HBb := Lib.hid Bb
      rcases (show m = 0 ∨ m = 1 ∨ m = 2 ∨ m = 3 ∨ m = 4 ∨ m = 5 ∨ m = 6 ∨ m = 7 ∨ m = 8 ∨ m = 9 by have := HMM.out; omega) with rfl | rfl | rfl | rfl | rfl | rfl | rfl | rfl | rfl | rfl
      · as_aux_lemma =>
        have hwr : IntKind.i64.wrap (D + 1) = D + 1 := by rw [IntKind.wrap_i64]; have := SM.d; omega
        have SMH := Lib.hid SM
        clear SM
        obtain ⟨c0, c1, c2, c3, c4, c5, c6, c7, c8, c9, c10⟩ := Bb.cells
        have fq := Bb.fr 0
        clear Bb
        go_wp2_with fail
        obtain ⟨U, hU⟩ : ∃ Z, wc.setCell ⟨qb, 0, none⟩ (.int .i64 (D + 1)) = Z := ⟨_, rfl⟩
        have BU : OpB U qb (D + 1) E S C V KD KY TX NN T (.slice BL L.length dL) := by subst hU; exact HBb.out.set0 _
        have gU : wc.grownBy U (some qb) := by subst hU; exact set_at (only_refl _ _) 0 _
        try rw [hU]
        clear hU c0 c1 c2 c3 c4 c5 c6 c7 c8 c9 c10 fq
        go_meet
        refine ⟨rfl, (D + 1), E, S, C, V, KD, NN, T, KY, TX, L, BL, dL, HWC.out.1.other gU (by intro e; injection e with e; exact HWC.out.2.2.2.2.1 e.symm), BU, ?_, ?_, ok_of (by have := SMH.out.d; unfold I64; omega) (by have := SMH.out.e; unfold I64; omega) (by have := SMH.out.s; unfold I64; omega) (by have := SMH.out.coll; unfold I64; omega) (by have := SMH.out.ver; unfold I64; omega) (by have := SMH.out.kind; unfold I64; omega) SMH.out.n (by have := SMH.out.time; unfold I64; omega) (by have := SMH.out.key; omega) (by have := SMH.out.text; omega) SMH.out.dots (by have := SMH.out.few; omega), ?_, only_step HWC.out.2.2.2.1 gU (fun k hk => by cases hk; exact .inr HWC.out.2.2.2.2.2)⟩
        · exact Has.own_w (HWC.out.2.1.kept gU (own_apart HWC.out.2.1 HBb.out))
        · exact Has.own_w (HWC.out.2.2.1.kept gU (own_apart HWC.out.2.2.1 HBb.out))
        · rintro ⟨h1, h2, h3, h4, h5, h6, h7, h8, h9, h10, h11⟩
          omega
      · as_aux_lemma =>
        have hwr : IntKind.i64.wrap (E + 1) = E + 1 := by rw [IntKind.wrap_i64]; have := SM.e; omega
        have SMH := Lib.hid SM
        clear SM
        obtain ⟨c0, c1, c2, c3, c4, c5, c6, c7, c8, c9, c10⟩ := Bb.cells
        have fq := Bb.fr 1
        clear Bb
        go_wp2_with fail
        obtain ⟨U, hU⟩ : ∃ Z, wc.setCell ⟨qb, 1, none⟩ (.int .i64 (E + 1)) = Z := ⟨_, rfl⟩
        have BU : OpB U qb D (E + 1) S C V KD KY TX NN T (.slice BL L.length dL) := by subst hU; exact HBb.out.set1 _
        have gU : wc.grownBy U (some qb) := by subst hU; exact set_at (only_refl _ _) 1 _
        try rw [hU]
        clear hU c0 c1 c2 c3 c4 c5 c6 c7 c8 c9 c10 fq
        go_meet
        refine ⟨rfl, D, (E + 1), S, C, V, KD, NN, T, KY, TX, L, BL, dL, HWC.out.1.other gU (by intro e; injection e with e; exact HWC.out.2.2.2.2.1 e.symm), BU, ?_, ?_, ok_of (by have := SMH.out.d; unfold I64; omega) (by have := SMH.out.e; unfold I64; omega) (by have := SMH.out.s; unfold I64; omega) (by have := SMH.out.coll; unfold I64; omega) (by have := SMH.out.ver; unfold I64; omega) (by have := SMH.out.kind; unfold I64; omega) SMH.out.n (by have := SMH.out.time; unfold I64; omega) (by have := SMH.out.key; omega) (by have := SMH.out.text; omega) SMH.out.dots (by have := SMH.out.few; omega), ?_, only_step HWC.out.2.2.2.1 gU (fun k hk => by cases hk; exact .inr HWC.out.2.2.2.2.2)⟩
        · exact Has.own_w (HWC.out.2.1.kept gU (own_apart HWC.out.2.1 HBb.out))
        · exact Has.own_w (HWC.out.2.2.1.kept gU (own_apart HWC.out.2.2.1 HBb.out))
        · rintro ⟨h1, h2, h3, h4, h5, h6, h7, h8, h9, h10, h11⟩
          omega
      · as_aux_lemma =>
        have hwr : IntKind.i64.wrap (S + 1) = S + 1 := by rw [IntKind.wrap_i64]; have := SM.s; omega
        have SMH := Lib.hid SM
        clear SM
        obtain ⟨c0, c1, c2, c3, c4, c5, c6, c7, c8, c9, c10⟩ := Bb.cells
        have fq := Bb.fr 2
        clear Bb
        go_wp2_with fail
        obtain ⟨U, hU⟩ : ∃ Z, wc.setCell ⟨qb, 2, none⟩ (.int .i64 (S + 1)) = Z := ⟨_, rfl⟩
        have BU : OpB U qb D E (S + 1) C V KD KY TX NN T (.slice BL L.length dL) := by subst hU; exact HBb.out.set2 _
        have gU : wc.grownBy U (some qb) := by subst hU; exact set_at (only_refl _ _) 2 _
        try rw [hU]
        clear hU c0 c1 c2 c3 c4 c5 c6 c7 c8 c9 c10 fq
        go_meet
        refine ⟨rfl, D, E, (S + 1), C, V, KD, NN, T, KY, TX, L, BL, dL, HWC.out.1.other gU (by intro e; injection e with e; exact HWC.out.2.2.2.2.1 e.symm), BU, ?_, ?_, ok_of (by have := SMH.out.d; unfold I64; omega) (by have := SMH.out.e; unfold I64; omega) (by have := SMH.out.s; unfold I64; omega) (by have := SMH.out.coll; unfold I64; omega) (by have := SMH.out.ver; unfold I64; omega) (by have := SMH.out.kind; unfold I64; omega) SMH.out.n (by have := SMH.out.time; unfold I64; omega) (by have := SMH.out.key; omega) (by have := SMH.out.text; omega) SMH.out.dots (by have := SMH.out.few; omega), ?_, only_step HWC.out.2.2.2.1 gU (fun k hk => by cases hk; exact .inr HWC.out.2.2.2.2.2)⟩
        · exact Has.own_w (HWC.out.2.1.kept gU (own_apart HWC.out.2.1 HBb.out))
        · exact Has.own_w (HWC.out.2.2.1.kept gU (own_apart HWC.out.2.2.1 HBb.out))
        · rintro ⟨h1, h2, h3, h4, h5, h6, h7, h8, h9, h10, h11⟩
          omega
      · as_aux_lemma =>
        have hwr : IntKind.i64.wrap (C + 1) = C + 1 := by rw [IntKind.wrap_i64]; have := SM.coll; omega
        have SMH := Lib.hid SM
        clear SM
        obtain ⟨c0, c1, c2, c3, c4, c5, c6, c7, c8, c9, c10⟩ := Bb.cells
        have fq := Bb.fr 3
        clear Bb
        go_wp2_with fail
        obtain ⟨U, hU⟩ : ∃ Z, wc.setCell ⟨qb, 3, none⟩ (.int .i64 (C + 1)) = Z := ⟨_, rfl⟩
        have BU : OpB U qb D E S (C + 1) V KD KY TX NN T (.slice BL L.length dL) := by subst hU; exact HBb.out.set3 _
        have gU : wc.grownBy U (some qb) := by subst hU; exact set_at (only_refl _ _) 3 _
        try rw [hU]
        clear hU c0 c1 c2 c3 c4 c5 c6 c7 c8 c9 c10 fq
        go_meet
        refine ⟨rfl, D, E, S, (C + 1), V, KD, NN, T, KY, TX, L, BL, dL, HWC.out.1.other gU (by intro e; injection e with e; exact HWC.out.2.2.2.2.1 e.symm), BU, ?_, ?_, ok_of (by have := SMH.out.d; unfold I64; omega) (by have := SMH.out.e; unfold I64; omega) (by have := SMH.out.s; unfold I64; omega) (by have := SMH.out.coll; unfold I64; omega) (by have := SMH.out.ver; unfold I64; omega) (by have := SMH.out.kind; unfold I64; omega) SMH.out.n (by have := SMH.out.time; unfold I64; omega) (by have := SMH.out.key; omega) (by have := SMH.out.text; omega) SMH.out.dots (by have := SMH.out.few; omega), ?_, only_step HWC.out.2.2.2.1 gU (fun k hk => by cases hk; exact .inr HWC.out.2.2.2.2.2)⟩
        · exact Has.own_w (HWC.out.2.1.kept gU (own_apart HWC.out.2.1 HBb.out))
        · exact Has.own_w (HWC.out.2.2.1.kept gU (own_apart HWC.out.2.2.1 HBb.out))
        · rintro ⟨h1, h2, h3, h4, h5, h6, h7, h8, h9, h10, h11⟩
          omega
      · as_aux_lemma =>
        have hwr : IntKind.i64.wrap (V + 1) = V + 1 := by rw [IntKind.wrap_i64]; have := SM.ver; omega
        have SMH := Lib.hid SM
        clear SM
        obtain ⟨c0, c1, c2, c3, c4, c5, c6, c7, c8, c9, c10⟩ := Bb.cells
        have fq := Bb.fr 4
        clear Bb
        go_wp2_with fail
        obtain ⟨U, hU⟩ : ∃ Z, wc.setCell ⟨qb, 4, none⟩ (.int .i64 (V + 1)) = Z := ⟨_, rfl⟩
        have BU : OpB U qb D E S C (V + 1) KD KY TX NN T (.slice BL L.length dL) := by subst hU; exact HBb.out.set4 _
        have gU : wc.grownBy U (some qb) := by subst hU; exact set_at (only_refl _ _) 4 _
        try rw [hU]
        clear hU c0 c1 c2 c3 c4 c5 c6 c7 c8 c9 c10 fq
        go_meet
        refine ⟨rfl, D, E, S, C, (V + 1), KD, NN, T, KY, TX, L, BL, dL, HWC.out.1.other gU (by intro e; injection e with e; exact HWC.out.2.2.2.2.1 e.symm), BU, ?_, ?_, ok_of (by have := SMH.out.d; unfold I64; omega) (by have := SMH.out.e; unfold I64; omega) (by have := SMH.out.s; unfold I64; omega) (by have := SMH.out.coll; unfold I64; omega) (by have := SMH.out.ver; unfold I64; omega) (by have := SMH.out.kind; unfold I64; omega) SMH.out.n (by have := SMH.out.time; unfold I64; omega) (by have := SMH.out.key; omega) (by have := SMH.out.text; omega) SMH.out.dots (by have := SMH.out.few; omega), ?_, only_step HWC.out.2.2.2.1 gU (fun k hk => by cases hk; exact .inr HWC.out.2.2.2.2.2)⟩
        · exact Has.own_w (HWC.out.2.1.kept gU (own_apart HWC.out.2.1 HBb.out))
        · exact Has.own_w (HWC.out.2.2.1.kept gU (own_apart HWC.out.2.2.1 HBb.out))
        · rintro ⟨h1, h2, h3, h4, h5, h6, h7, h8, h9, h10, h11⟩
          omega
      · as_aux_lemma =>
        have hwr : IntKind.i64.wrap (KD + 1) = KD + 1 := by rw [IntKind.wrap_i64]; have := SM.kind; omega
        have SMH := Lib.hid SM
        clear SM
        obtain ⟨c0, c1, c2, c3, c4, c5, c6, c7, c8, c9, c10⟩ := Bb.cells
        have fq := Bb.fr 5
        clear Bb
        go_wp2_with fail
        obtain ⟨U, hU⟩ : ∃ Z, wc.setCell ⟨qb, 5, none⟩ (.int .i64 (KD + 1)) = Z := ⟨_, rfl⟩
        have BU : OpB U qb D E S C V (KD + 1) KY TX NN T (.slice BL L.length dL) := by subst hU; exact HBb.out.set5 _
        have gU : wc.grownBy U (some qb) := by subst hU; exact set_at (only_refl _ _) 5 _
        try rw [hU]
        clear hU c0 c1 c2 c3 c4 c5 c6 c7 c8 c9 c10 fq
        go_meet
        refine ⟨rfl, D, E, S, C, V, (KD + 1), NN, T, KY, TX, L, BL, dL, HWC.out.1.other gU (by intro e; injection e with e; exact HWC.out.2.2.2.2.1 e.symm), BU, ?_, ?_, ok_of (by have := SMH.out.d; unfold I64; omega) (by have := SMH.out.e; unfold I64; omega) (by have := SMH.out.s; unfold I64; omega) (by have := SMH.out.coll; unfold I64; omega) (by have := SMH.out.ver; unfold I64; omega) (by have := SMH.out.kind; unfold I64; omega) SMH.out.n (by have := SMH.out.time; unfold I64; omega) (by have := SMH.out.key; omega) (by have := SMH.out.text; omega) SMH.out.dots (by have := SMH.out.few; omega), ?_, only_step HWC.out.2.2.2.1 gU (fun k hk => by cases hk; exact .inr HWC.out.2.2.2.2.2)⟩
        · exact Has.own_w (HWC.out.2.1.kept gU (own_apart HWC.out.2.1 HBb.out))
        · exact Has.own_w (HWC.out.2.2.1.kept gU (own_apart HWC.out.2.2.1 HBb.out))
        · rintro ⟨h1, h2, h3, h4, h5, h6, h7, h8, h9, h10, h11⟩
          omega
      · as_aux_lemma =>
        have hsx : (KY ++ ({ data := #[120] } : ByteArray)).size = KY.size + 1 := by rw [ByteArray.size_append]; rfl
        have hz := SM.key
        have SMH := Lib.hid SM
        clear SM
        obtain ⟨c0, c1, c2, c3, c4, c5, c6, c7, c8, c9, c10⟩ := Bb.cells
        have fq := Bb.fr 6
        clear Bb
        go_wp2_with fail
        obtain ⟨U, hU⟩ : ∃ Z, wc.setCell ⟨qb, 6, none⟩ (.string (KY ++ ({ data := #[120] } : ByteArray))) = Z := ⟨_, rfl⟩
        have BU : OpB U qb D E S C V KD (KY ++ ({ data := #[120] } : ByteArray)) TX NN T (.slice BL L.length dL) := by subst hU; exact HBb.out.set6 _
        have gU : wc.grownBy U (some qb) := by subst hU; exact set_at (only_refl _ _) 6 _
        try rw [hU]
        clear hU c0 c1 c2 c3 c4 c5 c6 c7 c8 c9 c10 fq
        go_meet
        refine ⟨rfl, D, E, S, C, V, KD, NN, T, (KY ++ ({ data := #[120] } : ByteArray)), TX, L, BL, dL, HWC.out.1.other gU (by intro e; injection e with e; exact HWC.out.2.2.2.2.1 e.symm), BU, ?_, ?_, ok_of (by have := SMH.out.d; unfold I64; omega) (by have := SMH.out.e; unfold I64; omega) (by have := SMH.out.s; unfold I64; omega) (by have := SMH.out.coll; unfold I64; omega) (by have := SMH.out.ver; unfold I64; omega) (by have := SMH.out.kind; unfold I64; omega) SMH.out.n (by have := SMH.out.time; unfold I64; omega) (by rw [hsx]; have := SMH.out.key; omega) (by have := SMH.out.text; omega) SMH.out.dots (by have := SMH.out.few; omega), ?_, only_step HWC.out.2.2.2.1 gU (fun k hk => by cases hk; exact .inr HWC.out.2.2.2.2.2)⟩
        · exact Has.own_w (HWC.out.2.1.kept gU (own_apart HWC.out.2.1 HBb.out))
        · exact Has.own_w (HWC.out.2.2.1.kept gU (own_apart HWC.out.2.2.1 HBb.out))
        · rintro ⟨h1, h2, h3, h4, h5, h6, h7, h8, h9, h10, h11⟩
          have := congrArg ByteArray.size h7
          rw [hsx] at this
          omega
      · as_aux_lemma =>
        have hsx : (TX ++ ({ data := #[120] } : ByteArray)).size = TX.size + 1 := by rw [ByteArray.size_append]; rfl
        have hz := SM.text
        have SMH := Lib.hid SM
        clear SM
        obtain ⟨c0, c1, c2, c3, c4, c5, c6, c7, c8, c9, c10⟩ := Bb.cells
        have fq := Bb.fr 7
        clear Bb
        go_wp2_with fail
        obtain ⟨U, hU⟩ : ∃ Z, wc.setCell ⟨qb, 7, none⟩ (.string (TX ++ ({ data := #[120] } : ByteArray))) = Z := ⟨_, rfl⟩
        have BU : OpB U qb D E S C V KD KY (TX ++ ({ data := #[120] } : ByteArray)) NN T (.slice BL L.length dL) := by subst hU; exact HBb.out.set7 _
        have gU : wc.grownBy U (some qb) := by subst hU; exact set_at (only_refl _ _) 7 _
        try rw [hU]
        clear hU c0 c1 c2 c3 c4 c5 c6 c7 c8 c9 c10 fq
        go_meet
        refine ⟨rfl, D, E, S, C, V, KD, NN, T, KY, (TX ++ ({ data := #[120] } : ByteArray)), L, BL, dL, HWC.out.1.other gU (by intro e; injection e with e; exact HWC.out.2.2.2.2.1 e.symm), BU, ?_, ?_, ok_of (by have := SMH.out.d; unfold I64; omega) (by have := SMH.out.e; unfold I64; omega) (by have := SMH.out.s; unfold I64; omega) (by have := SMH.out.coll; unfold I64; omega) (by have := SMH.out.ver; unfold I64; omega) (by have := SMH.out.kind; unfold I64; omega) SMH.out.n (by have := SMH.out.time; unfold I64; omega) (by have := SMH.out.key; omega) (by rw [hsx]; have := SMH.out.text; omega) SMH.out.dots (by have := SMH.out.few; omega), ?_, only_step HWC.out.2.2.2.1 gU (fun k hk => by cases hk; exact .inr HWC.out.2.2.2.2.2)⟩
        · exact Has.own_w (HWC.out.2.1.kept gU (own_apart HWC.out.2.1 HBb.out))
        · exact Has.own_w (HWC.out.2.2.1.kept gU (own_apart HWC.out.2.2.1 HBb.out))
        · rintro ⟨h1, h2, h3, h4, h5, h6, h7, h8, h9, h10, h11⟩
          have := congrArg ByteArray.size h8
          rw [hsx] at this
          omega
      · as_aux_lemma =>
        obtain ⟨nx, hnx⟩ : ∃ x, IntKind.i64.wrap (NN + 1) = x := ⟨_, rfl⟩
        have HNX : Hid (I64 nx ∧ nx ≠ NN) := by
          rw [← hnx, IntKind.wrap_i64]
          have := SM.n
          unfold I64 Hid at *
          omega
        have SMH := Lib.hid SM
        clear SM
        obtain ⟨c0, c1, c2, c3, c4, c5, c6, c7, c8, c9, c10⟩ := Bb.cells
        have fq := Bb.fr 8
        clear Bb
        go_wp2_with fail
        obtain ⟨U, hU⟩ : ∃ Z, wc.setCell ⟨qb, 8, none⟩ (.int .i64 nx) = Z := ⟨_, rfl⟩
        have BU : OpB U qb D E S C V KD KY TX nx T (.slice BL L.length dL) := by subst hU; exact HBb.out.set8 _
        have gU : wc.grownBy U (some qb) := by subst hU; exact set_at (only_refl _ _) 8 _
        try rw [hU]
        clear hU c0 c1 c2 c3 c4 c5 c6 c7 c8 c9 c10 fq
        go_meet
        refine ⟨rfl, D, E, S, C, V, KD, nx, T, KY, TX, L, BL, dL, HWC.out.1.other gU (by intro e; injection e with e; exact HWC.out.2.2.2.2.1 e.symm), BU, ?_, ?_, ok_of (by have := SMH.out.d; unfold I64; omega) (by have := SMH.out.e; unfold I64; omega) (by have := SMH.out.s; unfold I64; omega) (by have := SMH.out.coll; unfold I64; omega) (by have := SMH.out.ver; unfold I64; omega) (by have := SMH.out.kind; unfold I64; omega) HNX.out.1 (by have := SMH.out.time; unfold I64; omega) (by have := SMH.out.key; omega) (by have := SMH.out.text; omega) SMH.out.dots (by have := SMH.out.few; omega), ?_, only_step HWC.out.2.2.2.1 gU (fun k hk => by cases hk; exact .inr HWC.out.2.2.2.2.2)⟩
        · exact Has.own_w (HWC.out.2.1.kept gU (own_apart HWC.out.2.1 HBb.out))
        · exact Has.own_w (HWC.out.2.2.1.kept gU (own_apart HWC.out.2.2.1 HBb.out))
        · rintro ⟨h1, h2, h3, h4, h5, h6, h7, h8, h9, h10, h11⟩
          exact HNX.out.2 h9.symm
      · as_aux_lemma =>
        have SMH := Lib.hid SM
        have hfew := SM.few
        clear SM
        have lit : Hid ((wc.alloc (.cells #[] 23)).ownsRow wc.heap.size 23 3 (.slice (some ⟨wc.heap.size, 0, none⟩) 0 0) 0 []) := ⟨rfl, .inr ⟨wc.heap.size, 0, #[], rfl, Nat.le_refl _, heap_alloc_new _ _, Nat.le_refl _, Nat.zero_le _, rfl, rfl⟩⟩
        have sr1 : Hid (Src Try.prog 3 24 (.slice BL L.length dL) L.length (dc L) (wc.alloc (.cells #[] 23))) := by
          have h := (((Vw.own HWC.out.2.2.1).1.keep (World.grownBy_alloc wc (.cells #[] 23) none) (Nat.le_refl _)).src L.length dL (Nat.le_refl _))
          rwa [List.take_length] at h
        have bz1 : wc.heap.size ≤ (wc.alloc (.cells #[] 23)).heap.size := (World.grownBy_alloc _ _ none).size
        obtain ⟨c0, c1, c2, c3, c4, c5, c6, c7, c8, c9, c10⟩ := Bb.cells
        clear c0 c1 c2 c3 c4 c5 c6 c7 c8 c9 Bb
        go_wp2_with (first | (at_builtin; (refine app_e rfl _ _ 24 rfl wc.heap.size (.slice A1 L.length c1') L.length (dc L) rfl o1'.out (.slice (some ⟨w1.heap.size, 0, none⟩) 1 1) 1 (dc [(9, 0, 0)]) rfl (src_dot w1 (9, 0, 0)) (by omega) bz2 ?_; intro v2 w2 g2; have o2 := Lib.hid g2.own; obtain ⟨A2, c2', rfl⟩ := own_slice_w g2.own; have gw2 := Lib.hid (only_step (only_alloc gw1.out _) g2.only (fun q hq => .inr (o1.out.lt q hq).1)); clear g2; have B2 := HBb.out.other gw2.out (by simp); have f10 := B2.fr 10; have k10 := B2.cells.2.2.2.2.2.2.2.2.2.2)) | (at_builtin; go_must (refine app_e rfl _ _ 24 rfl wc.heap.size (.slice (some ⟨wc.heap.size, 0, none⟩) 0 0) 0 [] rfl lit.out (.slice BL L.length dL) L.length (dc L) rfl sr1.out (by omega) bz1 ?_; intro v1 w1 g1; rw [Nat.zero_add, List.nil_append] at g1; have o1 := Lib.hid g1.own; obtain ⟨A1, c1', rfl⟩ := own_slice_w g1.own; have gw1 := Lib.hid (only_step (only_alloc (only_refl wc none) _) g1.only (fun q hq => by cases hq; exact .inr (Nat.le_refl _))); clear g1; have o1' := Lib.hid (o1.out.kept (World.grownBy_alloc w1 (.cells #[.int .i64 9, .int .i64 0, .int .i64 0] 23) none) (by cases (Value.slice A1 L.length c1').ownBlock <;> simp)); have bz2 : wc.heap.size ≤ (w1.alloc (.cells #[.int .i64 9, .int .i64 0, .int .i64 0] 23)).heap.size := Nat.le_trans gw1.out.size (World.grownBy_alloc _ _ none).size)))
        have hM : (L ++ [((9 : Int), (0 : Int), (0 : Int))]).length = L.length + 1 := by simp
        have o3 := o2.out
        rw [← dc_append, ← hM] at o3
        rw [← hM]
        obtain ⟨U, hU⟩ : ∃ Z, w2.setCell ⟨qb, 10, none⟩ (.slice A2 (L ++ [((9 : Int), (0 : Int), (0 : Int))]).length c2') = Z := ⟨_, rfl⟩
        have BU : OpB U qb D E S C V KD KY TX NN T (.slice A2 (L ++ [((9 : Int), (0 : Int), (0 : Int))]).length c2') := by subst hU; exact B2.set10 _
        have gU : w2.grownBy U (some qb) := by subst hU; exact set_at (only_refl _ _) 10 _
        rw [hU]
        clear hU
        have gwU : wc.grownBy U (some qb) := only_step (only_none gw2.out _) gU (fun k hk => .inl hk)
        go_meet
        refine ⟨rfl, D, E, S, C, V, KD, NN, T, KY, TX, _, A2, c2', HWC.out.1.other gwU (by intro e; injection e with e; exact HWC.out.2.2.2.2.1 e.symm), BU, ?_, ?_, ok_of (by have := SMH.out.d; unfold I64; omega) (by have := SMH.out.e; unfold I64; omega) (by have := SMH.out.s; unfold I64; omega) (by have := SMH.out.coll; unfold I64; omega) (by have := SMH.out.ver; unfold I64; omega) (by have := SMH.out.kind; unfold I64; omega) SMH.out.n (by have := SMH.out.time; unfold I64; omega) (by have := SMH.out.key; omega) (by have := SMH.out.text; omega) (fun p hp => ?_) (by rw [hM]; omega), ?_, only_step HWC.out.2.2.2.1 gwU (fun k hk => by cases hk; exact .inr HWC.out.2.2.2.2.2)⟩
        · exact Has.own_w (HWC.out.2.1.kept gwU (own_apart HWC.out.2.1 HBb.out))
        · exact Has.own_w (o3.kept gU (own_apart o3 B2))
        · rcases List.mem_append.1 hp with hp | hp
          · exact SMH.out.dots p hp
          · rw [List.mem_singleton] at hp; rw [hp]; unfold W64 I64; dsimp only; omega
        · rintro ⟨_, _, _, _, _, _, _, _, _, _, h11⟩
          have := congrArg List.length h11
          rw [hM] at this
          omega
    case rest =>
      obtain ⟨rfl, d', e', s', co', ve', ki', n', ti', ky', tx', M, BM, dM, Ba, Bb, Ha, Hb, OKb, NE, G⟩ := hcut
      have OKa := OKG.out.ok
      have HaH : ∀ W, wc.grownBy W none → Hid (Has W W.heap.size AL (dc L)) := fun W h => Ha.up h
      have HbH : ∀ W, wc.grownBy W none → Hid (Has W W.heap.size BM (dc M)) := fun W h => Hb.up h
      have CAA : ∀ W, wc.grownBy W none → Hid (Calls Try.prog 18 #[.agg #[.int .i64 D, .int .i64 E, .int .i64 S, .int .i64 C, .int .i64 V, .int .i64 KD, .string KY, .string TX, .int .i64 NN, .int .i64 T, .slice AL L.length cL], .agg #[.int .i64 D, .int .i64 E, .int .i64 S, .int .i64 C, .int .i64 V, .int .i64 KD, .string KY, .string TX, .int .i64 NN, .int .i64 T, .slice AL L.length cL]] W fun e' w' => e' = .returned (.bool true) ∧ W.grownBy w' none) := fun W h => same_any D E S C V KD NN T KY TX AL cL L D E S C V KD NN T KY TX AL cL L true (by simp) W (HaH W h).out (HaH W h).out (by have := OKa.few; omega)
      have CAB : ∀ W, wc.grownBy W none → Hid (Calls Try.prog 18 #[.agg #[.int .i64 D, .int .i64 E, .int .i64 S, .int .i64 C, .int .i64 V, .int .i64 KD, .string KY, .string TX, .int .i64 NN, .int .i64 T, .slice AL L.length cL], .agg #[.int .i64 d', .int .i64 e', .int .i64 s', .int .i64 co', .int .i64 ve', .int .i64 ki', .string ky', .string tx', .int .i64 n', .int .i64 ti', .slice BM M.length dM]] W fun e' w' => e' = .returned (.bool false) ∧ W.grownBy w' none) := fun W h => same_any D E S C V KD NN T KY TX AL cL L d' e' s' co' ve' ki' n' ti' ky' tx' BM dM M false (iff_of_false (by decide) NE) W (HaH W h).out (HbH W h).out (by have := OKa.few; omega)
      have CBA : ∀ W, wc.grownBy W none → Hid (Calls Try.prog 18 #[.agg #[.int .i64 d', .int .i64 e', .int .i64 s', .int .i64 co', .int .i64 ve', .int .i64 ki', .string ky', .string tx', .int .i64 n', .int .i64 ti', .slice BM M.length dM], .agg #[.int .i64 D, .int .i64 E, .int .i64 S, .int .i64 C, .int .i64 V, .int .i64 KD, .string KY, .string TX, .int .i64 NN, .int .i64 T, .slice AL L.length cL]] W fun e' w' => e' = .returned (.bool false) ∧ W.grownBy w' none) := fun W h => same_any d' e' s' co' ve' ki' n' ti' ky' tx' BM dM M D E S C V KD NN T KY TX AL cL L false (iff_of_false (by decide) (fun ⟨h1, h2, h3, h4, h5, h6, h7, h8, h9, h10, h11⟩ => NE ⟨h1.symm, h2.symm, h3.symm, h4.symm, h5.symm, h6.symm, h7.symm, h8.symm, h9.symm, h10.symm, h11.symm⟩)) W (HbH W h).out (HaH W h).out (by have := OKb.few; omega)
      have CYA : ∀ W, wc.grownBy W none → Hid (Calls Try.prog 16 #[.slice none 0 0, .agg #[.int .i64 D, .int .i64 E, .int .i64 S, .int .i64 C, .int .i64 V, .int .i64 KD, .string KY, .string TX, .int .i64 NN, .int .i64 T, .slice AL L.length cL]] W (Out W W.heap.size (.slice none 0 0) (bs (opB D E S C V KD NN T KY TX L)))) := fun W h => bytes_any none 0 [] D E S C V KD NN T KY TX AL cL L W Has.nil OKa.dot OKa.nums OKa.n OKa.key OKa.text (HaH W h).out OKa.dots OKa.few (by simp)
      have CYB : ∀ W, wc.grownBy W none → Hid (Calls Try.prog 16 #[.slice none 0 0, .agg #[.int .i64 d', .int .i64 e', .int .i64 s', .int .i64 co', .int .i64 ve', .int .i64 ki', .string ky', .string tx', .int .i64 n', .int .i64 ti', .slice BM M.length dM]] W (Out W W.heap.size (.slice none 0 0) (bs (opB d' e' s' co' ve' ki' n' ti' ky' tx' M)))) := fun W h => bytes_any none 0 [] d' e' s' co' ve' ki' n' ti' ky' tx' BM dM M W Has.nil OKb.dot OKb.nums OKb.n OKb.key OKb.text (HbH W h).out OKb.dots OKb.few (by simp)
      obtain ⟨XA, hXA⟩ : ∃ x, opB D E S C V KD NN T KY TX L = x := ⟨_, rfl⟩
      obtain ⟨XB, hXB⟩ : ∃ x, opB d' e' s' co' ve' ki' n' ti' ky' tx' M = x := ⟨_, rfl⟩
      obtain ⟨sA, hsA⟩ : ∃ x, strOfNums XA = x := ⟨_, rfl⟩
      obtain ⟨sB, hsB⟩ : ∃ x, strOfNums XB = x := ⟨_, rfl⟩
      have hnes : ¬ sA = sB := by
        intro h
        rw [← hsA, ← hsB] at h
        have h2 := sb_of_nums XA (hXA ▸ opB_byte _ _ _ _ _ _ _ _ _ _ _) XB (hXB ▸ opB_byte _ _ _ _ _ _ _ _ _ _ _) h
        rw [← hXA, ← hXB] at h2
        exact NE (opB_inj OKa OKb h2)
      have hne := str_ne hnes
      rw [hXA] at CYA
      rw [hXB] at CYB
      have HSA := Lib.hid hsA
      have HSB := Lib.hid hsB
      clear hXA hXB hsA hsB hnes NE OKa OKb Ha Hb HaH HbH OKG
      have SA : ∀ W, wc.grownBy W none → Hid (W.cell? ⟨qa, 0, none⟩ = some (.int .i64 D) ∧ W.cell? ⟨qa, 1, none⟩ = some (.int .i64 E) ∧ W.cell? ⟨qa, 2, none⟩ = some (.int .i64 S) ∧ W.cell? ⟨qa, 3, none⟩ = some (.int .i64 C) ∧ W.cell? ⟨qa, 4, none⟩ = some (.int .i64 V) ∧ W.cell? ⟨qa, 5, none⟩ = some (.int .i64 KD) ∧ W.cell? ⟨qa, 6, none⟩ = some (.string KY) ∧ W.cell? ⟨qa, 7, none⟩ = some (.string TX) ∧ W.cell? ⟨qa, 8, none⟩ = some (.int .i64 NN) ∧ W.cell? ⟨qa, 9, none⟩ = some (.int .i64 T) ∧ W.cell? ⟨qa, 10, none⟩ = some (.slice AL L.length cL)) := fun W h => (Ba.other h (by simp)).cells
      have SB : ∀ W, wc.grownBy W none → Hid (W.cell? ⟨qb, 0, none⟩ = some (.int .i64 d') ∧ W.cell? ⟨qb, 1, none⟩ = some (.int .i64 e') ∧ W.cell? ⟨qb, 2, none⟩ = some (.int .i64 s') ∧ W.cell? ⟨qb, 3, none⟩ = some (.int .i64 co') ∧ W.cell? ⟨qb, 4, none⟩ = some (.int .i64 ve') ∧ W.cell? ⟨qb, 5, none⟩ = some (.int .i64 ki') ∧ W.cell? ⟨qb, 6, none⟩ = some (.string ky') ∧ W.cell? ⟨qb, 7, none⟩ = some (.string tx') ∧ W.cell? ⟨qb, 8, none⟩ = some (.int .i64 n') ∧ W.cell? ⟨qb, 9, none⟩ = some (.int .i64 ti') ∧ W.cell? ⟨qb, 10, none⟩ = some (.slice BM M.length dM)) := fun W h => (Bb.other h (by simp)).cells
      clear Ba Bb
      go_upto_region 27 with fail
      have d0 : wc.grownBy wc.drew none := only_drew (only_refl _ _)
      have SA0 := SA _ d0
      have SB0 := SB _ d0
      refine wp_region_late [(12, fun W => W.cell? ⟨qa, 0, none⟩ = some (.int .i64 D) ∧ W.cell? ⟨qa, 1, none⟩ = some (.int .i64 E) ∧ W.cell? ⟨qa, 2, none⟩ = some (.int .i64 S) ∧ W.cell? ⟨qa, 3, none⟩ = some (.int .i64 C) ∧ W.cell? ⟨qa, 4, none⟩ = some (.int .i64 V) ∧ W.cell? ⟨qa, 5, none⟩ = some (.int .i64 KD) ∧ W.cell? ⟨qa, 6, none⟩ = some (.string KY) ∧ W.cell? ⟨qa, 7, none⟩ = some (.string TX) ∧ W.cell? ⟨qa, 8, none⟩ = some (.int .i64 NN) ∧ W.cell? ⟨qa, 9, none⟩ = some (.int .i64 T) ∧ W.cell? ⟨qa, 10, none⟩ = some (.slice AL L.length cL)), (12, fun W => W.cell? ⟨qb, 0, none⟩ = some (.int .i64 d') ∧ W.cell? ⟨qb, 1, none⟩ = some (.int .i64 e') ∧ W.cell? ⟨qb, 2, none⟩ = some (.int .i64 s') ∧ W.cell? ⟨qb, 3, none⟩ = some (.int .i64 co') ∧ W.cell? ⟨qb, 4, none⟩ = some (.int .i64 ve') ∧ W.cell? ⟨qb, 5, none⟩ = some (.int .i64 ki') ∧ W.cell? ⟨qb, 6, none⟩ = some (.string ky') ∧ W.cell? ⟨qb, 7, none⟩ = some (.string tx') ∧ W.cell? ⟨qb, 8, none⟩ = some (.int .i64 n') ∧ W.cell? ⟨qb, 9, none⟩ = some (.int .i64 ti') ∧ W.cell? ⟨qb, 10, none⟩ = some (.slice BM M.length dM)), (22, fun W => W.cell? ⟨qa, 0, none⟩ = some (.int .i64 D) ∧ W.cell? ⟨qa, 1, none⟩ = some (.int .i64 E) ∧ W.cell? ⟨qa, 2, none⟩ = some (.int .i64 S) ∧ W.cell? ⟨qa, 3, none⟩ = some (.int .i64 C) ∧ W.cell? ⟨qa, 4, none⟩ = some (.int .i64 V) ∧ W.cell? ⟨qa, 5, none⟩ = some (.int .i64 KD) ∧ W.cell? ⟨qa, 6, none⟩ = some (.string KY) ∧ W.cell? ⟨qa, 7, none⟩ = some (.string TX) ∧ W.cell? ⟨qa, 8, none⟩ = some (.int .i64 NN) ∧ W.cell? ⟨qa, 9, none⟩ = some (.int .i64 T) ∧ W.cell? ⟨qa, 10, none⟩ = some (.slice AL L.length cL)), (22, fun W => W.cell? ⟨qb, 0, none⟩ = some (.int .i64 d') ∧ W.cell? ⟨qb, 1, none⟩ = some (.int .i64 e') ∧ W.cell? ⟨qb, 2, none⟩ = some (.int .i64 s') ∧ W.cell? ⟨qb, 3, none⟩ = some (.int .i64 co') ∧ W.cell? ⟨qb, 4, none⟩ = some (.int .i64 ve') ∧ W.cell? ⟨qb, 5, none⟩ = some (.int .i64 ki') ∧ W.cell? ⟨qb, 6, none⟩ = some (.string ky') ∧ W.cell? ⟨qb, 7, none⟩ = some (.string tx') ∧ W.cell? ⟨qb, 8, none⟩ = some (.int .i64 n') ∧ W.cell? ⟨qb, 9, none⟩ = some (.int .i64 ti') ∧ W.cell? ⟨qb, 10, none⟩ = some (.slice BM M.length dM)), (22, fun _ => True)] (by kernel_rfl) ?_
      refine wpAnyT_take 8 12 (i := 0) (oi := { dst := some 88, op := Op.load 26 (Operand.tmp 5), type := 26, pos := "more.go:127", after := #[], guard := none }) (v := ?_) (.head _) rfl (by kernel_rfl) (by kernel_rfl) (by kernel_rfl) (by kernel_rfl) (by kernel_rfl) (by kernel_rfl) (by rfl) (fun _ _ _ h => h) (by rfl) ?_ (holds5 (fun _ => SA0.out) (fun _ => SB0.out) (fun _ => SA0.out) (fun _ => SB0.out) (fun _ => trivial)) ?_
      rotate_left
      · (intro W hSw; (try dsimp only at hSw); go_simp; try with_reducible rfl)
      try simp only [Act.put, List.setIfInBounds_toArray, List.set_cons_zero, List.set_cons_succ]
      refine wpAnyT_take 8 12 (i := 1) (oi := { dst := some 89, op := Op.load 26 (Operand.tmp 5), type := 26, pos := "more.go:127", after := #[], guard := none }) (v := ?_) (.head _) rfl (by kernel_rfl) (by kernel_rfl) (by kernel_rfl) (by kernel_rfl) (by kernel_rfl) (by kernel_rfl) (by rfl) (fun _ _ _ h => h) (by rfl) ?_ (holds5 (fun _ => SA0.out) (fun _ => SB0.out) (fun _ => SA0.out) (fun _ => SB0.out) (fun _ => trivial)) ?_
      rotate_left
      · (intro W hSw; (try dsimp only at hSw); go_simp; try with_reducible rfl)
      try simp only [Act.put, List.setIfInBounds_toArray, List.set_cons_zero, List.set_cons_succ]
      refine wpAnyT_ready (rs := [2]) (by kernel_rfl) (by simp) (AllT.cons (o := { dst := some 90, op := Op.call { callee := Callee.value (Operand.func 18), args := #[Operand.tmp 88, Operand.tmp 89], argTypes := #[26, 26] }, type := 4, pos := "more.go:127", after := #[{ on := 0, ground := Ground.data }, { on := 1, ground := Ground.data }], guard := none }) rfl (fun K hK => ?_) AllT.nil)
      go_simp
      go_at_call 18
      refine (CAA _ d0).out.mono ?_
      rintro _ v1 ⟨rfl, e1⟩
      have d1 : wc.grownBy v1 none := only_step d0 e1 (fun _ h => .inl h)
      refine hK.out _ _ (holds5 (fun _ => (SA _ d1).out) (fun _ => (SB _ d1).out) (fun _ => (SA _ d1).out) (fun _ => (SB _ d1).out) (fun _ => trivial)) ?_
      clear hK K
      try simp only [Act.put, List.setIfInBounds_toArray, List.set_cons_zero, List.set_cons_succ]
      refine wpAnyT_pure (i := 3) (oi := { dst := some 91, op := Op.move (Operand.tmp 90), type := 4, pos := "more.go:127", after := #[{ on := 2, ground := Ground.data }, { on := 2, ground := Ground.chain }], guard := none }) (v := ?_) rfl (by kernel_rfl) (by kernel_rfl) (by kernel_rfl) (by kernel_rfl) (fun _ _ _ h => h) (Or.inl ⟨by rfl, ?_⟩) (holds5 (fun _ => (SA _ d1).out) (fun _ => (SB _ d1).out) (fun _ => (SA _ d1).out) (fun _ => (SB _ d1).out) (fun _ => trivial)) ?_
      rotate_left
      · (intro W; go_simp; try with_reducible rfl)
      try simp only [Act.put, List.setIfInBounds_toArray, List.set_cons_zero, List.set_cons_succ]
      refine wpAnyT_take 8 12 (i := 4) (oi := { dst := some 92, op := Op.load 26 (Operand.tmp 5), type := 26, pos := "more.go:127", after := #[{ on := 3, ground := Ground.guard }], guard := some (3, true) }) (v := ?_) (.head _) rfl (by kernel_rfl) (by kernel_rfl) (by kernel_rfl) (by kernel_rfl) (by kernel_rfl) (by kernel_rfl) (by rfl) (fun _ _ _ h => h) (by rfl) ?_ (holds5 (fun _ => (SA _ d1).out) (fun _ => (SB _ d1).out) (fun _ => (SA _ d1).out) (fun _ => (SB _ d1).out) (fun _ => trivial)) ?_
      rotate_left
      · (intro W hSw; (try dsimp only at hSw); go_simp; try with_reducible rfl)
      try simp only [Act.put, List.setIfInBounds_toArray, List.set_cons_zero, List.set_cons_succ]
      refine wpAnyT_take 8 12 (i := 5) (oi := { dst := some 93, op := Op.load 26 (Operand.tmp 6), type := 26, pos := "more.go:127", after := #[{ on := 3, ground := Ground.guard }], guard := some (3, true) }) (v := ?_) (.tail _ (.head _)) rfl (by kernel_rfl) (by kernel_rfl) (by kernel_rfl) (by kernel_rfl) (by kernel_rfl) (by kernel_rfl) (by rfl) (fun _ _ _ h => h) (by rfl) ?_ (holds5 (fun _ => (SA _ d1).out) (fun _ => (SB _ d1).out) (fun _ => (SA _ d1).out) (fun _ => (SB _ d1).out) (fun _ => trivial)) ?_
      rotate_left
      · (intro W hSw; (try dsimp only at hSw); go_simp; try with_reducible rfl)
      try simp only [Act.put, List.setIfInBounds_toArray, List.set_cons_zero, List.set_cons_succ]
      refine wpAnyT_ready (rs := [6]) (by kernel_rfl) (by simp) (AllT.cons (o := { dst := some 94, op := Op.call { callee := Callee.value (Operand.func 18), args := #[Operand.tmp 92, Operand.tmp 93], argTypes := #[26, 26] }, type := 4, pos := "more.go:127", after := #[{ on := 4, ground := Ground.data }, { on := 5, ground := Ground.data }, { on := 3, ground := Ground.chain }, { on := 3, ground := Ground.guard }], guard := some (3, true) }) rfl (fun K hK => ?_) AllT.nil)
      go_simp
      go_at_call 18
      refine (CAB _ d1).out.mono ?_
      rintro _ v2 ⟨rfl, e2⟩
      have d2 : wc.grownBy v2 none := only_step d1 e2 (fun _ h => .inl h)
      refine hK.out _ _ (holds5 (fun _ => (SA _ d2).out) (fun _ => (SB _ d2).out) (fun _ => (SA _ d2).out) (fun _ => (SB _ d2).out) (fun _ => trivial)) ?_
      clear hK K
      try simp only [Act.put, List.setIfInBounds_toArray, List.set_cons_zero, List.set_cons_succ]
      refine wpAnyT_pure (i := 7) (oi := { dst := some 95, op := Op.unOp UnOp.not 4 (Operand.tmp 94), type := 4, pos := "more.go:127", after := #[{ on := 6, ground := Ground.data }, { on := 3, ground := Ground.guard }], guard := some (3, true) }) (v := ?_) rfl (by kernel_rfl) (by kernel_rfl) (by kernel_rfl) (by kernel_rfl) (fun _ _ _ h => h) (Or.inl ⟨by rfl, ?_⟩) (holds5 (fun _ => (SA _ d2).out) (fun _ => (SB _ d2).out) (fun _ => (SA _ d2).out) (fun _ => (SB _ d2).out) (fun _ => trivial)) ?_
      rotate_left
      · (intro W; go_simp; try with_reducible rfl)
      try simp only [Act.put, List.setIfInBounds_toArray, List.set_cons_zero, List.set_cons_succ]
      refine wpAnyT_pure (i := 8) (oi := { dst := some 96, op := Op.pick (Operand.tmp 91) (Operand.tmp 95) (Operand.const (Value.bool false)), type := 4, pos := "more.go:127", after := #[{ on := 3, ground := Ground.data }, { on := 7, ground := Ground.data }], guard := none }) (v := ?_) rfl (by kernel_rfl) (by kernel_rfl) (by kernel_rfl) (by kernel_rfl) (fun _ _ _ h => h) (Or.inl ⟨by rfl, ?_⟩) (holds5 (fun _ => (SA _ d2).out) (fun _ => (SB _ d2).out) (fun _ => (SA _ d2).out) (fun _ => (SB _ d2).out) (fun _ => trivial)) ?_
      rotate_left
      · (intro W; go_simp; try with_reducible rfl)
      try simp only [Act.put, List.setIfInBounds_toArray, List.set_cons_zero, List.set_cons_succ]
      refine wpAnyT_pure (i := 9) (oi := { dst := some 97, op := Op.move (Operand.tmp 96), type := 4, pos := "more.go:127", after := #[{ on := 8, ground := Ground.data }, { on := 6, ground := Ground.chain }], guard := none }) (v := ?_) rfl (by kernel_rfl) (by kernel_rfl) (by kernel_rfl) (by kernel_rfl) (fun _ _ _ h => h) (Or.inl ⟨by rfl, ?_⟩) (holds5 (fun _ => (SA _ d2).out) (fun _ => (SB _ d2).out) (fun _ => (SA _ d2).out) (fun _ => (SB _ d2).out) (fun _ => trivial)) ?_
      rotate_left
      · (intro W; go_simp; try with_reducible rfl)
      try simp only [Act.put, List.setIfInBounds_toArray, List.set_cons_zero, List.set_cons_succ]
      refine wpAnyT_take 8 12 (i := 10) (oi := { dst := some 98, op := Op.load 26 (Operand.tmp 6), type := 26, pos := "more.go:127", after := #[{ on := 9, ground := Ground.guard }], guard := some (9, true) }) (v := ?_) (.tail _ (.head _)) rfl (by kernel_rfl) (by kernel_rfl) (by kernel_rfl) (by kernel_rfl) (by kernel_rfl) (by kernel_rfl) (by rfl) (fun _ _ _ h => h) (by rfl) ?_ (holds5 (fun _ => (SA _ d2).out) (fun _ => (SB _ d2).out) (fun _ => (SA _ d2).out) (fun _ => (SB _ d2).out) (fun _ => trivial)) ?_
      rotate_left
      · (intro W hSw; (try dsimp only at hSw); go_simp; try with_reducible rfl)
      try simp only [Act.put, List.setIfInBounds_toArray, List.set_cons_zero, List.set_cons_succ]
      refine wpAnyT_take 8 12 (i := 11) (oi := { dst := some 99, op := Op.load 26 (Operand.tmp 5), type := 26, pos := "more.go:127", after := #[{ on := 9, ground := Ground.guard }], guard := some (9, true) }) (v := ?_) (.head _) rfl (by kernel_rfl) (by kernel_rfl) (by kernel_rfl) (by kernel_rfl) (by kernel_rfl) (by kernel_rfl) (by rfl) (fun _ _ _ h => h) (by rfl) ?_ (holds5 (fun _ => (SA _ d2).out) (fun _ => (SB _ d2).out) (fun _ => (SA _ d2).out) (fun _ => (SB _ d2).out) (fun _ => trivial)) ?_
      rotate_left
      · (intro W hSw; (try dsimp only at hSw); go_simp; try with_reducible rfl)
      try simp only [Act.put, List.setIfInBounds_toArray, List.set_cons_zero, List.set_cons_succ]
      refine wpAnyT_ready (rs := [12]) (by kernel_rfl) (by simp) (AllT.cons (o := { dst := some 100, op := Op.call { callee := Callee.value (Operand.func 18), args := #[Operand.tmp 98, Operand.tmp 99], argTypes := #[26, 26] }, type := 4, pos := "more.go:127", after := #[{ on := 10, ground := Ground.data }, { on := 11, ground := Ground.data }, { on := 9, ground := Ground.chain }, { on := 9, ground := Ground.guard }], guard := some (9, true) }) rfl (fun K hK => ?_) AllT.nil)
      go_simp
      go_at_call 18
      refine (CBA _ d2).out.mono ?_
      rintro _ v3 ⟨rfl, e3⟩
      have d3 : wc.grownBy v3 none := only_step d2 e3 (fun _ h => .inl h)
      refine hK.out _ _ (holds5 (late_no (by kernel_rfl)) (late_no (by kernel_rfl)) (fun _ => (SA _ d3).out) (fun _ => (SB _ d3).out) (fun _ => trivial)) ?_
      clear hK K
      try simp only [Act.put, List.setIfInBounds_toArray, List.set_cons_zero, List.set_cons_succ]
      refine wpAnyT_pure (i := 13) (oi := { dst := some 101, op := Op.unOp UnOp.not 4 (Operand.tmp 100), type := 4, pos := "more.go:127", after := #[{ on := 12, ground := Ground.data }, { on := 9, ground := Ground.guard }], guard := some (9, true) }) (v := ?_) rfl (by kernel_rfl) (by kernel_rfl) (by kernel_rfl) (by kernel_rfl) (fun _ _ _ h => h) (Or.inl ⟨by rfl, ?_⟩) (holds5 (late_no (by kernel_rfl)) (late_no (by kernel_rfl)) (fun _ => (SA _ d3).out) (fun _ => (SB _ d3).out) (fun _ => trivial)) ?_
      rotate_left
      · (intro W; go_simp; try with_reducible rfl)
      try simp only [Act.put, List.setIfInBounds_toArray, List.set_cons_zero, List.set_cons_succ]
      refine wpAnyT_pure (i := 14) (oi := { dst := some 102, op := Op.pick (Operand.tmp 97) (Operand.tmp 101) (Operand.const (Value.bool false)), type := 4, pos := "more.go:127", after := #[{ on := 9, ground := Ground.data }, { on := 13, ground := Ground.data }], guard := none }) (v := ?_) rfl (by kernel_rfl) (by kernel_rfl) (by kernel_rfl) (by kernel_rfl) (fun _ _ _ h => h) (Or.inl ⟨by rfl, ?_⟩) (holds5 (late_no (by kernel_rfl)) (late_no (by kernel_rfl)) (fun _ => (SA _ d3).out) (fun _ => (SB _ d3).out) (fun _ => trivial)) ?_
      rotate_left
      · (intro W; go_simp; try with_reducible rfl)
      try simp only [Act.put, List.setIfInBounds_toArray, List.set_cons_zero, List.set_cons_succ]
      refine wpAnyT_pure (i := 15) (oi := { dst := some 103, op := Op.move (Operand.tmp 102), type := 4, pos := "more.go:127", after := #[{ on := 14, ground := Ground.data }, { on := 12, ground := Ground.chain }], guard := none }) (v := ?_) rfl (by kernel_rfl) (by kernel_rfl) (by kernel_rfl) (by kernel_rfl) (fun _ _ _ h => h) (Or.inl ⟨by rfl, ?_⟩) (holds5 (late_no (by kernel_rfl)) (late_no (by kernel_rfl)) (fun _ => (SA _ d3).out) (fun _ => (SB _ d3).out) (fun _ => trivial)) ?_
      rotate_left
      · (intro W; go_simp; try with_reducible rfl)
      try simp only [Act.put, List.setIfInBounds_toArray, List.set_cons_zero, List.set_cons_succ]
      refine wpAnyT_take 8 22 (i := 16) (oi := { dst := some 104, op := Op.load 26 (Operand.tmp 5), type := 26, pos := "more.go:127", after := #[{ on := 15, ground := Ground.guard }], guard := some (15, true) }) (v := ?_) (.tail _ (.tail _ (.head _))) rfl (by kernel_rfl) (by kernel_rfl) (by kernel_rfl) (by kernel_rfl) (by kernel_rfl) (by kernel_rfl) (by rfl) (fun _ _ _ h => h) (by rfl) ?_ (holds5 (late_no (by kernel_rfl)) (late_no (by kernel_rfl)) (fun _ => (SA _ d3).out) (fun _ => (SB _ d3).out) (fun _ => trivial)) ?_
      rotate_left
      · (intro W hSw; (try dsimp only at hSw); go_simp; try with_reducible rfl)
      try simp only [Act.put, List.setIfInBounds_toArray, List.set_cons_zero, List.set_cons_succ]
      refine wpAnyT_take 8 22 (i := 19) (oi := { dst := some 107, op := Op.load 26 (Operand.tmp 6), type := 26, pos := "more.go:127", after := #[{ on := 15, ground := Ground.guard }], guard := some (15, true) }) (v := ?_) (.tail _ (.tail _ (.tail _ (.head _)))) rfl (by kernel_rfl) (by kernel_rfl) (by kernel_rfl) (by kernel_rfl) (by kernel_rfl) (by kernel_rfl) (by rfl) (fun _ _ _ h => h) (by rfl) ?_ (holds5 (late_no (by kernel_rfl)) (late_no (by kernel_rfl)) (fun _ => (SA _ d3).out) (fun _ => (SB _ d3).out) (fun _ => trivial)) ?_
      rotate_left
      · (intro W hSw; (try dsimp only at hSw); go_simp; try with_reducible rfl)
      try simp only [Act.put, List.setIfInBounds_toArray, List.set_cons_zero, List.set_cons_succ]
      refine wpAnyT_ready (rs := [17]) (by kernel_rfl) (by simp) (AllT.cons (o := { dst := some 105, op := Op.call { callee := Callee.value (Operand.func 16), args := #[Operand.const (Value.slice none 0 0), Operand.tmp 104], argTypes := #[35, 26] }, type := 35, pos := "more.go:127", after := #[{ on := 16, ground := Ground.data }, { on := 15, ground := Ground.chain }, { on := 15, ground := Ground.guard }], guard := some (15, true) }) rfl (fun K hK => ?_) AllT.nil)
      go_simp
      go_at_call 16
      refine (CYA _ d3).out.mono ?_
      rintro _ v4 ⟨y4, rfl, e4⟩
      have d4 : wc.grownBy v4 none := only_step d3 (e4.none rfl) (fun _ h => .inl h)
      have o4 := e4.own
      rw [bs_len] at o4
      obtain ⟨AY, cY, rfl⟩ := own_slice o4
      have K4 : (convert 35 9 (.slice AY XA.length cY)).run Try.prog v4 = .ok (.string sA) v4 := by rw [← HSA.out]; exact conv_own o4
      refine hK.out _ _ (holds5 (late_no (by kernel_rfl)) (late_no (by kernel_rfl)) (fun _ => (SA _ d4).out) (fun _ => (SB _ d4).out) (fun _ => trivial)) ?_
      clear hK K
      try simp only [Act.put, List.setIfInBounds_toArray, List.set_cons_zero, List.set_cons_succ]
      refine wpAnyT_more [(12, fun W => W.cell? ⟨qa, 0, none⟩ = some (.int .i64 D) ∧ W.cell? ⟨qa, 1, none⟩ = some (.int .i64 E) ∧ W.cell? ⟨qa, 2, none⟩ = some (.int .i64 S) ∧ W.cell? ⟨qa, 3, none⟩ = some (.int .i64 C) ∧ W.cell? ⟨qa, 4, none⟩ = some (.int .i64 V) ∧ W.cell? ⟨qa, 5, none⟩ = some (.int .i64 KD) ∧ W.cell? ⟨qa, 6, none⟩ = some (.string KY) ∧ W.cell? ⟨qa, 7, none⟩ = some (.string TX) ∧ W.cell? ⟨qa, 8, none⟩ = some (.int .i64 NN) ∧ W.cell? ⟨qa, 9, none⟩ = some (.int .i64 T) ∧ W.cell? ⟨qa, 10, none⟩ = some (.slice AL L.length cL)), (12, fun W => W.cell? ⟨qb, 0, none⟩ = some (.int .i64 d') ∧ W.cell? ⟨qb, 1, none⟩ = some (.int .i64 e') ∧ W.cell? ⟨qb, 2, none⟩ = some (.int .i64 s') ∧ W.cell? ⟨qb, 3, none⟩ = some (.int .i64 co') ∧ W.cell? ⟨qb, 4, none⟩ = some (.int .i64 ve') ∧ W.cell? ⟨qb, 5, none⟩ = some (.int .i64 ki') ∧ W.cell? ⟨qb, 6, none⟩ = some (.string ky') ∧ W.cell? ⟨qb, 7, none⟩ = some (.string tx') ∧ W.cell? ⟨qb, 8, none⟩ = some (.int .i64 n') ∧ W.cell? ⟨qb, 9, none⟩ = some (.int .i64 ti') ∧ W.cell? ⟨qb, 10, none⟩ = some (.slice BM M.length dM)), (22, fun W => W.cell? ⟨qa, 0, none⟩ = some (.int .i64 D) ∧ W.cell? ⟨qa, 1, none⟩ = some (.int .i64 E) ∧ W.cell? ⟨qa, 2, none⟩ = some (.int .i64 S) ∧ W.cell? ⟨qa, 3, none⟩ = some (.int .i64 C) ∧ W.cell? ⟨qa, 4, none⟩ = some (.int .i64 V) ∧ W.cell? ⟨qa, 5, none⟩ = some (.int .i64 KD) ∧ W.cell? ⟨qa, 6, none⟩ = some (.string KY) ∧ W.cell? ⟨qa, 7, none⟩ = some (.string TX) ∧ W.cell? ⟨qa, 8, none⟩ = some (.int .i64 NN) ∧ W.cell? ⟨qa, 9, none⟩ = some (.int .i64 T) ∧ W.cell? ⟨qa, 10, none⟩ = some (.slice AL L.length cL)), (22, fun W => W.cell? ⟨qb, 0, none⟩ = some (.int .i64 d') ∧ W.cell? ⟨qb, 1, none⟩ = some (.int .i64 e') ∧ W.cell? ⟨qb, 2, none⟩ = some (.int .i64 s') ∧ W.cell? ⟨qb, 3, none⟩ = some (.int .i64 co') ∧ W.cell? ⟨qb, 4, none⟩ = some (.int .i64 ve') ∧ W.cell? ⟨qb, 5, none⟩ = some (.int .i64 ki') ∧ W.cell? ⟨qb, 6, none⟩ = some (.string ky') ∧ W.cell? ⟨qb, 7, none⟩ = some (.string tx') ∧ W.cell? ⟨qb, 8, none⟩ = some (.int .i64 n') ∧ W.cell? ⟨qb, 9, none⟩ = some (.int .i64 ti') ∧ W.cell? ⟨qb, 10, none⟩ = some (.slice BM M.length dM)), (22, fun W => (convert 35 9 (.slice AY XA.length cY)).run Try.prog W = .ok (.string sA) W)] (more5 (fun _ _ => trivial)) _ _ _ _ ?_
      refine wpAnyT_take 8 22 (i := 18) (oi := { dst := some 106, op := Op.convert 35 9 (Operand.tmp 105), type := 9, pos := "more.go:127", after := #[{ on := 17, ground := Ground.data }, { on := 15, ground := Ground.guard }], guard := some (15, true) }) (v := ?_) (.tail _ (.tail _ (.tail _ (.tail _ (.head _))))) rfl (by kernel_rfl) (by kernel_rfl) (by kernel_rfl) (by kernel_rfl) (by kernel_rfl) (by kernel_rfl) (by rfl) (fun _ _ _ h => h) (by rfl) ?_ (holds5 (late_no (by kernel_rfl)) (late_no (by kernel_rfl)) (fun _ => (SA _ d4).out) (fun _ => (SB _ d4).out) (fun _ => K4)) ?_
      rotate_left
      · (intro W hSw; (try dsimp only at hSw); go_simp; try with_reducible rfl)
      try simp only [Act.put, List.setIfInBounds_toArray, List.set_cons_zero, List.set_cons_succ]
      refine wpAnyT_ready (rs := [20]) (by kernel_rfl) (by simp) (AllT.cons (o := { dst := some 108, op := Op.call { callee := Callee.value (Operand.func 16), args := #[Operand.const (Value.slice none 0 0), Operand.tmp 107], argTypes := #[35, 26] }, type := 35, pos := "more.go:127", after := #[{ on := 19, ground := Ground.data }, { on := 17, ground := Ground.chain }, { on := 15, ground := Ground.guard }], guard := some (15, true) }) rfl (fun K hK => ?_) AllT.nil)
      go_simp
      go_at_call 16
      refine (CYB _ d4).out.mono ?_
      rintro _ v5 ⟨y5, rfl, e5⟩
      have d5 : wc.grownBy v5 none := only_step d4 (e5.none rfl) (fun _ h => .inl h)
      have o5 := e5.own
      rw [bs_len] at o5
      obtain ⟨AZ, cZ, rfl⟩ := own_slice o5
      have K5 : (convert 35 9 (.slice AZ XB.length cZ)).run Try.prog v5 = .ok (.string sB) v5 := by rw [← HSB.out]; exact conv_own o5
      have K4' : (convert 35 9 (.slice AY XA.length cY)).run Try.prog v5 = .ok (.string sA) v5 := by rw [← HSA.out]; exact conv_own (o4.kept (e5.none rfl) (by cases (Value.slice AY XA.length cY).ownBlock <;> simp))
      refine hK.out _ _ (holds5 (late_no (by kernel_rfl)) (late_no (by kernel_rfl)) (fun _ => (SA _ d5).out) (fun _ => (SB _ d5).out) (fun _ => K4')) ?_
      clear hK K
      try simp only [Act.put, List.setIfInBounds_toArray, List.set_cons_zero, List.set_cons_succ]
      refine wpAnyT_more [(12, fun W => W.cell? ⟨qa, 0, none⟩ = some (.int .i64 D) ∧ W.cell? ⟨qa, 1, none⟩ = some (.int .i64 E) ∧ W.cell? ⟨qa, 2, none⟩ = some (.int .i64 S) ∧ W.cell? ⟨qa, 3, none⟩ = some (.int .i64 C) ∧ W.cell? ⟨qa, 4, none⟩ = some (.int .i64 V) ∧ W.cell? ⟨qa, 5, none⟩ = some (.int .i64 KD) ∧ W.cell? ⟨qa, 6, none⟩ = some (.string KY) ∧ W.cell? ⟨qa, 7, none⟩ = some (.string TX) ∧ W.cell? ⟨qa, 8, none⟩ = some (.int .i64 NN) ∧ W.cell? ⟨qa, 9, none⟩ = some (.int .i64 T) ∧ W.cell? ⟨qa, 10, none⟩ = some (.slice AL L.length cL)), (12, fun W => W.cell? ⟨qb, 0, none⟩ = some (.int .i64 d') ∧ W.cell? ⟨qb, 1, none⟩ = some (.int .i64 e') ∧ W.cell? ⟨qb, 2, none⟩ = some (.int .i64 s') ∧ W.cell? ⟨qb, 3, none⟩ = some (.int .i64 co') ∧ W.cell? ⟨qb, 4, none⟩ = some (.int .i64 ve') ∧ W.cell? ⟨qb, 5, none⟩ = some (.int .i64 ki') ∧ W.cell? ⟨qb, 6, none⟩ = some (.string ky') ∧ W.cell? ⟨qb, 7, none⟩ = some (.string tx') ∧ W.cell? ⟨qb, 8, none⟩ = some (.int .i64 n') ∧ W.cell? ⟨qb, 9, none⟩ = some (.int .i64 ti') ∧ W.cell? ⟨qb, 10, none⟩ = some (.slice BM M.length dM)), (22, fun W => W.cell? ⟨qa, 0, none⟩ = some (.int .i64 D) ∧ W.cell? ⟨qa, 1, none⟩ = some (.int .i64 E) ∧ W.cell? ⟨qa, 2, none⟩ = some (.int .i64 S) ∧ W.cell? ⟨qa, 3, none⟩ = some (.int .i64 C) ∧ W.cell? ⟨qa, 4, none⟩ = some (.int .i64 V) ∧ W.cell? ⟨qa, 5, none⟩ = some (.int .i64 KD) ∧ W.cell? ⟨qa, 6, none⟩ = some (.string KY) ∧ W.cell? ⟨qa, 7, none⟩ = some (.string TX) ∧ W.cell? ⟨qa, 8, none⟩ = some (.int .i64 NN) ∧ W.cell? ⟨qa, 9, none⟩ = some (.int .i64 T) ∧ W.cell? ⟨qa, 10, none⟩ = some (.slice AL L.length cL)), (22, fun W => W.cell? ⟨qb, 0, none⟩ = some (.int .i64 d') ∧ W.cell? ⟨qb, 1, none⟩ = some (.int .i64 e') ∧ W.cell? ⟨qb, 2, none⟩ = some (.int .i64 s') ∧ W.cell? ⟨qb, 3, none⟩ = some (.int .i64 co') ∧ W.cell? ⟨qb, 4, none⟩ = some (.int .i64 ve') ∧ W.cell? ⟨qb, 5, none⟩ = some (.int .i64 ki') ∧ W.cell? ⟨qb, 6, none⟩ = some (.string ky') ∧ W.cell? ⟨qb, 7, none⟩ = some (.string tx') ∧ W.cell? ⟨qb, 8, none⟩ = some (.int .i64 n') ∧ W.cell? ⟨qb, 9, none⟩ = some (.int .i64 ti') ∧ W.cell? ⟨qb, 10, none⟩ = some (.slice BM M.length dM)), (22, fun W => (convert 35 9 (.slice AY XA.length cY)).run Try.prog W = .ok (.string sA) W ∧ (convert 35 9 (.slice AZ XB.length cZ)).run Try.prog W = .ok (.string sB) W)] (more5 (fun _ h => h.1)) _ _ _ _ ?_
      refine wpAnyT_take 8 22 (i := 21) (oi := { dst := some 109, op := Op.convert 35 9 (Operand.tmp 108), type := 9, pos := "more.go:127", after := #[{ on := 20, ground := Ground.data }, { on := 15, ground := Ground.guard }], guard := some (15, true) }) (v := ?_) (.tail _ (.tail _ (.tail _ (.tail _ (.head _))))) rfl (by kernel_rfl) (by kernel_rfl) (by kernel_rfl) (by kernel_rfl) (by kernel_rfl) (by kernel_rfl) (by rfl) (fun _ _ _ h => h) (by rfl) ?_ (holds5 (late_no (by kernel_rfl)) (late_no (by kernel_rfl)) (fun _ => (SA _ d5).out) (fun _ => (SB _ d5).out) (fun _ => ⟨K4', K5⟩)) ?_
      rotate_left
      · (intro W hSw; (try dsimp only at hSw); go_simp; try with_reducible rfl)
      try simp only [Act.put, List.setIfInBounds_toArray, List.set_cons_zero, List.set_cons_succ]
      refine wpAnyT_ready (rs := [22]) (by kernel_rfl) (by simp) (AllT.cons (o := { dst := some 110, op := Op.binOp BinOp.neq 9 (Operand.tmp 106) (Operand.tmp 109) 9, type := 4, pos := "more.go:127", after := #[{ on := 18, ground := Ground.data }, { on := 21, ground := Ground.data }, { on := 15, ground := Ground.guard }], guard := some (15, true) }) rfl (fun K hK => ?_) AllT.nil)
      go_simp
      refine hK.out _ _ (holds5 (late_no (by kernel_rfl)) (late_no (by kernel_rfl)) (late_no (by kernel_rfl)) (late_no (by kernel_rfl)) (late_no (by kernel_rfl))) ?_
      clear hK K
      try simp only [Act.put, List.setIfInBounds_toArray, List.set_cons_zero, List.set_cons_succ]
      refine wpAnyT_pure (i := 23) (oi := { dst := some 111, op := Op.pick (Operand.tmp 103) (Operand.tmp 110) (Operand.const (Value.bool false)), type := 4, pos := "more.go:127", after := #[{ on := 15, ground := Ground.data }, { on := 22, ground := Ground.data }], guard := none }) (v := ?_) rfl (by kernel_rfl) (by kernel_rfl) (by kernel_rfl) (by kernel_rfl) (fun _ _ _ h => h) (Or.inl ⟨by rfl, ?_⟩) (holds5 (late_no (by kernel_rfl)) (late_no (by kernel_rfl)) (late_no (by kernel_rfl)) (late_no (by kernel_rfl)) (late_no (by kernel_rfl))) ?_
      rotate_left
      · (intro W; go_simp; try with_reducible rfl)
      try simp only [Act.put, List.setIfInBounds_toArray, List.set_cons_zero, List.set_cons_succ]
      refine wpAnyT_pure (i := 24) (oi := { dst := some 4, op := Op.assign (Operand.tmp 111), type := 4, pos := "more.go:127", after := #[{ on := 23, ground := Ground.data }, { on := 20, ground := Ground.chain }, { on := 0, ground := Ground.phase }, { on := 1, ground := Ground.phase }, { on := 2, ground := Ground.phase }, { on := 3, ground := Ground.phase }, { on := 4, ground := Ground.phase }, { on := 5, ground := Ground.phase }, { on := 6, ground := Ground.phase }, { on := 7, ground := Ground.phase }, { on := 8, ground := Ground.phase }, { on := 9, ground := Ground.phase }, { on := 10, ground := Ground.phase }, { on := 11, ground := Ground.phase }, { on := 12, ground := Ground.phase }, { on := 13, ground := Ground.phase }, { on := 14, ground := Ground.phase }, { on := 15, ground := Ground.phase }, { on := 16, ground := Ground.phase }, { on := 17, ground := Ground.phase }, { on := 18, ground := Ground.phase }, { on := 19, ground := Ground.phase }, { on := 20, ground := Ground.phase }, { on := 21, ground := Ground.phase }, { on := 22, ground := Ground.phase }, { on := 23, ground := Ground.phase }], guard := none }) (v := ?_) rfl (by kernel_rfl) (by kernel_rfl) (by kernel_rfl) (by kernel_rfl) (fun _ _ _ h => h) (Or.inl ⟨by rfl, ?_⟩) (holds5 (late_no (by kernel_rfl)) (late_no (by kernel_rfl)) (late_no (by kernel_rfl)) (late_no (by kernel_rfl)) (late_no (by kernel_rfl))) ?_
      rotate_left
      · (intro W; go_simp; try with_reducible rfl)
      try simp only [Act.put, List.setIfInBounds_toArray, List.set_cons_zero, List.set_cons_succ]
      refine wpAnyT_done (by kernel_rfl) ?_ _
      go_wp2_with fail
      go_ret
      exact ⟨rfl, only_step G d5 (fun _ h => .inl h)⟩
end Go.Proofs.Ytcmpeohooiehcaa
