/- (*draft).owe where entries are sent. Conditions: numbers below 2^40. -/
import Derived.Test.YtjhnipnocjoelaaNi
namespace Go.Proofs.Ytjhnipnocjoelaa
open Go.RowKit Go.Deep
set_option maxRecDepth 100000 in
set_option maxHeartbeats 4000000 in
theorem owe_core (w : World) (g k : Nat) (nx nb tm cm : Int) (to2 : Bool) (F C N c : Nat) (A A2 : Option Addr) (POST : Value → World → Prop)
    (cx : w.cell? ⟨g, 13 + k, none⟩ = some (.int .i64 nx)) (c3 : w.cell? ⟨g, 3, none⟩ = some (.int .i64 nb)) (c6 : w.cell? ⟨g, 6, none⟩ = some (.slice A N c)) (c8 : w.cell? ⟨g, 8, none⟩ = some (.int .i64 cm))
    (t0 : (0 : Int) ≤ (k : Int)) (t1 : (k : Int) < 3) (tx : ¬ nx ≤ nb) (hx2 : nx ≤ 1099511627776) (hb0 : 0 ≤ nb) (hb1 : nb ≤ 1099511627776) (hlen : N ≤ 1048576)
    (SL : Hid (∀ (W : World) (h : Int), h = ((F + C : Nat) : Int) → (Instr.sliceAt 23 (.slice A N c) (some (.int .i64 (F : Int))) (some (.int .i64 h)) none).run Try.prog W = .ok (.slice A2 C (c - F)) W))
    (hF : Hid (F = min (nx - 1 - nb).toNat N)) (hC : Hid (C = min (F + 8) N - F))
    (TM : Hid (Calls Try.prog 49 #[.pointer (some ⟨g, 0, none⟩), .int .i64 (nx - 1)] w fun e w' => e = .returned (.tuple #[.int .i64 tm, .bool to2]) ∧ w = w'))
    (LS : Hid (∀ W, w.grownBy W none → Calls Try.prog 48 #[.slice A2 C (c - F)] W fun e w' => (∃ A3 c3, e = .returned (.slice A3 C c3)) ∧ W.grownBy w' none))
    (SD : Hid (∀ W A3 c3, w.grownBy W none → Calls Try.prog 61 #[.pointer (some ⟨g, 0, none⟩), .int .i64 k, .agg #[.int .i64 3, .int .i64 0, .int .i64 0, .int .i64 0, .int .i64 (nx - 1), .int .i64 tm, .int .i64 cm, .bool false, .slice A3 C c3, .string { data := #[] }]] W fun e w' => e = .returned (.tuple #[]) ∧ POST (.slice A3 C c3) w')) :
    Calls Try.prog 45 #[.pointer (some ⟨g, 0, none⟩), .int .i64 k] w fun e w' => e = .returned (.tuple #[]) ∧ ∃ A3 c3, POST (.slice A3 C c3) w' := by
  have w1 : IntKind.i64.wrap (nx - 1) = nx - 1 := by rw [IntKind.wrap_i64]; omega
  obtain ⟨D, hD⟩ : ∃ D : Nat, nx - 1 - nb = D := ⟨(nx - 1 - nb).toNat, by omega⟩
  have w2 : IntKind.i64.wrap (nx - 1 - nb) = (D : Int) := by rw [IntKind.wrap_i64]; omega
  have m1 : ¬ (D : Int) < 0 := by omega
  have hF2 : F = min D N := by have := hF.out; omega
  have hC2 : C = min (F + 8) N - F := hC.out
  have HB := Lib.hid (And.intro hlen (And.intro hb0 (And.intro hb1 hx2)))
  clear hD hF hC
  by_cases hND : N < D
  · have e1 : F = N := by omega
    have e2 : C = 0 := by omega
    subst e1 e2
    have q1 : (F : Int) < (D : Int) := by omega
    have q2 : (F : Int) < (F : Int) + 8 := by omega
    have q3 : F < D := hND
    clear hF2 hC2 hND
    have HG : Hid (∃ o, w.heap[g]? = some o) := by
      cases h : w.heap[g]? with
      | none => simp [World.cell?, h] at c3
      | some o => exact ⟨o, rfl⟩
    go_enter Try.func45, Try.ntmps45
    go_upto_region 4 with (go_at_call 49; refine TM.out.mono ?_; rintro _ wd ⟨rfl, rfl⟩)
    go_quiet (fail)
    go_upto_region 6 with fail
    have DQ : w.grownBy (w.drewN nq) none := only_drewN (only_refl w none) _
    obtain ⟨o, ho⟩ := HG.out
    have hgl := (Array.getElem?_eq_some_iff.1 ho).1
    have HGL := Lib.hid hgl
    have d6 := (World.cell?_of_block (a := ⟨g, 6, none⟩) (DQ.block g hgl (by simp))).trans c6
    have d8 := (World.cell?_of_block (a := ⟨g, 8, none⟩) (DQ.block g hgl (by simp))).trans c8
    obtain ⟨wq, hwq⟩ : ∃ x, w.drewN nq = x := ⟨_, rfl⟩
    rw [hwq] at DQ d6 d8
    rw [hwq]
    clear hwq ho hgl
    have DR := Lib.hid (only_drew DQ)
    clear DQ
    have SL1 := fun W => SL.out W ((F : Int)) (by omega)
    refine wp_region_late [(20, fun V => V.cell? ⟨g, 6, none⟩ = some (.slice A F c) ∧ V.cell? ⟨g, 8, none⟩ = some (.int .i64 cm))] (by kernel_rfl) ?_
    refine wpAnyT_pure (i := 0) (oi := { dst := some 74, op := Op.move (Operand.tmp 0), type := 83, pos := "draft.go:59", after := #[], guard := none }) (v := ?_) rfl (by kernel_rfl) (by kernel_rfl) (by kernel_rfl) (by kernel_rfl) (fun _ _ _ h => h) (Or.inl ⟨by rfl, ?_⟩) (holds1 (fun _ => (show wq.drew.cell? ⟨g, 6, none⟩ = some (.slice A F c) ∧ wq.drew.cell? ⟨g, 8, none⟩ = some (.int .i64 cm) from ⟨d6, d8⟩))) ?_
    rotate_left
    · (intro W; go_simp; try with_reducible rfl)
    try simp only [Act.put, List.setIfInBounds_toArray, List.set_cons_zero, List.set_cons_succ]
    refine wpAnyT_pure (i := 1) (oi := { dst := some 75, op := Op.move (Operand.tmp 1), type := 3, pos := "draft.go:59", after := #[], guard := none }) (v := ?_) rfl (by kernel_rfl) (by kernel_rfl) (by kernel_rfl) (by kernel_rfl) (fun _ _ _ h => h) (Or.inl ⟨by rfl, ?_⟩) (holds1 (fun _ => (show wq.drew.cell? ⟨g, 6, none⟩ = some (.slice A F c) ∧ wq.drew.cell? ⟨g, 8, none⟩ = some (.int .i64 cm) from ⟨d6, d8⟩))) ?_
    rotate_left
    · (intro W; go_simp; try with_reducible rfl)
    try simp only [Act.put, List.setIfInBounds_toArray, List.set_cons_zero, List.set_cons_succ]
    refine wpAnyT_pure (i := 2) (oi := { dst := some 76, op := Op.move (Operand.tmp 4), type := 3, pos := "draft.go:59", after := #[], guard := none }) (v := ?_) rfl (by kernel_rfl) (by kernel_rfl) (by kernel_rfl) (by kernel_rfl) (fun _ _ _ h => h) (Or.inl ⟨by rfl, ?_⟩) (holds1 (fun _ => (show wq.drew.cell? ⟨g, 6, none⟩ = some (.slice A F c) ∧ wq.drew.cell? ⟨g, 8, none⟩ = some (.int .i64 cm) from ⟨d6, d8⟩))) ?_
    rotate_left
    · (intro W; go_simp; try with_reducible rfl)
    try simp only [Act.put, List.setIfInBounds_toArray, List.set_cons_zero, List.set_cons_succ]
    refine wpAnyT_pure (i := 3) (oi := { dst := some 77, op := Op.binOp BinOp.sub 3 (Operand.tmp 76) (Operand.const (Value.int IntKind.i64 1)) 3, type := 3, pos := "draft.go:59", after := #[{ on := 2, ground := Ground.data }], guard := none }) (v := ?_) rfl (by kernel_rfl) (by kernel_rfl) (by kernel_rfl) (by kernel_rfl) (fun _ _ _ h => h) (Or.inl ⟨by rfl, ?_⟩) (holds1 (fun _ => (show wq.drew.cell? ⟨g, 6, none⟩ = some (.slice A F c) ∧ wq.drew.cell? ⟨g, 8, none⟩ = some (.int .i64 cm) from ⟨d6, d8⟩))) ?_
    rotate_left
    · (intro W; go_simp; try with_reducible rfl)
    try simp only [Act.put, List.setIfInBounds_toArray, List.set_cons_zero, List.set_cons_succ]
    refine wpAnyT_pure (i := 4) (oi := { dst := some 78, op := Op.move (Operand.tmp 5), type := 3, pos := "draft.go:59", after := #[], guard := none }) (v := ?_) rfl (by kernel_rfl) (by kernel_rfl) (by kernel_rfl) (by kernel_rfl) (fun _ _ _ h => h) (Or.inl ⟨by rfl, ?_⟩) (holds1 (fun _ => (show wq.drew.cell? ⟨g, 6, none⟩ = some (.slice A F c) ∧ wq.drew.cell? ⟨g, 8, none⟩ = some (.int .i64 cm) from ⟨d6, d8⟩))) ?_
    rotate_left
    · (intro W; go_simp; try with_reducible rfl)
    try simp only [Act.put, List.setIfInBounds_toArray, List.set_cons_zero, List.set_cons_succ]
    refine wpAnyT_pure (i := 5) (oi := { dst := some 79, op := Op.move (Operand.tmp 0), type := 83, pos := "draft.go:59", after := #[], guard := none }) (v := ?_) rfl (by kernel_rfl) (by kernel_rfl) (by kernel_rfl) (by kernel_rfl) (fun _ _ _ h => h) (Or.inl ⟨by rfl, ?_⟩) (holds1 (fun _ => (show wq.drew.cell? ⟨g, 6, none⟩ = some (.slice A F c) ∧ wq.drew.cell? ⟨g, 8, none⟩ = some (.int .i64 cm) from ⟨d6, d8⟩))) ?_
    rotate_left
    · (intro W; go_simp; try with_reducible rfl)
    try simp only [Act.put, List.setIfInBounds_toArray, List.set_cons_zero, List.set_cons_succ]
    refine wpAnyT_pure (i := 6) (oi := { dst := some 80, op := Op.nilCheck (Operand.tmp 79), type := 0, pos := "draft.go:59", after := #[{ on := 5, ground := Ground.data }], guard := none }) (v := ?_) rfl (by kernel_rfl) (by kernel_rfl) (by kernel_rfl) (by kernel_rfl) (fun _ _ _ h => h) (Or.inl ⟨by rfl, ?_⟩) (holds1 (fun _ => (show wq.drew.cell? ⟨g, 6, none⟩ = some (.slice A F c) ∧ wq.drew.cell? ⟨g, 8, none⟩ = some (.int .i64 cm) from ⟨d6, d8⟩))) ?_
    rotate_left
    · (intro W; go_simp; try with_reducible rfl)
    try simp only [Act.put, List.setIfInBounds_toArray, List.set_cons_zero, List.set_cons_succ]
    refine wpAnyT_pure (i := 7) (oi := { dst := some 81, op := Op.fieldAddr 87 (Operand.tmp 80) 0, type := 0, pos := "draft.go:59", after := #[{ on := 6, ground := Ground.data }], guard := none }) (v := ?_) rfl (by kernel_rfl) (by kernel_rfl) (by kernel_rfl) (by kernel_rfl) (fun _ _ _ h => h) (Or.inl ⟨by rfl, ?_⟩) (holds1 (fun _ => (show wq.drew.cell? ⟨g, 6, none⟩ = some (.slice A F c) ∧ wq.drew.cell? ⟨g, 8, none⟩ = some (.int .i64 cm) from ⟨d6, d8⟩))) ?_
    rotate_left
    · (intro W; go_simp; try with_reducible rfl)
    try simp only [Act.put, List.setIfInBounds_toArray, List.set_cons_zero, List.set_cons_succ]
    refine wpAnyT_pure (i := 8) (oi := { dst := some 82, op := Op.fieldAddr 37 (Operand.tmp 81) 6, type := 0, pos := "draft.go:59", after := #[{ on := 7, ground := Ground.data }], guard := none }) (v := ?_) rfl (by kernel_rfl) (by kernel_rfl) (by kernel_rfl) (by kernel_rfl) (fun _ _ _ h => h) (Or.inl ⟨by rfl, ?_⟩) (holds1 (fun _ => (show wq.drew.cell? ⟨g, 6, none⟩ = some (.slice A F c) ∧ wq.drew.cell? ⟨g, 8, none⟩ = some (.int .i64 cm) from ⟨d6, d8⟩))) ?_
    rotate_left
    · (intro W; go_simp; try with_reducible rfl)
    try simp only [Act.put, List.setIfInBounds_toArray, List.set_cons_zero, List.set_cons_succ]
    refine wpAnyT_take 6 20 (i := 9) (oi := { dst := some 83, op := Op.load 23 (Operand.tmp 82), type := 23, pos := "draft.go:59", after := #[{ on := 8, ground := Ground.data }], guard := none }) (v := ?_) (.head _) rfl (by kernel_rfl) (by kernel_rfl) (by kernel_rfl) (by kernel_rfl) (by kernel_rfl) (by kernel_rfl) (by rfl) (fun _ _ _ h => h) (by rfl) ?_ (holds1 (fun _ => (show wq.drew.cell? ⟨g, 6, none⟩ = some (.slice A F c) ∧ wq.drew.cell? ⟨g, 8, none⟩ = some (.int .i64 cm) from ⟨d6, d8⟩))) ?_
    rotate_left
    · (intro W hSw; (try dsimp only at hSw); go_simp; try with_reducible rfl)
    try simp only [Act.put, List.setIfInBounds_toArray, List.set_cons_zero, List.set_cons_succ]
    refine wpAnyT_pure (i := 10) (oi := { dst := some 84, op := Op.move (Operand.tmp 7), type := 3, pos := "draft.go:59", after := #[], guard := none }) (v := ?_) rfl (by kernel_rfl) (by kernel_rfl) (by kernel_rfl) (by kernel_rfl) (fun _ _ _ h => h) (Or.inl ⟨by rfl, ?_⟩) (holds1 (fun _ => (show wq.drew.cell? ⟨g, 6, none⟩ = some (.slice A F c) ∧ wq.drew.cell? ⟨g, 8, none⟩ = some (.int .i64 cm) from ⟨d6, d8⟩))) ?_
    rotate_left
    · (intro W; go_simp; try with_reducible rfl)
    try simp only [Act.put, List.setIfInBounds_toArray, List.set_cons_zero, List.set_cons_succ]
    refine wpAnyT_pure (i := 11) (oi := { dst := some 85, op := Op.move (Operand.tmp 8), type := 3, pos := "draft.go:59", after := #[], guard := none }) (v := ?_) rfl (by kernel_rfl) (by kernel_rfl) (by kernel_rfl) (by kernel_rfl) (fun _ _ _ h => h) (Or.inl ⟨by rfl, ?_⟩) (holds1 (fun _ => (show wq.drew.cell? ⟨g, 6, none⟩ = some (.slice A F c) ∧ wq.drew.cell? ⟨g, 8, none⟩ = some (.int .i64 cm) from ⟨d6, d8⟩))) ?_
    rotate_left
    · (intro W; go_simp; try with_reducible rfl)
    try simp only [Act.put, List.setIfInBounds_toArray, List.set_cons_zero, List.set_cons_succ]
    refine wpAnyT_pure (i := 12) (oi := { dst := some 86, op := Op.slice 23 (Operand.tmp 83) (some (Operand.tmp 84)) (some (Operand.tmp 85)) none, type := 23, pos := "draft.go:59", after := #[{ on := 9, ground := Ground.data }, { on := 10, ground := Ground.data }, { on := 11, ground := Ground.data }], guard := none }) (v := ?_) rfl (by kernel_rfl) (by kernel_rfl) (by kernel_rfl) (by kernel_rfl) (fun _ _ _ h => h) (Or.inl ⟨by rfl, ?_⟩) (holds1 (fun _ => (show wq.drew.cell? ⟨g, 6, none⟩ = some (.slice A F c) ∧ wq.drew.cell? ⟨g, 8, none⟩ = some (.int .i64 cm) from ⟨d6, d8⟩))) ?_
    rotate_left
    · (intro W; go_simp; try with_reducible rfl)
    try simp only [Act.put, List.setIfInBounds_toArray, List.set_cons_zero, List.set_cons_succ]
    refine wpAnyT_pure (i := 14) (oi := { dst := some 88, op := Op.move (Operand.tmp 0), type := 83, pos := "draft.go:59", after := #[], guard := none }) (v := ?_) rfl (by kernel_rfl) (by kernel_rfl) (by kernel_rfl) (by kernel_rfl) (fun _ _ _ h => h) (Or.inl ⟨by rfl, ?_⟩) (holds1 (fun _ => (show wq.drew.cell? ⟨g, 6, none⟩ = some (.slice A F c) ∧ wq.drew.cell? ⟨g, 8, none⟩ = some (.int .i64 cm) from ⟨d6, d8⟩))) ?_
    rotate_left
    · (intro W; go_simp; try with_reducible rfl)
    try simp only [Act.put, List.setIfInBounds_toArray, List.set_cons_zero, List.set_cons_succ]
    refine wpAnyT_pure (i := 15) (oi := { dst := some 89, op := Op.nilCheck (Operand.tmp 88), type := 0, pos := "draft.go:59", after := #[{ on := 14, ground := Ground.data }], guard := none }) (v := ?_) rfl (by kernel_rfl) (by kernel_rfl) (by kernel_rfl) (by kernel_rfl) (fun _ _ _ h => h) (Or.inl ⟨by rfl, ?_⟩) (holds1 (fun _ => (show wq.drew.cell? ⟨g, 6, none⟩ = some (.slice A F c) ∧ wq.drew.cell? ⟨g, 8, none⟩ = some (.int .i64 cm) from ⟨d6, d8⟩))) ?_
    rotate_left
    · (intro W; go_simp; try with_reducible rfl)
    try simp only [Act.put, List.setIfInBounds_toArray, List.set_cons_zero, List.set_cons_succ]
    refine wpAnyT_pure (i := 16) (oi := { dst := some 90, op := Op.fieldAddr 87 (Operand.tmp 89) 0, type := 0, pos := "draft.go:59", after := #[{ on := 15, ground := Ground.data }], guard := none }) (v := ?_) rfl (by kernel_rfl) (by kernel_rfl) (by kernel_rfl) (by kernel_rfl) (fun _ _ _ h => h) (Or.inl ⟨by rfl, ?_⟩) (holds1 (fun _ => (show wq.drew.cell? ⟨g, 6, none⟩ = some (.slice A F c) ∧ wq.drew.cell? ⟨g, 8, none⟩ = some (.int .i64 cm) from ⟨d6, d8⟩))) ?_
    rotate_left
    · (intro W; go_simp; try with_reducible rfl)
    try simp only [Act.put, List.setIfInBounds_toArray, List.set_cons_zero, List.set_cons_succ]
    refine wpAnyT_pure (i := 17) (oi := { dst := some 91, op := Op.fieldAddr 37 (Operand.tmp 90) 8, type := 0, pos := "draft.go:59", after := #[{ on := 16, ground := Ground.data }], guard := none }) (v := ?_) rfl (by kernel_rfl) (by kernel_rfl) (by kernel_rfl) (by kernel_rfl) (fun _ _ _ h => h) (Or.inl ⟨by rfl, ?_⟩) (holds1 (fun _ => (show wq.drew.cell? ⟨g, 6, none⟩ = some (.slice A F c) ∧ wq.drew.cell? ⟨g, 8, none⟩ = some (.int .i64 cm) from ⟨d6, d8⟩))) ?_
    rotate_left
    · (intro W; go_simp; try with_reducible rfl)
    try simp only [Act.put, List.setIfInBounds_toArray, List.set_cons_zero, List.set_cons_succ]
    refine wpAnyT_take 6 20 (i := 18) (oi := { dst := some 92, op := Op.load 3 (Operand.tmp 91), type := 3, pos := "draft.go:59", after := #[{ on := 17, ground := Ground.data }], guard := none }) (v := ?_) (.head _) rfl (by kernel_rfl) (by kernel_rfl) (by kernel_rfl) (by kernel_rfl) (by kernel_rfl) (by kernel_rfl) (by rfl) (fun _ _ _ h => h) (by rfl) ?_ (holds1 (fun _ => (show wq.drew.cell? ⟨g, 6, none⟩ = some (.slice A F c) ∧ wq.drew.cell? ⟨g, 8, none⟩ = some (.int .i64 cm) from ⟨d6, d8⟩))) ?_
    rotate_left
    · (intro W hSw; (try dsimp only at hSw); go_simp; try with_reducible rfl)
    try simp only [Act.put, List.setIfInBounds_toArray, List.set_cons_zero, List.set_cons_succ]
    refine wpAnyT_ready (rs := [13]) (by kernel_rfl) (by simp) (AllT.cons (o := { dst := some 87, op := Op.call { callee := Callee.value (Operand.func 48), args := #[Operand.tmp 86], argTypes := #[23] }, type := 23, pos := "draft.go:59", after := #[{ on := 12, ground := Ground.data }], guard := none }) rfl (fun K hK => ?_) AllT.nil)
    go_simp
    go_at_call 48
    refine (LS.out _ DR.out).mono ?_
    rintro _ w2 ⟨⟨A3, c3', rfl⟩, g2⟩
    have G2 := Lib.hid (only_step DR.out g2 (fun _ h => .inl h))
    have e6 := (World.cell?_of_block (a := ⟨g, 6, none⟩) (G2.out.block g HGL.out (by simp))).trans c6
    have e8 := (World.cell?_of_block (a := ⟨g, 8, none⟩) (G2.out.block g HGL.out (by simp))).trans c8
    clear g2
    refine hK.out _ _ (holds1 (fun _ => ⟨e6, e8⟩)) ?_
    clear hK K
    try simp only [Act.put, List.setIfInBounds_toArray, List.set_cons_zero, List.set_cons_succ]
    refine wpAnyT_pure (i := 19) (oi := { dst := some 93, op := Op.build 25 #[(0, Operand.const (Value.int IntKind.i64 3)), (4, Operand.tmp 77), (5, Operand.tmp 78), (8, Operand.tmp 87), (6, Operand.tmp 92)], type := 25, pos := "draft.go:59", after := #[{ on := 3, ground := Ground.data }, { on := 4, ground := Ground.data }, { on := 13, ground := Ground.data }, { on := 18, ground := Ground.data }], guard := none }) (v := ?_) rfl (by kernel_rfl) (by kernel_rfl) (by kernel_rfl) (by kernel_rfl) (fun _ _ _ h => h) (Or.inl ⟨by rfl, ?_⟩) (holds1 (fun _ => ⟨e6, e8⟩)) ?_
    rotate_left
    · (intro W; go_simp; try with_reducible rfl)
    try simp only [Act.put, List.setIfInBounds_toArray, List.set_cons_zero, List.set_cons_succ]
    refine wpAnyT_ready (rs := [20]) (by kernel_rfl) (by simp) (AllT.cons (o := { dst := some 94, op := Op.call { callee := Callee.value (Operand.func 61), args := #[Operand.tmp 74, Operand.tmp 75, Operand.tmp 93], argTypes := #[83, 3, 25] }, type := 0, pos := "draft.go:59", after := #[{ on := 0, ground := Ground.data }, { on := 1, ground := Ground.data }, { on := 19, ground := Ground.data }, { on := 13, ground := Ground.chain }], guard := none }) rfl (fun K hK => ?_) AllT.nil)
    go_simp
    go_at_call 61
    refine (SD.out _ _ _ G2.out).mono ?_
    rintro _ w3 ⟨rfl, hp⟩
    have HP := Lib.hid hp
    clear hp
    refine hK.out _ _ (holds1 (late_no (by kernel_rfl))) ?_
    clear hK K
    try simp only [Act.put, List.setIfInBounds_toArray, List.set_cons_zero, List.set_cons_succ]
    refine wpAnyT_done (by kernel_rfl) ?_ _
    go_wp2_with fail
    go_end0
    exact ⟨rfl, _, _, HP.out⟩
  · have e1 : F = D := by omega
    subst e1
    have q1 : ¬ (N : Int) < (F : Int) := by omega
    by_cases h8 : N < F + 8
    · have e2 : C = N - F := by omega
      have q2 : (N : Int) < (F : Int) + 8 := by omega
      have HE3 := Lib.hid (show N = F + C by omega)
      clear hF2 hC2 hND e2 h8
      have HG : Hid (∃ o, w.heap[g]? = some o) := by
        cases h : w.heap[g]? with
        | none => simp [World.cell?, h] at c3
        | some o => exact ⟨o, rfl⟩
      go_enter Try.func45, Try.ntmps45
      go_upto_region 4 with (go_at_call 49; refine TM.out.mono ?_; rintro _ wd ⟨rfl, rfl⟩)
      go_quiet (fail)
      go_upto_region 6 with fail
      have DQ : w.grownBy (w.drewN nq) none := only_drewN (only_refl w none) _
      obtain ⟨o, ho⟩ := HG.out
      have hgl := (Array.getElem?_eq_some_iff.1 ho).1
      have HGL := Lib.hid hgl
      have d6 := (World.cell?_of_block (a := ⟨g, 6, none⟩) (DQ.block g hgl (by simp))).trans c6
      have d8 := (World.cell?_of_block (a := ⟨g, 8, none⟩) (DQ.block g hgl (by simp))).trans c8
      obtain ⟨wq, hwq⟩ : ∃ x, w.drewN nq = x := ⟨_, rfl⟩
      rw [hwq] at DQ d6 d8
      rw [hwq]
      clear hwq ho hgl
      have DR := Lib.hid (only_drew DQ)
      clear DQ
      have SL1 := fun W => SL.out W ((N : Int)) (by have := HE3.out; omega)
      refine wp_region_late [(20, fun V => V.cell? ⟨g, 6, none⟩ = some (.slice A N c) ∧ V.cell? ⟨g, 8, none⟩ = some (.int .i64 cm))] (by kernel_rfl) ?_
      refine wpAnyT_pure (i := 0) (oi := { dst := some 74, op := Op.move (Operand.tmp 0), type := 83, pos := "draft.go:59", after := #[], guard := none }) (v := ?_) rfl (by kernel_rfl) (by kernel_rfl) (by kernel_rfl) (by kernel_rfl) (fun _ _ _ h => h) (Or.inl ⟨by rfl, ?_⟩) (holds1 (fun _ => (show wq.drew.cell? ⟨g, 6, none⟩ = some (.slice A N c) ∧ wq.drew.cell? ⟨g, 8, none⟩ = some (.int .i64 cm) from ⟨d6, d8⟩))) ?_
      rotate_left
      · (intro W; go_simp; try with_reducible rfl)
      try simp only [Act.put, List.setIfInBounds_toArray, List.set_cons_zero, List.set_cons_succ]
      refine wpAnyT_pure (i := 1) (oi := { dst := some 75, op := Op.move (Operand.tmp 1), type := 3, pos := "draft.go:59", after := #[], guard := none }) (v := ?_) rfl (by kernel_rfl) (by kernel_rfl) (by kernel_rfl) (by kernel_rfl) (fun _ _ _ h => h) (Or.inl ⟨by rfl, ?_⟩) (holds1 (fun _ => (show wq.drew.cell? ⟨g, 6, none⟩ = some (.slice A N c) ∧ wq.drew.cell? ⟨g, 8, none⟩ = some (.int .i64 cm) from ⟨d6, d8⟩))) ?_
      rotate_left
      · (intro W; go_simp; try with_reducible rfl)
      try simp only [Act.put, List.setIfInBounds_toArray, List.set_cons_zero, List.set_cons_succ]
      refine wpAnyT_pure (i := 2) (oi := { dst := some 76, op := Op.move (Operand.tmp 4), type := 3, pos := "draft.go:59", after := #[], guard := none }) (v := ?_) rfl (by kernel_rfl) (by kernel_rfl) (by kernel_rfl) (by kernel_rfl) (fun _ _ _ h => h) (Or.inl ⟨by rfl, ?_⟩) (holds1 (fun _ => (show wq.drew.cell? ⟨g, 6, none⟩ = some (.slice A N c) ∧ wq.drew.cell? ⟨g, 8, none⟩ = some (.int .i64 cm) from ⟨d6, d8⟩))) ?_
      rotate_left
      · (intro W; go_simp; try with_reducible rfl)
      try simp only [Act.put, List.setIfInBounds_toArray, List.set_cons_zero, List.set_cons_succ]
      refine wpAnyT_pure (i := 3) (oi := { dst := some 77, op := Op.binOp BinOp.sub 3 (Operand.tmp 76) (Operand.const (Value.int IntKind.i64 1)) 3, type := 3, pos := "draft.go:59", after := #[{ on := 2, ground := Ground.data }], guard := none }) (v := ?_) rfl (by kernel_rfl) (by kernel_rfl) (by kernel_rfl) (by kernel_rfl) (fun _ _ _ h => h) (Or.inl ⟨by rfl, ?_⟩) (holds1 (fun _ => (show wq.drew.cell? ⟨g, 6, none⟩ = some (.slice A N c) ∧ wq.drew.cell? ⟨g, 8, none⟩ = some (.int .i64 cm) from ⟨d6, d8⟩))) ?_
      rotate_left
      · (intro W; go_simp; try with_reducible rfl)
      try simp only [Act.put, List.setIfInBounds_toArray, List.set_cons_zero, List.set_cons_succ]
      refine wpAnyT_pure (i := 4) (oi := { dst := some 78, op := Op.move (Operand.tmp 5), type := 3, pos := "draft.go:59", after := #[], guard := none }) (v := ?_) rfl (by kernel_rfl) (by kernel_rfl) (by kernel_rfl) (by kernel_rfl) (fun _ _ _ h => h) (Or.inl ⟨by rfl, ?_⟩) (holds1 (fun _ => (show wq.drew.cell? ⟨g, 6, none⟩ = some (.slice A N c) ∧ wq.drew.cell? ⟨g, 8, none⟩ = some (.int .i64 cm) from ⟨d6, d8⟩))) ?_
      rotate_left
      · (intro W; go_simp; try with_reducible rfl)
      try simp only [Act.put, List.setIfInBounds_toArray, List.set_cons_zero, List.set_cons_succ]
      refine wpAnyT_pure (i := 5) (oi := { dst := some 79, op := Op.move (Operand.tmp 0), type := 83, pos := "draft.go:59", after := #[], guard := none }) (v := ?_) rfl (by kernel_rfl) (by kernel_rfl) (by kernel_rfl) (by kernel_rfl) (fun _ _ _ h => h) (Or.inl ⟨by rfl, ?_⟩) (holds1 (fun _ => (show wq.drew.cell? ⟨g, 6, none⟩ = some (.slice A N c) ∧ wq.drew.cell? ⟨g, 8, none⟩ = some (.int .i64 cm) from ⟨d6, d8⟩))) ?_
      rotate_left
      · (intro W; go_simp; try with_reducible rfl)
      try simp only [Act.put, List.setIfInBounds_toArray, List.set_cons_zero, List.set_cons_succ]
      refine wpAnyT_pure (i := 6) (oi := { dst := some 80, op := Op.nilCheck (Operand.tmp 79), type := 0, pos := "draft.go:59", after := #[{ on := 5, ground := Ground.data }], guard := none }) (v := ?_) rfl (by kernel_rfl) (by kernel_rfl) (by kernel_rfl) (by kernel_rfl) (fun _ _ _ h => h) (Or.inl ⟨by rfl, ?_⟩) (holds1 (fun _ => (show wq.drew.cell? ⟨g, 6, none⟩ = some (.slice A N c) ∧ wq.drew.cell? ⟨g, 8, none⟩ = some (.int .i64 cm) from ⟨d6, d8⟩))) ?_
      rotate_left
      · (intro W; go_simp; try with_reducible rfl)
      try simp only [Act.put, List.setIfInBounds_toArray, List.set_cons_zero, List.set_cons_succ]
      refine wpAnyT_pure (i := 7) (oi := { dst := some 81, op := Op.fieldAddr 87 (Operand.tmp 80) 0, type := 0, pos := "draft.go:59", after := #[{ on := 6, ground := Ground.data }], guard := none }) (v := ?_) rfl (by kernel_rfl) (by kernel_rfl) (by kernel_rfl) (by kernel_rfl) (fun _ _ _ h => h) (Or.inl ⟨by rfl, ?_⟩) (holds1 (fun _ => (show wq.drew.cell? ⟨g, 6, none⟩ = some (.slice A N c) ∧ wq.drew.cell? ⟨g, 8, none⟩ = some (.int .i64 cm) from ⟨d6, d8⟩))) ?_
      rotate_left
      · (intro W; go_simp; try with_reducible rfl)
      try simp only [Act.put, List.setIfInBounds_toArray, List.set_cons_zero, List.set_cons_succ]
      refine wpAnyT_pure (i := 8) (oi := { dst := some 82, op := Op.fieldAddr 37 (Operand.tmp 81) 6, type := 0, pos := "draft.go:59", after := #[{ on := 7, ground := Ground.data }], guard := none }) (v := ?_) rfl (by kernel_rfl) (by kernel_rfl) (by kernel_rfl) (by kernel_rfl) (fun _ _ _ h => h) (Or.inl ⟨by rfl, ?_⟩) (holds1 (fun _ => (show wq.drew.cell? ⟨g, 6, none⟩ = some (.slice A N c) ∧ wq.drew.cell? ⟨g, 8, none⟩ = some (.int .i64 cm) from ⟨d6, d8⟩))) ?_
      rotate_left
      · (intro W; go_simp; try with_reducible rfl)
      try simp only [Act.put, List.setIfInBounds_toArray, List.set_cons_zero, List.set_cons_succ]
      refine wpAnyT_take 6 20 (i := 9) (oi := { dst := some 83, op := Op.load 23 (Operand.tmp 82), type := 23, pos := "draft.go:59", after := #[{ on := 8, ground := Ground.data }], guard := none }) (v := ?_) (.head _) rfl (by kernel_rfl) (by kernel_rfl) (by kernel_rfl) (by kernel_rfl) (by kernel_rfl) (by kernel_rfl) (by rfl) (fun _ _ _ h => h) (by rfl) ?_ (holds1 (fun _ => (show wq.drew.cell? ⟨g, 6, none⟩ = some (.slice A N c) ∧ wq.drew.cell? ⟨g, 8, none⟩ = some (.int .i64 cm) from ⟨d6, d8⟩))) ?_
      rotate_left
      · (intro W hSw; (try dsimp only at hSw); go_simp; try with_reducible rfl)
      try simp only [Act.put, List.setIfInBounds_toArray, List.set_cons_zero, List.set_cons_succ]
      refine wpAnyT_pure (i := 10) (oi := { dst := some 84, op := Op.move (Operand.tmp 7), type := 3, pos := "draft.go:59", after := #[], guard := none }) (v := ?_) rfl (by kernel_rfl) (by kernel_rfl) (by kernel_rfl) (by kernel_rfl) (fun _ _ _ h => h) (Or.inl ⟨by rfl, ?_⟩) (holds1 (fun _ => (show wq.drew.cell? ⟨g, 6, none⟩ = some (.slice A N c) ∧ wq.drew.cell? ⟨g, 8, none⟩ = some (.int .i64 cm) from ⟨d6, d8⟩))) ?_
      rotate_left
      · (intro W; go_simp; try with_reducible rfl)
      try simp only [Act.put, List.setIfInBounds_toArray, List.set_cons_zero, List.set_cons_succ]
      refine wpAnyT_pure (i := 11) (oi := { dst := some 85, op := Op.move (Operand.tmp 8), type := 3, pos := "draft.go:59", after := #[], guard := none }) (v := ?_) rfl (by kernel_rfl) (by kernel_rfl) (by kernel_rfl) (by kernel_rfl) (fun _ _ _ h => h) (Or.inl ⟨by rfl, ?_⟩) (holds1 (fun _ => (show wq.drew.cell? ⟨g, 6, none⟩ = some (.slice A N c) ∧ wq.drew.cell? ⟨g, 8, none⟩ = some (.int .i64 cm) from ⟨d6, d8⟩))) ?_
      rotate_left
      · (intro W; go_simp; try with_reducible rfl)
      try simp only [Act.put, List.setIfInBounds_toArray, List.set_cons_zero, List.set_cons_succ]
      refine wpAnyT_pure (i := 12) (oi := { dst := some 86, op := Op.slice 23 (Operand.tmp 83) (some (Operand.tmp 84)) (some (Operand.tmp 85)) none, type := 23, pos := "draft.go:59", after := #[{ on := 9, ground := Ground.data }, { on := 10, ground := Ground.data }, { on := 11, ground := Ground.data }], guard := none }) (v := ?_) rfl (by kernel_rfl) (by kernel_rfl) (by kernel_rfl) (by kernel_rfl) (fun _ _ _ h => h) (Or.inl ⟨by rfl, ?_⟩) (holds1 (fun _ => (show wq.drew.cell? ⟨g, 6, none⟩ = some (.slice A N c) ∧ wq.drew.cell? ⟨g, 8, none⟩ = some (.int .i64 cm) from ⟨d6, d8⟩))) ?_
      rotate_left
      · (intro W; go_simp; try with_reducible rfl)
      try simp only [Act.put, List.setIfInBounds_toArray, List.set_cons_zero, List.set_cons_succ]
      refine wpAnyT_pure (i := 14) (oi := { dst := some 88, op := Op.move (Operand.tmp 0), type := 83, pos := "draft.go:59", after := #[], guard := none }) (v := ?_) rfl (by kernel_rfl) (by kernel_rfl) (by kernel_rfl) (by kernel_rfl) (fun _ _ _ h => h) (Or.inl ⟨by rfl, ?_⟩) (holds1 (fun _ => (show wq.drew.cell? ⟨g, 6, none⟩ = some (.slice A N c) ∧ wq.drew.cell? ⟨g, 8, none⟩ = some (.int .i64 cm) from ⟨d6, d8⟩))) ?_
      rotate_left
      · (intro W; go_simp; try with_reducible rfl)
      try simp only [Act.put, List.setIfInBounds_toArray, List.set_cons_zero, List.set_cons_succ]
      refine wpAnyT_pure (i := 15) (oi := { dst := some 89, op := Op.nilCheck (Operand.tmp 88), type := 0, pos := "draft.go:59", after := #[{ on := 14, ground := Ground.data }], guard := none }) (v := ?_) rfl (by kernel_rfl) (by kernel_rfl) (by kernel_rfl) (by kernel_rfl) (fun _ _ _ h => h) (Or.inl ⟨by rfl, ?_⟩) (holds1 (fun _ => (show wq.drew.cell? ⟨g, 6, none⟩ = some (.slice A N c) ∧ wq.drew.cell? ⟨g, 8, none⟩ = some (.int .i64 cm) from ⟨d6, d8⟩))) ?_
      rotate_left
      · (intro W; go_simp; try with_reducible rfl)
      try simp only [Act.put, List.setIfInBounds_toArray, List.set_cons_zero, List.set_cons_succ]
      refine wpAnyT_pure (i := 16) (oi := { dst := some 90, op := Op.fieldAddr 87 (Operand.tmp 89) 0, type := 0, pos := "draft.go:59", after := #[{ on := 15, ground := Ground.data }], guard := none }) (v := ?_) rfl (by kernel_rfl) (by kernel_rfl) (by kernel_rfl) (by kernel_rfl) (fun _ _ _ h => h) (Or.inl ⟨by rfl, ?_⟩) (holds1 (fun _ => (show wq.drew.cell? ⟨g, 6, none⟩ = some (.slice A N c) ∧ wq.drew.cell? ⟨g, 8, none⟩ = some (.int .i64 cm) from ⟨d6, d8⟩))) ?_
      rotate_left
      · (intro W; go_simp; try with_reducible rfl)
      try simp only [Act.put, List.setIfInBounds_toArray, List.set_cons_zero, List.set_cons_succ]
      refine wpAnyT_pure (i := 17) (oi := { dst := some 91, op := Op.fieldAddr 37 (Operand.tmp 90) 8, type := 0, pos := "draft.go:59", after := #[{ on := 16, ground := Ground.data }], guard := none }) (v := ?_) rfl (by kernel_rfl) (by kernel_rfl) (by kernel_rfl) (by kernel_rfl) (fun _ _ _ h => h) (Or.inl ⟨by rfl, ?_⟩) (holds1 (fun _ => (show wq.drew.cell? ⟨g, 6, none⟩ = some (.slice A N c) ∧ wq.drew.cell? ⟨g, 8, none⟩ = some (.int .i64 cm) from ⟨d6, d8⟩))) ?_
      rotate_left
      · (intro W; go_simp; try with_reducible rfl)
      try simp only [Act.put, List.setIfInBounds_toArray, List.set_cons_zero, List.set_cons_succ]
      refine wpAnyT_take 6 20 (i := 18) (oi := { dst := some 92, op := Op.load 3 (Operand.tmp 91), type := 3, pos := "draft.go:59", after := #[{ on := 17, ground := Ground.data }], guard := none }) (v := ?_) (.head _) rfl (by kernel_rfl) (by kernel_rfl) (by kernel_rfl) (by kernel_rfl) (by kernel_rfl) (by kernel_rfl) (by rfl) (fun _ _ _ h => h) (by rfl) ?_ (holds1 (fun _ => (show wq.drew.cell? ⟨g, 6, none⟩ = some (.slice A N c) ∧ wq.drew.cell? ⟨g, 8, none⟩ = some (.int .i64 cm) from ⟨d6, d8⟩))) ?_
      rotate_left
      · (intro W hSw; (try dsimp only at hSw); go_simp; try with_reducible rfl)
      try simp only [Act.put, List.setIfInBounds_toArray, List.set_cons_zero, List.set_cons_succ]
      refine wpAnyT_ready (rs := [13]) (by kernel_rfl) (by simp) (AllT.cons (o := { dst := some 87, op := Op.call { callee := Callee.value (Operand.func 48), args := #[Operand.tmp 86], argTypes := #[23] }, type := 23, pos := "draft.go:59", after := #[{ on := 12, ground := Ground.data }], guard := none }) rfl (fun K hK => ?_) AllT.nil)
      go_simp
      go_at_call 48
      refine (LS.out _ DR.out).mono ?_
      rintro _ w2 ⟨⟨A3, c3', rfl⟩, g2⟩
      have G2 := Lib.hid (only_step DR.out g2 (fun _ h => .inl h))
      have e6 := (World.cell?_of_block (a := ⟨g, 6, none⟩) (G2.out.block g HGL.out (by simp))).trans c6
      have e8 := (World.cell?_of_block (a := ⟨g, 8, none⟩) (G2.out.block g HGL.out (by simp))).trans c8
      clear g2
      refine hK.out _ _ (holds1 (fun _ => ⟨e6, e8⟩)) ?_
      clear hK K
      try simp only [Act.put, List.setIfInBounds_toArray, List.set_cons_zero, List.set_cons_succ]
      refine wpAnyT_pure (i := 19) (oi := { dst := some 93, op := Op.build 25 #[(0, Operand.const (Value.int IntKind.i64 3)), (4, Operand.tmp 77), (5, Operand.tmp 78), (8, Operand.tmp 87), (6, Operand.tmp 92)], type := 25, pos := "draft.go:59", after := #[{ on := 3, ground := Ground.data }, { on := 4, ground := Ground.data }, { on := 13, ground := Ground.data }, { on := 18, ground := Ground.data }], guard := none }) (v := ?_) rfl (by kernel_rfl) (by kernel_rfl) (by kernel_rfl) (by kernel_rfl) (fun _ _ _ h => h) (Or.inl ⟨by rfl, ?_⟩) (holds1 (fun _ => ⟨e6, e8⟩)) ?_
      rotate_left
      · (intro W; go_simp; try with_reducible rfl)
      try simp only [Act.put, List.setIfInBounds_toArray, List.set_cons_zero, List.set_cons_succ]
      refine wpAnyT_ready (rs := [20]) (by kernel_rfl) (by simp) (AllT.cons (o := { dst := some 94, op := Op.call { callee := Callee.value (Operand.func 61), args := #[Operand.tmp 74, Operand.tmp 75, Operand.tmp 93], argTypes := #[83, 3, 25] }, type := 0, pos := "draft.go:59", after := #[{ on := 0, ground := Ground.data }, { on := 1, ground := Ground.data }, { on := 19, ground := Ground.data }, { on := 13, ground := Ground.chain }], guard := none }) rfl (fun K hK => ?_) AllT.nil)
      go_simp
      go_at_call 61
      refine (SD.out _ _ _ G2.out).mono ?_
      rintro _ w3 ⟨rfl, hp⟩
      have HP := Lib.hid hp
      clear hp
      refine hK.out _ _ (holds1 (late_no (by kernel_rfl))) ?_
      clear hK K
      try simp only [Act.put, List.setIfInBounds_toArray, List.set_cons_zero, List.set_cons_succ]
      refine wpAnyT_done (by kernel_rfl) ?_ _
      go_wp2_with fail
      go_end0
      exact ⟨rfl, _, _, HP.out⟩
    · have e2 : C = 8 := by omega
      subst e2
      have q2 : ¬ (N : Int) < (F : Int) + 8 := by omega
      clear hF2 hC2 hND
      have HG : Hid (∃ o, w.heap[g]? = some o) := by
        cases h : w.heap[g]? with
        | none => simp [World.cell?, h] at c3
        | some o => exact ⟨o, rfl⟩
      go_enter Try.func45, Try.ntmps45
      go_upto_region 4 with (go_at_call 49; refine TM.out.mono ?_; rintro _ wd ⟨rfl, rfl⟩)
      go_quiet (fail)
      go_upto_region 6 with fail
      have DQ : w.grownBy (w.drewN nq) none := only_drewN (only_refl w none) _
      obtain ⟨o, ho⟩ := HG.out
      have hgl := (Array.getElem?_eq_some_iff.1 ho).1
      have HGL := Lib.hid hgl
      have d6 := (World.cell?_of_block (a := ⟨g, 6, none⟩) (DQ.block g hgl (by simp))).trans c6
      have d8 := (World.cell?_of_block (a := ⟨g, 8, none⟩) (DQ.block g hgl (by simp))).trans c8
      obtain ⟨wq, hwq⟩ : ∃ x, w.drewN nq = x := ⟨_, rfl⟩
      rw [hwq] at DQ d6 d8
      rw [hwq]
      clear hwq ho hgl
      have DR := Lib.hid (only_drew DQ)
      clear DQ
      have SL1 := fun W => SL.out W ((F : Int) + 8) (by omega)
      refine wp_region_late [(20, fun V => V.cell? ⟨g, 6, none⟩ = some (.slice A N c) ∧ V.cell? ⟨g, 8, none⟩ = some (.int .i64 cm))] (by kernel_rfl) ?_
      refine wpAnyT_pure (i := 0) (oi := { dst := some 74, op := Op.move (Operand.tmp 0), type := 83, pos := "draft.go:59", after := #[], guard := none }) (v := ?_) rfl (by kernel_rfl) (by kernel_rfl) (by kernel_rfl) (by kernel_rfl) (fun _ _ _ h => h) (Or.inl ⟨by rfl, ?_⟩) (holds1 (fun _ => (show wq.drew.cell? ⟨g, 6, none⟩ = some (.slice A N c) ∧ wq.drew.cell? ⟨g, 8, none⟩ = some (.int .i64 cm) from ⟨d6, d8⟩))) ?_
      rotate_left
      · (intro W; go_simp; try with_reducible rfl)
      try simp only [Act.put, List.setIfInBounds_toArray, List.set_cons_zero, List.set_cons_succ]
      refine wpAnyT_pure (i := 1) (oi := { dst := some 75, op := Op.move (Operand.tmp 1), type := 3, pos := "draft.go:59", after := #[], guard := none }) (v := ?_) rfl (by kernel_rfl) (by kernel_rfl) (by kernel_rfl) (by kernel_rfl) (fun _ _ _ h => h) (Or.inl ⟨by rfl, ?_⟩) (holds1 (fun _ => (show wq.drew.cell? ⟨g, 6, none⟩ = some (.slice A N c) ∧ wq.drew.cell? ⟨g, 8, none⟩ = some (.int .i64 cm) from ⟨d6, d8⟩))) ?_
      rotate_left
      · (intro W; go_simp; try with_reducible rfl)
      try simp only [Act.put, List.setIfInBounds_toArray, List.set_cons_zero, List.set_cons_succ]
      refine wpAnyT_pure (i := 2) (oi := { dst := some 76, op := Op.move (Operand.tmp 4), type := 3, pos := "draft.go:59", after := #[], guard := none }) (v := ?_) rfl (by kernel_rfl) (by kernel_rfl) (by kernel_rfl) (by kernel_rfl) (fun _ _ _ h => h) (Or.inl ⟨by rfl, ?_⟩) (holds1 (fun _ => (show wq.drew.cell? ⟨g, 6, none⟩ = some (.slice A N c) ∧ wq.drew.cell? ⟨g, 8, none⟩ = some (.int .i64 cm) from ⟨d6, d8⟩))) ?_
      rotate_left
      · (intro W; go_simp; try with_reducible rfl)
      try simp only [Act.put, List.setIfInBounds_toArray, List.set_cons_zero, List.set_cons_succ]
      refine wpAnyT_pure (i := 3) (oi := { dst := some 77, op := Op.binOp BinOp.sub 3 (Operand.tmp 76) (Operand.const (Value.int IntKind.i64 1)) 3, type := 3, pos := "draft.go:59", after := #[{ on := 2, ground := Ground.data }], guard := none }) (v := ?_) rfl (by kernel_rfl) (by kernel_rfl) (by kernel_rfl) (by kernel_rfl) (fun _ _ _ h => h) (Or.inl ⟨by rfl, ?_⟩) (holds1 (fun _ => (show wq.drew.cell? ⟨g, 6, none⟩ = some (.slice A N c) ∧ wq.drew.cell? ⟨g, 8, none⟩ = some (.int .i64 cm) from ⟨d6, d8⟩))) ?_
      rotate_left
      · (intro W; go_simp; try with_reducible rfl)
      try simp only [Act.put, List.setIfInBounds_toArray, List.set_cons_zero, List.set_cons_succ]
      refine wpAnyT_pure (i := 4) (oi := { dst := some 78, op := Op.move (Operand.tmp 5), type := 3, pos := "draft.go:59", after := #[], guard := none }) (v := ?_) rfl (by kernel_rfl) (by kernel_rfl) (by kernel_rfl) (by kernel_rfl) (fun _ _ _ h => h) (Or.inl ⟨by rfl, ?_⟩) (holds1 (fun _ => (show wq.drew.cell? ⟨g, 6, none⟩ = some (.slice A N c) ∧ wq.drew.cell? ⟨g, 8, none⟩ = some (.int .i64 cm) from ⟨d6, d8⟩))) ?_
      rotate_left
      · (intro W; go_simp; try with_reducible rfl)
      try simp only [Act.put, List.setIfInBounds_toArray, List.set_cons_zero, List.set_cons_succ]
      refine wpAnyT_pure (i := 5) (oi := { dst := some 79, op := Op.move (Operand.tmp 0), type := 83, pos := "draft.go:59", after := #[], guard := none }) (v := ?_) rfl (by kernel_rfl) (by kernel_rfl) (by kernel_rfl) (by kernel_rfl) (fun _ _ _ h => h) (Or.inl ⟨by rfl, ?_⟩) (holds1 (fun _ => (show wq.drew.cell? ⟨g, 6, none⟩ = some (.slice A N c) ∧ wq.drew.cell? ⟨g, 8, none⟩ = some (.int .i64 cm) from ⟨d6, d8⟩))) ?_
      rotate_left
      · (intro W; go_simp; try with_reducible rfl)
      try simp only [Act.put, List.setIfInBounds_toArray, List.set_cons_zero, List.set_cons_succ]
      refine wpAnyT_pure (i := 6) (oi := { dst := some 80, op := Op.nilCheck (Operand.tmp 79), type := 0, pos := "draft.go:59", after := #[{ on := 5, ground := Ground.data }], guard := none }) (v := ?_) rfl (by kernel_rfl) (by kernel_rfl) (by kernel_rfl) (by kernel_rfl) (fun _ _ _ h => h) (Or.inl ⟨by rfl, ?_⟩) (holds1 (fun _ => (show wq.drew.cell? ⟨g, 6, none⟩ = some (.slice A N c) ∧ wq.drew.cell? ⟨g, 8, none⟩ = some (.int .i64 cm) from ⟨d6, d8⟩))) ?_
      rotate_left
      · (intro W; go_simp; try with_reducible rfl)
      try simp only [Act.put, List.setIfInBounds_toArray, List.set_cons_zero, List.set_cons_succ]
      refine wpAnyT_pure (i := 7) (oi := { dst := some 81, op := Op.fieldAddr 87 (Operand.tmp 80) 0, type := 0, pos := "draft.go:59", after := #[{ on := 6, ground := Ground.data }], guard := none }) (v := ?_) rfl (by kernel_rfl) (by kernel_rfl) (by kernel_rfl) (by kernel_rfl) (fun _ _ _ h => h) (Or.inl ⟨by rfl, ?_⟩) (holds1 (fun _ => (show wq.drew.cell? ⟨g, 6, none⟩ = some (.slice A N c) ∧ wq.drew.cell? ⟨g, 8, none⟩ = some (.int .i64 cm) from ⟨d6, d8⟩))) ?_
      rotate_left
      · (intro W; go_simp; try with_reducible rfl)
      try simp only [Act.put, List.setIfInBounds_toArray, List.set_cons_zero, List.set_cons_succ]
      refine wpAnyT_pure (i := 8) (oi := { dst := some 82, op := Op.fieldAddr 37 (Operand.tmp 81) 6, type := 0, pos := "draft.go:59", after := #[{ on := 7, ground := Ground.data }], guard := none }) (v := ?_) rfl (by kernel_rfl) (by kernel_rfl) (by kernel_rfl) (by kernel_rfl) (fun _ _ _ h => h) (Or.inl ⟨by rfl, ?_⟩) (holds1 (fun _ => (show wq.drew.cell? ⟨g, 6, none⟩ = some (.slice A N c) ∧ wq.drew.cell? ⟨g, 8, none⟩ = some (.int .i64 cm) from ⟨d6, d8⟩))) ?_
      rotate_left
      · (intro W; go_simp; try with_reducible rfl)
      try simp only [Act.put, List.setIfInBounds_toArray, List.set_cons_zero, List.set_cons_succ]
      refine wpAnyT_take 6 20 (i := 9) (oi := { dst := some 83, op := Op.load 23 (Operand.tmp 82), type := 23, pos := "draft.go:59", after := #[{ on := 8, ground := Ground.data }], guard := none }) (v := ?_) (.head _) rfl (by kernel_rfl) (by kernel_rfl) (by kernel_rfl) (by kernel_rfl) (by kernel_rfl) (by kernel_rfl) (by rfl) (fun _ _ _ h => h) (by rfl) ?_ (holds1 (fun _ => (show wq.drew.cell? ⟨g, 6, none⟩ = some (.slice A N c) ∧ wq.drew.cell? ⟨g, 8, none⟩ = some (.int .i64 cm) from ⟨d6, d8⟩))) ?_
      rotate_left
      · (intro W hSw; (try dsimp only at hSw); go_simp; try with_reducible rfl)
      try simp only [Act.put, List.setIfInBounds_toArray, List.set_cons_zero, List.set_cons_succ]
      refine wpAnyT_pure (i := 10) (oi := { dst := some 84, op := Op.move (Operand.tmp 7), type := 3, pos := "draft.go:59", after := #[], guard := none }) (v := ?_) rfl (by kernel_rfl) (by kernel_rfl) (by kernel_rfl) (by kernel_rfl) (fun _ _ _ h => h) (Or.inl ⟨by rfl, ?_⟩) (holds1 (fun _ => (show wq.drew.cell? ⟨g, 6, none⟩ = some (.slice A N c) ∧ wq.drew.cell? ⟨g, 8, none⟩ = some (.int .i64 cm) from ⟨d6, d8⟩))) ?_
      rotate_left
      · (intro W; go_simp; try with_reducible rfl)
      try simp only [Act.put, List.setIfInBounds_toArray, List.set_cons_zero, List.set_cons_succ]
      refine wpAnyT_pure (i := 11) (oi := { dst := some 85, op := Op.move (Operand.tmp 8), type := 3, pos := "draft.go:59", after := #[], guard := none }) (v := ?_) rfl (by kernel_rfl) (by kernel_rfl) (by kernel_rfl) (by kernel_rfl) (fun _ _ _ h => h) (Or.inl ⟨by rfl, ?_⟩) (holds1 (fun _ => (show wq.drew.cell? ⟨g, 6, none⟩ = some (.slice A N c) ∧ wq.drew.cell? ⟨g, 8, none⟩ = some (.int .i64 cm) from ⟨d6, d8⟩))) ?_
      rotate_left
      · (intro W; go_simp; try with_reducible rfl)
      try simp only [Act.put, List.setIfInBounds_toArray, List.set_cons_zero, List.set_cons_succ]
      refine wpAnyT_pure (i := 12) (oi := { dst := some 86, op := Op.slice 23 (Operand.tmp 83) (some (Operand.tmp 84)) (some (Operand.tmp 85)) none, type := 23, pos := "draft.go:59", after := #[{ on := 9, ground := Ground.data }, { on := 10, ground := Ground.data }, { on := 11, ground := Ground.data }], guard := none }) (v := ?_) rfl (by kernel_rfl) (by kernel_rfl) (by kernel_rfl) (by kernel_rfl) (fun _ _ _ h => h) (Or.inl ⟨by rfl, ?_⟩) (holds1 (fun _ => (show wq.drew.cell? ⟨g, 6, none⟩ = some (.slice A N c) ∧ wq.drew.cell? ⟨g, 8, none⟩ = some (.int .i64 cm) from ⟨d6, d8⟩))) ?_
      rotate_left
      · (intro W; go_simp; try with_reducible rfl)
      try simp only [Act.put, List.setIfInBounds_toArray, List.set_cons_zero, List.set_cons_succ]
      refine wpAnyT_pure (i := 14) (oi := { dst := some 88, op := Op.move (Operand.tmp 0), type := 83, pos := "draft.go:59", after := #[], guard := none }) (v := ?_) rfl (by kernel_rfl) (by kernel_rfl) (by kernel_rfl) (by kernel_rfl) (fun _ _ _ h => h) (Or.inl ⟨by rfl, ?_⟩) (holds1 (fun _ => (show wq.drew.cell? ⟨g, 6, none⟩ = some (.slice A N c) ∧ wq.drew.cell? ⟨g, 8, none⟩ = some (.int .i64 cm) from ⟨d6, d8⟩))) ?_
      rotate_left
      · (intro W; go_simp; try with_reducible rfl)
      try simp only [Act.put, List.setIfInBounds_toArray, List.set_cons_zero, List.set_cons_succ]
      refine wpAnyT_pure (i := 15) (oi := { dst := some 89, op := Op.nilCheck (Operand.tmp 88), type := 0, pos := "draft.go:59", after := #[{ on := 14, ground := Ground.data }], guard := none }) (v := ?_) rfl (by kernel_rfl) (by kernel_rfl) (by kernel_rfl) (by kernel_rfl) (fun _ _ _ h => h) (Or.inl ⟨by rfl, ?_⟩) (holds1 (fun _ => (show wq.drew.cell? ⟨g, 6, none⟩ = some (.slice A N c) ∧ wq.drew.cell? ⟨g, 8, none⟩ = some (.int .i64 cm) from ⟨d6, d8⟩))) ?_
      rotate_left
      · (intro W; go_simp; try with_reducible rfl)
      try simp only [Act.put, List.setIfInBounds_toArray, List.set_cons_zero, List.set_cons_succ]
      refine wpAnyT_pure (i := 16) (oi := { dst := some 90, op := Op.fieldAddr 87 (Operand.tmp 89) 0, type := 0, pos := "draft.go:59", after := #[{ on := 15, ground := Ground.data }], guard := none }) (v := ?_) rfl (by kernel_rfl) (by kernel_rfl) (by kernel_rfl) (by kernel_rfl) (fun _ _ _ h => h) (Or.inl ⟨by rfl, ?_⟩) (holds1 (fun _ => (show wq.drew.cell? ⟨g, 6, none⟩ = some (.slice A N c) ∧ wq.drew.cell? ⟨g, 8, none⟩ = some (.int .i64 cm) from ⟨d6, d8⟩))) ?_
      rotate_left
      · (intro W; go_simp; try with_reducible rfl)
      try simp only [Act.put, List.setIfInBounds_toArray, List.set_cons_zero, List.set_cons_succ]
      refine wpAnyT_pure (i := 17) (oi := { dst := some 91, op := Op.fieldAddr 37 (Operand.tmp 90) 8, type := 0, pos := "draft.go:59", after := #[{ on := 16, ground := Ground.data }], guard := none }) (v := ?_) rfl (by kernel_rfl) (by kernel_rfl) (by kernel_rfl) (by kernel_rfl) (fun _ _ _ h => h) (Or.inl ⟨by rfl, ?_⟩) (holds1 (fun _ => (show wq.drew.cell? ⟨g, 6, none⟩ = some (.slice A N c) ∧ wq.drew.cell? ⟨g, 8, none⟩ = some (.int .i64 cm) from ⟨d6, d8⟩))) ?_
      rotate_left
      · (intro W; go_simp; try with_reducible rfl)
      try simp only [Act.put, List.setIfInBounds_toArray, List.set_cons_zero, List.set_cons_succ]
      refine wpAnyT_take 6 20 (i := 18) (oi := { dst := some 92, op := Op.load 3 (Operand.tmp 91), type := 3, pos := "draft.go:59", after := #[{ on := 17, ground := Ground.data }], guard := none }) (v := ?_) (.head _) rfl (by kernel_rfl) (by kernel_rfl) (by kernel_rfl) (by kernel_rfl) (by kernel_rfl) (by kernel_rfl) (by rfl) (fun _ _ _ h => h) (by rfl) ?_ (holds1 (fun _ => (show wq.drew.cell? ⟨g, 6, none⟩ = some (.slice A N c) ∧ wq.drew.cell? ⟨g, 8, none⟩ = some (.int .i64 cm) from ⟨d6, d8⟩))) ?_
      rotate_left
      · (intro W hSw; (try dsimp only at hSw); go_simp; try with_reducible rfl)
      try simp only [Act.put, List.setIfInBounds_toArray, List.set_cons_zero, List.set_cons_succ]
      refine wpAnyT_ready (rs := [13]) (by kernel_rfl) (by simp) (AllT.cons (o := { dst := some 87, op := Op.call { callee := Callee.value (Operand.func 48), args := #[Operand.tmp 86], argTypes := #[23] }, type := 23, pos := "draft.go:59", after := #[{ on := 12, ground := Ground.data }], guard := none }) rfl (fun K hK => ?_) AllT.nil)
      go_simp
      go_at_call 48
      refine (LS.out _ DR.out).mono ?_
      rintro _ w2 ⟨⟨A3, c3', rfl⟩, g2⟩
      have G2 := Lib.hid (only_step DR.out g2 (fun _ h => .inl h))
      have e6 := (World.cell?_of_block (a := ⟨g, 6, none⟩) (G2.out.block g HGL.out (by simp))).trans c6
      have e8 := (World.cell?_of_block (a := ⟨g, 8, none⟩) (G2.out.block g HGL.out (by simp))).trans c8
      clear g2
      refine hK.out _ _ (holds1 (fun _ => ⟨e6, e8⟩)) ?_
      clear hK K
      try simp only [Act.put, List.setIfInBounds_toArray, List.set_cons_zero, List.set_cons_succ]
      refine wpAnyT_pure (i := 19) (oi := { dst := some 93, op := Op.build 25 #[(0, Operand.const (Value.int IntKind.i64 3)), (4, Operand.tmp 77), (5, Operand.tmp 78), (8, Operand.tmp 87), (6, Operand.tmp 92)], type := 25, pos := "draft.go:59", after := #[{ on := 3, ground := Ground.data }, { on := 4, ground := Ground.data }, { on := 13, ground := Ground.data }, { on := 18, ground := Ground.data }], guard := none }) (v := ?_) rfl (by kernel_rfl) (by kernel_rfl) (by kernel_rfl) (by kernel_rfl) (fun _ _ _ h => h) (Or.inl ⟨by rfl, ?_⟩) (holds1 (fun _ => ⟨e6, e8⟩)) ?_
      rotate_left
      · (intro W; go_simp; try with_reducible rfl)
      try simp only [Act.put, List.setIfInBounds_toArray, List.set_cons_zero, List.set_cons_succ]
      refine wpAnyT_ready (rs := [20]) (by kernel_rfl) (by simp) (AllT.cons (o := { dst := some 94, op := Op.call { callee := Callee.value (Operand.func 61), args := #[Operand.tmp 74, Operand.tmp 75, Operand.tmp 93], argTypes := #[83, 3, 25] }, type := 0, pos := "draft.go:59", after := #[{ on := 0, ground := Ground.data }, { on := 1, ground := Ground.data }, { on := 19, ground := Ground.data }, { on := 13, ground := Ground.chain }], guard := none }) rfl (fun K hK => ?_) AllT.nil)
      go_simp
      go_at_call 61
      refine (SD.out _ _ _ G2.out).mono ?_
      rintro _ w3 ⟨rfl, hp⟩
      have HP := Lib.hid hp
      clear hp
      refine hK.out _ _ (holds1 (late_no (by kernel_rfl))) ?_
      clear hK K
      try simp only [Act.put, List.setIfInBounds_toArray, List.set_cons_zero, List.set_cons_succ]
      refine wpAnyT_done (by kernel_rfl) ?_ _
      go_wp2_with fail
      go_end0
      exact ⟨rfl, _, _, HP.out⟩
theorem owe_add (w : World) (P : Nat → Prop) (g : Nat) (n : Nd) (S : List Mg) (k : Nat) (hk3 : k < 3) (hD : Dr w P g n S) (hn : n.ok) (hS : S.length ≤ 1048576) (hx : n.base < n.nx k) (hx2 : n.nx k ≤ 1099511627776) :
    Calls Try.prog 45 #[.pointer (some ⟨g, 0, none⟩), .int .i64 k] w fun e w' => e = .returned (.tuple #[]) ∧ ∃ A c, Dr w' P g n (S ++ [n.addM k (.slice A (n.cnt k) c)]) ∧ Kept P w w' := by
  obtain ⟨L, M, hD⟩ := hD
  obtain ⟨A, c, rfl⟩ := own_slice_w hD.log
  have hcap := own_cap_w hD.log
  have hlen := hn.len
  have hb := hn.base
  have hFC : n.fromN k + n.cnt k ≤ n.log.length := by unfold Nd.cnt Nd.fromN; omega
  have hl : ((n.log.take (n.fromN k + n.cnt k)).drop (n.fromN k)).length = n.cnt k := by rw [List.length_drop, List.length_take]; omega
  obtain ⟨A2, SL, SH⟩ := slice_e hcap (n.fromN k) (n.fromN k + n.cnt k) (by omega) hFC
  have hCC : n.fromN k + n.cnt k - n.fromN k = n.cnt k := by omega
  rw [hCC] at SL
  obtain ⟨_, _, _, c3, _, _, c6, _, c8, _⟩ := hD.all
  refine (owe_core w g k (n.nx k) n.base (n.tA (n.nx k - 1)).1 n.cm (n.tA (n.nx k - 1)).2 (n.fromN k) (n.cnt k) n.log.length c A A2 (fun e w' => Dr w' P g n (S ++ [n.addM k e]) ∧ Kept P w w')
    (hD.nxc k hk3) c3 c6 c8 (by omega) (by omega) (by omega) hx2 hb.1 hb.2 hlen (fun W h hh => by rw [hh]; exact SL W) rfl rfl ?_ ?_ ?_).mono ?_
  · exact term_any w P g n S _ ⟨_, M, hD⟩ hn (by omega)
  · exact fun W hg => by
      have := elist_any A2 (c - n.fromN k) _ W (SH W W.heap.size n.log rfl ((Has.own_w hD.log).up hg)) (by omega)
      rw [hl] at this
      exact this.mono fun _ _ ⟨v, h1, h2, h3⟩ => by
        obtain ⟨A3, c3', rfl⟩ := own_slice_w h2
        exact ⟨⟨A3, c3', h1⟩, h3⟩
  · exact fun W A3 c3' hg => (send_any W P g n S k (Mg.mk 3 0 0 0 (n.nx k - 1) (n.tA (n.nx k - 1)).1 n.cm false (.slice A3 (n.cnt k) c3') { data := #[] }) ⟨_, M, hD.grow hg⟩ ⟨_, _, _, rfl⟩ hS).mono fun _ _ ⟨h1, h2, h3⟩ => ⟨h1, h2, (hD.kept hg).trans h3⟩
  · exact fun _ _ ⟨h1, A3, c3', h2, h3⟩ => ⟨h1, A3, c3', h2, h3⟩
end Go.Proofs.Ytjhnipnocjoelaa
