/- The walk of CodeWrites: it returns true for every input. No condition. -/
import Derived.Test.YtjcanlnnadnodaaSwitch
namespace Go.Proofs.Ytjcanlnnadnodaa
open Go.RowKit Go.ChangeShapes
attribute [local go_sem ↓] Go.wp_at_zero Go.wp_at_succ

theorem own_lit (w : World) : (w.alloc (.cells #[] 5)).ownsRow w.heap.size 5 1 (.slice (some ⟨w.heap.size, 0, none⟩) 0 0) 0 [] :=
  ⟨rfl, .inr ⟨w.heap.size, 0, #[], rfl, Nat.le_refl _, heap_alloc_new w _, Nat.le_refl _, Nat.zero_le _, rfl, rfl⟩⟩

set_option maxHeartbeats 2000000 in
theorem writes_core (A B : Option Addr) (c d : Nat) (b l : List Int) (s : ByteArray) (n : Int) (w : World) (h : Has w w.heap.size A (bs b)) (hl : Has w w.heap.size B (is l))
    (hlb : b.length ≤ 300) (hls : s.size ≤ 500) (hll : l.length ≤ 100) (e1 : -9223372036854775808 ≤ n) (e2 : n ≤ 9223372036854775807) (hb : ∀ n ∈ l, -9223372036854775808 ≤ n ∧ n ≤ 9223372036854775807) :
    Calls Try.prog 3 #[.slice A b.length c, .int .i64 n, .string s, .slice B l.length d] w fun e w' => e = .returned (.bool true) ∧ w.grownBy w' none := by
  have t1 : ¬ (300 : Int) < (b.length : Int) := by omega
  have t2 : ¬ (500 : Int) < (s.size : Int) := by omega
  have t3 : ¬ (100 : Int) < (l.length : Int) := by omega
  have hsrc : Hid (∀ W : World, w.grownBy W none → Src Try.prog 1 22 (.slice A b.length c) (bs b).length (bs b) W) := fun W hW => by
    have := (h.only hW (Nat.le_refl _) (fun _ h => by cases h)).src (P := Try.prog) (tx := 22) Try.underlying22 c (bs_one _)
    rw [bs_len] at this ⊢
    exact this
  have HB := Lib.hid hb
  clear hb
  go_enter Try.func3, Try.ntmps3
  go_wp2_with fail
  refine (known_any _).mono ?_
  rintro _ w1 ⟨rfl, g1⟩
  have hz1 := g1.size
  have ho0 : Hid ((w1.alloc (.cells #[] 5)).ownsRow w1.heap.size 5 1 (.slice (some ⟨w1.heap.size, 0, none⟩) 0 0) ([] : List Value).length []) := own_lit w1
  have gl : w.grownBy (w1.alloc (.cells #[] 5)) none := only_step g1 (World.grownBy_alloc w1 _ none) (fun _ h => by cases h)
  go_wp2_with (at_builtin; go_loud (refine app_bytes rfl _ _ 22 rfl w1.heap.size (.slice (some ⟨w1.heap.size, 0, none⟩) 0 0) [] rfl ho0.out (.slice A b.length c) (bs b) rfl (hsrc.out _ gl) (by rw [bs_len]; simp only [List.length_nil]; omega) (by simp) ?_); intro v0 w2 g2)
  have hr : ∀ k, v0.ownBlock = some k → w1.heap.size ≤ k := fun k hk => (g2.own.lt k hk).1
  have g02 : w.grownBy w2 none := only_step gl g2.only (fun k hk => by cases hk; exact .inr hz1)
  have O2 := g2.own
  rw [List.nil_append] at O2
  have hvlt := g2.own.lt
  have hwz2 := g02.size
  have hz2 : w1.heap.size ≤ w2.heap.size := by have := g2.only.size; simp at this; omega
  refine wp_region_held_drew (S := fun W => w2.grownBy W v0.ownBlock) (by kernel_rfl) (only_drew (only_refl _ _)) (fun hHeld => ?_)
  have hS0 := hHeld
  have R0 : w2.grownBy w2.drew v0.ownBlock := hHeld
  have O2d : w2.drew.ownsRow w1.heap.size 5 1 v0 (bs b).length (bs b) := O2
  refine wpAnyH_take (i := 0) (oi := { dst := some 28, op := Op.move (Operand.tmp 0), type := 22, pos := "law.go:47", after := #[], guard := none }) (v := ?_) rfl (by kernel_rfl) (by kernel_rfl) (by kernel_rfl) (fun _ _ _ h => h) (Or.inl ⟨by rfl, ?_⟩) hS0 ?_
  rotate_left
  · (intro W hSw; (try dsimp only at hSw); go_simp; try with_reducible rfl)
  try simp only [Act.put, List.setIfInBounds_toArray, List.set_cons_zero, List.set_cons_succ]
  refine wpAnyH_take (i := 1) (oi := { dst := some 29, op := Op.move (Operand.tmp 1), type := 3, pos := "law.go:47", after := #[], guard := none }) (v := ?_) rfl (by kernel_rfl) (by kernel_rfl) (by kernel_rfl) (fun _ _ _ h => h) (Or.inl ⟨by rfl, ?_⟩) hS0 ?_
  rotate_left
  · (intro W hSw; (try dsimp only at hSw); go_simp; try with_reducible rfl)
  try simp only [Act.put, List.setIfInBounds_toArray, List.set_cons_zero, List.set_cons_succ]
  refine wpAnyH_take (i := 4) (oi := { dst := some 32, op := Op.move (Operand.tmp 9), type := 22, pos := "law.go:47", after := #[], guard := none }) (v := ?_) rfl (by kernel_rfl) (by kernel_rfl) (by kernel_rfl) (fun _ _ _ h => h) (Or.inl ⟨by rfl, ?_⟩) hS0 ?_
  rotate_left
  · (intro W hSw; (try dsimp only at hSw); go_simp; try with_reducible rfl)
  try simp only [Act.put, List.setIfInBounds_toArray, List.set_cons_zero, List.set_cons_succ]
  refine wpAnyH_take (i := 5) (oi := { dst := some 33, op := Op.move (Operand.tmp 1), type := 3, pos := "law.go:47", after := #[], guard := none }) (v := ?_) rfl (by kernel_rfl) (by kernel_rfl) (by kernel_rfl) (fun _ _ _ h => h) (Or.inl ⟨by rfl, ?_⟩) hS0 ?_
  rotate_left
  · (intro W hSw; (try dsimp only at hSw); go_simp; try with_reducible rfl)
  try simp only [Act.put, List.setIfInBounds_toArray, List.set_cons_zero, List.set_cons_succ]
  refine wpAnyH_ready (rs := [2]) (by kernel_rfl) (by simp) ?_
  refine AllReadyH.cons (o := { dst := some 30, op := Op.call { callee := Callee.value (Operand.func 13), args := #[Operand.tmp 28, Operand.tmp 29], argTypes := #[22, 3] }, type := 22, pos := "law.go:47", after := #[{ on := 0, ground := Ground.data }, { on := 1, ground := Ground.data }], guard := none }) rfl (fun K hK => ?_) AllReadyH.nil
  have GW1 : w.grownBy w2.drew none := only_step g02 R0 (fun q hq => .inr (by have := hr q hq; omega))
  have HA := (h.only GW1 (Nat.le_refl _) (fun _ h => by cases h)).more GW1.size
  have hc := int_any A c (bs b) n _ HA (bs_one _) (by rw [bs_len]; omega) e1 e2
  rw [bs_len] at hc
  go_simp
  go_at_call 13
  refine hc.mono ?_
  rintro _ a1 ⟨v1, rfl, q1⟩
  dsimp only
  clear hc HA
  have N1 : w2.drew.grownBy a1 none := q1.none rfl
  have R1 : w2.grownBy a1 v0.ownBlock := only_step R0 N1 (fun _ h => by cases h)
  have O1 : a1.ownsRow w1.heap.size 5 1 v0 (bs b).length (bs b) := O2d.kept N1 (by cases v0.ownBlock <;> simp)
  have Z1 : w2.drew.heap.size ≤ a1.heap.size := N1.size
  have Y1 : w2.heap.size ≤ w2.drew.heap.size := R0.size
  have own1 := q1.own
  simp only [← bs_append] at own1
  obtain ⟨s1, hs1⟩ : ∃ s1, s1 = strOfNums (b ++ enc n) := ⟨_, rfl⟩
  have ne1 : v1.ownBlock = none ∨ v1.ownBlock ≠ v0.ownBlock := by
    cases hv : v1.ownBlock with
    | none => exact .inl rfl
    | some g => exact .inr (fun e => by have h1 := (own1.lt g hv).1; have h2 := (hvlt g e.symm).2; omega)
  have C1 : ∀ W : World, a1.grownBy W v0.ownBlock → (convert 22 9 v1).run Try.prog W = .ok (.string s1) W := fun W hW => by
    rw [hs1]; exact conv_own (own1.kept hW ne1)
  have hs1' := Lib.hid hs1
  clear hs1 own1 ne1 q1
  have T1a1 : a1.grownBy a1 v0.ownBlock := only_refl _ _
  refine hK.out _ _ R1 (fun _ => ?_)
  clear hK K
  try simp only [Act.put, List.setIfInBounds_toArray, List.set_cons_zero, List.set_cons_succ]
  refine wpAnyH_more (S' := fun W => w2.grownBy W v0.ownBlock ∧ a1.grownBy W v0.ownBlock) (fun W h => h.1) _ _ _ _ ?_
  have hSa1 : w2.grownBy a1 v0.ownBlock ∧ a1.grownBy a1 v0.ownBlock := ⟨R1, T1a1⟩
  refine wpAnyH_take (i := 3) (oi := { dst := some 31, op := Op.convert 22 9 (Operand.tmp 30), type := 9, pos := "law.go:47", after := #[{ on := 2, ground := Ground.data }], guard := none }) (v := .string s1) rfl (by kernel_rfl) (by kernel_rfl) (by kernel_rfl) (fun _ _ _ h => h) (Or.inl ⟨by rfl, ?_⟩) hSa1 ?_
  · intro W hSw
    have hcv := C1 W hSw.2
    go_simp
    try with_reducible rfl
  try simp only [Act.put, List.setIfInBounds_toArray, List.set_cons_zero, List.set_cons_succ]
  refine wpAnyH_ready (rs := [6]) (by kernel_rfl) (by simp) ?_
  refine AllReadyH.cons (o := { dst := some 34, op := Op.call { callee := Callee.value (Operand.func 14), args := #[Operand.tmp 32, Operand.tmp 33], argTypes := #[22, 3] }, type := 22, pos := "law.go:47", after := #[{ on := 4, ground := Ground.data }, { on := 5, ground := Ground.data }, { on := 2, ground := Ground.chain }], guard := none }) rfl (fun K hK => ?_) AllReadyH.nil
  have hc := refInt_any w1.heap.size v0 (bs b) n _ O1 (by omega) e1 e2 (by rw [bs_len]; omega)
  go_simp
  go_at_call 14
  refine hc.mono ?_
  rintro _ b1 ⟨u1, rfl, p1, U1⟩
  dsimp only
  clear hc
  have M1 : a1.grownBy b1 v0.ownBlock := p1.only
  have V1 := M1.size
  have P1 : w2.grownBy b1 v0.ownBlock := only_step R1 M1 (fun _ h => .inl h)
  have own1 := p1.own
  simp only [← bs_append] at own1
  have hcv : (convert 22 9 u1).run Try.prog b1 = .ok (.string s1) b1 := by rw [hs1'.out]; exact conv_own own1
  clear own1 p1
  have T1b1 : a1.grownBy b1 v0.ownBlock := only_step T1a1 M1 (fun _ h => .inl h)
  refine hK.out _ _ ⟨P1, T1b1⟩ (fun _ => ?_)
  clear hK K
  try simp only [Act.put, List.setIfInBounds_toArray, List.set_cons_zero, List.set_cons_succ]
  refine wpAnyH_ready (rs := [7]) (by kernel_rfl) (by simp) ?_
  refine AllReadyH.cons (o := { dst := some 35, op := Op.convert 22 9 (Operand.tmp 34), type := 9, pos := "law.go:47", after := #[{ on := 6, ground := Ground.data }], guard := none }) rfl (fun K hK => ?_) AllReadyH.nil
  go_simp
  refine hK.out _ _ ⟨P1, T1b1⟩ (fun hS1 => ?_)
  clear hK K hcv
  try simp only [Act.put, List.setIfInBounds_toArray, List.set_cons_zero, List.set_cons_succ]
  refine wpAnyH_take (i := 8) (oi := { dst := some 36, op := Op.binOp BinOp.eql 9 (Operand.tmp 31) (Operand.tmp 35) 9, type := 4, pos := "law.go:47", after := #[{ on := 3, ground := Ground.data }, { on := 7, ground := Ground.data }], guard := none }) (v := ?_) rfl (by kernel_rfl) (by kernel_rfl) (by kernel_rfl) (fun _ _ _ h => h) (Or.inl ⟨by rfl, ?_⟩) hS1 ?_
  rotate_left
  · (intro W hSw; (try dsimp only at hSw); go_simp; try with_reducible rfl)
  try simp only [Act.put, List.setIfInBounds_toArray, List.set_cons_zero, List.set_cons_succ]
  refine wpAnyH_take (i := 9) (oi := { dst := some 37, op := Op.move (Operand.tmp 36), type := 4, pos := "law.go:47", after := #[{ on := 8, ground := Ground.data }, { on := 6, ground := Ground.chain }], guard := none }) (v := ?_) rfl (by kernel_rfl) (by kernel_rfl) (by kernel_rfl) (fun _ _ _ h => h) (Or.inl ⟨by rfl, ?_⟩) hS1 ?_
  rotate_left
  · (intro W hSw; (try dsimp only at hSw); go_simp; try with_reducible rfl)
  try simp only [Act.put, List.setIfInBounds_toArray, List.set_cons_zero, List.set_cons_succ]
  refine wpAnyH_take (i := 10) (oi := { dst := some 38, op := Op.move (Operand.tmp 0), type := 22, pos := "law.go:47", after := #[{ on := 9, ground := Ground.guard }], guard := some (9, true) }) (v := ?_) rfl (by kernel_rfl) (by kernel_rfl) (by kernel_rfl) (fun _ _ _ h => h) (Or.inl ⟨by rfl, ?_⟩) hS1 ?_
  rotate_left
  · (intro W hSw; (try dsimp only at hSw); go_simp; try with_reducible rfl)
  try simp only [Act.put, List.setIfInBounds_toArray, List.set_cons_zero, List.set_cons_succ]
  refine wpAnyH_take (i := 11) (oi := { dst := some 39, op := Op.move (Operand.tmp 2), type := 9, pos := "law.go:47", after := #[{ on := 9, ground := Ground.guard }], guard := some (9, true) }) (v := ?_) rfl (by kernel_rfl) (by kernel_rfl) (by kernel_rfl) (fun _ _ _ h => h) (Or.inl ⟨by rfl, ?_⟩) hS1 ?_
  rotate_left
  · (intro W hSw; (try dsimp only at hSw); go_simp; try with_reducible rfl)
  try simp only [Act.put, List.setIfInBounds_toArray, List.set_cons_zero, List.set_cons_succ]
  refine wpAnyH_take (i := 14) (oi := { dst := some 42, op := Op.move (Operand.tmp 9), type := 22, pos := "law.go:47", after := #[{ on := 9, ground := Ground.guard }], guard := some (9, true) }) (v := ?_) rfl (by kernel_rfl) (by kernel_rfl) (by kernel_rfl) (fun _ _ _ h => h) (Or.inl ⟨by rfl, ?_⟩) hS1 ?_
  rotate_left
  · (intro W hSw; (try dsimp only at hSw); go_simp; try with_reducible rfl)
  try simp only [Act.put, List.setIfInBounds_toArray, List.set_cons_zero, List.set_cons_succ]
  refine wpAnyH_take (i := 15) (oi := { dst := some 43, op := Op.move (Operand.tmp 2), type := 9, pos := "law.go:47", after := #[{ on := 9, ground := Ground.guard }], guard := some (9, true) }) (v := ?_) rfl (by kernel_rfl) (by kernel_rfl) (by kernel_rfl) (fun _ _ _ h => h) (Or.inl ⟨by rfl, ?_⟩) hS1 ?_
  rotate_left
  · (intro W hSw; (try dsimp only at hSw); go_simp; try with_reducible rfl)
  try simp only [Act.put, List.setIfInBounds_toArray, List.set_cons_zero, List.set_cons_succ]
  refine wpAnyH_ready (rs := [12]) (by kernel_rfl) (by simp) ?_
  refine AllReadyH.cons (o := { dst := some 40, op := Op.call { callee := Callee.value (Operand.func 15), args := #[Operand.tmp 38, Operand.tmp 39], argTypes := #[22, 9] }, type := 22, pos := "law.go:47", after := #[{ on := 10, ground := Ground.data }, { on := 11, ground := Ground.data }, { on := 9, ground := Ground.chain }, { on := 9, ground := Ground.guard }], guard := some (9, true) }) rfl (fun K hK => ?_) AllReadyH.nil
  have GW2 : w.grownBy b1 none := only_step g02 P1 (fun q hq => .inr (by have := hr q hq; omega))
  have HA := (h.only GW2 (Nat.le_refl _) (fun _ h => by cases h)).more GW2.size
  have hc := text_any A c (bs b) s _ HA (bs_one _) (by rw [bs_len]; omega) (by omega)
  rw [bs_len] at hc
  go_simp
  go_at_call 15
  refine hc.mono ?_
  rintro _ a2 ⟨v2, rfl, q2⟩
  dsimp only
  clear hc HA
  have N2 : b1.grownBy a2 none := q2.none rfl
  have R2 : w2.grownBy a2 v0.ownBlock := only_step P1 N2 (fun _ h => by cases h)
  have O2 : a2.ownsRow w1.heap.size 5 1 v0 (bs b).length (bs b) := U1.kept N2 (by cases v0.ownBlock <;> simp)
  have Z2 : b1.heap.size ≤ a2.heap.size := N2.size
  have Y2 : w2.heap.size ≤ b1.heap.size := P1.size
  have own2 := q2.own
  simp only [← bs_append] at own2
  obtain ⟨s2, hs2⟩ : ∃ s2, s2 = strOfNums (b ++ (enc s.size ++ sb s)) := ⟨_, rfl⟩
  have ne2 : v2.ownBlock = none ∨ v2.ownBlock ≠ v0.ownBlock := by
    cases hv : v2.ownBlock with
    | none => exact .inl rfl
    | some g => exact .inr (fun e => by have h1 := (own2.lt g hv).1; have h2 := (hvlt g e.symm).2; omega)
  have C2 : ∀ W : World, a2.grownBy W v0.ownBlock → (convert 22 9 v2).run Try.prog W = .ok (.string s2) W := fun W hW => by
    rw [hs2]; exact conv_own (own2.kept hW ne2)
  have hs2' := Lib.hid hs2
  clear hs2 own2 ne2 q2
  have T1a2 : a1.grownBy a2 v0.ownBlock := only_step T1b1 N2 (fun _ h => by cases h)
  have T2a2 : a2.grownBy a2 v0.ownBlock := only_refl _ _
  refine hK.out _ _ ⟨R2, T1a2⟩ (fun _ => ?_)
  clear hK K
  try simp only [Act.put, List.setIfInBounds_toArray, List.set_cons_zero, List.set_cons_succ]
  refine wpAnyH_more (S' := fun W => w2.grownBy W v0.ownBlock ∧ a1.grownBy W v0.ownBlock ∧ a2.grownBy W v0.ownBlock) (fun W h => ⟨h.1, h.2.1⟩) _ _ _ _ ?_
  have hSa2 : w2.grownBy a2 v0.ownBlock ∧ a1.grownBy a2 v0.ownBlock ∧ a2.grownBy a2 v0.ownBlock := ⟨R2, T1a2, T2a2⟩
  refine wpAnyH_take (i := 13) (oi := { dst := some 41, op := Op.convert 22 9 (Operand.tmp 40), type := 9, pos := "law.go:47", after := #[{ on := 12, ground := Ground.data }, { on := 9, ground := Ground.guard }], guard := some (9, true) }) (v := .string s2) rfl (by kernel_rfl) (by kernel_rfl) (by kernel_rfl) (fun _ _ _ h => h) (Or.inl ⟨by rfl, ?_⟩) hSa2 ?_
  · intro W hSw
    have hcv := C2 W hSw.2.2
    go_simp
    try with_reducible rfl
  try simp only [Act.put, List.setIfInBounds_toArray, List.set_cons_zero, List.set_cons_succ]
  refine wpAnyH_ready (rs := [16]) (by kernel_rfl) (by simp) ?_
  refine AllReadyH.cons (o := { dst := some 44, op := Op.call { callee := Callee.value (Operand.func 16), args := #[Operand.tmp 42, Operand.tmp 43], argTypes := #[22, 9] }, type := 22, pos := "law.go:47", after := #[{ on := 14, ground := Ground.data }, { on := 15, ground := Ground.data }, { on := 12, ground := Ground.chain }, { on := 9, ground := Ground.guard }], guard := some (9, true) }) rfl (fun K hK => ?_) AllReadyH.nil
  have hc := refText_any w1.heap.size v0 (bs b) s _ O2 (by omega) (by rw [bs_len]; omega) (by omega)
  go_simp
  go_at_call 16
  refine hc.mono ?_
  rintro _ b2 ⟨u2, rfl, p2, U2⟩
  dsimp only
  clear hc
  have M2 : a2.grownBy b2 v0.ownBlock := p2.only
  have V2 := M2.size
  have P2 : w2.grownBy b2 v0.ownBlock := only_step R2 M2 (fun _ h => .inl h)
  have own2 := p2.own
  simp only [← bs_append] at own2
  have hcv : (convert 22 9 u2).run Try.prog b2 = .ok (.string s2) b2 := by rw [hs2'.out]; exact conv_own own2
  clear own2 p2
  have T1b2 : a1.grownBy b2 v0.ownBlock := only_step T1a2 M2 (fun _ h => .inl h)
  have T2b2 : a2.grownBy b2 v0.ownBlock := only_step T2a2 M2 (fun _ h => .inl h)
  refine hK.out _ _ ⟨P2, T1b2, T2b2⟩ (fun _ => ?_)
  clear hK K
  try simp only [Act.put, List.setIfInBounds_toArray, List.set_cons_zero, List.set_cons_succ]
  refine wpAnyH_ready (rs := [17]) (by kernel_rfl) (by simp) ?_
  refine AllReadyH.cons (o := { dst := some 45, op := Op.convert 22 9 (Operand.tmp 44), type := 9, pos := "law.go:47", after := #[{ on := 16, ground := Ground.data }, { on := 9, ground := Ground.guard }], guard := some (9, true) }) rfl (fun K hK => ?_) AllReadyH.nil
  go_simp
  refine hK.out _ _ ⟨P2, T1b2, T2b2⟩ (fun hS2 => ?_)
  clear hK K hcv
  try simp only [Act.put, List.setIfInBounds_toArray, List.set_cons_zero, List.set_cons_succ]
  refine wpAnyH_take (i := 18) (oi := { dst := some 46, op := Op.binOp BinOp.eql 9 (Operand.tmp 41) (Operand.tmp 45) 9, type := 4, pos := "law.go:47", after := #[{ on := 13, ground := Ground.data }, { on := 17, ground := Ground.data }, { on := 9, ground := Ground.guard }], guard := some (9, true) }) (v := ?_) rfl (by kernel_rfl) (by kernel_rfl) (by kernel_rfl) (fun _ _ _ h => h) (Or.inl ⟨by rfl, ?_⟩) hS2 ?_
  rotate_left
  · (intro W hSw; (try dsimp only at hSw); go_simp; try with_reducible rfl)
  try simp only [Act.put, List.setIfInBounds_toArray, List.set_cons_zero, List.set_cons_succ]
  refine wpAnyH_take (i := 19) (oi := { dst := some 47, op := Op.pick (Operand.tmp 37) (Operand.tmp 46) (Operand.const (Value.bool false)), type := 4, pos := "law.go:47", after := #[{ on := 9, ground := Ground.data }, { on := 18, ground := Ground.data }], guard := none }) (v := ?_) rfl (by kernel_rfl) (by kernel_rfl) (by kernel_rfl) (fun _ _ _ h => h) (Or.inl ⟨by rfl, ?_⟩) hS2 ?_
  rotate_left
  · (intro W hSw; (try dsimp only at hSw); go_simp; try with_reducible rfl)
  try simp only [Act.put, List.setIfInBounds_toArray, List.set_cons_zero, List.set_cons_succ]
  refine wpAnyH_take (i := 20) (oi := { dst := some 48, op := Op.move (Operand.tmp 47), type := 4, pos := "law.go:47", after := #[{ on := 19, ground := Ground.data }, { on := 16, ground := Ground.chain }], guard := none }) (v := ?_) rfl (by kernel_rfl) (by kernel_rfl) (by kernel_rfl) (fun _ _ _ h => h) (Or.inl ⟨by rfl, ?_⟩) hS2 ?_
  rotate_left
  · (intro W hSw; (try dsimp only at hSw); go_simp; try with_reducible rfl)
  try simp only [Act.put, List.setIfInBounds_toArray, List.set_cons_zero, List.set_cons_succ]
  refine wpAnyH_take (i := 21) (oi := { dst := some 49, op := Op.move (Operand.tmp 0), type := 22, pos := "law.go:47", after := #[{ on := 20, ground := Ground.guard }], guard := some (20, true) }) (v := ?_) rfl (by kernel_rfl) (by kernel_rfl) (by kernel_rfl) (fun _ _ _ h => h) (Or.inl ⟨by rfl, ?_⟩) hS2 ?_
  rotate_left
  · (intro W hSw; (try dsimp only at hSw); go_simp; try with_reducible rfl)
  try simp only [Act.put, List.setIfInBounds_toArray, List.set_cons_zero, List.set_cons_succ]
  refine wpAnyH_take (i := 22) (oi := { dst := some 50, op := Op.move (Operand.tmp 3), type := 23, pos := "law.go:47", after := #[{ on := 20, ground := Ground.guard }], guard := some (20, true) }) (v := ?_) rfl (by kernel_rfl) (by kernel_rfl) (by kernel_rfl) (fun _ _ _ h => h) (Or.inl ⟨by rfl, ?_⟩) hS2 ?_
  rotate_left
  · (intro W hSw; (try dsimp only at hSw); go_simp; try with_reducible rfl)
  try simp only [Act.put, List.setIfInBounds_toArray, List.set_cons_zero, List.set_cons_succ]
  refine wpAnyH_take (i := 25) (oi := { dst := some 53, op := Op.move (Operand.tmp 9), type := 22, pos := "law.go:47", after := #[{ on := 20, ground := Ground.guard }], guard := some (20, true) }) (v := ?_) rfl (by kernel_rfl) (by kernel_rfl) (by kernel_rfl) (fun _ _ _ h => h) (Or.inl ⟨by rfl, ?_⟩) hS2 ?_
  rotate_left
  · (intro W hSw; (try dsimp only at hSw); go_simp; try with_reducible rfl)
  try simp only [Act.put, List.setIfInBounds_toArray, List.set_cons_zero, List.set_cons_succ]
  refine wpAnyH_take (i := 26) (oi := { dst := some 54, op := Op.move (Operand.tmp 3), type := 23, pos := "law.go:47", after := #[{ on := 20, ground := Ground.guard }], guard := some (20, true) }) (v := ?_) rfl (by kernel_rfl) (by kernel_rfl) (by kernel_rfl) (fun _ _ _ h => h) (Or.inl ⟨by rfl, ?_⟩) hS2 ?_
  rotate_left
  · (intro W hSw; (try dsimp only at hSw); go_simp; try with_reducible rfl)
  try simp only [Act.put, List.setIfInBounds_toArray, List.set_cons_zero, List.set_cons_succ]
  refine wpAnyH_ready (rs := [23]) (by kernel_rfl) (by simp) ?_
  refine AllReadyH.cons (o := { dst := some 51, op := Op.call { callee := Callee.value (Operand.func 17), args := #[Operand.tmp 49, Operand.tmp 50], argTypes := #[22, 23] }, type := 22, pos := "law.go:47", after := #[{ on := 21, ground := Ground.data }, { on := 22, ground := Ground.data }, { on := 20, ground := Ground.chain }, { on := 20, ground := Ground.guard }], guard := some (20, true) }) rfl (fun K hK => ?_) AllReadyH.nil
  have GW3 : w.grownBy b2 none := only_step g02 P2 (fun q hq => .inr (by have := hr q hq; omega))
  have HA := (h.only GW3 (Nat.le_refl _) (fun _ h => by cases h)).more GW3.size
  have HL := (hl.only GW3 (Nat.le_refl _) (fun _ h => by cases h)).more GW3.size

  have hc := ints_any A B c d (bs b) l _ HA (bs_one _) (by rw [bs_len]; omega) HL (by omega) HB.out
  rw [bs_len] at hc
  go_simp
  go_at_call 17
  refine hc.mono ?_
  rintro _ a3 ⟨v3, rfl, q3⟩
  dsimp only
  clear hc HA
  have N3 : b2.grownBy a3 none := q3.none rfl
  have R3 : w2.grownBy a3 v0.ownBlock := only_step P2 N3 (fun _ h => by cases h)
  have O3 : a3.ownsRow w1.heap.size 5 1 v0 (bs b).length (bs b) := U2.kept N3 (by cases v0.ownBlock <;> simp)
  have Z3 : b2.heap.size ≤ a3.heap.size := N3.size
  have Y3 : w2.heap.size ≤ b2.heap.size := P2.size
  have own3 := q3.own
  simp only [← bs_append] at own3
  obtain ⟨s3, hs3⟩ : ∃ s3, s3 = strOfNums (b ++ (enc l.length ++ encs l)) := ⟨_, rfl⟩
  have ne3 : v3.ownBlock = none ∨ v3.ownBlock ≠ v0.ownBlock := by
    cases hv : v3.ownBlock with
    | none => exact .inl rfl
    | some g => exact .inr (fun e => by have h1 := (own3.lt g hv).1; have h2 := (hvlt g e.symm).2; omega)
  have C3 : ∀ W : World, a3.grownBy W v0.ownBlock → (convert 22 9 v3).run Try.prog W = .ok (.string s3) W := fun W hW => by
    rw [hs3]; exact conv_own (own3.kept hW ne3)
  have hs3' := Lib.hid hs3
  clear hs3 own3 ne3 q3
  have T1a3 : a1.grownBy a3 v0.ownBlock := only_step T1b2 N3 (fun _ h => by cases h)
  have T2a3 : a2.grownBy a3 v0.ownBlock := only_step T2b2 N3 (fun _ h => by cases h)
  have T3a3 : a3.grownBy a3 v0.ownBlock := only_refl _ _
  refine hK.out _ _ ⟨R3, T1a3, T2a3⟩ (fun _ => ?_)
  clear hK K
  try simp only [Act.put, List.setIfInBounds_toArray, List.set_cons_zero, List.set_cons_succ]
  refine wpAnyH_more (S' := fun W => w2.grownBy W v0.ownBlock ∧ a1.grownBy W v0.ownBlock ∧ a2.grownBy W v0.ownBlock ∧ a3.grownBy W v0.ownBlock) (fun W h => ⟨h.1, h.2.1, h.2.2.1⟩) _ _ _ _ ?_
  have hSa3 : w2.grownBy a3 v0.ownBlock ∧ a1.grownBy a3 v0.ownBlock ∧ a2.grownBy a3 v0.ownBlock ∧ a3.grownBy a3 v0.ownBlock := ⟨R3, T1a3, T2a3, T3a3⟩
  refine wpAnyH_take (i := 24) (oi := { dst := some 52, op := Op.convert 22 9 (Operand.tmp 51), type := 9, pos := "law.go:47", after := #[{ on := 23, ground := Ground.data }, { on := 20, ground := Ground.guard }], guard := some (20, true) }) (v := .string s3) rfl (by kernel_rfl) (by kernel_rfl) (by kernel_rfl) (fun _ _ _ h => h) (Or.inl ⟨by rfl, ?_⟩) hSa3 ?_
  · intro W hSw
    have hcv := C3 W hSw.2.2.2
    go_simp
    try with_reducible rfl
  try simp only [Act.put, List.setIfInBounds_toArray, List.set_cons_zero, List.set_cons_succ]
  refine wpAnyH_ready (rs := [27]) (by kernel_rfl) (by simp) ?_
  refine AllReadyH.cons (o := { dst := some 55, op := Op.call { callee := Callee.value (Operand.func 18), args := #[Operand.tmp 53, Operand.tmp 54], argTypes := #[22, 23] }, type := 22, pos := "law.go:47", after := #[{ on := 25, ground := Ground.data }, { on := 26, ground := Ground.data }, { on := 23, ground := Ground.chain }, { on := 20, ground := Ground.guard }], guard := some (20, true) }) rfl (fun K hK => ?_) AllReadyH.nil
  have HLr : Has a3 w1.heap.size B (is l) := (hl.only (only_step GW3 N3 (fun _ h => by cases h)) (Nat.le_refl _) (fun _ h => by cases h)).more hz1
  have hc := refInts_any w1.heap.size v0 (bs b) B d l _ O3 (by omega) (by rw [bs_len]; omega) HLr (by omega) HB.out
  go_simp
  go_at_call 18
  refine hc.mono ?_
  rintro _ b3 ⟨u3, rfl, p3, U3⟩
  dsimp only
  clear hc
  have M3 : a3.grownBy b3 v0.ownBlock := p3.only
  have V3 := M3.size
  have P3 : w2.grownBy b3 v0.ownBlock := only_step R3 M3 (fun _ h => .inl h)
  have own3 := p3.own
  simp only [← bs_append] at own3
  have hcv : (convert 22 9 u3).run Try.prog b3 = .ok (.string s3) b3 := by rw [hs3'.out]; exact conv_own own3
  clear own3 p3
  have T1b3 : a1.grownBy b3 v0.ownBlock := only_step T1a3 M3 (fun _ h => .inl h)
  have T2b3 : a2.grownBy b3 v0.ownBlock := only_step T2a3 M3 (fun _ h => .inl h)
  have T3b3 : a3.grownBy b3 v0.ownBlock := only_step T3a3 M3 (fun _ h => .inl h)
  refine hK.out _ _ ⟨P3, T1b3, T2b3, T3b3⟩ (fun _ => ?_)
  clear hK K
  try simp only [Act.put, List.setIfInBounds_toArray, List.set_cons_zero, List.set_cons_succ]
  refine wpAnyH_ready (rs := [28]) (by kernel_rfl) (by simp) ?_
  refine AllReadyH.cons (o := { dst := some 56, op := Op.convert 22 9 (Operand.tmp 55), type := 9, pos := "law.go:47", after := #[{ on := 27, ground := Ground.data }, { on := 20, ground := Ground.guard }], guard := some (20, true) }) rfl (fun K hK => ?_) AllReadyH.nil
  go_simp
  refine hK.out _ _ ⟨P3, T1b3, T2b3, T3b3⟩ (fun hS3 => ?_)
  clear hK K hcv
  try simp only [Act.put, List.setIfInBounds_toArray, List.set_cons_zero, List.set_cons_succ]
  refine wpAnyH_take (i := 29) (oi := { dst := some 57, op := Op.binOp BinOp.eql 9 (Operand.tmp 52) (Operand.tmp 56) 9, type := 4, pos := "law.go:47", after := #[{ on := 24, ground := Ground.data }, { on := 28, ground := Ground.data }, { on := 20, ground := Ground.guard }], guard := some (20, true) }) (v := ?_) rfl (by kernel_rfl) (by kernel_rfl) (by kernel_rfl) (fun _ _ _ h => h) (Or.inl ⟨by rfl, ?_⟩) hS3 ?_
  rotate_left
  · (intro W hSw; (try dsimp only at hSw); go_simp; try with_reducible rfl)
  try simp only [Act.put, List.setIfInBounds_toArray, List.set_cons_zero, List.set_cons_succ]
  refine wpAnyH_take (i := 30) (oi := { dst := some 58, op := Op.pick (Operand.tmp 48) (Operand.tmp 57) (Operand.const (Value.bool false)), type := 4, pos := "law.go:47", after := #[{ on := 20, ground := Ground.data }, { on := 29, ground := Ground.data }], guard := none }) (v := ?_) rfl (by kernel_rfl) (by kernel_rfl) (by kernel_rfl) (fun _ _ _ h => h) (Or.inl ⟨by rfl, ?_⟩) hS3 ?_
  rotate_left
  · (intro W hSw; (try dsimp only at hSw); go_simp; try with_reducible rfl)
  try simp only [Act.put, List.setIfInBounds_toArray, List.set_cons_zero, List.set_cons_succ]
  refine wpAnyH_take (i := 31) (oi := { dst := some 8, op := Op.assign (Operand.tmp 58), type := 4, pos := "law.go:47", after := #[{ on := 30, ground := Ground.data }, { on := 27, ground := Ground.chain }, { on := 0, ground := Ground.phase }, { on := 1, ground := Ground.phase }, { on := 2, ground := Ground.phase }, { on := 3, ground := Ground.phase }, { on := 4, ground := Ground.phase }, { on := 5, ground := Ground.phase }, { on := 6, ground := Ground.phase }, { on := 7, ground := Ground.phase }, { on := 8, ground := Ground.phase }, { on := 9, ground := Ground.phase }, { on := 10, ground := Ground.phase }, { on := 11, ground := Ground.phase }, { on := 12, ground := Ground.phase }, { on := 13, ground := Ground.phase }, { on := 14, ground := Ground.phase }, { on := 15, ground := Ground.phase }, { on := 16, ground := Ground.phase }, { on := 17, ground := Ground.phase }, { on := 18, ground := Ground.phase }, { on := 19, ground := Ground.phase }, { on := 20, ground := Ground.phase }, { on := 21, ground := Ground.phase }, { on := 22, ground := Ground.phase }, { on := 23, ground := Ground.phase }, { on := 24, ground := Ground.phase }, { on := 25, ground := Ground.phase }, { on := 26, ground := Ground.phase }, { on := 27, ground := Ground.phase }, { on := 28, ground := Ground.phase }, { on := 29, ground := Ground.phase }, { on := 30, ground := Ground.phase }], guard := none }) (v := ?_) rfl (by kernel_rfl) (by kernel_rfl) (by kernel_rfl) (fun _ _ _ h => h) (Or.inl ⟨by rfl, ?_⟩) hS3 ?_
  rotate_left
  · (intro W hSw; (try dsimp only at hSw); go_simp; try with_reducible rfl)
  try simp only [Act.put, List.setIfInBounds_toArray, List.set_cons_zero, List.set_cons_succ]
  refine wpAnyH_done (by kernel_rfl) ?_ _
  go_wp2_with fail
  go_ret
  exact ⟨rfl, only_step g02 P3 (fun q hq => .inr (by have := hr q hq; omega))⟩
theorem codeWrites_walk (A B : Option Addr) (c d : Nat) (b l : List Int) (s : ByteArray) (n : Int) (w : World) (h : Has w w.heap.size A (bs b)) (hl : Has w w.heap.size B (is l))
    (hbm : b.length ≤ maxLen) (hsm : s.size ≤ maxLen) (hlm : l.length ≤ maxLen) (e1 : -9223372036854775808 ≤ n) (e2 : n ≤ 9223372036854775807) (hb : ∀ n ∈ l, -9223372036854775808 ≤ n ∧ n ≤ 9223372036854775807) :
    Calls Try.prog 3 #[.slice A b.length c, .int .i64 n, .string s, .slice B l.length d] w fun e w' => e = .returned (.bool true) ∧ w.grownBy w' none := by
  unfold maxLen at hbm hsm hlm
  by_cases h1 : b.length ≤ 300
  · have t1 : ¬ (300 : Int) < (b.length : Int) := by omega
    by_cases h2 : s.size ≤ 500
    · have t2 : ¬ (500 : Int) < (s.size : Int) := by omega
      by_cases h3 : l.length ≤ 100
      · exact writes_core A B c d b l s n w h hl h1 h2 h3 e1 e2 hb
      · have t3 : (100 : Int) < (l.length : Int) := by omega
        clear h hl hb
        go_enter Try.func3, Try.ntmps3
        go_wp2_with (go_at_call 12; refine (known_any _).mono ?_; rintro e w1 ⟨rfl, g1⟩)
        go_ret
        exact ⟨rfl, g1⟩
    · have t2 : (500 : Int) < (s.size : Int) := by omega
      clear h hl hb
      go_enter Try.func3, Try.ntmps3
      go_wp2_with (go_at_call 12; refine (known_any _).mono ?_; rintro e w1 ⟨rfl, g1⟩)
      go_ret
      exact ⟨rfl, g1⟩
  · have t1 : (300 : Int) < (b.length : Int) := by omega
    clear h hl hb
    go_enter Try.func3, Try.ntmps3
    go_wp2_with (go_at_call 12; refine (known_any _).mono ?_; rintro e w1 ⟨rfl, g1⟩)
    go_ret
    exact ⟨rfl, g1⟩

end Go.Proofs.Ytjcanlnnadnodaa
