/- JournalBad. No condition of the program's own. -/
import Derived.Test.YtpfahfakinonnaaDoorJq
import Derived.Deep.RegionHeld3
namespace Go.Proofs.YtpfahfakinonnaaDoor
open Go.RowKit Go.Deep
theorem conv_own {w : World} {base : Nat} {v : Value} {l : List Int} {n : Nat} (h : w.ownsRow base 5 1 v n (bs l)) : (convert 33 9 v).run Tryd.prog w = .ok (.string (strOfNums l)) w := by
  obtain ⟨A, c, rfl⟩ := own_slice h
  have hn : n = l.length := by have := h.1; rw [bs_len] at this; omega
  subst hn
  exact conv_string (Has.own h) c
def jb1 (z : List Int) : DS := { L := [], S := z, sy := 0, rm := 10000, st := 0, sn := 1, op := 1, dd := false }
def jb2 (z t : List Int) : DS := { L := t, S := z, sy := 0, rm := 10000, st := 0, sn := 2, op := 2, dd := false }
theorem jb_ok0 : Ok (newS 10000) :=
  ⟨by simp [newS], by simp [newS], by simp [newS], by constructor <;> simp [newS], by simp [newS], by simp [newS], by simp [newS]⟩
theorem jb_ok1 (z : List Int) (h : z.length ≤ 200) : Ok (jb1 z) :=
  ⟨by simp [jb1], by simp [jb1]; omega, by simp [jb1], by constructor <;> simp [jb1], by simp [jb1], by simp [jb1], by simp [jb1]⟩
theorem jb_swap (z : List Int) (h : z.length ≤ 200) : swapS (newS 10000) z = jb1 z := by
  have h1 : ¬ (10000 : Int) < z.length := by omega
  simp [swapS, newS, doneB, goes, spendS, keepS, jb1, spO, h1]
theorem jb_append (z t : List Int) (h : z.length ≤ 200) (h2 : t.length ≤ 100) : appendS (jb1 z) t = jb2 z t := by
  have h1 : ¬ (10000 : Int) < (z.length : Int) + t.length := by omega
  simp [appendS, goes, spendS, jb1, jb2, spO, h1]
set_option maxRecDepth 100000 in
set_option maxHeartbeats 2000000 in
theorem jb_run (A A1 : Option Addr) (c c1 : Nat) (z t : List Int) (w : World) (hA : Has w w.heap.size A (bs z)) (hB : Has w w.heap.size A1 (bs t)) (bz : ∀ x ∈ z, 0 ≤ x ∧ x ≤ 255) (hc : z.length ≤ c) (h0 : 0 < z.length) (h1 : z.length ≤ 200) (h2 : t.length ≤ 100) (hT : Tab w) :
    Calls Tryd.prog 6 #[.slice A z.length c, .slice A1 t.length c1] w fun e w' => e = .returned (.bool true) ∧ w.grownBy w' none := by
  have KN := Lib.hid (known_any w hT)
  have t0 : ((z.length : Int) == 0) = false := by rw [beq_eq_false_iff_ne]; omega
  have t1 : ¬ (200 : Int) < z.length := by omega
  have t2 : ¬ (100 : Int) < t.length := by omega
  go_enter Tryd.func6, Tryd.ntmps6
  go_wp2_with fail
  refine KN.out.mono ?_
  rintro _ w0 ⟨rfl, g0⟩
  have hA0 := Lib.hid (hA.only g0 (Nat.le_refl _) (fun _ h => by cases h))
  have hB0 := Lib.hid (hB.only g0 (Nat.le_refl _) (fun _ h => by cases h))
  have z0 := g0.size
  have T0 := Lib.hid (hT.grow g0)
  go_wp2_with fail
  refine (rone_any A c z w0 (hA0.out.more z0) bz (by omega) hc).mono ?_
  rintro _ w1 ⟨s, rfl, _, g1⟩
  have g01 := only_step g0 g1 (fun _ hk => .inl hk)
  have z1 := g1.size
  have T1 := Lib.hid (T0.out.grow g1)
  have hA1 := Lib.hid (hA0.out.only g1 z0 (fun _ h => by cases h))
  have hB1 := Lib.hid (hB0.out.only g1 z0 (fun _ h => by cases h))
  by_cases ho : oneE z = 0
  · rw [ho]
    clear hA hB T1 T0 hT KN
    go_wp2_with fail
    go_ret
    exact ⟨rfl, g01⟩
  · have hob : (oneE z == 0) = false := by rw [beq_eq_false_iff_ne]; exact ho
    have NW := Lib.hid (new_any w1.heap.size 10000 w1 (by decide) (by decide) (Nat.le_refl _))
    go_wp2_with fail
    refine NW.out.mono ?_
    rintro _ w2 ⟨g, rfl, D2, g2⟩
    have z2 := g2.size
    have T2 := Lib.hid (T1.out.grow g2)
    have hB2 := Lib.hid (hB1.out.only g2 (by omega) (fun _ h => by cases h))
    have hA2 := Lib.hid (hA1.out.only g2 (by omega) (fun _ h => by cases h))
    have gB := D2.lt
    go_wp2_with fail
    refine (swap_any w1.heap.size g _ A c z w2 D2 jb_ok0 (fun W hW => (hA2.out.only hW (by omega) (fun k hk => by cases hk; omega)).more (by have := hW.size; omega)) (by omega)).mono ?_
    rintro _ w3 ⟨rfl, D3, g3⟩
    rw [jb_swap z h1] at D3
    have z3 := g3.size
    have G13 : w1.grownBy w3 none := only_step g2 g3 (fun k hk => by cases hk; right; omega)
    have T3 := Lib.hid (T1.out.grow G13)
    have hA3 := Lib.hid (hA1.out.only G13 (by omega) (fun _ h => by cases h))
    have hB3 := Lib.hid (hB1.out.only G13 (by omega) (fun _ h => by cases h))
    go_wp2_with fail
    refine (append_any w1.heap.size g _ A1 c1 t w3 D3 (jb_ok1 z h1) (hB3.out.more (by omega)) (by omega)).mono ?_
    rintro _ w4 ⟨rfl, D4, b4⟩
    rw [jb_append z t h1 h2] at D4
    have G14 : w1.grownBy w4 none := below_only ((only_below G13).trans b4)
    have T4 := Lib.hid (T1.out.grow G14)
    have z4 := G14.size
    go_wp2_with fail
    refine (open_bad w1.heap.size g (jb2 z t) w4 D4 rfl bz h0 (by show z.length ≤ _; omega) T4.out ho).mono ?_
    rintro _ w5 ⟨rfl, g5⟩
    have D5 := Lib.hid (D4.below g5)
    have z5 := g5.size
    have G15 : w1.grownBy w5 none := only_step G14 g5 (fun _ hk => .inl hk)
    have hA5 := Lib.hid (hA1.out.only G15 (by omega) (fun _ h => by cases h))
    have hB5 := Lib.hid (hB1.out.only G15 (by omega) (fun _ h => by cases h))
    have gd : w5.grownBy w5.drew none := only_drew (only_refl w5 none)
    have D5d : Dk w5.drew w1.heap.size g (jb2 z t) := D5.out.below gd
    have hA5d := hA5.out.only gd (by omega) (fun _ h => by cases h)
    have hB5d := hB5.out.only gd (by omega) (fun _ h => by cases h)
    have z5d : w.heap.size ≤ w5.drew.heap.size := show w.heap.size ≤ w5.heap.size by omega
    have CA : ∀ W, w5.drew.grownBy W none → (convert 33 9 (.slice A z.length c)).run Tryd.prog W = .ok (.string (strOfNums z)) W := fun W hW => conv_string (hA5d.only hW z5d (fun _ h => by cases h)) c
    have CB : ∀ W, w5.drew.grownBy W none → (convert 33 9 (.slice A1 t.length c1)).run Tryd.prog W = .ok (.string (strOfNums t)) W := fun W hW => conv_string (hB5d.only hW z5d (fun _ h => by cases h)) c1
    have LG : Hid (∀ (W : World) (hW : w5.drew.grownBy W none), Calls Tryd.prog 25 #[.pointer (some ⟨g, 0, none⟩)] W fun e w' => (∃ v, e = .returned v ∧ (convert 33 9 v).run Tryd.prog w' = .ok (.string (strOfNums t)) w') ∧ w5.drew.grownBy w' none) := fun W hW =>
      (log_any w1.heap.size g _ W (D5d.below hW) (by show t.length ≤ _; omega)).mono fun _ _ ⟨⟨v, he, ho⟩, hg⟩ => ⟨⟨v, he, conv_own ho⟩, only_step hW hg (fun _ hk => .inl hk)⟩
    have SN : Hid (∀ (W : World) (hW : w5.drew.grownBy W none), Calls Tryd.prog 26 #[.pointer (some ⟨g, 0, none⟩)] W fun e w' => (∃ v, e = .returned v ∧ (convert 33 9 v).run Tryd.prog w' = .ok (.string (strOfNums z)) w') ∧ w5.drew.grownBy w' none) := fun W hW =>
      (snap_any w1.heap.size g _ W (D5d.below hW) (by show z.length ≤ _; omega)).mono fun _ _ ⟨⟨v, he, ho⟩, hg⟩ => ⟨⟨v, he, conv_own ho⟩, only_step hW hg (fun _ hk => .inl hk)⟩
    have G05 : w.grownBy w5.drew none := only_step (only_step g01 G15 (fun _ hk => .inl hk)) gd (fun _ hk => .inl hk)
    have S0 := And.intro (CA _ (only_refl _ _)) (CB _ (only_refl _ _))
    have CA := Lib.hid CA
    have CB := Lib.hid CB
    clear hA hB hA0 hB0 hA1 hB1 hA2 hB2 hA3 hB3 T0 T1 T2 T3 T4 D2 D3 D4 G13 G14 G15 g2 g3 b4 g5 NW KN hT D5 hA5 hB5 D5d hA5d hB5d
    go_wp2_with fail
    refine wp_region_held_drew (S := fun V => (convert 33 9 (.slice A z.length c)).run Tryd.prog V = .ok (.string (strOfNums z)) V ∧ (convert 33 9 (.slice A1 t.length c1)).run Tryd.prog V = .ok (.string (strOfNums t)) V) (by kernel_rfl) S0 (fun hHeld => ?_)
    refine wpAnyH_take (i := 0) (oi := { dst := some 52, op := Op.move (Operand.tmp 12), type := 26, pos := "more.go:56", after := #[], guard := none }) (v := ?_) rfl (by kernel_rfl) (by kernel_rfl) (by kernel_rfl) (fun _ _ _ h => h) (Or.inl ⟨by rfl, ?_⟩) hHeld ?_
    rotate_left
    · (intro W hSw; (try dsimp only at hSw); go_simp; try with_reducible rfl)
    try simp only [Act.put, List.setIfInBounds_toArray, List.set_cons_zero, List.set_cons_succ]
    refine wpAnyH_take (i := 1) (oi := { dst := some 53, op := Op.binOp BinOp.eql 26 (Operand.tmp 52) (Operand.const (Value.int IntKind.i64 10)) 26, type := 4, pos := "more.go:56", after := #[{ on := 0, ground := Ground.data }], guard := none }) (v := ?_) rfl (by kernel_rfl) (by kernel_rfl) (by kernel_rfl) (fun _ _ _ h => h) (Or.inl ⟨by rfl, ?_⟩) hHeld ?_
    rotate_left
    · (intro W hSw; (try dsimp only at hSw); go_simp; try with_reducible rfl)
    try simp only [Act.put, List.setIfInBounds_toArray, List.set_cons_zero, List.set_cons_succ]
    refine wpAnyH_take (i := 2) (oi := { dst := some 54, op := Op.move (Operand.tmp 53), type := 4, pos := "more.go:56", after := #[{ on := 1, ground := Ground.data }], guard := none }) (v := ?_) rfl (by kernel_rfl) (by kernel_rfl) (by kernel_rfl) (fun _ _ _ h => h) (Or.inl ⟨by rfl, ?_⟩) hHeld ?_
    rotate_left
    · (intro W hSw; (try dsimp only at hSw); go_simp; try with_reducible rfl)
    try simp only [Act.put, List.setIfInBounds_toArray, List.set_cons_zero, List.set_cons_succ]
    refine wpAnyH_take (i := 3) (oi := { dst := some 55, op := Op.move (Operand.tmp 9), type := 32, pos := "more.go:56", after := #[{ on := 2, ground := Ground.guard }], guard := some (2, true) }) (v := ?_) rfl (by kernel_rfl) (by kernel_rfl) (by kernel_rfl) (fun _ _ _ h => h) (Or.inl ⟨by rfl, ?_⟩) hHeld ?_
    rotate_left
    · (intro W hSw; (try dsimp only at hSw); go_simp; try with_reducible rfl)
    try simp only [Act.put, List.setIfInBounds_toArray, List.set_cons_zero, List.set_cons_succ]
    refine wpAnyH_take (i := 4) (oi := { dst := some 56, op := Op.binOp BinOp.eql 32 (Operand.tmp 55) (Operand.const (Value.pointer none)) 32, type := 4, pos := "more.go:56", after := #[{ on := 3, ground := Ground.data }, { on := 2, ground := Ground.guard }], guard := some (2, true) }) (v := ?_) rfl (by kernel_rfl) (by kernel_rfl) (by kernel_rfl) (fun _ _ _ h => h) (Or.inl ⟨by rfl, ?_⟩) hHeld ?_
    rotate_left
    · (intro W hSw; (try dsimp only at hSw); go_simp; try with_reducible rfl)
    try simp only [Act.put, List.setIfInBounds_toArray, List.set_cons_zero, List.set_cons_succ]
    refine wpAnyH_take (i := 5) (oi := { dst := some 57, op := Op.pick (Operand.tmp 54) (Operand.tmp 56) (Operand.const (Value.bool false)), type := 4, pos := "more.go:56", after := #[{ on := 2, ground := Ground.data }, { on := 4, ground := Ground.data }], guard := none }) (v := ?_) rfl (by kernel_rfl) (by kernel_rfl) (by kernel_rfl) (fun _ _ _ h => h) (Or.inl ⟨by rfl, ?_⟩) hHeld ?_
    rotate_left
    · (intro W hSw; (try dsimp only at hSw); go_simp; try with_reducible rfl)
    try simp only [Act.put, List.setIfInBounds_toArray, List.set_cons_zero, List.set_cons_succ]
    refine wpAnyH_take (i := 6) (oi := { dst := some 58, op := Op.move (Operand.tmp 57), type := 4, pos := "more.go:56", after := #[{ on := 5, ground := Ground.data }, { on := 2, ground := Ground.chain }], guard := none }) (v := ?_) rfl (by kernel_rfl) (by kernel_rfl) (by kernel_rfl) (fun _ _ _ h => h) (Or.inl ⟨by rfl, ?_⟩) hHeld ?_
    rotate_left
    · (intro W hSw; (try dsimp only at hSw); go_simp; try with_reducible rfl)
    try simp only [Act.put, List.setIfInBounds_toArray, List.set_cons_zero, List.set_cons_succ]
    refine wpAnyH_take (i := 7) (oi := { dst := some 59, op := Op.move (Operand.tmp 10), type := 33, pos := "more.go:56", after := #[{ on := 6, ground := Ground.guard }], guard := some (6, true) }) (v := ?_) rfl (by kernel_rfl) (by kernel_rfl) (by kernel_rfl) (fun _ _ _ h => h) (Or.inl ⟨by rfl, ?_⟩) hHeld ?_
    rotate_left
    · (intro W hSw; (try dsimp only at hSw); go_simp; try with_reducible rfl)
    try simp only [Act.put, List.setIfInBounds_toArray, List.set_cons_zero, List.set_cons_succ]
    refine wpAnyH_take (i := 8) (oi := { dst := some 60, op := Op.call { callee := Callee.builtin Builtin.len, args := #[Operand.tmp 59], argTypes := #[33] }, type := 3, pos := "more.go:56", after := #[{ on := 7, ground := Ground.data }, { on := 6, ground := Ground.guard }], guard := some (6, true) }) (v := ?_) rfl (by kernel_rfl) (by kernel_rfl) (by kernel_rfl) (fun _ _ _ h => h) (Or.inl ⟨by rfl, ?_⟩) hHeld ?_
    rotate_left
    · (intro W hSw; (try dsimp only at hSw); go_simp; try with_reducible rfl)
    try simp only [Act.put, List.setIfInBounds_toArray, List.set_cons_zero, List.set_cons_succ]
    refine wpAnyH_take (i := 9) (oi := { dst := some 61, op := Op.binOp BinOp.eql 3 (Operand.tmp 60) (Operand.const (Value.int IntKind.i64 0)) 3, type := 4, pos := "more.go:56", after := #[{ on := 8, ground := Ground.data }, { on := 6, ground := Ground.guard }], guard := some (6, true) }) (v := ?_) rfl (by kernel_rfl) (by kernel_rfl) (by kernel_rfl) (fun _ _ _ h => h) (Or.inl ⟨by rfl, ?_⟩) hHeld ?_
    rotate_left
    · (intro W hSw; (try dsimp only at hSw); go_simp; try with_reducible rfl)
    try simp only [Act.put, List.setIfInBounds_toArray, List.set_cons_zero, List.set_cons_succ]
    refine wpAnyH_take (i := 10) (oi := { dst := some 62, op := Op.pick (Operand.tmp 58) (Operand.tmp 61) (Operand.const (Value.bool false)), type := 4, pos := "more.go:56", after := #[{ on := 6, ground := Ground.data }, { on := 9, ground := Ground.data }], guard := none }) (v := ?_) rfl (by kernel_rfl) (by kernel_rfl) (by kernel_rfl) (fun _ _ _ h => h) (Or.inl ⟨by rfl, ?_⟩) hHeld ?_
    rotate_left
    · (intro W hSw; (try dsimp only at hSw); go_simp; try with_reducible rfl)
    try simp only [Act.put, List.setIfInBounds_toArray, List.set_cons_zero, List.set_cons_succ]
    refine wpAnyH_take (i := 11) (oi := { dst := some 63, op := Op.move (Operand.tmp 62), type := 4, pos := "more.go:56", after := #[{ on := 10, ground := Ground.data }, { on := 6, ground := Ground.chain }], guard := none }) (v := ?_) rfl (by kernel_rfl) (by kernel_rfl) (by kernel_rfl) (fun _ _ _ h => h) (Or.inl ⟨by rfl, ?_⟩) hHeld ?_
    rotate_left
    · (intro W hSw; (try dsimp only at hSw); go_simp; try with_reducible rfl)
    try simp only [Act.put, List.setIfInBounds_toArray, List.set_cons_zero, List.set_cons_succ]
    refine wpAnyH_take (i := 12) (oi := { dst := some 64, op := Op.move (Operand.tmp 11), type := 34, pos := "more.go:56", after := #[{ on := 11, ground := Ground.guard }], guard := some (11, true) }) (v := ?_) rfl (by kernel_rfl) (by kernel_rfl) (by kernel_rfl) (fun _ _ _ h => h) (Or.inl ⟨by rfl, ?_⟩) hHeld ?_
    rotate_left
    · (intro W hSw; (try dsimp only at hSw); go_simp; try with_reducible rfl)
    try simp only [Act.put, List.setIfInBounds_toArray, List.set_cons_zero, List.set_cons_succ]
    refine wpAnyH_take (i := 13) (oi := { dst := some 65, op := Op.call { callee := Callee.builtin Builtin.len, args := #[Operand.tmp 64], argTypes := #[34] }, type := 3, pos := "more.go:56", after := #[{ on := 12, ground := Ground.data }, { on := 11, ground := Ground.guard }], guard := some (11, true) }) (v := ?_) rfl (by kernel_rfl) (by kernel_rfl) (by kernel_rfl) (fun _ _ _ h => h) (Or.inl ⟨by rfl, ?_⟩) hHeld ?_
    rotate_left
    · (intro W hSw; (try dsimp only at hSw); go_simp; try with_reducible rfl)
    try simp only [Act.put, List.setIfInBounds_toArray, List.set_cons_zero, List.set_cons_succ]
    refine wpAnyH_take (i := 14) (oi := { dst := some 66, op := Op.binOp BinOp.eql 3 (Operand.tmp 65) (Operand.const (Value.int IntKind.i64 0)) 3, type := 4, pos := "more.go:56", after := #[{ on := 13, ground := Ground.data }, { on := 11, ground := Ground.guard }], guard := some (11, true) }) (v := ?_) rfl (by kernel_rfl) (by kernel_rfl) (by kernel_rfl) (fun _ _ _ h => h) (Or.inl ⟨by rfl, ?_⟩) hHeld ?_
    rotate_left
    · (intro W hSw; (try dsimp only at hSw); go_simp; try with_reducible rfl)
    try simp only [Act.put, List.setIfInBounds_toArray, List.set_cons_zero, List.set_cons_succ]
    refine wpAnyH_take (i := 15) (oi := { dst := some 67, op := Op.pick (Operand.tmp 63) (Operand.tmp 66) (Operand.const (Value.bool false)), type := 4, pos := "more.go:56", after := #[{ on := 11, ground := Ground.data }, { on := 14, ground := Ground.data }], guard := none }) (v := ?_) rfl (by kernel_rfl) (by kernel_rfl) (by kernel_rfl) (fun _ _ _ h => h) (Or.inl ⟨by rfl, ?_⟩) hHeld ?_
    rotate_left
    · (intro W hSw; (try dsimp only at hSw); go_simp; try with_reducible rfl)
    try simp only [Act.put, List.setIfInBounds_toArray, List.set_cons_zero, List.set_cons_succ]
    refine wpAnyH_take (i := 16) (oi := { dst := some 68, op := Op.move (Operand.tmp 67), type := 4, pos := "more.go:56", after := #[{ on := 15, ground := Ground.data }, { on := 11, ground := Ground.chain }], guard := none }) (v := ?_) rfl (by kernel_rfl) (by kernel_rfl) (by kernel_rfl) (fun _ _ _ h => h) (Or.inl ⟨by rfl, ?_⟩) hHeld ?_
    rotate_left
    · (intro W hSw; (try dsimp only at hSw); go_simp; try with_reducible rfl)
    try simp only [Act.put, List.setIfInBounds_toArray, List.set_cons_zero, List.set_cons_succ]
    refine wpAnyH_take (i := 17) (oi := { dst := some 69, op := Op.move (Operand.tmp 7), type := 25, pos := "more.go:56", after := #[{ on := 16, ground := Ground.guard }], guard := some (16, true) }) (v := ?_) rfl (by kernel_rfl) (by kernel_rfl) (by kernel_rfl) (fun _ _ _ h => h) (Or.inl ⟨by rfl, ?_⟩) hHeld ?_
    rotate_left
    · (intro W hSw; (try dsimp only at hSw); go_simp; try with_reducible rfl)
    try simp only [Act.put, List.setIfInBounds_toArray, List.set_cons_zero, List.set_cons_succ]
    refine wpAnyH_take (i := 20) (oi := { dst := some 72, op := Op.move (Operand.tmp 1), type := 33, pos := "more.go:56", after := #[{ on := 16, ground := Ground.guard }], guard := some (16, true) }) (v := ?_) rfl (by kernel_rfl) (by kernel_rfl) (by kernel_rfl) (fun _ _ _ h => h) (Or.inl ⟨by rfl, ?_⟩) hHeld ?_
    rotate_left
    · (intro W hSw; (try dsimp only at hSw); go_simp; try with_reducible rfl)
    try simp only [Act.put, List.setIfInBounds_toArray, List.set_cons_zero, List.set_cons_succ]
    refine wpAnyH_take (i := 21) (oi := { dst := some 73, op := Op.convert 33 9 (Operand.tmp 72), type := 9, pos := "more.go:56", after := #[{ on := 20, ground := Ground.data }, { on := 16, ground := Ground.guard }], guard := some (16, true) }) (v := ?_) rfl (by kernel_rfl) (by kernel_rfl) (by kernel_rfl) (fun _ _ _ h => h) (Or.inl ⟨by rfl, ?_⟩) hHeld ?_
    rotate_left
    · (intro W hSw; (try dsimp only at hSw); obtain ⟨hS1, hS2⟩ := hSw; go_simp; try with_reducible rfl)
    try simp only [Act.put, List.setIfInBounds_toArray, List.set_cons_zero, List.set_cons_succ]
    refine wpAnyH_ready (rs := [18]) (by kernel_rfl) (by simp) ?_
    refine AllReadyH.cons (o := { dst := some 70, op := Op.call { callee := Callee.value (Operand.func 25), args := #[Operand.tmp 69], argTypes := #[25] }, type := 33, pos := "more.go:56", after := #[{ on := 17, ground := Ground.data }, { on := 16, ground := Ground.chain }, { on := 16, ground := Ground.guard }], guard := some (16, true) }) rfl (fun K hK => ?_) AllReadyH.nil
    go_simp
    go_at_call 25
    refine (LG.out _ (only_refl _ _)).mono ?_
    rintro _ w6 ⟨⟨v6, rfl, cv6⟩, g6⟩
    have S6 := And.intro (CA.out _ g6) (CB.out _ g6)
    dsimp only
    refine hK.out _ _ S6 (fun hHeld2 => ?_)
    clear hK K
    try simp only [Act.put, List.setIfInBounds_toArray, List.set_cons_zero, List.set_cons_succ]
    refine wpAnyH_ready (rs := [19]) (by kernel_rfl) (by simp) ?_
    refine AllReadyH.cons (o := { dst := some 71, op := Op.convert 33 9 (Operand.tmp 70), type := 9, pos := "more.go:56", after := #[{ on := 18, ground := Ground.data }, { on := 16, ground := Ground.guard }], guard := some (16, true) }) rfl (fun K hK => ?_) AllReadyH.nil
    go_simp
    refine hK.out _ _ S6 (fun hHeld3 => ?_)
    clear hK K
    try simp only [Act.put, List.setIfInBounds_toArray, List.set_cons_zero, List.set_cons_succ]
    refine wpAnyH_take (i := 22) (oi := { dst := some 74, op := Op.binOp BinOp.eql 9 (Operand.tmp 71) (Operand.tmp 73) 9, type := 4, pos := "more.go:56", after := #[{ on := 19, ground := Ground.data }, { on := 21, ground := Ground.data }, { on := 16, ground := Ground.guard }], guard := some (16, true) }) (v := ?_) rfl (by kernel_rfl) (by kernel_rfl) (by kernel_rfl) (fun _ _ _ h => h) (Or.inl ⟨by rfl, ?_⟩) hHeld3 ?_
    rotate_left
    · (intro W hSw; (try dsimp only at hSw); go_simp; try with_reducible rfl)
    try simp only [Act.put, List.setIfInBounds_toArray, List.set_cons_zero, List.set_cons_succ]
    refine wpAnyH_take (i := 23) (oi := { dst := some 75, op := Op.pick (Operand.tmp 68) (Operand.tmp 74) (Operand.const (Value.bool false)), type := 4, pos := "more.go:56", after := #[{ on := 16, ground := Ground.data }, { on := 22, ground := Ground.data }], guard := none }) (v := ?_) rfl (by kernel_rfl) (by kernel_rfl) (by kernel_rfl) (fun _ _ _ h => h) (Or.inl ⟨by rfl, ?_⟩) hHeld3 ?_
    rotate_left
    · (intro W hSw; (try dsimp only at hSw); go_simp; try with_reducible rfl)
    try simp only [Act.put, List.setIfInBounds_toArray, List.set_cons_zero, List.set_cons_succ]
    refine wpAnyH_take (i := 24) (oi := { dst := some 76, op := Op.move (Operand.tmp 75), type := 4, pos := "more.go:56", after := #[{ on := 23, ground := Ground.data }, { on := 18, ground := Ground.chain }], guard := none }) (v := ?_) rfl (by kernel_rfl) (by kernel_rfl) (by kernel_rfl) (fun _ _ _ h => h) (Or.inl ⟨by rfl, ?_⟩) hHeld3 ?_
    rotate_left
    · (intro W hSw; (try dsimp only at hSw); go_simp; try with_reducible rfl)
    try simp only [Act.put, List.setIfInBounds_toArray, List.set_cons_zero, List.set_cons_succ]
    refine wpAnyH_take (i := 25) (oi := { dst := some 77, op := Op.move (Operand.tmp 7), type := 25, pos := "more.go:56", after := #[{ on := 24, ground := Ground.guard }], guard := some (24, true) }) (v := ?_) rfl (by kernel_rfl) (by kernel_rfl) (by kernel_rfl) (fun _ _ _ h => h) (Or.inl ⟨by rfl, ?_⟩) hHeld3 ?_
    rotate_left
    · (intro W hSw; (try dsimp only at hSw); go_simp; try with_reducible rfl)
    try simp only [Act.put, List.setIfInBounds_toArray, List.set_cons_zero, List.set_cons_succ]
    refine wpAnyH_take (i := 28) (oi := { dst := some 80, op := Op.move (Operand.tmp 0), type := 33, pos := "more.go:56", after := #[{ on := 24, ground := Ground.guard }], guard := some (24, true) }) (v := ?_) rfl (by kernel_rfl) (by kernel_rfl) (by kernel_rfl) (fun _ _ _ h => h) (Or.inl ⟨by rfl, ?_⟩) hHeld3 ?_
    rotate_left
    · (intro W hSw; (try dsimp only at hSw); go_simp; try with_reducible rfl)
    try simp only [Act.put, List.setIfInBounds_toArray, List.set_cons_zero, List.set_cons_succ]
    refine wpAnyH_take (i := 29) (oi := { dst := some 81, op := Op.convert 33 9 (Operand.tmp 80), type := 9, pos := "more.go:56", after := #[{ on := 28, ground := Ground.data }, { on := 24, ground := Ground.guard }], guard := some (24, true) }) (v := ?_) rfl (by kernel_rfl) (by kernel_rfl) (by kernel_rfl) (fun _ _ _ h => h) (Or.inl ⟨by rfl, ?_⟩) hHeld3 ?_
    rotate_left
    · (intro W hSw; (try dsimp only at hSw); obtain ⟨hS1, hS2⟩ := hSw; go_simp; try with_reducible rfl)
    try simp only [Act.put, List.setIfInBounds_toArray, List.set_cons_zero, List.set_cons_succ]
    refine wpAnyH_ready (rs := [26]) (by kernel_rfl) (by simp) ?_
    refine AllReadyH.cons (o := { dst := some 78, op := Op.call { callee := Callee.value (Operand.func 26), args := #[Operand.tmp 77], argTypes := #[25] }, type := 33, pos := "more.go:56", after := #[{ on := 25, ground := Ground.data }, { on := 24, ground := Ground.chain }, { on := 24, ground := Ground.guard }], guard := some (24, true) }) rfl (fun K hK => ?_) AllReadyH.nil
    go_simp
    go_at_call 26
    refine (SN.out _ g6).mono ?_
    rintro _ w7 ⟨⟨v7, rfl, cv7⟩, g7⟩
    have S7 := And.intro (CA.out _ g7) (CB.out _ g7)
    dsimp only
    refine hK.out _ _ S7 (fun hHeld4 => ?_)
    clear hK K
    try simp only [Act.put, List.setIfInBounds_toArray, List.set_cons_zero, List.set_cons_succ]
    refine wpAnyH_ready (rs := [27]) (by kernel_rfl) (by simp) ?_
    refine AllReadyH.cons (o := { dst := some 79, op := Op.convert 33 9 (Operand.tmp 78), type := 9, pos := "more.go:56", after := #[{ on := 26, ground := Ground.data }, { on := 24, ground := Ground.guard }], guard := some (24, true) }) rfl (fun K hK => ?_) AllReadyH.nil
    go_simp
    refine hK.out _ _ S7 (fun hHeld5 => ?_)
    clear hK K
    try simp only [Act.put, List.setIfInBounds_toArray, List.set_cons_zero, List.set_cons_succ]
    refine wpAnyH_take (i := 30) (oi := { dst := some 82, op := Op.binOp BinOp.eql 9 (Operand.tmp 79) (Operand.tmp 81) 9, type := 4, pos := "more.go:56", after := #[{ on := 27, ground := Ground.data }, { on := 29, ground := Ground.data }, { on := 24, ground := Ground.guard }], guard := some (24, true) }) (v := ?_) rfl (by kernel_rfl) (by kernel_rfl) (by kernel_rfl) (fun _ _ _ h => h) (Or.inl ⟨by rfl, ?_⟩) hHeld5 ?_
    rotate_left
    · (intro W hSw; (try dsimp only at hSw); go_simp; try with_reducible rfl)
    try simp only [Act.put, List.setIfInBounds_toArray, List.set_cons_zero, List.set_cons_succ]
    refine wpAnyH_take (i := 31) (oi := { dst := some 83, op := Op.pick (Operand.tmp 76) (Operand.tmp 82) (Operand.const (Value.bool false)), type := 4, pos := "more.go:56", after := #[{ on := 24, ground := Ground.data }, { on := 30, ground := Ground.data }], guard := none }) (v := ?_) rfl (by kernel_rfl) (by kernel_rfl) (by kernel_rfl) (fun _ _ _ h => h) (Or.inl ⟨by rfl, ?_⟩) hHeld5 ?_
    rotate_left
    · (intro W hSw; (try dsimp only at hSw); go_simp; try with_reducible rfl)
    try simp only [Act.put, List.setIfInBounds_toArray, List.set_cons_zero, List.set_cons_succ]
    refine wpAnyH_take (i := 32) (oi := { dst := some 4, op := Op.assign (Operand.tmp 83), type := 4, pos := "more.go:56", after := #[{ on := 31, ground := Ground.data }, { on := 26, ground := Ground.chain }, { on := 0, ground := Ground.phase }, { on := 1, ground := Ground.phase }, { on := 2, ground := Ground.phase }, { on := 3, ground := Ground.phase }, { on := 4, ground := Ground.phase }, { on := 5, ground := Ground.phase }, { on := 6, ground := Ground.phase }, { on := 7, ground := Ground.phase }, { on := 8, ground := Ground.phase }, { on := 9, ground := Ground.phase }, { on := 10, ground := Ground.phase }, { on := 11, ground := Ground.phase }, { on := 12, ground := Ground.phase }, { on := 13, ground := Ground.phase }, { on := 14, ground := Ground.phase }, { on := 15, ground := Ground.phase }, { on := 16, ground := Ground.phase }, { on := 17, ground := Ground.phase }, { on := 18, ground := Ground.phase }, { on := 19, ground := Ground.phase }, { on := 20, ground := Ground.phase }, { on := 21, ground := Ground.phase }, { on := 22, ground := Ground.phase }, { on := 23, ground := Ground.phase }, { on := 24, ground := Ground.phase }, { on := 25, ground := Ground.phase }, { on := 26, ground := Ground.phase }, { on := 27, ground := Ground.phase }, { on := 28, ground := Ground.phase }, { on := 29, ground := Ground.phase }, { on := 30, ground := Ground.phase }, { on := 31, ground := Ground.phase }], guard := none }) (v := ?_) rfl (by kernel_rfl) (by kernel_rfl) (by kernel_rfl) (fun _ _ _ h => h) (Or.inl ⟨by rfl, ?_⟩) hHeld5 ?_
    rotate_left
    · (intro W hSw; (try dsimp only at hSw); go_simp; try with_reducible rfl)
    try simp only [Act.put, List.setIfInBounds_toArray, List.set_cons_zero, List.set_cons_succ]
    refine wpAnyH_done (by kernel_rfl) ?_ _
    go_wp2_with fail
    go_ret
    exact ⟨by simp, only_step G05 g7 (fun _ hk => .inl hk)⟩
end Go.Proofs.YtpfahfakinonnaaDoor
