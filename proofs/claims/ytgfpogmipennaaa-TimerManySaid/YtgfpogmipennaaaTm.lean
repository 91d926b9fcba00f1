/- TimerSets: one that is set anew is due at its new time alone; one that is cancelled is due no more. No condition of the program's own. -/
import Derived.Test.YtgfpogmipennaaaTk
namespace Go.Proofs.Ytgfpogmipennaaa
open Go.RowKit Go.Deep
theorem one_set {id a : Int} (h : 0 ≤ id) : setR id [] = 0 ∧ setT id a [] = [(id, a)] := by
  have hr : setR id [] = 0 := by unfold setR; rw [if_neg (by omega), if_pos (.inr (by simp))]
  exact ⟨hr, by unfold setT; rw [if_pos hr]; rfl⟩
theorem one_again {id a b : Int} (h : 0 ≤ id) : setR id [(id, a)] = 0 ∧ setT id b [(id, a)] = [(id, b)] := by
  have hr : setR id [(id, a)] = 0 := by unfold setR; rw [if_neg (by omega), if_pos (.inr (by simp))]
  refine ⟨hr, ?_⟩
  unfold setT
  rw [if_pos hr]
  simp [setS, del, ins]
set_option maxRecDepth 100000 in
set_option maxHeartbeats 1000000 in
theorem timerSets_walk (id a b : Int) (cancel : Bool) (w : World) (i1 : -9223372036854775808 ≤ id) (i2 : id ≤ 9223372036854775807) (a1 : -9223372036854775808 ≤ a) (a2 : a ≤ 9223372036854775807) (b1 : -9223372036854775808 ≤ b) (b2 : b ≤ 9223372036854775807) :
    Calls Try.prog 6 #[.int .i64 id, .int .i64 a, .int .i64 b, .bool cancel] w fun e w' => e = .returned (.bool true) ∧ w.grownBy w' none := by
  have I1 := Lib.hid i1
  have I2 := Lib.hid i2
  have A1 := Lib.hid a1
  have A2 := Lib.hid a2
  have B1 := Lib.hid b1
  have B2 := Lib.hid b2
  clear i1 i2 a1 a2 b1 b2
  go_enter Try.func6, Try.ntmps6
  go_wp2_with fail
  refine (known_any w).mono ?_
  rintro e w1 ⟨rfl, o1⟩
  go_wp2_with fail
  refine (within_any id 1000 I1.out I2.out (by omega) (by omega) w1).mono ?_
  rintro e w2 ⟨rfl, rfl⟩
  go_wp2_with fail
  refine (within_any a 100 A1.out A2.out (by omega) (by omega) w1).mono ?_
  rintro e w2 ⟨rfl, rfl⟩
  go_wp2_with fail
  refine (within_any b 100 B1.out B2.out (by omega) (by omega) w1).mono ?_
  rintro e w2 ⟨rfl, rfl⟩
  obtain ⟨k, hk⟩ : ∃ k, k = id % 1000 := ⟨_, rfl⟩
  obtain ⟨x, hx⟩ : ∃ x, x = a % 100 := ⟨_, rfl⟩
  obtain ⟨y, hy⟩ : ∃ y, y = b % 100 := ⟨_, rfl⟩
  rw [← hk, ← hx, ← hy]
  have k0 : 0 ≤ k := by rw [hk]; exact Int.emod_nonneg _ (by decide)
  have y0 : Hid (0 ≤ y ∧ y < 100) := Lib.hid (by rw [hy]; exact ⟨Int.emod_nonneg _ (by decide), Int.emod_lt_of_pos _ (by decide)⟩)
  clear hk hx hy
  have yw : IntKind.i64.wrap (y - 1) = y - 1 := by have := y0.out; rw [IntKind.wrap_i64]; omega
  have P1 := Lib.hid (one_set (a := x) k0)
  have P2 := Lib.hid (one_again (a := x) (b := y) k0)
  go_wp2_with fail
  refine (at_new o1).mono ?_
  rintro e w2 ⟨B, rfl, T2⟩
  clear o1
  go_wp2_with fail
  refine (at_set T2 (by simp) k x).mono ?_
  rintro e w3 ⟨rfl, T3⟩
  rw [P1.out.2] at T3
  go_wp2_with fail
  refine (at_set T3 (by simp) k y).mono ?_
  rintro e w4 ⟨rfl, T4⟩
  rw [P2.out.2] at T4
  go_wp2_with fail
  refine (at_len T4).mono ?_
  rintro e w5 ⟨rfl, rfl⟩
  have L : ([(k, y)] : List It).length = 1 := rfl
  have d1 : del k [(k, y)] = [] := by simp [del]
  have in1 : isIn k [(k, y)] = true := by simp [isIn]
  cases cancel with
  | true =>
    go_wp2_with fail
    refine (at_cancel T4 (by simp) k).mono ?_
    rintro e w5 ⟨rfl, T5⟩
    rw [d1] at T5
    rw [in1]
    go_wp2_with fail
    refine (at_cancel T5 (by simp) k).mono ?_
    rintro e w6 ⟨rfl, T6⟩
    rw [show isIn k [] = false by rfl]
    have T6 : At w w6 B [] := T6
    go_wp2_with fail
    refine (at_next T6).mono ?_
    rintro e w7 ⟨rfl, T7⟩
    go_wp2_with fail
    refine (at_len T7).mono ?_
    rintro e w8 ⟨rfl, rfl⟩
    go_wp2_with fail
    refine (at_due T7 (by simp) 1000 (l := []) (C := []) rfl rfl).mono ?_
    rintro e w8 ⟨X, c, rfl, r8, T8, o8⟩
    go_wp2_with fail
    go_ret
    exact ⟨rfl, T8.end⟩
  | false =>
    have due1 : ([(k, y)] : List It).takeWhile (isDue (y - 1)) = [] ∧ ([(k, y)] : List It).dropWhile (isDue (y - 1)) = [(k, y)] := by
      have : isDue (y - 1) (k, y) = false := by unfold isDue; rw [decide_eq_false_iff_not]; show ¬ y ≤ y - 1; omega
      simp [this]
    have due2 : ([(k, y)] : List It).takeWhile (isDue y) = [(k, y)] ∧ ([(k, y)] : List It).dropWhile (isDue y) = [] := by
      have : isDue y (k, y) = true := by unfold isDue; rw [decide_eq_true_iff]; exact Int.le_refl _
      simp [this]
    have D1 := Lib.hid due1
    have D2 := Lib.hid due2
    clear due1 due2
    go_wp2_with fail
    refine (at_next T4).mono ?_
    rintro e w5 ⟨rfl, T5⟩
    go_wp2_with fail
    refine (at_due T5 (by simp) (y - 1) (l := []) (C := [(k, y)]) (by rw [D1.out.1]; rfl) D1.out.2).mono ?_
    rintro e w6 ⟨X6, c6, rfl, r6, T6, o6⟩
    go_wp2_with fail
    refine (at_due T6 (by simp) y (l := [k]) (C := []) (by rw [D2.out.1]; rfl) D2.out.2).mono ?_
    rintro e w7 ⟨X7, c7, rfl, r7, T7, o7⟩
    obtain ⟨g, c, hX, _, _, hc⟩ := row_form r7 (by simp)
    injection hX with h1 h2 h3
    subst h1; subst h3
    have c0 := hc 0 k rfl
    clear hc r7 r6
    go_wp2_with fail
    refine (at_due T7 (by simp) 1000 (l := []) (C := []) rfl rfl).mono ?_
    rintro e w8 ⟨X8, c8, rfl, r8, T8, o8⟩
    go_wp2_with fail
    go_ret
    exact ⟨rfl, T8.end⟩
end Go.Proofs.Ytgfpogmipennaaa
