/- The walk of OpsRows: it returns true for every input. No condition. -/
import Derived.Test.YtcmpeohooiehcaaOwi
namespace Go.Proofs.Ytcmpeohooiehcaa
open Go.RowKit Go.Deep

set_option maxRecDepth 100000 in
theorem rows_0_0 (a n : Int) (w : World) (a1 : -9223372036854775808 ≤ a) (a2 : a ≤ 9223372036854775807) (n1 : -9223372036854775808 ≤ n) (n2 : n ≤ 9223372036854775807) (ha : a % 9 = 0) (hn : n % 4 = 0) :
    Calls Try.prog 6 #[.int .i64 a, .int .i64 n] w fun e w' => e = .returned (.bool true) ∧ w.grownBy w' none := by
  have HW : ∀ W, Hid (Calls Try.prog 15 #[.int .i64 n, .int .i64 4] W fun e w' => e = .returned (.int .i64 0) ∧ W = w') := fun W => by rw [← hn]; exact within_any n 4 n1 n2 (by omega) (by omega) W
  have HA : ∀ W, Hid (Calls Try.prog 15 #[.int .i64 a, .int .i64 9] W fun e w' => e = .returned (.int .i64 0) ∧ W = w') := fun W => by rw [← ha]; exact within_any a 9 a1 a2 (by omega) (by omega) W
  clear ha hn a1 a2 n1 n2
  go_enter Try.func6, Try.ntmps6
  go_wp2_with fail
  refine (known_any _).mono ?_
  rintro _ w1 ⟨rfl, g1⟩
  go_wp2_with fail
  refine (HW _).out.mono ?_
  rintro _ w2 ⟨rfl, rfl⟩
  go_wp2_with fail
  refine (HA _).out.mono ?_
  rintro _ w2 ⟨rfl, rfl⟩
  go_wp2_with fail
  refine (check_any _ _ _ _ _ 4 _ _ _ _ _ _ _ (by decide) _).mono ?_
  rintro _ w3 ⟨rfl, g3⟩
  generalize hc : checkP _ _ _ _ _ _ _ _ _ _ = r
  obtain rfl : r = 0 := by rw [← hc]; decide
  go_wp2_with fail
  go_ret
  exact ⟨rfl, only_step g1 (only_step (only_alloc (World.grownBy_alloc w1 _ none) _) g3 (fun _ h => by cases h)) (fun _ h => by cases h)⟩

set_option maxRecDepth 100000 in
theorem rows_0_1 (a n : Int) (w : World) (a1 : -9223372036854775808 ≤ a) (a2 : a ≤ 9223372036854775807) (n1 : -9223372036854775808 ≤ n) (n2 : n ≤ 9223372036854775807) (ha : a % 9 = 0) (hn : n % 4 = 1) :
    Calls Try.prog 6 #[.int .i64 a, .int .i64 n] w fun e w' => e = .returned (.bool true) ∧ w.grownBy w' none := by
  have HW : ∀ W, Hid (Calls Try.prog 15 #[.int .i64 n, .int .i64 4] W fun e w' => e = .returned (.int .i64 1) ∧ W = w') := fun W => by rw [← hn]; exact within_any n 4 n1 n2 (by omega) (by omega) W
  have HA : ∀ W, Hid (Calls Try.prog 15 #[.int .i64 a, .int .i64 9] W fun e w' => e = .returned (.int .i64 0) ∧ W = w') := fun W => by rw [← ha]; exact within_any a 9 a1 a2 (by omega) (by omega) W
  clear ha hn a1 a2 n1 n2
  go_enter Try.func6, Try.ntmps6
  go_wp2_with fail
  refine (known_any _).mono ?_
  rintro _ w1 ⟨rfl, g1⟩
  go_wp2_with fail
  refine (HW _).out.mono ?_
  rintro _ w2 ⟨rfl, rfl⟩
  go_wp2_with fail
  refine (HA _).out.mono ?_
  rintro _ w2 ⟨rfl, rfl⟩
  go_wp2_with fail
  refine (check_any _ _ _ _ _ 4 _ _ _ _ _ _ _ (by decide) _).mono ?_
  rintro _ w3 ⟨rfl, g3⟩
  generalize hc : checkP _ _ _ _ _ _ _ _ _ _ = r
  obtain rfl : r = 0 := by rw [← hc]; decide
  go_wp2_with fail
  go_ret
  exact ⟨rfl, only_step g1 (only_step (only_alloc (World.grownBy_alloc w1 _ none) _) g3 (fun _ h => by cases h)) (fun _ h => by cases h)⟩

set_option maxRecDepth 100000 in
theorem rows_0_2 (a n : Int) (w : World) (a1 : -9223372036854775808 ≤ a) (a2 : a ≤ 9223372036854775807) (n1 : -9223372036854775808 ≤ n) (n2 : n ≤ 9223372036854775807) (ha : a % 9 = 0) (hn : n % 4 = 2) :
    Calls Try.prog 6 #[.int .i64 a, .int .i64 n] w fun e w' => e = .returned (.bool true) ∧ w.grownBy w' none := by
  have HW : ∀ W, Hid (Calls Try.prog 15 #[.int .i64 n, .int .i64 4] W fun e w' => e = .returned (.int .i64 2) ∧ W = w') := fun W => by rw [← hn]; exact within_any n 4 n1 n2 (by omega) (by omega) W
  have HA : ∀ W, Hid (Calls Try.prog 15 #[.int .i64 a, .int .i64 9] W fun e w' => e = .returned (.int .i64 0) ∧ W = w') := fun W => by rw [← ha]; exact within_any a 9 a1 a2 (by omega) (by omega) W
  clear ha hn a1 a2 n1 n2
  go_enter Try.func6, Try.ntmps6
  go_wp2_with fail
  refine (known_any _).mono ?_
  rintro _ w1 ⟨rfl, g1⟩
  go_wp2_with fail
  refine (HW _).out.mono ?_
  rintro _ w2 ⟨rfl, rfl⟩
  go_wp2_with fail
  refine (HA _).out.mono ?_
  rintro _ w2 ⟨rfl, rfl⟩
  go_wp2_with fail
  refine (check_any _ _ _ _ _ 4 _ _ _ _ _ _ _ (by decide) _).mono ?_
  rintro _ w3 ⟨rfl, g3⟩
  generalize hc : checkP _ _ _ _ _ _ _ _ _ _ = r
  obtain rfl : r = 1 := by rw [← hc]; decide
  go_wp2_with fail
  go_ret
  exact ⟨rfl, only_step g1 (only_step (only_alloc (World.grownBy_alloc w1 _ none) _) g3 (fun _ h => by cases h)) (fun _ h => by cases h)⟩

set_option maxRecDepth 100000 in
theorem rows_0_3 (a n : Int) (w : World) (a1 : -9223372036854775808 ≤ a) (a2 : a ≤ 9223372036854775807) (n1 : -9223372036854775808 ≤ n) (n2 : n ≤ 9223372036854775807) (ha : a % 9 = 0) (hn : n % 4 = 3) :
    Calls Try.prog 6 #[.int .i64 a, .int .i64 n] w fun e w' => e = .returned (.bool true) ∧ w.grownBy w' none := by
  have HW : ∀ W, Hid (Calls Try.prog 15 #[.int .i64 n, .int .i64 4] W fun e w' => e = .returned (.int .i64 3) ∧ W = w') := fun W => by rw [← hn]; exact within_any n 4 n1 n2 (by omega) (by omega) W
  have HA : ∀ W, Hid (Calls Try.prog 15 #[.int .i64 a, .int .i64 9] W fun e w' => e = .returned (.int .i64 0) ∧ W = w') := fun W => by rw [← ha]; exact within_any a 9 a1 a2 (by omega) (by omega) W
  clear ha hn a1 a2 n1 n2
  go_enter Try.func6, Try.ntmps6
  go_wp2_with fail
  refine (known_any _).mono ?_
  rintro _ w1 ⟨rfl, g1⟩
  go_wp2_with fail
  refine (HW _).out.mono ?_
  rintro _ w2 ⟨rfl, rfl⟩
  go_wp2_with fail
  refine (HA _).out.mono ?_
  rintro _ w2 ⟨rfl, rfl⟩
  go_wp2_with fail
  refine (check_any _ _ _ _ _ 4 _ _ _ _ _ _ _ (by decide) _).mono ?_
  rintro _ w3 ⟨rfl, g3⟩
  generalize hc : checkP _ _ _ _ _ _ _ _ _ _ = r
  obtain rfl : r = 1 := by rw [← hc]; decide
  go_wp2_with fail
  go_ret
  exact ⟨rfl, only_step g1 (only_step (only_alloc (World.grownBy_alloc w1 _ none) _) g3 (fun _ h => by cases h)) (fun _ h => by cases h)⟩

set_option maxRecDepth 100000 in
theorem rows_1_0 (a n : Int) (w : World) (a1 : -9223372036854775808 ≤ a) (a2 : a ≤ 9223372036854775807) (n1 : -9223372036854775808 ≤ n) (n2 : n ≤ 9223372036854775807) (ha : a % 9 = 1) (hn : n % 4 = 0) :
    Calls Try.prog 6 #[.int .i64 a, .int .i64 n] w fun e w' => e = .returned (.bool true) ∧ w.grownBy w' none := by
  have HW : ∀ W, Hid (Calls Try.prog 15 #[.int .i64 n, .int .i64 4] W fun e w' => e = .returned (.int .i64 0) ∧ W = w') := fun W => by rw [← hn]; exact within_any n 4 n1 n2 (by omega) (by omega) W
  have HA : ∀ W, Hid (Calls Try.prog 15 #[.int .i64 a, .int .i64 9] W fun e w' => e = .returned (.int .i64 1) ∧ W = w') := fun W => by rw [← ha]; exact within_any a 9 a1 a2 (by omega) (by omega) W
  clear ha hn a1 a2 n1 n2
  go_enter Try.func6, Try.ntmps6
  go_wp2_with fail
  refine (known_any _).mono ?_
  rintro _ w1 ⟨rfl, g1⟩
  go_wp2_with fail
  refine (HW _).out.mono ?_
  rintro _ w2 ⟨rfl, rfl⟩
  go_wp2_with fail
  refine (HA _).out.mono ?_
  rintro _ w2 ⟨rfl, rfl⟩
  go_wp2_with fail
  refine (check_any _ _ _ _ _ 4 _ _ _ _ _ _ _ (by decide) _).mono ?_
  rintro _ w3 ⟨rfl, g3⟩
  generalize hc : checkP _ _ _ _ _ _ _ _ _ _ = r
  obtain rfl : r = 0 := by rw [← hc]; decide
  go_wp2_with fail
  go_ret
  exact ⟨rfl, only_step g1 (only_step (only_alloc (World.grownBy_alloc w1 _ none) _) g3 (fun _ h => by cases h)) (fun _ h => by cases h)⟩

set_option maxRecDepth 100000 in
theorem rows_1_1 (a n : Int) (w : World) (a1 : -9223372036854775808 ≤ a) (a2 : a ≤ 9223372036854775807) (n1 : -9223372036854775808 ≤ n) (n2 : n ≤ 9223372036854775807) (ha : a % 9 = 1) (hn : n % 4 = 1) :
    Calls Try.prog 6 #[.int .i64 a, .int .i64 n] w fun e w' => e = .returned (.bool true) ∧ w.grownBy w' none := by
  have HW : ∀ W, Hid (Calls Try.prog 15 #[.int .i64 n, .int .i64 4] W fun e w' => e = .returned (.int .i64 1) ∧ W = w') := fun W => by rw [← hn]; exact within_any n 4 n1 n2 (by omega) (by omega) W
  have HA : ∀ W, Hid (Calls Try.prog 15 #[.int .i64 a, .int .i64 9] W fun e w' => e = .returned (.int .i64 1) ∧ W = w') := fun W => by rw [← ha]; exact within_any a 9 a1 a2 (by omega) (by omega) W
  clear ha hn a1 a2 n1 n2
  go_enter Try.func6, Try.ntmps6
  go_wp2_with fail
  refine (known_any _).mono ?_
  rintro _ w1 ⟨rfl, g1⟩
  go_wp2_with fail
  refine (HW _).out.mono ?_
  rintro _ w2 ⟨rfl, rfl⟩
  go_wp2_with fail
  refine (HA _).out.mono ?_
  rintro _ w2 ⟨rfl, rfl⟩
  go_wp2_with fail
  refine (check_any _ _ _ _ _ 4 _ _ _ _ _ _ _ (by decide) _).mono ?_
  rintro _ w3 ⟨rfl, g3⟩
  generalize hc : checkP _ _ _ _ _ _ _ _ _ _ = r
  obtain rfl : r = 0 := by rw [← hc]; decide
  go_wp2_with fail
  go_ret
  exact ⟨rfl, only_step g1 (only_step (only_alloc (World.grownBy_alloc w1 _ none) _) g3 (fun _ h => by cases h)) (fun _ h => by cases h)⟩

set_option maxRecDepth 100000 in
theorem rows_1_2 (a n : Int) (w : World) (a1 : -9223372036854775808 ≤ a) (a2 : a ≤ 9223372036854775807) (n1 : -9223372036854775808 ≤ n) (n2 : n ≤ 9223372036854775807) (ha : a % 9 = 1) (hn : n % 4 = 2) :
    Calls Try.prog 6 #[.int .i64 a, .int .i64 n] w fun e w' => e = .returned (.bool true) ∧ w.grownBy w' none := by
  have HW : ∀ W, Hid (Calls Try.prog 15 #[.int .i64 n, .int .i64 4] W fun e w' => e = .returned (.int .i64 2) ∧ W = w') := fun W => by rw [← hn]; exact within_any n 4 n1 n2 (by omega) (by omega) W
  have HA : ∀ W, Hid (Calls Try.prog 15 #[.int .i64 a, .int .i64 9] W fun e w' => e = .returned (.int .i64 1) ∧ W = w') := fun W => by rw [← ha]; exact within_any a 9 a1 a2 (by omega) (by omega) W
  clear ha hn a1 a2 n1 n2
  go_enter Try.func6, Try.ntmps6
  go_wp2_with fail
  refine (known_any _).mono ?_
  rintro _ w1 ⟨rfl, g1⟩
  go_wp2_with fail
  refine (HW _).out.mono ?_
  rintro _ w2 ⟨rfl, rfl⟩
  go_wp2_with fail
  refine (HA _).out.mono ?_
  rintro _ w2 ⟨rfl, rfl⟩
  go_wp2_with fail
  refine (check_any _ _ _ _ _ 4 _ _ _ _ _ _ _ (by decide) _).mono ?_
  rintro _ w3 ⟨rfl, g3⟩
  generalize hc : checkP _ _ _ _ _ _ _ _ _ _ = r
  obtain rfl : r = 1 := by rw [← hc]; decide
  go_wp2_with fail
  go_ret
  exact ⟨rfl, only_step g1 (only_step (only_alloc (World.grownBy_alloc w1 _ none) _) g3 (fun _ h => by cases h)) (fun _ h => by cases h)⟩

set_option maxRecDepth 100000 in
theorem rows_1_3 (a n : Int) (w : World) (a1 : -9223372036854775808 ≤ a) (a2 : a ≤ 9223372036854775807) (n1 : -9223372036854775808 ≤ n) (n2 : n ≤ 9223372036854775807) (ha : a % 9 = 1) (hn : n % 4 = 3) :
    Calls Try.prog 6 #[.int .i64 a, .int .i64 n] w fun e w' => e = .returned (.bool true) ∧ w.grownBy w' none := by
  have HW : ∀ W, Hid (Calls Try.prog 15 #[.int .i64 n, .int .i64 4] W fun e w' => e = .returned (.int .i64 3) ∧ W = w') := fun W => by rw [← hn]; exact within_any n 4 n1 n2 (by omega) (by omega) W
  have HA : ∀ W, Hid (Calls Try.prog 15 #[.int .i64 a, .int .i64 9] W fun e w' => e = .returned (.int .i64 1) ∧ W = w') := fun W => by rw [← ha]; exact within_any a 9 a1 a2 (by omega) (by omega) W
  clear ha hn a1 a2 n1 n2
  go_enter Try.func6, Try.ntmps6
  go_wp2_with fail
  refine (known_any _).mono ?_
  rintro _ w1 ⟨rfl, g1⟩
  go_wp2_with fail
  refine (HW _).out.mono ?_
  rintro _ w2 ⟨rfl, rfl⟩
  go_wp2_with fail
  refine (HA _).out.mono ?_
  rintro _ w2 ⟨rfl, rfl⟩
  go_wp2_with fail
  refine (check_any _ _ _ _ _ 4 _ _ _ _ _ _ _ (by decide) _).mono ?_
  rintro _ w3 ⟨rfl, g3⟩
  generalize hc : checkP _ _ _ _ _ _ _ _ _ _ = r
  obtain rfl : r = 1 := by rw [← hc]; decide
  go_wp2_with fail
  go_ret
  exact ⟨rfl, only_step g1 (only_step (only_alloc (World.grownBy_alloc w1 _ none) _) g3 (fun _ h => by cases h)) (fun _ h => by cases h)⟩

set_option maxRecDepth 100000 in
theorem rows_2_0 (a n : Int) (w : World) (a1 : -9223372036854775808 ≤ a) (a2 : a ≤ 9223372036854775807) (n1 : -9223372036854775808 ≤ n) (n2 : n ≤ 9223372036854775807) (ha : a % 9 = 2) (hn : n % 4 = 0) :
    Calls Try.prog 6 #[.int .i64 a, .int .i64 n] w fun e w' => e = .returned (.bool true) ∧ w.grownBy w' none := by
  have HW : ∀ W, Hid (Calls Try.prog 15 #[.int .i64 n, .int .i64 4] W fun e w' => e = .returned (.int .i64 0) ∧ W = w') := fun W => by rw [← hn]; exact within_any n 4 n1 n2 (by omega) (by omega) W
  have HA : ∀ W, Hid (Calls Try.prog 15 #[.int .i64 a, .int .i64 9] W fun e w' => e = .returned (.int .i64 2) ∧ W = w') := fun W => by rw [← ha]; exact within_any a 9 a1 a2 (by omega) (by omega) W
  clear ha hn a1 a2 n1 n2
  go_enter Try.func6, Try.ntmps6
  go_wp2_with fail
  refine (known_any _).mono ?_
  rintro _ w1 ⟨rfl, g1⟩
  go_wp2_with fail
  refine (HW _).out.mono ?_
  rintro _ w2 ⟨rfl, rfl⟩
  go_wp2_with fail
  refine (HA _).out.mono ?_
  rintro _ w2 ⟨rfl, rfl⟩
  go_wp2_with fail
  refine (check_any _ _ _ _ _ 4 _ _ _ _ _ _ _ (by decide) _).mono ?_
  rintro _ w3 ⟨rfl, g3⟩
  generalize hc : checkP _ _ _ _ _ _ _ _ _ _ = r
  obtain rfl : r = 0 := by rw [← hc]; decide
  go_wp2_with fail
  go_ret
  exact ⟨rfl, only_step g1 (only_step (only_alloc (World.grownBy_alloc w1 _ none) _) g3 (fun _ h => by cases h)) (fun _ h => by cases h)⟩

set_option maxRecDepth 100000 in
theorem rows_2_1 (a n : Int) (w : World) (a1 : -9223372036854775808 ≤ a) (a2 : a ≤ 9223372036854775807) (n1 : -9223372036854775808 ≤ n) (n2 : n ≤ 9223372036854775807) (ha : a % 9 = 2) (hn : n % 4 = 1) :
    Calls Try.prog 6 #[.int .i64 a, .int .i64 n] w fun e w' => e = .returned (.bool true) ∧ w.grownBy w' none := by
  have HW : ∀ W, Hid (Calls Try.prog 15 #[.int .i64 n, .int .i64 4] W fun e w' => e = .returned (.int .i64 1) ∧ W = w') := fun W => by rw [← hn]; exact within_any n 4 n1 n2 (by omega) (by omega) W
  have HA : ∀ W, Hid (Calls Try.prog 15 #[.int .i64 a, .int .i64 9] W fun e w' => e = .returned (.int .i64 2) ∧ W = w') := fun W => by rw [← ha]; exact within_any a 9 a1 a2 (by omega) (by omega) W
  clear ha hn a1 a2 n1 n2
  go_enter Try.func6, Try.ntmps6
  go_wp2_with fail
  refine (known_any _).mono ?_
  rintro _ w1 ⟨rfl, g1⟩
  go_wp2_with fail
  refine (HW _).out.mono ?_
  rintro _ w2 ⟨rfl, rfl⟩
  go_wp2_with fail
  refine (HA _).out.mono ?_
  rintro _ w2 ⟨rfl, rfl⟩
  go_wp2_with fail
  refine (check_any _ _ _ _ _ 4 _ _ _ _ _ _ _ (by decide) _).mono ?_
  rintro _ w3 ⟨rfl, g3⟩
  generalize hc : checkP _ _ _ _ _ _ _ _ _ _ = r
  obtain rfl : r = 0 := by rw [← hc]; decide
  go_wp2_with fail
  go_ret
  exact ⟨rfl, only_step g1 (only_step (only_alloc (World.grownBy_alloc w1 _ none) _) g3 (fun _ h => by cases h)) (fun _ h => by cases h)⟩

set_option maxRecDepth 100000 in
theorem rows_2_2 (a n : Int) (w : World) (a1 : -9223372036854775808 ≤ a) (a2 : a ≤ 9223372036854775807) (n1 : -9223372036854775808 ≤ n) (n2 : n ≤ 9223372036854775807) (ha : a % 9 = 2) (hn : n % 4 = 2) :
    Calls Try.prog 6 #[.int .i64 a, .int .i64 n] w fun e w' => e = .returned (.bool true) ∧ w.grownBy w' none := by
  have HW : ∀ W, Hid (Calls Try.prog 15 #[.int .i64 n, .int .i64 4] W fun e w' => e = .returned (.int .i64 2) ∧ W = w') := fun W => by rw [← hn]; exact within_any n 4 n1 n2 (by omega) (by omega) W
  have HA : ∀ W, Hid (Calls Try.prog 15 #[.int .i64 a, .int .i64 9] W fun e w' => e = .returned (.int .i64 2) ∧ W = w') := fun W => by rw [← ha]; exact within_any a 9 a1 a2 (by omega) (by omega) W
  clear ha hn a1 a2 n1 n2
  go_enter Try.func6, Try.ntmps6
  go_wp2_with fail
  refine (known_any _).mono ?_
  rintro _ w1 ⟨rfl, g1⟩
  go_wp2_with fail
  refine (HW _).out.mono ?_
  rintro _ w2 ⟨rfl, rfl⟩
  go_wp2_with fail
  refine (HA _).out.mono ?_
  rintro _ w2 ⟨rfl, rfl⟩
  go_wp2_with fail
  refine (check_any _ _ _ _ _ 4 _ _ _ _ _ _ _ (by decide) _).mono ?_
  rintro _ w3 ⟨rfl, g3⟩
  generalize hc : checkP _ _ _ _ _ _ _ _ _ _ = r
  obtain rfl : r = 1 := by rw [← hc]; decide
  go_wp2_with fail
  go_ret
  exact ⟨rfl, only_step g1 (only_step (only_alloc (World.grownBy_alloc w1 _ none) _) g3 (fun _ h => by cases h)) (fun _ h => by cases h)⟩

set_option maxRecDepth 100000 in
theorem rows_2_3 (a n : Int) (w : World) (a1 : -9223372036854775808 ≤ a) (a2 : a ≤ 9223372036854775807) (n1 : -9223372036854775808 ≤ n) (n2 : n ≤ 9223372036854775807) (ha : a % 9 = 2) (hn : n % 4 = 3) :
    Calls Try.prog 6 #[.int .i64 a, .int .i64 n] w fun e w' => e = .returned (.bool true) ∧ w.grownBy w' none := by
  have HW : ∀ W, Hid (Calls Try.prog 15 #[.int .i64 n, .int .i64 4] W fun e w' => e = .returned (.int .i64 3) ∧ W = w') := fun W => by rw [← hn]; exact within_any n 4 n1 n2 (by omega) (by omega) W
  have HA : ∀ W, Hid (Calls Try.prog 15 #[.int .i64 a, .int .i64 9] W fun e w' => e = .returned (.int .i64 2) ∧ W = w') := fun W => by rw [← ha]; exact within_any a 9 a1 a2 (by omega) (by omega) W
  clear ha hn a1 a2 n1 n2
  go_enter Try.func6, Try.ntmps6
  go_wp2_with fail
  refine (known_any _).mono ?_
  rintro _ w1 ⟨rfl, g1⟩
  go_wp2_with fail
  refine (HW _).out.mono ?_
  rintro _ w2 ⟨rfl, rfl⟩
  go_wp2_with fail
  refine (HA _).out.mono ?_
  rintro _ w2 ⟨rfl, rfl⟩
  go_wp2_with fail
  refine (check_any _ _ _ _ _ 4 _ _ _ _ _ _ _ (by decide) _).mono ?_
  rintro _ w3 ⟨rfl, g3⟩
  generalize hc : checkP _ _ _ _ _ _ _ _ _ _ = r
  obtain rfl : r = 1 := by rw [← hc]; decide
  go_wp2_with fail
  go_ret
  exact ⟨rfl, only_step g1 (only_step (only_alloc (World.grownBy_alloc w1 _ none) _) g3 (fun _ h => by cases h)) (fun _ h => by cases h)⟩

end Go.Proofs.Ytcmpeohooiehcaa
