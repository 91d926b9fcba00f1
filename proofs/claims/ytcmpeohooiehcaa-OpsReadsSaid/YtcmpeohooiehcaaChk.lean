/- Contracts of ops.checkKind for all kinds but the remove, and of ops.Check. No condition of the program's own. -/
import Derived.Test.YtcmpeohooiehcaaPl
namespace Go.Proofs.Ytcmpeohooiehcaa
open Go.RowKit Go.Deep

theorem str_empty (s : ByteArray) (h : s.size = 0) : (s.toList == ([] : List UInt8)) = true := by
  rw [ByteArray.toList_eq, beq_iff_eq]
  exact List.eq_nil_of_length_eq_zero (by simpa using h)
theorem str_some (s : ByteArray) (h : s.size ≠ 0) : (s.toList == ([] : List UInt8)) = false := by
  rw [ByteArray.toList_eq, beq_eq_false_iff_ne]
  intro e
  have := congrArg List.length e
  exact h (by simpa using this)

set_option maxRecDepth 100000 in
theorem knd5_ok (d e s coll ver n time : Int) (key text : ByteArray) (A : Option Addr) (len c : Nat) (w : World) (h : 0 ≤ n ∧ n ≤ 999) :
    Calls Try.prog 28 #[.agg #[.int .i64 d, .int .i64 e, .int .i64 s, .int .i64 coll, .int .i64 ver, .int .i64 5, .string key, .string text, .int .i64 n, .int .i64 time, .slice A len c]] w fun e' w' => e' = .returned (.int .i64 0) ∧ w.grownBy w' none := by
  have H := Lib.hid h
  clear h
  go_enter Try.func28, Try.ntmps28
  go_wp2_with fail
  refine (wn_is n 0 999 true (iff_yes H.out) _).mono ?_
  rintro _ w1 ⟨rfl, rfl⟩
  go_wp2_with fail
  go_ret
  exact ⟨rfl, World.grownBy_alloc w _ none⟩

set_option maxRecDepth 100000 in
theorem knd5_no (d e s coll ver n time : Int) (key text : ByteArray) (A : Option Addr) (len c : Nat) (w : World) (h : ¬ (0 ≤ n ∧ n ≤ 999)) :
    Calls Try.prog 28 #[.agg #[.int .i64 d, .int .i64 e, .int .i64 s, .int .i64 coll, .int .i64 ver, .int .i64 5, .string key, .string text, .int .i64 n, .int .i64 time, .slice A len c]] w fun e' w' => e' = .returned (.int .i64 11) ∧ w.grownBy w' none := by
  have H := Lib.hid h
  clear h
  go_enter Try.func28, Try.ntmps28
  go_wp2_with fail
  refine (wn_is n 0 999 false (iff_not H.out) _).mono ?_
  rintro _ w1 ⟨rfl, rfl⟩
  go_wp2_with fail
  go_ret
  exact ⟨rfl, World.grownBy_alloc w _ none⟩

set_option maxRecDepth 100000 in
theorem knd1_ok (d e s coll ver n time : Int) (key text : ByteArray) (A : Option Addr) (len c : Nat) (w : World) (h0 : key.size ≠ 0) :
    Calls Try.prog 28 #[.agg #[.int .i64 d, .int .i64 e, .int .i64 s, .int .i64 coll, .int .i64 ver, .int .i64 1, .string key, .string text, .int .i64 n, .int .i64 time, .slice A len c]] w fun e' w' => e' = .returned (.int .i64 0) ∧ w.grownBy w' none := by
  have hk : (key.toList == ([] : List UInt8)) = false := str_some key h0
  clear h0
  go_enter Try.func28, Try.ntmps28
  go_wp2_with fail
  go_ret
  exact ⟨rfl, World.grownBy_alloc w _ none⟩

set_option maxRecDepth 100000 in
theorem knd1_no (d e s coll ver n time : Int) (key text : ByteArray) (A : Option Addr) (len c : Nat) (w : World) (h0 : key.size = 0) :
    Calls Try.prog 28 #[.agg #[.int .i64 d, .int .i64 e, .int .i64 s, .int .i64 coll, .int .i64 ver, .int .i64 1, .string key, .string text, .int .i64 n, .int .i64 time, .slice A len c]] w fun e' w' => e' = .returned (.int .i64 1) ∧ w.grownBy w' none := by
  have hk : (key.toList == ([] : List UInt8)) = true := str_empty key h0
  clear h0
  go_enter Try.func28, Try.ntmps28
  go_wp2_with fail
  go_ret
  exact ⟨rfl, World.grownBy_alloc w _ none⟩

set_option maxRecDepth 100000 in
theorem knd2_ok (d e s coll ver n time : Int) (key text : ByteArray) (A : Option Addr) (len c : Nat) (w : World) (h0 : key.size ≠ 0) :
    Calls Try.prog 28 #[.agg #[.int .i64 d, .int .i64 e, .int .i64 s, .int .i64 coll, .int .i64 ver, .int .i64 2, .string key, .string text, .int .i64 n, .int .i64 time, .slice A len c]] w fun e' w' => e' = .returned (.int .i64 0) ∧ w.grownBy w' none := by
  have hk : (key.toList == ([] : List UInt8)) = false := str_some key h0
  clear h0
  go_enter Try.func28, Try.ntmps28
  go_wp2_with fail
  go_ret
  exact ⟨rfl, World.grownBy_alloc w _ none⟩

set_option maxRecDepth 100000 in
theorem knd2_no (d e s coll ver n time : Int) (key text : ByteArray) (A : Option Addr) (len c : Nat) (w : World) (h0 : key.size = 0) :
    Calls Try.prog 28 #[.agg #[.int .i64 d, .int .i64 e, .int .i64 s, .int .i64 coll, .int .i64 ver, .int .i64 2, .string key, .string text, .int .i64 n, .int .i64 time, .slice A len c]] w fun e' w' => e' = .returned (.int .i64 1) ∧ w.grownBy w' none := by
  have hk : (key.toList == ([] : List UInt8)) = true := str_empty key h0
  clear h0
  go_enter Try.func28, Try.ntmps28
  go_wp2_with fail
  go_ret
  exact ⟨rfl, World.grownBy_alloc w _ none⟩

set_option maxRecDepth 100000 in
theorem knd4_no (d e s coll ver n time : Int) (key text : ByteArray) (A : Option Addr) (len c : Nat) (w : World) (h0 : key.size = 0) :
    Calls Try.prog 28 #[.agg #[.int .i64 d, .int .i64 e, .int .i64 s, .int .i64 coll, .int .i64 ver, .int .i64 4, .string key, .string text, .int .i64 n, .int .i64 time, .slice A len c]] w fun e' w' => e' = .returned (.int .i64 1) ∧ w.grownBy w' none := by
  have hk : (key.toList == ([] : List UInt8)) = true := str_empty key h0
  clear h0
  go_enter Try.func28, Try.ntmps28
  go_wp2_with fail
  go_ret
  exact ⟨rfl, World.grownBy_alloc w _ none⟩

set_option maxRecDepth 100000 in
theorem knd4_zero (d e s coll ver n time : Int) (key text : ByteArray) (A : Option Addr) (len c : Nat) (w : World) (h0 : key.size ≠ 0) (h : n = 0) :
    Calls Try.prog 28 #[.agg #[.int .i64 d, .int .i64 e, .int .i64 s, .int .i64 coll, .int .i64 ver, .int .i64 4, .string key, .string text, .int .i64 n, .int .i64 time, .slice A len c]] w fun e' w' => e' = .returned (.int .i64 11) ∧ w.grownBy w' none := by
  have hk : (key.toList == ([] : List UInt8)) = false := str_some key h0
  clear h0
  subst h
  go_enter Try.func28, Try.ntmps28
  go_wp2_with fail
  go_ret
  exact ⟨rfl, World.grownBy_alloc w _ none⟩

set_option maxRecDepth 100000 in
theorem knd4_over (d e s coll ver n time : Int) (key text : ByteArray) (A : Option Addr) (len c : Nat) (w : World) (h0 : key.size ≠ 0) (hn : n ≠ 0) (h : ¬ (-1099511627776 ≤ n ∧ n ≤ 1099511627776)) :
    Calls Try.prog 28 #[.agg #[.int .i64 d, .int .i64 e, .int .i64 s, .int .i64 coll, .int .i64 ver, .int .i64 4, .string key, .string text, .int .i64 n, .int .i64 time, .slice A len c]] w fun e' w' => e' = .returned (.int .i64 11) ∧ w.grownBy w' none := by
  have hk : (key.toList == ([] : List UInt8)) = false := str_some key h0
  have H := Lib.hid h
  have hz : (n == 0) = false := by rw [beq_eq_false_iff_ne]; exact hn
  clear h h0 hn
  go_enter Try.func28, Try.ntmps28
  go_wp2_with fail
  refine (wn_is n (-1099511627776) 1099511627776 false (iff_not H.out) _).mono ?_
  rintro _ w1 ⟨rfl, rfl⟩
  go_wp2_with fail
  go_ret
  exact ⟨rfl, World.grownBy_alloc w _ none⟩

set_option maxRecDepth 100000 in
theorem knd4_ok (d e s coll ver n time : Int) (key text : ByteArray) (A : Option Addr) (len c : Nat) (w : World) (h0 : key.size ≠ 0) (hn : n ≠ 0) (h : -1099511627776 ≤ n ∧ n ≤ 1099511627776) :
    Calls Try.prog 28 #[.agg #[.int .i64 d, .int .i64 e, .int .i64 s, .int .i64 coll, .int .i64 ver, .int .i64 4, .string key, .string text, .int .i64 n, .int .i64 time, .slice A len c]] w fun e' w' => e' = .returned (.int .i64 0) ∧ w.grownBy w' none := by
  have hk : (key.toList == ([] : List UInt8)) = false := str_some key h0
  have H := Lib.hid h
  have hz : (n == 0) = false := by rw [beq_eq_false_iff_ne]; exact hn
  clear h h0 hn
  go_enter Try.func28, Try.ntmps28
  go_wp2_with fail
  refine (wn_is n (-1099511627776) 1099511627776 true (iff_yes H.out) _).mono ?_
  rintro _ w1 ⟨rfl, rfl⟩
  go_wp2_with fail
  go_ret
  exact ⟨rfl, World.grownBy_alloc w _ none⟩

set_option maxRecDepth 100000 in
theorem chk_no0 (d e s coll ver kind n time : Int) (key text : ByteArray) (A : Option Addr) (len c : Nat) (w : World)  (h0 : ¬ (0 ≤ d ∧ d ≤ 5)) :
    Calls Try.prog 13 #[.agg #[.int .i64 d, .int .i64 e, .int .i64 s, .int .i64 coll, .int .i64 ver, .int .i64 kind, .string key, .string text, .int .i64 n, .int .i64 time, .slice A len c]] w fun e' w' => e' = .returned (.int .i64 1) ∧ w.grownBy w' none := by
  have H0 := Lib.hid h0
  clear h0
  go_enter Try.func13, Try.ntmps13
  go_wp2_with fail
  refine (dev_is d false (iff_not H0.out) _).mono ?_
  rintro _ w0 ⟨rfl, rfl⟩
  go_wp2_with fail
  go_ret
  exact ⟨rfl, World.grownBy_alloc w _ none⟩

set_option maxRecDepth 100000 in
theorem chk_no1 (d e s coll ver kind n time : Int) (key text : ByteArray) (A : Option Addr) (len c : Nat) (w : World) (h0 : 0 ≤ d ∧ d ≤ 5) (h1 : ¬ (1 ≤ e ∧ e ≤ 1073741824)) :
    Calls Try.prog 13 #[.agg #[.int .i64 d, .int .i64 e, .int .i64 s, .int .i64 coll, .int .i64 ver, .int .i64 kind, .string key, .string text, .int .i64 n, .int .i64 time, .slice A len c]] w fun e' w' => e' = .returned (.int .i64 1) ∧ w.grownBy w' none := by
  have H0 := Lib.hid h0
  have H1 := Lib.hid h1
  clear h0 h1
  go_enter Try.func13, Try.ntmps13
  go_wp2_with fail
  refine (dev_is d true (iff_yes H0.out) _).mono ?_
  rintro _ w0 ⟨rfl, rfl⟩
  go_wp2_with fail
  refine (wn_is e 1 1073741824 false (iff_not H1.out) _).mono ?_
  rintro _ w1 ⟨rfl, rfl⟩
  go_wp2_with fail
  go_ret
  exact ⟨rfl, World.grownBy_alloc w _ none⟩

set_option maxRecDepth 100000 in
theorem chk_no2 (d e s coll ver kind n time : Int) (key text : ByteArray) (A : Option Addr) (len c : Nat) (w : World) (h0 : 0 ≤ d ∧ d ≤ 5) (h1 : 1 ≤ e ∧ e ≤ 1073741824) (h2 : ¬ (1 ≤ s ∧ s ≤ 1073741824)) :
    Calls Try.prog 13 #[.agg #[.int .i64 d, .int .i64 e, .int .i64 s, .int .i64 coll, .int .i64 ver, .int .i64 kind, .string key, .string text, .int .i64 n, .int .i64 time, .slice A len c]] w fun e' w' => e' = .returned (.int .i64 1) ∧ w.grownBy w' none := by
  have H0 := Lib.hid h0
  have H1 := Lib.hid h1
  have H2 := Lib.hid h2
  clear h0 h1 h2
  go_enter Try.func13, Try.ntmps13
  go_wp2_with fail
  refine (dev_is d true (iff_yes H0.out) _).mono ?_
  rintro _ w0 ⟨rfl, rfl⟩
  go_wp2_with fail
  refine (wn_is e 1 1073741824 true (iff_yes H1.out) _).mono ?_
  rintro _ w1 ⟨rfl, rfl⟩
  go_wp2_with fail
  refine (wn_is s 1 1073741824 false (iff_not H2.out) _).mono ?_
  rintro _ w2 ⟨rfl, rfl⟩
  go_wp2_with fail
  go_ret
  exact ⟨rfl, World.grownBy_alloc w _ none⟩

set_option maxRecDepth 100000 in
theorem chk_no3 (d e s coll ver kind n time : Int) (key text : ByteArray) (A : Option Addr) (len c : Nat) (w : World) (h0 : 0 ≤ d ∧ d ≤ 5) (h1 : 1 ≤ e ∧ e ≤ 1073741824) (h2 : 1 ≤ s ∧ s ≤ 1073741824) (h3 : ¬ (0 ≤ coll ∧ coll ≤ 2)) :
    Calls Try.prog 13 #[.agg #[.int .i64 d, .int .i64 e, .int .i64 s, .int .i64 coll, .int .i64 ver, .int .i64 kind, .string key, .string text, .int .i64 n, .int .i64 time, .slice A len c]] w fun e' w' => e' = .returned (.int .i64 1) ∧ w.grownBy w' none := by
  have H0 := Lib.hid h0
  have H1 := Lib.hid h1
  have H2 := Lib.hid h2
  have H3 := Lib.hid h3
  clear h0 h1 h2 h3
  go_enter Try.func13, Try.ntmps13
  go_wp2_with fail
  refine (dev_is d true (iff_yes H0.out) _).mono ?_
  rintro _ w0 ⟨rfl, rfl⟩
  go_wp2_with fail
  refine (wn_is e 1 1073741824 true (iff_yes H1.out) _).mono ?_
  rintro _ w1 ⟨rfl, rfl⟩
  go_wp2_with fail
  refine (wn_is s 1 1073741824 true (iff_yes H2.out) _).mono ?_
  rintro _ w2 ⟨rfl, rfl⟩
  go_wp2_with fail
  refine (col_is coll false (iff_not H3.out) _).mono ?_
  rintro _ w3 ⟨rfl, rfl⟩
  go_wp2_with fail
  go_ret
  exact ⟨rfl, World.grownBy_alloc w _ none⟩

set_option maxRecDepth 100000 in
theorem chk_no4 (d e s coll ver kind n time : Int) (key text : ByteArray) (A : Option Addr) (len c : Nat) (w : World) (h0 : 0 ≤ d ∧ d ≤ 5) (h1 : 1 ≤ e ∧ e ≤ 1073741824) (h2 : 1 ≤ s ∧ s ≤ 1073741824) (h3 : 0 ≤ coll ∧ coll ≤ 2) (h4 : ¬ (1 ≤ ver ∧ ver ≤ 3)) :
    Calls Try.prog 13 #[.agg #[.int .i64 d, .int .i64 e, .int .i64 s, .int .i64 coll, .int .i64 ver, .int .i64 kind, .string key, .string text, .int .i64 n, .int .i64 time, .slice A len c]] w fun e' w' => e' = .returned (.int .i64 1) ∧ w.grownBy w' none := by
  have H0 := Lib.hid h0
  have H1 := Lib.hid h1
  have H2 := Lib.hid h2
  have H3 := Lib.hid h3
  have H4 := Lib.hid h4
  clear h0 h1 h2 h3 h4
  go_enter Try.func13, Try.ntmps13
  go_wp2_with fail
  refine (dev_is d true (iff_yes H0.out) _).mono ?_
  rintro _ w0 ⟨rfl, rfl⟩
  go_wp2_with fail
  refine (wn_is e 1 1073741824 true (iff_yes H1.out) _).mono ?_
  rintro _ w1 ⟨rfl, rfl⟩
  go_wp2_with fail
  refine (wn_is s 1 1073741824 true (iff_yes H2.out) _).mono ?_
  rintro _ w2 ⟨rfl, rfl⟩
  go_wp2_with fail
  refine (col_is coll true (iff_yes H3.out) _).mono ?_
  rintro _ w3 ⟨rfl, rfl⟩
  go_wp2_with fail
  refine (ver_is ver false (iff_not H4.out) _).mono ?_
  rintro _ w4 ⟨rfl, rfl⟩
  go_wp2_with fail
  go_ret
  exact ⟨rfl, World.grownBy_alloc w _ none⟩

set_option maxRecDepth 100000 in
theorem chk_no5 (d e s coll ver kind n time : Int) (key text : ByteArray) (A : Option Addr) (len c : Nat) (w : World) (h0 : 0 ≤ d ∧ d ≤ 5) (h1 : 1 ≤ e ∧ e ≤ 1073741824) (h2 : 1 ≤ s ∧ s ≤ 1073741824) (h3 : 0 ≤ coll ∧ coll ≤ 2) (h4 : 1 ≤ ver ∧ ver ≤ 3) (h5 : ¬ (0 ≤ time ∧ time ≤ 1099511627776)) :
    Calls Try.prog 13 #[.agg #[.int .i64 d, .int .i64 e, .int .i64 s, .int .i64 coll, .int .i64 ver, .int .i64 kind, .string key, .string text, .int .i64 n, .int .i64 time, .slice A len c]] w fun e' w' => e' = .returned (.int .i64 1) ∧ w.grownBy w' none := by
  have H0 := Lib.hid h0
  have H1 := Lib.hid h1
  have H2 := Lib.hid h2
  have H3 := Lib.hid h3
  have H4 := Lib.hid h4
  have H5 := Lib.hid h5
  clear h0 h1 h2 h3 h4 h5
  go_enter Try.func13, Try.ntmps13
  go_wp2_with fail
  refine (dev_is d true (iff_yes H0.out) _).mono ?_
  rintro _ w0 ⟨rfl, rfl⟩
  go_wp2_with fail
  refine (wn_is e 1 1073741824 true (iff_yes H1.out) _).mono ?_
  rintro _ w1 ⟨rfl, rfl⟩
  go_wp2_with fail
  refine (wn_is s 1 1073741824 true (iff_yes H2.out) _).mono ?_
  rintro _ w2 ⟨rfl, rfl⟩
  go_wp2_with fail
  refine (col_is coll true (iff_yes H3.out) _).mono ?_
  rintro _ w3 ⟨rfl, rfl⟩
  go_wp2_with fail
  refine (ver_is ver true (iff_yes H4.out) _).mono ?_
  rintro _ w4 ⟨rfl, rfl⟩
  go_wp2_with fail
  refine (wn_is time 0 1099511627776 false (iff_not H5.out) _).mono ?_
  rintro _ w5 ⟨rfl, rfl⟩
  go_wp2_with fail
  go_ret
  exact ⟨rfl, World.grownBy_alloc w _ none⟩

set_option maxRecDepth 100000 in
theorem chk_no6 (d e s coll ver kind n time : Int) (key text : ByteArray) (A : Option Addr) (len c : Nat) (w : World) (h0 : 0 ≤ d ∧ d ≤ 5) (h1 : 1 ≤ e ∧ e ≤ 1073741824) (h2 : 1 ≤ s ∧ s ≤ 1073741824) (h3 : 0 ≤ coll ∧ coll ≤ 2) (h4 : 1 ≤ ver ∧ ver ≤ 3) (h5 : 0 ≤ time ∧ time ≤ 1099511627776) (h6 : ¬ (1 ≤ kind ∧ kind ≤ 5)) :
    Calls Try.prog 13 #[.agg #[.int .i64 d, .int .i64 e, .int .i64 s, .int .i64 coll, .int .i64 ver, .int .i64 kind, .string key, .string text, .int .i64 n, .int .i64 time, .slice A len c]] w fun e' w' => e' = .returned (.int .i64 3) ∧ w.grownBy w' none := by
  have H0 := Lib.hid h0
  have H1 := Lib.hid h1
  have H2 := Lib.hid h2
  have H3 := Lib.hid h3
  have H4 := Lib.hid h4
  have H5 := Lib.hid h5
  have H6 := Lib.hid h6
  clear h0 h1 h2 h3 h4 h5 h6
  go_enter Try.func13, Try.ntmps13
  go_wp2_with fail
  refine (dev_is d true (iff_yes H0.out) _).mono ?_
  rintro _ w0 ⟨rfl, rfl⟩
  go_wp2_with fail
  refine (wn_is e 1 1073741824 true (iff_yes H1.out) _).mono ?_
  rintro _ w1 ⟨rfl, rfl⟩
  go_wp2_with fail
  refine (wn_is s 1 1073741824 true (iff_yes H2.out) _).mono ?_
  rintro _ w2 ⟨rfl, rfl⟩
  go_wp2_with fail
  refine (col_is coll true (iff_yes H3.out) _).mono ?_
  rintro _ w3 ⟨rfl, rfl⟩
  go_wp2_with fail
  refine (ver_is ver true (iff_yes H4.out) _).mono ?_
  rintro _ w4 ⟨rfl, rfl⟩
  go_wp2_with fail
  refine (wn_is time 0 1099511627776 true (iff_yes H5.out) _).mono ?_
  rintro _ w5 ⟨rfl, rfl⟩
  go_wp2_with fail
  refine (wn_is kind 1 5 false (iff_not H6.out) _).mono ?_
  rintro _ w6 ⟨rfl, rfl⟩
  go_wp2_with fail
  go_ret
  exact ⟨rfl, World.grownBy_alloc w _ none⟩

set_option maxRecDepth 100000 in
theorem chk_no7 (d e s coll ver kind n time : Int) (key text : ByteArray) (A : Option Addr) (len c : Nat) (w : World) (h0 : 0 ≤ d ∧ d ≤ 5) (h1 : 1 ≤ e ∧ e ≤ 1073741824) (h2 : 1 ≤ s ∧ s ≤ 1073741824) (h3 : 0 ≤ coll ∧ coll ≤ 2) (h4 : 1 ≤ ver ∧ ver ≤ 3) (h5 : 0 ≤ time ∧ time ≤ 1099511627776) (h6 : 1 ≤ kind ∧ kind ≤ 5) (h7 : ¬ (textOk key)) :
    Calls Try.prog 13 #[.agg #[.int .i64 d, .int .i64 e, .int .i64 s, .int .i64 coll, .int .i64 ver, .int .i64 kind, .string key, .string text, .int .i64 n, .int .i64 time, .slice A len c]] w fun e' w' => e' = .returned (.int .i64 5) ∧ w.grownBy w' none := by
  have H0 := Lib.hid h0
  have H1 := Lib.hid h1
  have H2 := Lib.hid h2
  have H3 := Lib.hid h3
  have H4 := Lib.hid h4
  have H5 := Lib.hid h5
  have H6 := Lib.hid h6
  have H7 := Lib.hid h7
  clear h0 h1 h2 h3 h4 h5 h6 h7
  go_enter Try.func13, Try.ntmps13
  go_wp2_with fail
  refine (dev_is d true (iff_yes H0.out) _).mono ?_
  rintro _ w0 ⟨rfl, rfl⟩
  go_wp2_with fail
  refine (wn_is e 1 1073741824 true (iff_yes H1.out) _).mono ?_
  rintro _ w1 ⟨rfl, rfl⟩
  go_wp2_with fail
  refine (wn_is s 1 1073741824 true (iff_yes H2.out) _).mono ?_
  rintro _ w2 ⟨rfl, rfl⟩
  go_wp2_with fail
  refine (col_is coll true (iff_yes H3.out) _).mono ?_
  rintro _ w3 ⟨rfl, rfl⟩
  go_wp2_with fail
  refine (ver_is ver true (iff_yes H4.out) _).mono ?_
  rintro _ w4 ⟨rfl, rfl⟩
  go_wp2_with fail
  refine (wn_is time 0 1099511627776 true (iff_yes H5.out) _).mono ?_
  rintro _ w5 ⟨rfl, rfl⟩
  go_wp2_with fail
  refine (wn_is kind 1 5 true (iff_yes H6.out) _).mono ?_
  rintro _ w6 ⟨rfl, rfl⟩
  go_wp2_with fail
  refine (text_is key false (iff_not H7.out) _).mono ?_
  rintro _ w7 ⟨rfl, rfl⟩
  go_wp2_with fail
  go_ret
  exact ⟨rfl, World.grownBy_alloc w _ none⟩

set_option maxRecDepth 100000 in
theorem chk_no8 (d e s coll ver kind n time : Int) (key text : ByteArray) (A : Option Addr) (len c : Nat) (w : World) (h0 : 0 ≤ d ∧ d ≤ 5) (h1 : 1 ≤ e ∧ e ≤ 1073741824) (h2 : 1 ≤ s ∧ s ≤ 1073741824) (h3 : 0 ≤ coll ∧ coll ≤ 2) (h4 : 1 ≤ ver ∧ ver ≤ 3) (h5 : 0 ≤ time ∧ time ≤ 1099511627776) (h6 : 1 ≤ kind ∧ kind ≤ 5) (h7 : textOk key) (h8 : ¬ (textOk text)) :
    Calls Try.prog 13 #[.agg #[.int .i64 d, .int .i64 e, .int .i64 s, .int .i64 coll, .int .i64 ver, .int .i64 kind, .string key, .string text, .int .i64 n, .int .i64 time, .slice A len c]] w fun e' w' => e' = .returned (.int .i64 5) ∧ w.grownBy w' none := by
  have H0 := Lib.hid h0
  have H1 := Lib.hid h1
  have H2 := Lib.hid h2
  have H3 := Lib.hid h3
  have H4 := Lib.hid h4
  have H5 := Lib.hid h5
  have H6 := Lib.hid h6
  have H7 := Lib.hid h7
  have H8 := Lib.hid h8
  clear h0 h1 h2 h3 h4 h5 h6 h7 h8
  go_enter Try.func13, Try.ntmps13
  go_wp2_with fail
  refine (dev_is d true (iff_yes H0.out) _).mono ?_
  rintro _ w0 ⟨rfl, rfl⟩
  go_wp2_with fail
  refine (wn_is e 1 1073741824 true (iff_yes H1.out) _).mono ?_
  rintro _ w1 ⟨rfl, rfl⟩
  go_wp2_with fail
  refine (wn_is s 1 1073741824 true (iff_yes H2.out) _).mono ?_
  rintro _ w2 ⟨rfl, rfl⟩
  go_wp2_with fail
  refine (col_is coll true (iff_yes H3.out) _).mono ?_
  rintro _ w3 ⟨rfl, rfl⟩
  go_wp2_with fail
  refine (ver_is ver true (iff_yes H4.out) _).mono ?_
  rintro _ w4 ⟨rfl, rfl⟩
  go_wp2_with fail
  refine (wn_is time 0 1099511627776 true (iff_yes H5.out) _).mono ?_
  rintro _ w5 ⟨rfl, rfl⟩
  go_wp2_with fail
  refine (wn_is kind 1 5 true (iff_yes H6.out) _).mono ?_
  rintro _ w6 ⟨rfl, rfl⟩
  go_wp2_with fail
  refine (text_is key true (iff_yes H7.out) _).mono ?_
  rintro _ w7 ⟨rfl, rfl⟩
  go_wp2_with fail
  refine (text_is text false (iff_not H8.out) _).mono ?_
  rintro _ w8 ⟨rfl, rfl⟩
  go_wp2_with fail
  go_ret
  exact ⟨rfl, World.grownBy_alloc w _ none⟩

set_option maxRecDepth 100000 in
theorem chk_on (d e s coll ver kind n time : Int) (key text : ByteArray) (A : Option Addr) (len c : Nat) (w : World) (h0 : 0 ≤ d ∧ d ≤ 5) (h1 : 1 ≤ e ∧ e ≤ 1073741824) (h2 : 1 ≤ s ∧ s ≤ 1073741824) (h3 : 0 ≤ coll ∧ coll ≤ 2) (h4 : 1 ≤ ver ∧ ver ≤ 3) (h5 : 0 ≤ time ∧ time ≤ 1099511627776) (h6 : 1 ≤ kind ∧ kind ≤ 5) (h7 : textOk key) (h8 : textOk text) (r : Int) (HK : ∀ W, Calls Try.prog 28 #[.agg #[.int .i64 d, .int .i64 e, .int .i64 s, .int .i64 coll, .int .i64 ver, .int .i64 kind, .string key, .string text, .int .i64 n, .int .i64 time, .slice A len c]] W fun e' w' => e' = .returned (.int .i64 r) ∧ W.grownBy w' none) :
    Calls Try.prog 13 #[.agg #[.int .i64 d, .int .i64 e, .int .i64 s, .int .i64 coll, .int .i64 ver, .int .i64 kind, .string key, .string text, .int .i64 n, .int .i64 time, .slice A len c]] w fun e' w' => e' = .returned (.int .i64 r) ∧ w.grownBy w' none := by
  have HK' := Lib.hid HK
  clear HK
  have H0 := Lib.hid h0
  have H1 := Lib.hid h1
  have H2 := Lib.hid h2
  have H3 := Lib.hid h3
  have H4 := Lib.hid h4
  have H5 := Lib.hid h5
  have H6 := Lib.hid h6
  have H7 := Lib.hid h7
  have H8 := Lib.hid h8
  clear h0 h1 h2 h3 h4 h5 h6 h7 h8
  go_enter Try.func13, Try.ntmps13
  go_wp2_with fail
  refine (dev_is d true (iff_yes H0.out) _).mono ?_
  rintro _ w0 ⟨rfl, rfl⟩
  go_wp2_with fail
  refine (wn_is e 1 1073741824 true (iff_yes H1.out) _).mono ?_
  rintro _ w1 ⟨rfl, rfl⟩
  go_wp2_with fail
  refine (wn_is s 1 1073741824 true (iff_yes H2.out) _).mono ?_
  rintro _ w2 ⟨rfl, rfl⟩
  go_wp2_with fail
  refine (col_is coll true (iff_yes H3.out) _).mono ?_
  rintro _ w3 ⟨rfl, rfl⟩
  go_wp2_with fail
  refine (ver_is ver true (iff_yes H4.out) _).mono ?_
  rintro _ w4 ⟨rfl, rfl⟩
  go_wp2_with fail
  refine (wn_is time 0 1099511627776 true (iff_yes H5.out) _).mono ?_
  rintro _ w5 ⟨rfl, rfl⟩
  go_wp2_with fail
  refine (wn_is kind 1 5 true (iff_yes H6.out) _).mono ?_
  rintro _ w6 ⟨rfl, rfl⟩
  go_wp2_with fail
  refine (text_is key true (iff_yes H7.out) _).mono ?_
  rintro _ w7 ⟨rfl, rfl⟩
  go_wp2_with fail
  refine (text_is text true (iff_yes H8.out) _).mono ?_
  rintro _ w8 ⟨rfl, rfl⟩
  go_wp2_with fail
  refine (HK'.out _).mono ?_
  rintro _ w10 ⟨rfl, g10⟩
  go_wp2_with fail
  go_ret
  exact ⟨rfl, only_step (World.grownBy_alloc w _ none) g10 (fun _ h => by cases h)⟩

end Go.Proofs.Ytcmpeohooiehcaa
