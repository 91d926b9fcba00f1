/- The reference's Check of whatever operation that is no remove. No condition of the program's own. -/
import Derived.Test.YtcmpeohooiehcaaOrt
namespace Go.Proofs.Ytcmpeohooiehcaa
open Go.RowKit Go.Deep

set_option maxRecDepth 100000 in
theorem rno0a (d e s coll ver kind n time : Int) (key text : ByteArray) (A : Option Addr) (c : Nat) (l : List Dt) (w : World)  (f : d < 0) :
    Calls Try.prog 14 #[.agg #[.int .i64 d, .int .i64 e, .int .i64 s, .int .i64 coll, .int .i64 ver, .int .i64 kind, .string key, .string text, .int .i64 n, .int .i64 time, .slice A l.length c]] w fun e' w' => e' = .returned (.int .i64 1) ∧ w.grownBy w' none := by
  go_enter Try.func14, Try.ntmps14
  go_wp2_with fail
  go_ret
  exact ⟨rfl, only_alloc (World.grownBy_alloc w _ none) _⟩
set_option maxRecDepth 100000 in
theorem rno0b (d e s coll ver kind n time : Int) (key text : ByteArray) (A : Option Addr) (c : Nat) (l : List Dt) (w : World)  (f : 6 ≤ d) :
    Calls Try.prog 14 #[.agg #[.int .i64 d, .int .i64 e, .int .i64 s, .int .i64 coll, .int .i64 ver, .int .i64 kind, .string key, .string text, .int .i64 n, .int .i64 time, .slice A l.length c]] w fun e' w' => e' = .returned (.int .i64 1) ∧ w.grownBy w' none := by
  have a0 : ¬ d < 0 := by omega
  go_enter Try.func14, Try.ntmps14
  go_wp2_with fail
  go_ret
  exact ⟨rfl, only_alloc (World.grownBy_alloc w _ none) _⟩
set_option maxRecDepth 100000 in
theorem rno1a (d e s coll ver kind n time : Int) (key text : ByteArray) (A : Option Addr) (c : Nat) (l : List Dt) (w : World) (h0 : 0 ≤ d ∧ d ≤ 5) (f : e < 1) :
    Calls Try.prog 14 #[.agg #[.int .i64 d, .int .i64 e, .int .i64 s, .int .i64 coll, .int .i64 ver, .int .i64 kind, .string key, .string text, .int .i64 n, .int .i64 time, .slice A l.length c]] w fun e' w' => e' = .returned (.int .i64 1) ∧ w.grownBy w' none := by
  have a0 : ¬ d < 0 := by omega
  have b0 : ¬ 6 ≤ d := by omega
  clear h0
  go_enter Try.func14, Try.ntmps14
  go_wp2_with fail
  go_ret
  exact ⟨rfl, only_alloc (World.grownBy_alloc w _ none) _⟩
set_option maxRecDepth 100000 in
theorem rno1b (d e s coll ver kind n time : Int) (key text : ByteArray) (A : Option Addr) (c : Nat) (l : List Dt) (w : World) (h0 : 0 ≤ d ∧ d ≤ 5) (f : 1073741824 < e) :
    Calls Try.prog 14 #[.agg #[.int .i64 d, .int .i64 e, .int .i64 s, .int .i64 coll, .int .i64 ver, .int .i64 kind, .string key, .string text, .int .i64 n, .int .i64 time, .slice A l.length c]] w fun e' w' => e' = .returned (.int .i64 1) ∧ w.grownBy w' none := by
  have a0 : ¬ d < 0 := by omega
  have b0 : ¬ 6 ≤ d := by omega
  have a1 : ¬ e < 1 := by omega
  clear h0
  go_enter Try.func14, Try.ntmps14
  go_wp2_with fail
  go_ret
  exact ⟨rfl, only_alloc (World.grownBy_alloc w _ none) _⟩
set_option maxRecDepth 100000 in
theorem rno2a (d e s coll ver kind n time : Int) (key text : ByteArray) (A : Option Addr) (c : Nat) (l : List Dt) (w : World) (h0 : 0 ≤ d ∧ d ≤ 5) (h1 : 1 ≤ e ∧ e ≤ 1073741824) (f : s < 1) :
    Calls Try.prog 14 #[.agg #[.int .i64 d, .int .i64 e, .int .i64 s, .int .i64 coll, .int .i64 ver, .int .i64 kind, .string key, .string text, .int .i64 n, .int .i64 time, .slice A l.length c]] w fun e' w' => e' = .returned (.int .i64 1) ∧ w.grownBy w' none := by
  have a0 : ¬ d < 0 := by omega
  have b0 : ¬ 6 ≤ d := by omega
  have a1 : ¬ e < 1 := by omega
  have b1 : ¬ 1073741824 < e := by omega
  clear h0 h1
  go_enter Try.func14, Try.ntmps14
  go_wp2_with fail
  go_ret
  exact ⟨rfl, only_alloc (World.grownBy_alloc w _ none) _⟩
set_option maxRecDepth 100000 in
theorem rno2b (d e s coll ver kind n time : Int) (key text : ByteArray) (A : Option Addr) (c : Nat) (l : List Dt) (w : World) (h0 : 0 ≤ d ∧ d ≤ 5) (h1 : 1 ≤ e ∧ e ≤ 1073741824) (f : 1073741824 < s) :
    Calls Try.prog 14 #[.agg #[.int .i64 d, .int .i64 e, .int .i64 s, .int .i64 coll, .int .i64 ver, .int .i64 kind, .string key, .string text, .int .i64 n, .int .i64 time, .slice A l.length c]] w fun e' w' => e' = .returned (.int .i64 1) ∧ w.grownBy w' none := by
  have a0 : ¬ d < 0 := by omega
  have b0 : ¬ 6 ≤ d := by omega
  have a1 : ¬ e < 1 := by omega
  have b1 : ¬ 1073741824 < e := by omega
  have a2 : ¬ s < 1 := by omega
  clear h0 h1
  go_enter Try.func14, Try.ntmps14
  go_wp2_with fail
  go_ret
  exact ⟨rfl, only_alloc (World.grownBy_alloc w _ none) _⟩
set_option maxRecDepth 100000 in
theorem rno3a (d e s coll ver kind n time : Int) (key text : ByteArray) (A : Option Addr) (c : Nat) (l : List Dt) (w : World) (h0 : 0 ≤ d ∧ d ≤ 5) (h1 : 1 ≤ e ∧ e ≤ 1073741824) (h2 : 1 ≤ s ∧ s ≤ 1073741824) (f : coll < 0) :
    Calls Try.prog 14 #[.agg #[.int .i64 d, .int .i64 e, .int .i64 s, .int .i64 coll, .int .i64 ver, .int .i64 kind, .string key, .string text, .int .i64 n, .int .i64 time, .slice A l.length c]] w fun e' w' => e' = .returned (.int .i64 1) ∧ w.grownBy w' none := by
  have a0 : ¬ d < 0 := by omega
  have b0 : ¬ 6 ≤ d := by omega
  have a1 : ¬ e < 1 := by omega
  have b1 : ¬ 1073741824 < e := by omega
  have a2 : ¬ s < 1 := by omega
  have b2 : ¬ 1073741824 < s := by omega
  clear h0 h1 h2
  go_enter Try.func14, Try.ntmps14
  go_wp2_with fail
  go_ret
  exact ⟨rfl, only_alloc (World.grownBy_alloc w _ none) _⟩
set_option maxRecDepth 100000 in
theorem rno3b (d e s coll ver kind n time : Int) (key text : ByteArray) (A : Option Addr) (c : Nat) (l : List Dt) (w : World) (h0 : 0 ≤ d ∧ d ≤ 5) (h1 : 1 ≤ e ∧ e ≤ 1073741824) (h2 : 1 ≤ s ∧ s ≤ 1073741824) (f : 3 ≤ coll) :
    Calls Try.prog 14 #[.agg #[.int .i64 d, .int .i64 e, .int .i64 s, .int .i64 coll, .int .i64 ver, .int .i64 kind, .string key, .string text, .int .i64 n, .int .i64 time, .slice A l.length c]] w fun e' w' => e' = .returned (.int .i64 1) ∧ w.grownBy w' none := by
  have a0 : ¬ d < 0 := by omega
  have b0 : ¬ 6 ≤ d := by omega
  have a1 : ¬ e < 1 := by omega
  have b1 : ¬ 1073741824 < e := by omega
  have a2 : ¬ s < 1 := by omega
  have b2 : ¬ 1073741824 < s := by omega
  have a3 : ¬ coll < 0 := by omega
  clear h0 h1 h2
  go_enter Try.func14, Try.ntmps14
  go_wp2_with fail
  go_ret
  exact ⟨rfl, only_alloc (World.grownBy_alloc w _ none) _⟩
set_option maxRecDepth 100000 in
theorem rno4a (d e s coll ver kind n time : Int) (key text : ByteArray) (A : Option Addr) (c : Nat) (l : List Dt) (w : World) (h0 : 0 ≤ d ∧ d ≤ 5) (h1 : 1 ≤ e ∧ e ≤ 1073741824) (h2 : 1 ≤ s ∧ s ≤ 1073741824) (h3 : 0 ≤ coll ∧ coll ≤ 2) (f : ver < 1) :
    Calls Try.prog 14 #[.agg #[.int .i64 d, .int .i64 e, .int .i64 s, .int .i64 coll, .int .i64 ver, .int .i64 kind, .string key, .string text, .int .i64 n, .int .i64 time, .slice A l.length c]] w fun e' w' => e' = .returned (.int .i64 1) ∧ w.grownBy w' none := by
  have a0 : ¬ d < 0 := by omega
  have b0 : ¬ 6 ≤ d := by omega
  have a1 : ¬ e < 1 := by omega
  have b1 : ¬ 1073741824 < e := by omega
  have a2 : ¬ s < 1 := by omega
  have b2 : ¬ 1073741824 < s := by omega
  have a3 : ¬ coll < 0 := by omega
  have b3 : ¬ 3 ≤ coll := by omega
  clear h0 h1 h2 h3
  go_enter Try.func14, Try.ntmps14
  go_wp2_with fail
  go_ret
  exact ⟨rfl, only_alloc (World.grownBy_alloc w _ none) _⟩
set_option maxRecDepth 100000 in
theorem rno4b (d e s coll ver kind n time : Int) (key text : ByteArray) (A : Option Addr) (c : Nat) (l : List Dt) (w : World) (h0 : 0 ≤ d ∧ d ≤ 5) (h1 : 1 ≤ e ∧ e ≤ 1073741824) (h2 : 1 ≤ s ∧ s ≤ 1073741824) (h3 : 0 ≤ coll ∧ coll ≤ 2) (f : 3 < ver) :
    Calls Try.prog 14 #[.agg #[.int .i64 d, .int .i64 e, .int .i64 s, .int .i64 coll, .int .i64 ver, .int .i64 kind, .string key, .string text, .int .i64 n, .int .i64 time, .slice A l.length c]] w fun e' w' => e' = .returned (.int .i64 1) ∧ w.grownBy w' none := by
  have a0 : ¬ d < 0 := by omega
  have b0 : ¬ 6 ≤ d := by omega
  have a1 : ¬ e < 1 := by omega
  have b1 : ¬ 1073741824 < e := by omega
  have a2 : ¬ s < 1 := by omega
  have b2 : ¬ 1073741824 < s := by omega
  have a3 : ¬ coll < 0 := by omega
  have b3 : ¬ 3 ≤ coll := by omega
  have a4 : ¬ ver < 1 := by omega
  clear h0 h1 h2 h3
  go_enter Try.func14, Try.ntmps14
  go_wp2_with fail
  go_ret
  exact ⟨rfl, only_alloc (World.grownBy_alloc w _ none) _⟩
set_option maxRecDepth 100000 in
theorem rno5a (d e s coll ver kind n time : Int) (key text : ByteArray) (A : Option Addr) (c : Nat) (l : List Dt) (w : World) (h0 : 0 ≤ d ∧ d ≤ 5) (h1 : 1 ≤ e ∧ e ≤ 1073741824) (h2 : 1 ≤ s ∧ s ≤ 1073741824) (h3 : 0 ≤ coll ∧ coll ≤ 2) (h4 : 1 ≤ ver ∧ ver ≤ 3) (f : time < 0) :
    Calls Try.prog 14 #[.agg #[.int .i64 d, .int .i64 e, .int .i64 s, .int .i64 coll, .int .i64 ver, .int .i64 kind, .string key, .string text, .int .i64 n, .int .i64 time, .slice A l.length c]] w fun e' w' => e' = .returned (.int .i64 1) ∧ w.grownBy w' none := by
  have a0 : ¬ d < 0 := by omega
  have b0 : ¬ 6 ≤ d := by omega
  have a1 : ¬ e < 1 := by omega
  have b1 : ¬ 1073741824 < e := by omega
  have a2 : ¬ s < 1 := by omega
  have b2 : ¬ 1073741824 < s := by omega
  have a3 : ¬ coll < 0 := by omega
  have b3 : ¬ 3 ≤ coll := by omega
  have a4 : ¬ ver < 1 := by omega
  have b4 : ¬ 3 < ver := by omega
  clear h0 h1 h2 h3 h4
  go_enter Try.func14, Try.ntmps14
  go_wp2_with fail
  go_ret
  exact ⟨rfl, only_alloc (World.grownBy_alloc w _ none) _⟩
set_option maxRecDepth 100000 in
theorem rno5b (d e s coll ver kind n time : Int) (key text : ByteArray) (A : Option Addr) (c : Nat) (l : List Dt) (w : World) (h0 : 0 ≤ d ∧ d ≤ 5) (h1 : 1 ≤ e ∧ e ≤ 1073741824) (h2 : 1 ≤ s ∧ s ≤ 1073741824) (h3 : 0 ≤ coll ∧ coll ≤ 2) (h4 : 1 ≤ ver ∧ ver ≤ 3) (f : 1099511627776 < time) :
    Calls Try.prog 14 #[.agg #[.int .i64 d, .int .i64 e, .int .i64 s, .int .i64 coll, .int .i64 ver, .int .i64 kind, .string key, .string text, .int .i64 n, .int .i64 time, .slice A l.length c]] w fun e' w' => e' = .returned (.int .i64 1) ∧ w.grownBy w' none := by
  have a0 : ¬ d < 0 := by omega
  have b0 : ¬ 6 ≤ d := by omega
  have a1 : ¬ e < 1 := by omega
  have b1 : ¬ 1073741824 < e := by omega
  have a2 : ¬ s < 1 := by omega
  have b2 : ¬ 1073741824 < s := by omega
  have a3 : ¬ coll < 0 := by omega
  have b3 : ¬ 3 ≤ coll := by omega
  have a4 : ¬ ver < 1 := by omega
  have b4 : ¬ 3 < ver := by omega
  have a5 : ¬ time < 0 := by omega
  clear h0 h1 h2 h3 h4
  go_enter Try.func14, Try.ntmps14
  go_wp2_with fail
  go_ret
  exact ⟨rfl, only_alloc (World.grownBy_alloc w _ none) _⟩
set_option maxRecDepth 100000 in
theorem rno6a (d e s coll ver kind n time : Int) (key text : ByteArray) (A : Option Addr) (c : Nat) (l : List Dt) (w : World) (h0 : 0 ≤ d ∧ d ≤ 5) (h1 : 1 ≤ e ∧ e ≤ 1073741824) (h2 : 1 ≤ s ∧ s ≤ 1073741824) (h3 : 0 ≤ coll ∧ coll ≤ 2) (h4 : 1 ≤ ver ∧ ver ≤ 3) (h5 : 0 ≤ time ∧ time ≤ 1099511627776) (f : kind < 1) :
    Calls Try.prog 14 #[.agg #[.int .i64 d, .int .i64 e, .int .i64 s, .int .i64 coll, .int .i64 ver, .int .i64 kind, .string key, .string text, .int .i64 n, .int .i64 time, .slice A l.length c]] w fun e' w' => e' = .returned (.int .i64 3) ∧ w.grownBy w' none := by
  have a0 : ¬ d < 0 := by omega
  have b0 : ¬ 6 ≤ d := by omega
  have a1 : ¬ e < 1 := by omega
  have b1 : ¬ 1073741824 < e := by omega
  have a2 : ¬ s < 1 := by omega
  have b2 : ¬ 1073741824 < s := by omega
  have a3 : ¬ coll < 0 := by omega
  have b3 : ¬ 3 ≤ coll := by omega
  have a4 : ¬ ver < 1 := by omega
  have b4 : ¬ 3 < ver := by omega
  have a5 : ¬ time < 0 := by omega
  have b5 : ¬ 1099511627776 < time := by omega
  clear h0 h1 h2 h3 h4 h5
  go_enter Try.func14, Try.ntmps14
  go_wp2_with fail
  go_ret
  exact ⟨rfl, only_alloc (World.grownBy_alloc w _ none) _⟩
set_option maxRecDepth 100000 in
theorem rno6b (d e s coll ver kind n time : Int) (key text : ByteArray) (A : Option Addr) (c : Nat) (l : List Dt) (w : World) (h0 : 0 ≤ d ∧ d ≤ 5) (h1 : 1 ≤ e ∧ e ≤ 1073741824) (h2 : 1 ≤ s ∧ s ≤ 1073741824) (h3 : 0 ≤ coll ∧ coll ≤ 2) (h4 : 1 ≤ ver ∧ ver ≤ 3) (h5 : 0 ≤ time ∧ time ≤ 1099511627776) (f : 5 < kind) :
    Calls Try.prog 14 #[.agg #[.int .i64 d, .int .i64 e, .int .i64 s, .int .i64 coll, .int .i64 ver, .int .i64 kind, .string key, .string text, .int .i64 n, .int .i64 time, .slice A l.length c]] w fun e' w' => e' = .returned (.int .i64 3) ∧ w.grownBy w' none := by
  have a0 : ¬ d < 0 := by omega
  have b0 : ¬ 6 ≤ d := by omega
  have a1 : ¬ e < 1 := by omega
  have b1 : ¬ 1073741824 < e := by omega
  have a2 : ¬ s < 1 := by omega
  have b2 : ¬ 1073741824 < s := by omega
  have a3 : ¬ coll < 0 := by omega
  have b3 : ¬ 3 ≤ coll := by omega
  have a4 : ¬ ver < 1 := by omega
  have b4 : ¬ 3 < ver := by omega
  have a5 : ¬ time < 0 := by omega
  have b5 : ¬ 1099511627776 < time := by omega
  have a6 : ¬ kind < 1 := by omega
  clear h0 h1 h2 h3 h4 h5
  go_enter Try.func14, Try.ntmps14
  go_wp2_with fail
  go_ret
  exact ⟨rfl, only_alloc (World.grownBy_alloc w _ none) _⟩
set_option maxRecDepth 100000 in
theorem rno7 (d e s coll ver kind n time : Int) (key text : ByteArray) (A : Option Addr) (c : Nat) (l : List Dt) (w : World) (h0 : 0 ≤ d ∧ d ≤ 5) (h1 : 1 ≤ e ∧ e ≤ 1073741824) (h2 : 1 ≤ s ∧ s ≤ 1073741824) (h3 : 0 ≤ coll ∧ coll ≤ 2) (h4 : 1 ≤ ver ∧ ver ≤ 3) (h5 : 0 ≤ time ∧ time ≤ 1099511627776) (h6 : 1 ≤ kind ∧ kind ≤ 5) (h7 : ¬ textOk key) :
    Calls Try.prog 14 #[.agg #[.int .i64 d, .int .i64 e, .int .i64 s, .int .i64 coll, .int .i64 ver, .int .i64 kind, .string key, .string text, .int .i64 n, .int .i64 time, .slice A l.length c]] w fun e' w' => e' = .returned (.int .i64 5) ∧ w.grownBy w' none := by
  have a0 : ¬ d < 0 := by omega
  have b0 : ¬ 6 ≤ d := by omega
  have a1 : ¬ e < 1 := by omega
  have b1 : ¬ 1073741824 < e := by omega
  have a2 : ¬ s < 1 := by omega
  have b2 : ¬ 1073741824 < s := by omega
  have a3 : ¬ coll < 0 := by omega
  have b3 : ¬ 3 ≤ coll := by omega
  have a4 : ¬ ver < 1 := by omega
  have b4 : ¬ 3 < ver := by omega
  have a5 : ¬ time < 0 := by omega
  have b5 : ¬ 1099511627776 < time := by omega
  have a6 : ¬ kind < 1 := by omega
  have b6 : ¬ 5 < kind := by omega
  have H7 := Lib.hid h7
  clear h0 h1 h2 h3 h4 h5 h6 h7
  go_enter Try.func14, Try.ntmps14
  go_wp2_with fail
  refine (rtext_is key false (iff_not H7.out) _).mono ?_
  rintro _ wt ⟨rfl, rfl⟩
  go_wp2_with fail
  go_ret
  exact ⟨rfl, only_alloc (World.grownBy_alloc w _ none) _⟩
set_option maxRecDepth 100000 in
theorem rno8 (d e s coll ver kind n time : Int) (key text : ByteArray) (A : Option Addr) (c : Nat) (l : List Dt) (w : World) (h0 : 0 ≤ d ∧ d ≤ 5) (h1 : 1 ≤ e ∧ e ≤ 1073741824) (h2 : 1 ≤ s ∧ s ≤ 1073741824) (h3 : 0 ≤ coll ∧ coll ≤ 2) (h4 : 1 ≤ ver ∧ ver ≤ 3) (h5 : 0 ≤ time ∧ time ≤ 1099511627776) (h6 : 1 ≤ kind ∧ kind ≤ 5) (h7 : textOk key) (h8 : ¬ textOk text) :
    Calls Try.prog 14 #[.agg #[.int .i64 d, .int .i64 e, .int .i64 s, .int .i64 coll, .int .i64 ver, .int .i64 kind, .string key, .string text, .int .i64 n, .int .i64 time, .slice A l.length c]] w fun e' w' => e' = .returned (.int .i64 5) ∧ w.grownBy w' none := by
  have a0 : ¬ d < 0 := by omega
  have b0 : ¬ 6 ≤ d := by omega
  have a1 : ¬ e < 1 := by omega
  have b1 : ¬ 1073741824 < e := by omega
  have a2 : ¬ s < 1 := by omega
  have b2 : ¬ 1073741824 < s := by omega
  have a3 : ¬ coll < 0 := by omega
  have b3 : ¬ 3 ≤ coll := by omega
  have a4 : ¬ ver < 1 := by omega
  have b4 : ¬ 3 < ver := by omega
  have a5 : ¬ time < 0 := by omega
  have b5 : ¬ 1099511627776 < time := by omega
  have a6 : ¬ kind < 1 := by omega
  have b6 : ¬ 5 < kind := by omega
  have H7 := Lib.hid h7
  have H8 := Lib.hid h8
  clear h0 h1 h2 h3 h4 h5 h6 h7 h8
  go_enter Try.func14, Try.ntmps14
  go_wp2_with fail
  refine (rtext_is key true (iff_yes H7.out) _).mono ?_
  rintro _ wt ⟨rfl, rfl⟩
  go_wp2_with fail
  refine (rtext_is text false (iff_not H8.out) _).mono ?_
  rintro _ wt ⟨rfl, rfl⟩
  go_wp2_with fail
  go_ret
  exact ⟨rfl, only_alloc (World.grownBy_alloc w _ none) _⟩
set_option maxRecDepth 100000 in
theorem rke (d e s coll ver kind n time : Int) (key text : ByteArray) (A : Option Addr) (c : Nat) (l : List Dt) (w : World) (h0 : 0 ≤ d ∧ d ≤ 5) (h1 : 1 ≤ e ∧ e ≤ 1073741824) (h2 : 1 ≤ s ∧ s ≤ 1073741824) (h3 : 0 ≤ coll ∧ coll ≤ 2) (h4 : 1 ≤ ver ∧ ver ≤ 3) (h5 : 0 ≤ time ∧ time ≤ 1099511627776) (h6 : 1 ≤ kind ∧ kind ≤ 5) (h7 : textOk key) (h8 : textOk text) (h9 : key.size = 0) (hx : kind ≠ 5) :
    Calls Try.prog 14 #[.agg #[.int .i64 d, .int .i64 e, .int .i64 s, .int .i64 coll, .int .i64 ver, .int .i64 kind, .string key, .string text, .int .i64 n, .int .i64 time, .slice A l.length c]] w fun e' w' => e' = .returned (.int .i64 1) ∧ w.grownBy w' none := by
  have a0 : ¬ d < 0 := by omega
  have b0 : ¬ 6 ≤ d := by omega
  have a1 : ¬ e < 1 := by omega
  have b1 : ¬ 1073741824 < e := by omega
  have a2 : ¬ s < 1 := by omega
  have b2 : ¬ 1073741824 < s := by omega
  have a3 : ¬ coll < 0 := by omega
  have b3 : ¬ 3 ≤ coll := by omega
  have a4 : ¬ ver < 1 := by omega
  have b4 : ¬ 3 < ver := by omega
  have a5 : ¬ time < 0 := by omega
  have b5 : ¬ 1099511627776 < time := by omega
  have a6 : ¬ kind < 1 := by omega
  have b6 : ¬ 5 < kind := by omega
  have H7 := Lib.hid h7
  have H8 := Lib.hid h8
  have bk : (key.toList == ([] : List UInt8)) = true := str_empty key h9
  have bx : (kind != 5) = true := by simp [hx]
  clear h0 h1 h2 h3 h4 h5 h6 h7 h8 h9 hx
  go_enter Try.func14, Try.ntmps14
  go_wp2_with fail
  refine (rtext_is key true (iff_yes H7.out) _).mono ?_
  rintro _ wt ⟨rfl, rfl⟩
  go_wp2_with fail
  refine (rtext_is text true (iff_yes H8.out) _).mono ?_
  rintro _ wt ⟨rfl, rfl⟩
  go_wp2_with fail
  go_ret
  exact ⟨rfl, only_alloc (World.grownBy_alloc w _ none) _⟩
set_option maxRecDepth 100000 in
theorem rk1 (d e s coll ver n time : Int) (key text : ByteArray) (A : Option Addr) (c : Nat) (l : List Dt) (w : World) (h0 : 0 ≤ d ∧ d ≤ 5) (h1 : 1 ≤ e ∧ e ≤ 1073741824) (h2 : 1 ≤ s ∧ s ≤ 1073741824) (h3 : 0 ≤ coll ∧ coll ≤ 2) (h4 : 1 ≤ ver ∧ ver ≤ 3) (h5 : 0 ≤ time ∧ time ≤ 1099511627776) (h7 : textOk key) (h8 : textOk text) (h9 : key.size ≠ 0) :
    Calls Try.prog 14 #[.agg #[.int .i64 d, .int .i64 e, .int .i64 s, .int .i64 coll, .int .i64 ver, .int .i64 1, .string key, .string text, .int .i64 n, .int .i64 time, .slice A l.length c]] w fun e' w' => e' = .returned (.int .i64 0) ∧ w.grownBy w' none := by
  have a0 : ¬ d < 0 := by omega
  have b0 : ¬ 6 ≤ d := by omega
  have a1 : ¬ e < 1 := by omega
  have b1 : ¬ 1073741824 < e := by omega
  have a2 : ¬ s < 1 := by omega
  have b2 : ¬ 1073741824 < s := by omega
  have a3 : ¬ coll < 0 := by omega
  have b3 : ¬ 3 ≤ coll := by omega
  have a4 : ¬ ver < 1 := by omega
  have b4 : ¬ 3 < ver := by omega
  have a5 : ¬ time < 0 := by omega
  have b5 : ¬ 1099511627776 < time := by omega
  have H7 := Lib.hid h7
  have H8 := Lib.hid h8
  have bk : (key.toList == ([] : List UInt8)) = false := str_some key h9
  clear h0 h1 h2 h3 h4 h5 h7 h8 h9
  go_enter Try.func14, Try.ntmps14
  go_wp2_with fail
  refine (rtext_is key true (iff_yes H7.out) _).mono ?_
  rintro _ wt ⟨rfl, rfl⟩
  go_wp2_with fail
  refine (rtext_is text true (iff_yes H8.out) _).mono ?_
  rintro _ wt ⟨rfl, rfl⟩
  go_wp2_with fail
  go_ret
  exact ⟨rfl, only_alloc (World.grownBy_alloc w _ none) _⟩
set_option maxRecDepth 100000 in
theorem rk2 (d e s coll ver n time : Int) (key text : ByteArray) (A : Option Addr) (c : Nat) (l : List Dt) (w : World) (h0 : 0 ≤ d ∧ d ≤ 5) (h1 : 1 ≤ e ∧ e ≤ 1073741824) (h2 : 1 ≤ s ∧ s ≤ 1073741824) (h3 : 0 ≤ coll ∧ coll ≤ 2) (h4 : 1 ≤ ver ∧ ver ≤ 3) (h5 : 0 ≤ time ∧ time ≤ 1099511627776) (h7 : textOk key) (h8 : textOk text) (h9 : key.size ≠ 0) :
    Calls Try.prog 14 #[.agg #[.int .i64 d, .int .i64 e, .int .i64 s, .int .i64 coll, .int .i64 ver, .int .i64 2, .string key, .string text, .int .i64 n, .int .i64 time, .slice A l.length c]] w fun e' w' => e' = .returned (.int .i64 0) ∧ w.grownBy w' none := by
  have a0 : ¬ d < 0 := by omega
  have b0 : ¬ 6 ≤ d := by omega
  have a1 : ¬ e < 1 := by omega
  have b1 : ¬ 1073741824 < e := by omega
  have a2 : ¬ s < 1 := by omega
  have b2 : ¬ 1073741824 < s := by omega
  have a3 : ¬ coll < 0 := by omega
  have b3 : ¬ 3 ≤ coll := by omega
  have a4 : ¬ ver < 1 := by omega
  have b4 : ¬ 3 < ver := by omega
  have a5 : ¬ time < 0 := by omega
  have b5 : ¬ 1099511627776 < time := by omega
  have H7 := Lib.hid h7
  have H8 := Lib.hid h8
  have bk : (key.toList == ([] : List UInt8)) = false := str_some key h9
  clear h0 h1 h2 h3 h4 h5 h7 h8 h9
  go_enter Try.func14, Try.ntmps14
  go_wp2_with fail
  refine (rtext_is key true (iff_yes H7.out) _).mono ?_
  rintro _ wt ⟨rfl, rfl⟩
  go_wp2_with fail
  refine (rtext_is text true (iff_yes H8.out) _).mono ?_
  rintro _ wt ⟨rfl, rfl⟩
  go_wp2_with fail
  go_ret
  exact ⟨rfl, only_alloc (World.grownBy_alloc w _ none) _⟩
set_option maxRecDepth 100000 in
theorem rk5a (d e s coll ver n time : Int) (key text : ByteArray) (A : Option Addr) (c : Nat) (l : List Dt) (w : World) (h0 : 0 ≤ d ∧ d ≤ 5) (h1 : 1 ≤ e ∧ e ≤ 1073741824) (h2 : 1 ≤ s ∧ s ≤ 1073741824) (h3 : 0 ≤ coll ∧ coll ≤ 2) (h4 : 1 ≤ ver ∧ ver ≤ 3) (h5 : 0 ≤ time ∧ time ≤ 1099511627776) (h7 : textOk key) (h8 : textOk text) (f : n < 0) :
    Calls Try.prog 14 #[.agg #[.int .i64 d, .int .i64 e, .int .i64 s, .int .i64 coll, .int .i64 ver, .int .i64 5, .string key, .string text, .int .i64 n, .int .i64 time, .slice A l.length c]] w fun e' w' => e' = .returned (.int .i64 11) ∧ w.grownBy w' none := by
  have a0 : ¬ d < 0 := by omega
  have b0 : ¬ 6 ≤ d := by omega
  have a1 : ¬ e < 1 := by omega
  have b1 : ¬ 1073741824 < e := by omega
  have a2 : ¬ s < 1 := by omega
  have b2 : ¬ 1073741824 < s := by omega
  have a3 : ¬ coll < 0 := by omega
  have b3 : ¬ 3 ≤ coll := by omega
  have a4 : ¬ ver < 1 := by omega
  have b4 : ¬ 3 < ver := by omega
  have a5 : ¬ time < 0 := by omega
  have b5 : ¬ 1099511627776 < time := by omega
  have H7 := Lib.hid h7
  have H8 := Lib.hid h8
  clear h0 h1 h2 h3 h4 h5 h7 h8
  go_enter Try.func14, Try.ntmps14
  go_wp2_with fail
  refine (rtext_is key true (iff_yes H7.out) _).mono ?_
  rintro _ wt ⟨rfl, rfl⟩
  go_wp2_with fail
  refine (rtext_is text true (iff_yes H8.out) _).mono ?_
  rintro _ wt ⟨rfl, rfl⟩
  go_wp2_with fail
  go_ret
  exact ⟨rfl, only_alloc (World.grownBy_alloc w _ none) _⟩
set_option maxRecDepth 100000 in
theorem rk5b (d e s coll ver n time : Int) (key text : ByteArray) (A : Option Addr) (c : Nat) (l : List Dt) (w : World) (h0 : 0 ≤ d ∧ d ≤ 5) (h1 : 1 ≤ e ∧ e ≤ 1073741824) (h2 : 1 ≤ s ∧ s ≤ 1073741824) (h3 : 0 ≤ coll ∧ coll ≤ 2) (h4 : 1 ≤ ver ∧ ver ≤ 3) (h5 : 0 ≤ time ∧ time ≤ 1099511627776) (h7 : textOk key) (h8 : textOk text) (f : 1000 ≤ n) :
    Calls Try.prog 14 #[.agg #[.int .i64 d, .int .i64 e, .int .i64 s, .int .i64 coll, .int .i64 ver, .int .i64 5, .string key, .string text, .int .i64 n, .int .i64 time, .slice A l.length c]] w fun e' w' => e' = .returned (.int .i64 11) ∧ w.grownBy w' none := by
  have a0 : ¬ d < 0 := by omega
  have b0 : ¬ 6 ≤ d := by omega
  have a1 : ¬ e < 1 := by omega
  have b1 : ¬ 1073741824 < e := by omega
  have a2 : ¬ s < 1 := by omega
  have b2 : ¬ 1073741824 < s := by omega
  have a3 : ¬ coll < 0 := by omega
  have b3 : ¬ 3 ≤ coll := by omega
  have a4 : ¬ ver < 1 := by omega
  have b4 : ¬ 3 < ver := by omega
  have a5 : ¬ time < 0 := by omega
  have b5 : ¬ 1099511627776 < time := by omega
  have H7 := Lib.hid h7
  have H8 := Lib.hid h8
  have g : ¬ n < 0 := by omega
  clear h0 h1 h2 h3 h4 h5 h7 h8
  go_enter Try.func14, Try.ntmps14
  go_wp2_with fail
  refine (rtext_is key true (iff_yes H7.out) _).mono ?_
  rintro _ wt ⟨rfl, rfl⟩
  go_wp2_with fail
  refine (rtext_is text true (iff_yes H8.out) _).mono ?_
  rintro _ wt ⟨rfl, rfl⟩
  go_wp2_with fail
  go_ret
  exact ⟨rfl, only_alloc (World.grownBy_alloc w _ none) _⟩
set_option maxRecDepth 100000 in
theorem rk5c (d e s coll ver n time : Int) (key text : ByteArray) (A : Option Addr) (c : Nat) (l : List Dt) (w : World) (h0 : 0 ≤ d ∧ d ≤ 5) (h1 : 1 ≤ e ∧ e ≤ 1073741824) (h2 : 1 ≤ s ∧ s ≤ 1073741824) (h3 : 0 ≤ coll ∧ coll ≤ 2) (h4 : 1 ≤ ver ∧ ver ≤ 3) (h5 : 0 ≤ time ∧ time ≤ 1099511627776) (h7 : textOk key) (h8 : textOk text) (f : 0 ≤ n ∧ n ≤ 999) :
    Calls Try.prog 14 #[.agg #[.int .i64 d, .int .i64 e, .int .i64 s, .int .i64 coll, .int .i64 ver, .int .i64 5, .string key, .string text, .int .i64 n, .int .i64 time, .slice A l.length c]] w fun e' w' => e' = .returned (.int .i64 0) ∧ w.grownBy w' none := by
  have a0 : ¬ d < 0 := by omega
  have b0 : ¬ 6 ≤ d := by omega
  have a1 : ¬ e < 1 := by omega
  have b1 : ¬ 1073741824 < e := by omega
  have a2 : ¬ s < 1 := by omega
  have b2 : ¬ 1073741824 < s := by omega
  have a3 : ¬ coll < 0 := by omega
  have b3 : ¬ 3 ≤ coll := by omega
  have a4 : ¬ ver < 1 := by omega
  have b4 : ¬ 3 < ver := by omega
  have a5 : ¬ time < 0 := by omega
  have b5 : ¬ 1099511627776 < time := by omega
  have H7 := Lib.hid h7
  have H8 := Lib.hid h8
  have g : ¬ n < 0 := by omega
  have g2 : ¬ 1000 ≤ n := by omega
  clear f
  clear h0 h1 h2 h3 h4 h5 h7 h8
  go_enter Try.func14, Try.ntmps14
  go_wp2_with fail
  refine (rtext_is key true (iff_yes H7.out) _).mono ?_
  rintro _ wt ⟨rfl, rfl⟩
  go_wp2_with fail
  refine (rtext_is text true (iff_yes H8.out) _).mono ?_
  rintro _ wt ⟨rfl, rfl⟩
  go_wp2_with fail
  go_ret
  exact ⟨rfl, only_alloc (World.grownBy_alloc w _ none) _⟩
set_option maxRecDepth 100000 in
theorem rk4a (d e s coll ver n time : Int) (key text : ByteArray) (A : Option Addr) (c : Nat) (l : List Dt) (w : World) (h0 : 0 ≤ d ∧ d ≤ 5) (h1 : 1 ≤ e ∧ e ≤ 1073741824) (h2 : 1 ≤ s ∧ s ≤ 1073741824) (h3 : 0 ≤ coll ∧ coll ≤ 2) (h4 : 1 ≤ ver ∧ ver ≤ 3) (h5 : 0 ≤ time ∧ time ≤ 1099511627776) (h7 : textOk key) (h8 : textOk text) (h9 : key.size ≠ 0) (f : n = 0) :
    Calls Try.prog 14 #[.agg #[.int .i64 d, .int .i64 e, .int .i64 s, .int .i64 coll, .int .i64 ver, .int .i64 4, .string key, .string text, .int .i64 n, .int .i64 time, .slice A l.length c]] w fun e' w' => e' = .returned (.int .i64 11) ∧ w.grownBy w' none := by
  have a0 : ¬ d < 0 := by omega
  have b0 : ¬ 6 ≤ d := by omega
  have a1 : ¬ e < 1 := by omega
  have b1 : ¬ 1073741824 < e := by omega
  have a2 : ¬ s < 1 := by omega
  have b2 : ¬ 1073741824 < s := by omega
  have a3 : ¬ coll < 0 := by omega
  have b3 : ¬ 3 ≤ coll := by omega
  have a4 : ¬ ver < 1 := by omega
  have b4 : ¬ 3 < ver := by omega
  have a5 : ¬ time < 0 := by omega
  have b5 : ¬ 1099511627776 < time := by omega
  have H7 := Lib.hid h7
  have H8 := Lib.hid h8
  have g : (n == 0) = true := by simp [f]
  clear f
  have bk : (key.toList == ([] : List UInt8)) = false := str_some key h9
  clear h0 h1 h2 h3 h4 h5 h7 h8 h9
  go_enter Try.func14, Try.ntmps14
  go_wp2_with fail
  refine (rtext_is key true (iff_yes H7.out) _).mono ?_
  rintro _ wt ⟨rfl, rfl⟩
  go_wp2_with fail
  refine (rtext_is text true (iff_yes H8.out) _).mono ?_
  rintro _ wt ⟨rfl, rfl⟩
  go_wp2_with fail
  go_ret
  exact ⟨rfl, only_alloc (World.grownBy_alloc w _ none) _⟩
set_option maxRecDepth 100000 in
theorem rk4b (d e s coll ver n time : Int) (key text : ByteArray) (A : Option Addr) (c : Nat) (l : List Dt) (w : World) (h0 : 0 ≤ d ∧ d ≤ 5) (h1 : 1 ≤ e ∧ e ≤ 1073741824) (h2 : 1 ≤ s ∧ s ≤ 1073741824) (h3 : 0 ≤ coll ∧ coll ≤ 2) (h4 : 1 ≤ ver ∧ ver ≤ 3) (h5 : 0 ≤ time ∧ time ≤ 1099511627776) (h7 : textOk key) (h8 : textOk text) (h9 : key.size ≠ 0) (f : n < -1099511627776) :
    Calls Try.prog 14 #[.agg #[.int .i64 d, .int .i64 e, .int .i64 s, .int .i64 coll, .int .i64 ver, .int .i64 4, .string key, .string text, .int .i64 n, .int .i64 time, .slice A l.length c]] w fun e' w' => e' = .returned (.int .i64 11) ∧ w.grownBy w' none := by
  have a0 : ¬ d < 0 := by omega
  have b0 : ¬ 6 ≤ d := by omega
  have a1 : ¬ e < 1 := by omega
  have b1 : ¬ 1073741824 < e := by omega
  have a2 : ¬ s < 1 := by omega
  have b2 : ¬ 1073741824 < s := by omega
  have a3 : ¬ coll < 0 := by omega
  have b3 : ¬ 3 ≤ coll := by omega
  have a4 : ¬ ver < 1 := by omega
  have b4 : ¬ 3 < ver := by omega
  have a5 : ¬ time < 0 := by omega
  have b5 : ¬ 1099511627776 < time := by omega
  have H7 := Lib.hid h7
  have H8 := Lib.hid h8
  have g : (n == 0) = false := by rw [beq_eq_false_iff_ne]; omega
  have bk : (key.toList == ([] : List UInt8)) = false := str_some key h9
  clear h0 h1 h2 h3 h4 h5 h7 h8 h9
  go_enter Try.func14, Try.ntmps14
  go_wp2_with fail
  refine (rtext_is key true (iff_yes H7.out) _).mono ?_
  rintro _ wt ⟨rfl, rfl⟩
  go_wp2_with fail
  refine (rtext_is text true (iff_yes H8.out) _).mono ?_
  rintro _ wt ⟨rfl, rfl⟩
  go_wp2_with fail
  go_ret
  exact ⟨rfl, only_alloc (World.grownBy_alloc w _ none) _⟩
set_option maxRecDepth 100000 in
theorem rk4c (d e s coll ver n time : Int) (key text : ByteArray) (A : Option Addr) (c : Nat) (l : List Dt) (w : World) (h0 : 0 ≤ d ∧ d ≤ 5) (h1 : 1 ≤ e ∧ e ≤ 1073741824) (h2 : 1 ≤ s ∧ s ≤ 1073741824) (h3 : 0 ≤ coll ∧ coll ≤ 2) (h4 : 1 ≤ ver ∧ ver ≤ 3) (h5 : 0 ≤ time ∧ time ≤ 1099511627776) (h7 : textOk key) (h8 : textOk text) (h9 : key.size ≠ 0) (f : 1099511627776 < n) :
    Calls Try.prog 14 #[.agg #[.int .i64 d, .int .i64 e, .int .i64 s, .int .i64 coll, .int .i64 ver, .int .i64 4, .string key, .string text, .int .i64 n, .int .i64 time, .slice A l.length c]] w fun e' w' => e' = .returned (.int .i64 11) ∧ w.grownBy w' none := by
  have a0 : ¬ d < 0 := by omega
  have b0 : ¬ 6 ≤ d := by omega
  have a1 : ¬ e < 1 := by omega
  have b1 : ¬ 1073741824 < e := by omega
  have a2 : ¬ s < 1 := by omega
  have b2 : ¬ 1073741824 < s := by omega
  have a3 : ¬ coll < 0 := by omega
  have b3 : ¬ 3 ≤ coll := by omega
  have a4 : ¬ ver < 1 := by omega
  have b4 : ¬ 3 < ver := by omega
  have a5 : ¬ time < 0 := by omega
  have b5 : ¬ 1099511627776 < time := by omega
  have H7 := Lib.hid h7
  have H8 := Lib.hid h8
  have g : (n == 0) = false := by rw [beq_eq_false_iff_ne]; omega
  have g2 : ¬ n < -1099511627776 := by omega
  have bk : (key.toList == ([] : List UInt8)) = false := str_some key h9
  clear h0 h1 h2 h3 h4 h5 h7 h8 h9
  go_enter Try.func14, Try.ntmps14
  go_wp2_with fail
  refine (rtext_is key true (iff_yes H7.out) _).mono ?_
  rintro _ wt ⟨rfl, rfl⟩
  go_wp2_with fail
  refine (rtext_is text true (iff_yes H8.out) _).mono ?_
  rintro _ wt ⟨rfl, rfl⟩
  go_wp2_with fail
  go_ret
  exact ⟨rfl, only_alloc (World.grownBy_alloc w _ none) _⟩
set_option maxRecDepth 100000 in
theorem rk4d (d e s coll ver n time : Int) (key text : ByteArray) (A : Option Addr) (c : Nat) (l : List Dt) (w : World) (h0 : 0 ≤ d ∧ d ≤ 5) (h1 : 1 ≤ e ∧ e ≤ 1073741824) (h2 : 1 ≤ s ∧ s ≤ 1073741824) (h3 : 0 ≤ coll ∧ coll ≤ 2) (h4 : 1 ≤ ver ∧ ver ≤ 3) (h5 : 0 ≤ time ∧ time ≤ 1099511627776) (h7 : textOk key) (h8 : textOk text) (h9 : key.size ≠ 0) (f : -1099511627776 ≤ n ∧ n ≤ 1099511627776) (f0 : n ≠ 0) :
    Calls Try.prog 14 #[.agg #[.int .i64 d, .int .i64 e, .int .i64 s, .int .i64 coll, .int .i64 ver, .int .i64 4, .string key, .string text, .int .i64 n, .int .i64 time, .slice A l.length c]] w fun e' w' => e' = .returned (.int .i64 0) ∧ w.grownBy w' none := by
  have a0 : ¬ d < 0 := by omega
  have b0 : ¬ 6 ≤ d := by omega
  have a1 : ¬ e < 1 := by omega
  have b1 : ¬ 1073741824 < e := by omega
  have a2 : ¬ s < 1 := by omega
  have b2 : ¬ 1073741824 < s := by omega
  have a3 : ¬ coll < 0 := by omega
  have b3 : ¬ 3 ≤ coll := by omega
  have a4 : ¬ ver < 1 := by omega
  have b4 : ¬ 3 < ver := by omega
  have a5 : ¬ time < 0 := by omega
  have b5 : ¬ 1099511627776 < time := by omega
  have H7 := Lib.hid h7
  have H8 := Lib.hid h8
  have g : (n == 0) = false := by rw [beq_eq_false_iff_ne]; omega
  have g2 : ¬ n < -1099511627776 := by omega
  have g3 : ¬ 1099511627776 < n := by omega
  clear f f0
  have bk : (key.toList == ([] : List UInt8)) = false := str_some key h9
  clear h0 h1 h2 h3 h4 h5 h7 h8 h9
  go_enter Try.func14, Try.ntmps14
  go_wp2_with fail
  refine (rtext_is key true (iff_yes H7.out) _).mono ?_
  rintro _ wt ⟨rfl, rfl⟩
  go_wp2_with fail
  refine (rtext_is text true (iff_yes H8.out) _).mono ?_
  rintro _ wt ⟨rfl, rfl⟩
  go_wp2_with fail
  go_ret
  exact ⟨rfl, only_alloc (World.grownBy_alloc w _ none) _⟩
end Go.Proofs.Ytcmpeohooiehcaa
