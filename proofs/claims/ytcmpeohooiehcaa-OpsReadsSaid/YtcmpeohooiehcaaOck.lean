/- ops.Check of whatever operation that is no remove, as one function; the law's example and its within. No condition of the program's own. -/
import Derived.Test.YtcmpeohooiehcaaChk
namespace Go.Proofs.Ytcmpeohooiehcaa
open Go.RowKit Go.Deep

instance (s : ByteArray) : Decidable (textOk s) := by unfold textOk; infer_instance
def kindP (kind n : Int) (key : ByteArray) : Int :=
  if kind = 5 then (if 0 ≤ n ∧ n ≤ 999 then 0 else 11) else if key.size = 0 then 1 else if kind = 4 then (if n = 0 then 11 else if -1099511627776 ≤ n ∧ n ≤ 1099511627776 then 0 else 11) else 0
def checkP (d e s coll ver kind n time : Int) (key text : ByteArray) : Int :=
  if ¬ (0 ≤ d ∧ d ≤ 5) then 1 else if ¬ (1 ≤ e ∧ e ≤ 1073741824) then 1 else if ¬ (1 ≤ s ∧ s ≤ 1073741824) then 1 else if ¬ (0 ≤ coll ∧ coll ≤ 2) then 1 else
  if ¬ (1 ≤ ver ∧ ver ≤ 3) then 1 else if ¬ (0 ≤ time ∧ time ≤ 1099511627776) then 1 else if ¬ (1 ≤ kind ∧ kind ≤ 5) then 3 else if ¬ textOk key then 5 else if ¬ textOk text then 5 else kindP kind n key
theorem knd_any (d e s coll ver kind n time : Int) (key text : ByteArray) (A : Option Addr) (len c : Nat) (hk : 1 ≤ kind ∧ kind ≤ 5) (h3 : kind ≠ 3) (w : World) :
    Calls Try.prog 28 #[.agg #[.int .i64 d, .int .i64 e, .int .i64 s, .int .i64 coll, .int .i64 ver, .int .i64 kind, .string key, .string text, .int .i64 n, .int .i64 time, .slice A len c]] w fun e' w' => e' = .returned (.int .i64 (kindP kind n key)) ∧ w.grownBy w' none := by
  unfold kindP
  rcases (show kind = 5 ∨ kind = 4 ∨ kind = 1 ∨ kind = 2 by omega) with rfl | rfl | rfl | rfl
  · rw [if_pos rfl]
    by_cases h : 0 ≤ n ∧ n ≤ 999
    · rw [if_pos h]; exact knd5_ok d e s coll ver n time key text A len c w h
    · rw [if_neg h]; exact knd5_no d e s coll ver n time key text A len c w h
  · rw [if_neg (by omega)]
    by_cases h : key.size = 0
    · rw [if_pos h]; exact knd4_no d e s coll ver n time key text A len c w h
    · rw [if_neg h, if_pos rfl]
      by_cases h0 : n = 0
      · rw [if_pos h0]; exact knd4_zero d e s coll ver n time key text A len c w h h0
      · rw [if_neg h0]
        by_cases h1 : -1099511627776 ≤ n ∧ n ≤ 1099511627776
        · rw [if_pos h1]; exact knd4_ok d e s coll ver n time key text A len c w h h0 h1
        · rw [if_neg h1]; exact knd4_over d e s coll ver n time key text A len c w h h0 h1
  · rw [if_neg (by omega)]
    by_cases h : key.size = 0
    · rw [if_pos h]; exact knd1_no d e s coll ver n time key text A len c w h
    · rw [if_neg h, if_neg (by omega)]; exact knd1_ok d e s coll ver n time key text A len c w h
  · rw [if_neg (by omega)]
    by_cases h : key.size = 0
    · rw [if_pos h]; exact knd2_no d e s coll ver n time key text A len c w h
    · rw [if_neg h, if_neg (by omega)]; exact knd2_ok d e s coll ver n time key text A len c w h
theorem check_any (d e s coll ver kind n time : Int) (key text : ByteArray) (A : Option Addr) (len c : Nat) (h3 : kind ≠ 3) (w : World) :
    Calls Try.prog 13 #[.agg #[.int .i64 d, .int .i64 e, .int .i64 s, .int .i64 coll, .int .i64 ver, .int .i64 kind, .string key, .string text, .int .i64 n, .int .i64 time, .slice A len c]] w fun e' w' => e' = .returned (.int .i64 (checkP d e s coll ver kind n time key text)) ∧ w.grownBy w' none := by
  unfold checkP
  by_cases h0 : 0 ≤ d ∧ d ≤ 5
  · rw [if_neg (fun h => h h0)]
    by_cases h1 : 1 ≤ e ∧ e ≤ 1073741824
    · rw [if_neg (fun h => h h1)]
      by_cases h2 : 1 ≤ s ∧ s ≤ 1073741824
      · rw [if_neg (fun h => h h2)]
        by_cases h4 : 0 ≤ coll ∧ coll ≤ 2
        · rw [if_neg (fun h => h h4)]
          by_cases h5 : 1 ≤ ver ∧ ver ≤ 3
          · rw [if_neg (fun h => h h5)]
            by_cases h6 : 0 ≤ time ∧ time ≤ 1099511627776
            · rw [if_neg (fun h => h h6)]
              by_cases h7 : 1 ≤ kind ∧ kind ≤ 5
              · rw [if_neg (fun h => h h7)]
                by_cases h8 : textOk key
                · rw [if_neg (fun h => h h8)]
                  by_cases h9 : textOk text
                  · rw [if_neg (fun h => h h9)]
                    exact chk_on d e s coll ver kind n time key text A len c w h0 h1 h2 h4 h5 h6 h7 h8 h9 _ (knd_any d e s coll ver kind n time key text A len c h7 h3)
                  · rw [if_pos h9]; exact chk_no8 d e s coll ver kind n time key text A len c w h0 h1 h2 h4 h5 h6 h7 h8 h9
                · rw [if_pos h8]; exact chk_no7 d e s coll ver kind n time key text A len c w h0 h1 h2 h4 h5 h6 h7 h8
              · rw [if_pos h7]; exact chk_no6 d e s coll ver kind n time key text A len c w h0 h1 h2 h4 h5 h6 h7
            · rw [if_pos h6]; exact chk_no5 d e s coll ver kind n time key text A len c w h0 h1 h2 h4 h5 h6
          · rw [if_pos h5]; exact chk_no4 d e s coll ver kind n time key text A len c w h0 h1 h2 h4 h5
        · rw [if_pos h4]; exact chk_no3 d e s coll ver kind n time key text A len c w h0 h1 h2 h4
      · rw [if_pos h2]; exact chk_no2 d e s coll ver kind n time key text A len c w h0 h1 h2
    · rw [if_pos h1]; exact chk_no1 d e s coll ver kind n time key text A len c w h0 h1
  · rw [if_pos h0]; exact chk_no0 d e s coll ver kind n time key text A len c w h0

theorem known_any (w : World) : Calls Try.prog 10 #[] w fun e w' => e = .returned (.bool true) ∧ w.grownBy w' none := by
  go_enter Try.func10, Try.ntmps10
  go_wp2_with fail
  refine (check_any 0 0 0 0 0 1 0 0 _ _ none 0 0 (by decide) _).mono ?_
  rintro _ w1 ⟨rfl, g1⟩
  rw [show checkP 0 0 0 0 0 1 0 0 { data := #[97] } { data := #[] } = 1 by rfl]
  go_wp2_with fail
  go_ret
  exact ⟨rfl, g1⟩
end Go.Proofs.Ytcmpeohooiehcaa
