/- plain's questions of numbers and texts, and the law's within. No condition of the program's own. -/
import Derived.Test.YtcmpeohooiehcaaWide
import Derived.WalkKit
import Derived.ProofKit
import Derived.Below
import Derived.Lib.Hide
import Derived.Deep.QuietTactic
namespace Go.Proofs.Ytcmpeohooiehcaa
open Go.RowKit Go.Deep

theorem wn_any (n a b : Int) (w : World) : Calls Try.prog 24 #[.int .i64 n, .int .i64 a, .int .i64 b] w fun e w' => e = .returned (.bool (decide (a ≤ n) && decide (n ≤ b))) ∧ w = w' := by
  by_cases h1 : a ≤ n
  · by_cases h2 : n ≤ b
    · have h3 : (decide (a ≤ n) && decide (n ≤ b)) = true := by simp [h1, h2]
      rw [h3]
      go_enter Try.func24, Try.ntmps24
      go_wp2_with fail
      go_ret
      exact ⟨rfl, rfl⟩
    · have h3 : (decide (a ≤ n) && decide (n ≤ b)) = false := by simp [h2]
      rw [h3]
      go_enter Try.func24, Try.ntmps24
      go_wp2_with fail
      go_ret
      exact ⟨rfl, rfl⟩
  · have h3 : (decide (a ≤ n) && decide (n ≤ b)) = false := by simp [h1]
    rw [h3]
    go_enter Try.func24, Try.ntmps24
    go_wp2_with fail
    go_ret
    exact ⟨rfl, rfl⟩
theorem wn_is (n a b : Int) (r : Bool) (h : r = true ↔ a ≤ n ∧ n ≤ b) (w : World) : Calls Try.prog 24 #[.int .i64 n, .int .i64 a, .int .i64 b] w fun e w' => e = .returned (.bool r) ∧ w = w' := by
  have e : (decide (a ≤ n) && decide (n ≤ b)) = r := by
    cases r
    · simp only [Bool.false_eq_true, false_iff] at h
      simp only [Bool.and_eq_false_iff, decide_eq_false_iff_not]; omega
    · simp only [true_iff] at h
      simp [h.1, h.2]
  rw [← e]; exact wn_any n a b w
theorem dev_is (n : Int) (r : Bool) (h : r = true ↔ 0 ≤ n ∧ n ≤ 5) (w : World) : Calls Try.prog 23 #[.int .i64 n] w fun e w' => e = .returned (.bool r) ∧ w = w' := by
  have H := Lib.hid h
  clear h
  go_enter Try.func23, Try.ntmps23
  go_wp2_with fail
  refine (wn_is n 0 5 r H.out _).mono ?_
  rintro _ w1 ⟨rfl, rfl⟩
  go_wp2_with fail
  go_ret
  exact ⟨rfl, rfl⟩
theorem col_is (n : Int) (r : Bool) (h : r = true ↔ 0 ≤ n ∧ n ≤ 2) (w : World) : Calls Try.prog 25 #[.int .i64 n] w fun e w' => e = .returned (.bool r) ∧ w = w' := by
  have H := Lib.hid h
  clear h
  go_enter Try.func25, Try.ntmps25
  go_wp2_with fail
  refine (wn_is n 0 2 r H.out _).mono ?_
  rintro _ w1 ⟨rfl, rfl⟩
  go_wp2_with fail
  go_ret
  exact ⟨rfl, rfl⟩
theorem ver_is (n : Int) (r : Bool) (h : r = true ↔ 1 ≤ n ∧ n ≤ 3) (w : World) : Calls Try.prog 26 #[.int .i64 n] w fun e w' => e = .returned (.bool r) ∧ w = w' := by
  have H := Lib.hid h
  clear h
  go_enter Try.func26, Try.ntmps26
  go_wp2_with fail
  refine (wn_is n 1 3 r H.out _).mono ?_
  rintro _ w1 ⟨rfl, rfl⟩
  go_wp2_with fail
  go_ret
  exact ⟨rfl, rfl⟩

/-- What a text may be: at most forty bytes, none below 32, none 127. -/
def textOk (s : ByteArray) : Prop := s.size ≤ 40 ∧ ∀ i (h : i < s.size), 32 ≤ (s[i]'h).toNat ∧ (s[i]'h).toNat ≠ 127
set_option maxRecDepth 100000 in
theorem text_is (s : ByteArray) (r : Bool) (h : r = true ↔ textOk s) (w : World) : Calls Try.prog 27 #[.string s] w fun e w' => e = .returned (.bool r) ∧ w = w' := by
  by_cases h0 : s.size ≤ 40
  · have t0 : ¬ (40 : Int) < (s.size : Int) := by omega
    have H := Lib.hid h
    clear h
    go_enter Try.func27, Try.ntmps27
    go_wp2_with fail
    go_loopw [9] (fun si wr => ∃ i : Nat, i ≤ s.size ∧ si = .int .i64 i ∧ (∀ j (hj : j < s.size), j < i → 32 ≤ (s[j]'hj).toNat ∧ (s[j]'hj).toNat ≠ 127) ∧ wr = w) (fun si _ => s.size - (intOf si).toNat)
    case atStart => exact ⟨0, Nat.zero_le _, rfl, fun _ _ h => absurd h (by omega), rfl⟩
    case round =>
      obtain ⟨i, hi, rfl, hall, rfl⟩ := hrel
      have HA := Lib.hid hall
      clear hall
      have u0 : (0 : Int) ≤ (i : Int) := by omega
      by_cases hlt : i < s.size
      · have u1 : (i : Int) < (s.size : Int) := by omega
        have hes : IntKind.i64.wrap ((i : Int) + 1) = (i : Int) + 1 := by rw [IntKind.wrap_i64]; omega
        by_cases c1 : (s[i]'hlt).toNat < 32
        · have d1 : (((s[i]'hlt).toNat : Int)) < 32 := by omega
          obtain rfl : r = false := by
            cases r
            · rfl
            · have := ((H.out.1 rfl).2 i hlt).1; omega
          go_wp2_with fail
          go_ret
          exact ⟨rfl, rfl⟩
        · have d1 : ¬ (((s[i]'hlt).toNat : Int)) < 32 := by omega
          by_cases c2 : (s[i]'hlt).toNat = 127
          · have d2 : ((((s[i]'hlt).toNat : Int)) == 127) = true := by rw [beq_iff_eq]; omega
            obtain rfl : r = false := by
              cases r
              · rfl
              · exact absurd c2 ((H.out.1 rfl).2 i hlt).2
            go_wp2_with fail
            go_ret
            exact ⟨rfl, rfl⟩
          · have d2 : ((((s[i]'hlt).toNat : Int)) == 127) = false := by rw [beq_eq_false_iff_ne]; omega
            go_wp2_with fail
            refine ⟨⟨i + 1, by omega, by go_num, fun j hj h => by
              rcases Nat.lt_or_ge j i with h5 | h5
              · exact HA.out j hj h5
              · obtain rfl : j = i := by omega
                exact ⟨by omega, c2⟩, trivial⟩, ?_⟩
            simp [intOf]; omega
      · have u1 : ¬ (i : Int) < (s.size : Int) := by omega
        obtain rfl : r = true := H.out.2 ⟨h0, fun j hj => HA.out j hj (by omega)⟩
        go_wp2_with fail
        go_ret
        exact ⟨rfl, rfl⟩
  · have t0 : (40 : Int) < (s.size : Int) := by omega
    obtain rfl : r = false := by
      cases r
      · rfl
      · exact absurd (h.1 rfl).1 h0
    clear h
    go_enter Try.func27, Try.ntmps27
    go_wp2_with fail
    go_ret
    exact ⟨rfl, rfl⟩
theorem iff_yes {p : Prop} (h : p) : (true : Bool) = true ↔ p := ⟨fun _ => h, fun _ => rfl⟩
theorem iff_not {p : Prop} (h : ¬ p) : (false : Bool) = true ↔ p := ⟨fun e => (by cases e), fun e => absurd e h⟩
end Go.Proofs.Ytcmpeohooiehcaa
