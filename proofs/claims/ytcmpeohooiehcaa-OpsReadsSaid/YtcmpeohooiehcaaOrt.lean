/- The reference's Text; the law's Few. No condition of the program's own. -/
import Derived.Test.YtcmpeohooiehcaaOcf
import Derived.Test.YtcmpeohooiehcaaOdv
namespace Go.Proofs.Ytcmpeohooiehcaa
open Go.RowKit Go.Deep

set_option maxRecDepth 100000 in
theorem rtext_is (s : ByteArray) (r : Bool) (h : r = true ↔ textOk s) (w : World) : Calls Try.prog 29 #[.string s] w fun e w' => e = .returned (.bool r) ∧ w = w' := by
  by_cases h0 : s.size ≤ 40
  · have t0 : ¬ (40 : Int) < (s.size : Int) := by omega
    have H := Lib.hid h
    clear h
    go_enter Try.func29, Try.ntmps29
    go_wp2_with fail
    go_loopw [3] (fun si wr => ∃ i : Nat, i ≤ s.size ∧ si = .int .i64 i ∧ (∀ j (hj : j < s.size), j < i → 32 ≤ (s[j]'hj).toNat ∧ (s[j]'hj).toNat ≠ 127) ∧ wr = w) (fun si _ => s.size - (intOf si).toNat)
    case atStart => exact ⟨0, Nat.zero_le _, rfl, fun _ _ h => absurd h (by omega), rfl⟩
    case round =>
      obtain ⟨i, hi, rfl, hall, rfl⟩ := hrel
      have HA := Lib.hid hall
      clear hall
      have u0 : (0 : Int) ≤ (i : Int) := by omega
      by_cases hlt : i < s.size
      · have u1 : (i : Int) < (s.size : Int) := by omega
        have hes : IntKind.i64.wrap ((i : Int) + 1) = (i : Int) + 1 := by rw [IntKind.wrap_i64]; omega
        by_cases c1 : (s[i]'hlt).toNat < 32
        · have d1 : (((s[i]'hlt).toNat : Int)) < 32 := by omega
          obtain rfl : r = false := by
            cases r
            · rfl
            · have := ((H.out.1 rfl).2 i hlt).1; omega
          go_wp2_with fail
          go_ret
          exact ⟨rfl, rfl⟩
        · have d1 : ¬ (((s[i]'hlt).toNat : Int)) < 32 := by omega
          by_cases c2 : (s[i]'hlt).toNat = 127
          · have d2 : ((((s[i]'hlt).toNat : Int)) == 127) = true := by rw [beq_iff_eq]; omega
            obtain rfl : r = false := by
              cases r
              · rfl
              · exact absurd c2 ((H.out.1 rfl).2 i hlt).2
            go_wp2_with fail
            go_ret
            exact ⟨rfl, rfl⟩
          · have d2 : ((((s[i]'hlt).toNat : Int)) == 127) = false := by rw [beq_eq_false_iff_ne]; omega
            go_wp2_with fail
            refine ⟨⟨i + 1, by omega, by go_num, fun j hj h => by
              rcases Nat.lt_or_ge j i with h5 | h5
              · exact HA.out j hj h5
              · obtain rfl : j = i := by omega
                exact ⟨by omega, c2⟩, trivial⟩, ?_⟩
            simp [intOf]; omega
      · have u1 : ¬ (i : Int) < (s.size : Int) := by omega
        obtain rfl : r = true := H.out.2 ⟨h0, fun j hj => HA.out j hj (by omega)⟩
        go_wp2_with fail
        go_ret
        exact ⟨rfl, rfl⟩
  · have t0 : (40 : Int) < (s.size : Int) := by omega
    obtain rfl : r = false := by
      cases r
      · rfl
      · exact absurd (h.1 rfl).1 h0
    clear h
    go_enter Try.func29, Try.ntmps29
    go_wp2_with fail
    go_ret
    exact ⟨rfl, rfl⟩
def fewP (key text : ByteArray) (l : List Dt) : Bool := decide (key.size ≤ 60) && (decide (text.size ≤ 60) && decide (l.length ≤ 12))
set_option maxRecDepth 100000 in
theorem few_any (d e s coll ver kind n time : Int) (key text : ByteArray) (A : Option Addr) (c : Nat) (l : List Dt) (w : World) :
    Calls Try.prog 11 #[.agg #[.int .i64 d, .int .i64 e, .int .i64 s, .int .i64 coll, .int .i64 ver, .int .i64 kind, .string key, .string text, .int .i64 n, .int .i64 time, .slice A l.length c]] w fun e' w' => e' = .returned (.bool (fewP key text l)) ∧ w.grownBy w' none := by
  by_cases h1 : key.size ≤ 60
  · have u1 : (key.size : Int) ≤ 60 := by omega
    by_cases h2 : text.size ≤ 60
    · have u2 : (text.size : Int) ≤ 60 := by omega
      by_cases h3 : l.length ≤ 12
      · have u3 : (l.length : Int) ≤ 12 := by omega
        have hr : fewP key text l = true := by simp [fewP, *]
        rw [hr]
        clear hr h1 h2 h3
        go_enter Try.func11, Try.ntmps11
        go_wp2_with fail
        go_ret
        exact ⟨rfl, World.grownBy_alloc w _ none⟩
      · have u3 : ¬ (l.length : Int) ≤ 12 := by omega
        have hr : fewP key text l = false := by simp [fewP, *]
        rw [hr]
        clear hr h1 h2 h3
        go_enter Try.func11, Try.ntmps11
        go_wp2_with fail
        go_ret
        exact ⟨rfl, World.grownBy_alloc w _ none⟩
    · have u2 : ¬ (text.size : Int) ≤ 60 := by omega
      have hr : fewP key text l = false := by simp [fewP, *]
      rw [hr]
      clear hr h1 h2
      go_enter Try.func11, Try.ntmps11
      go_wp2_with fail
      go_ret
      exact ⟨rfl, World.grownBy_alloc w _ none⟩
  · have u1 : ¬ (key.size : Int) ≤ 60 := by omega
    have hr : fewP key text l = false := by simp [fewP, *]
    rw [hr]
    clear hr h1
    go_enter Try.func11, Try.ntmps11
    go_wp2_with fail
    go_ret
    exact ⟨rfl, World.grownBy_alloc w _ none⟩
end Go.Proofs.Ytcmpeohooiehcaa
