/- The laws' helpers known and within, and the walk of CodeShort: it returns true for every pair of numbers. No condition. -/
import Derived.Test.YtjcanlnnadnodaaCode
import Derived.BigQuiet
import Derived.Deep.QuietTactic
namespace Go.Proofs.Ytjcanlnnadnodaa
open Go.RowKit

theorem enc_m1 : enc (-1) = [1] := by
  unfold enc encU zig
  simp [hib_zero]
theorem enc_64 : enc 64 = [129, 0] := by
  unfold enc encU zig
  simp [hib_pos, hib_zero]
/-- How many bytes above the last one. -/
def nb : Nat → Nat → Nat
  | 0, _ => 0
  | f + 1, u => if u = 0 then 0 else nb f (u / 128) + 1
theorem hib_nb (f : Nat) : ∀ u : Nat, u < 128 ^ f → (hib u).length = nb f u := by
  induction f with
  | zero => intro u h; have : u = 0 := by simpa using h
            subst this; simp [hib_zero, nb]
  | succ f ih =>
    intro u h
    by_cases h0 : u = 0
    · subst h0; simp [hib_zero, nb]
    · rw [hib_pos u (by omega), List.length_cons, ih (u / 128) (by rw [Nat.div_lt_iff_lt_mul (by omega)]; rw [Nat.pow_succ] at h; exact h)]
      simp [nb, h0]
theorem encU_nb (u : Nat) (h : u < 18446744073709551616) : (encU u).length = nb 9 (u / 128) + 1 := by
  have := hib_nb 9 (u / 128) (by
    have : (128 : Nat) ^ 9 = 9223372036854775808 := by decide
    rw [this]; omega)
  unfold encU; simp only [List.length_append, List.length_reverse, List.length_singleton]; omega
theorem nb_pow : ∀ k, k < 63 → nb 9 (2 ^ (k + 1) / 128) + 1 = (k + 8) / 7 ∧ nb 9 ((2 ^ (k + 1) - 1) / 128) + 1 = (k + 7) / 7 ∧ 2 ^ k ≤ 4611686018427387904 := by decide +kernel
theorem enc_pow (k : Nat) (h : k < 63) : (enc ((2 ^ k : Nat) : Int)).length = (k + 8) / 7 := by
  have h1 := nb_pow k h
  have e : (zig ((2 ^ k : Nat) : Int)).toNat = 2 ^ (k + 1) := by unfold zig; rw [if_pos (Int.natCast_nonneg _), Nat.pow_succ]; omega
  unfold enc
  rw [e, encU_nb _ (by rw [Nat.pow_succ]; omega), h1.1]
theorem enc_neg (k : Nat) (h : k < 63) : (enc (-((2 ^ k : Nat) : Int))).length = (k + 7) / 7 := by
  have h1 := nb_pow k h
  have hp : 0 < 2 ^ k := Nat.two_pow_pos k
  have e : (zig (-((2 ^ k : Nat) : Int))).toNat = 2 ^ (k + 1) - 1 := by unfold zig; rw [if_neg (by omega), Nat.pow_succ]; omega
  unfold enc
  rw [e, encU_nb _ (by rw [Nat.pow_succ]; omega), h1.2.1]

theorem within_any (n m : Int) (h1 : -9223372036854775808 ≤ n) (h2 : n ≤ 9223372036854775807) (m1 : 1 ≤ m) (m2 : m ≤ 9223372036854775807) (w : World) :
    Calls Try.prog 21 #[.int .i64 n, .int .i64 m] w fun e w' => e = .returned (.int .i64 (n % m)) ∧ w = w' := by
  have hb1 := Int.emod_nonneg n (show m ≠ 0 by omega)
  have hb2 := Int.emod_lt_of_pos n (show 0 < m by omega)
  by_cases hn : 0 ≤ n
  · have ht : ¬ n % m < 0 := by omega
    go_enter Try.func21, Try.ntmps21
    go_wp2
    go_ret
    exact ⟨rfl, rfl⟩
  · have e : n.tmod m = if n % m = 0 then 0 else n % m - m := by
      have h := @Int.tmod_eq_emod n m
      rw [h]
      by_cases h0 : n % m = 0
      · rw [if_pos h0, if_pos (by right; exact Int.dvd_of_emod_eq_zero h0), h0]; rfl
      · rw [if_neg h0, if_neg (by
          rintro (h | h)
          · exact hn h
          · exact h0 (Int.emod_eq_zero_of_dvd h))]
        omega
    by_cases h0 : n % m = 0
    · rw [if_pos h0] at e
      have E := Lib.hid h0
      clear h0
      go_enter Try.func21, Try.ntmps21
      go_wp2
      go_ret
      exact ⟨by rw [E.out]; rfl, rfl⟩
    · rw [if_neg h0] at e
      obtain ⟨r, hr⟩ : ∃ r, r = n % m := ⟨_, rfl⟩
      rw [← hr] at e hb1 hb2 h0
      have E := Lib.hid hr
      clear hr
      have ht : r - m < 0 := by omega
      go_enter Try.func21, Try.ntmps21
      go_wp2
      go_ret
      exact ⟨by rw [← E.out]; congr 2, rfl⟩

theorem known_any (w : World) : Calls Try.prog 12 #[] w fun e w' => e = .returned (.bool true) ∧ w.grownBy w' none := by
  have e1 := Lib.hid enc_m1
  have e2 := Lib.hid enc_64
  go_enter Try.func12, Try.ntmps12
  go_wp2_with fail
  refine (int_any none 0 [] (-1) _ Has.nil (by simp) (by simp) (by omega) (by omega)).mono ?_
  rintro e w1 ⟨v1, rfl, g1⟩
  go_wp2_with fail
  refine (int_any none 0 [] 64 _ Has.nil (by simp) (by simp) (by omega) (by omega)).mono ?_
  rintro e w2 ⟨v2, rfl, g2⟩
  rw [e1.out] at g1
  rw [e2.out] at g2
  have o1 := g1.own.kept (g2.none rfl) (by cases v1.ownBlock <;> simp)
  have o2 := g2.own
  obtain ⟨a1, c1, hv1, _⟩ := own_form o1 (by simp [bs])
  obtain ⟨a2, c2, hv2, _⟩ := own_form o2 (by simp [bs])
  have x1 : w2.cell? ⟨a1, 0, none⟩ = some (.int .u8 1) := by rw [hv1] at o1; have := o1.cellAt 0 (by simp [bs]); simpa [bs] using this
  have y1 : w2.cell? ⟨a2, 0, none⟩ = some (.int .u8 129) := by rw [hv2] at o2; have := o2.cellAt 0 (by simp [bs]); simpa [bs] using this
  have y2 : w2.cell? ⟨a2, 1, none⟩ = some (.int .u8 0) := by rw [hv2] at o2; have := o2.cellAt 1 (by simp [bs]); simpa [bs] using this
  have z1 : w2.cell? ⟨a2, 0 + 1, none⟩ = some (.int .u8 0) := y2
  rw [hv1, hv2]
  have hg : w.grownBy w2 none := only_step (g1.none rfl) (g2.none rfl) (fun _ h => by cases h)
  clear o1 o2 g1 g2 hv1 hv2
  simp only [bs, List.nil_append, List.map_cons, List.map_nil, List.length_cons, List.length_nil]
  go_wp2
  go_ret
  exact ⟨rfl, hg⟩
theorem codeShort_walk (n k : Int) (h1 : -9223372036854775808 ≤ n) (h2 : n ≤ 9223372036854775807) (k1 : -9223372036854775808 ≤ k) (k2 : k ≤ 9223372036854775807) (w : World) :
    Calls Try.prog 6 #[.int .i64 n, .int .i64 k] w fun e w' => e = .returned (.bool true) ∧ w.grownBy w' none := by
  obtain ⟨j, hj⟩ : ∃ j : Nat, k % 63 = j := ⟨(k % 63).toNat, by omega⟩
  have hj2 : j < 63 := by omega
  have HJ := Lib.hid hj
  obtain ⟨q, ep, p1, p2, q1, q2⟩ : ∃ q : Int, wrap64 ((2 : Int) ^ j) = q ∧ Hid ((enc q).length = (j + 8) / 7) ∧ Hid ((enc (-q)).length = (j + 7) / 7) ∧ 0 ≤ q ∧ q ≤ 4611686018427387904 :=
    ⟨((2 ^ j : Nat) : Int), by
      have h := (nb_pow j hj2).2.2
      have e : ((2 : Int) ^ j) = ((2 ^ j : Nat) : Int) := by rw [Int.natCast_pow]; rfl
      rw [e]
      have h0 : (0 : Int) ≤ ((2 ^ j : Nat) : Int) := Int.natCast_nonneg _; exact IntWalk.wrap64_in _ ⟨by omega, by omega⟩, enc_pow j hj2, enc_neg j hj2, Int.natCast_nonneg _, by have h := (nb_pow j hj2).2.2; omega⟩
  have hlen := enc_len n h1 h2
  clear hj
  go_enter Try.func6, Try.ntmps6
  go_wp2_with fail
  refine (known_any _).mono ?_
  rintro e w1 ⟨rfl, g1⟩
  go_wp2_with fail
  refine (within_any k 63 k1 k2 (by omega) (by omega) _).mono ?_
  rintro e w2 ⟨rfl, rfl⟩
  rw [HJ.out]
  go_wp2_with fail
  refine (int_any none 0 [] q _ Has.nil (by simp) (by simp) (by omega) (by omega)).mono ?_
  rintro e w2 ⟨v1, rfl, r1⟩
  obtain ⟨a1, c1, rfl, _⟩ := own_form r1.own (by simp [bs_len]; have := enc_len q (by omega) (by omega); omega)
  go_wp2_with fail
  refine (int_any none 0 [] (-q) _ Has.nil (by simp) (by simp) (by omega) (by omega)).mono ?_
  rintro e w3 ⟨v2, rfl, r2⟩
  obtain ⟨a2, c2, rfl, _⟩ := own_form r2.own (by simp [bs_len]; have := enc_len (-q) (by omega) (by omega); omega)
  go_wp2_with fail
  refine (int_any none 0 [] n _ Has.nil (by simp) (by simp) (by omega) (by omega)).mono ?_
  rintro e w4 ⟨v3, rfl, r3⟩
  obtain ⟨a3, c3, rfl, _⟩ := own_form r3.own (by simp [bs_len]; omega)
  have hg : w.grownBy w4 none := only_step g1 (only_step (r1.none rfl) (only_step (r2.none rfl) (r3.none rfl) (fun _ h => by cases h)) (fun _ h => by cases h)) (fun _ h => by cases h)
  clear r1 r2 r3 g1
  simp only [List.nil_append, bs_len, p1.out, p2.out]
  go_wp2
  go_ret
  exact ⟨by have := hlen.2; simp; omega, hg⟩
end Go.Proofs.Ytjcanlnnadnodaa
