/- The plain arithmetic of package code: numbers of either sign folded to unsigned ones, seven bits a byte, and back. It speaks of no program. -/
import Derived.Laws.BitsAllLaws
import Derived.Laws.Bits64
namespace Go.Proofs.Ytjcanlnnadnodaa

def zig (n : Int) : Int := if 0 ≤ n then 2 * n else -2 * n - 1
def zag (u : Int) : Int := if u % 2 = 0 then u / 2 else -(u / 2) - 1
theorem zag_zig (n : Int) : zag (zig n) = n := by unfold zag zig; split <;> split <;> omega
theorem zig_zag (u : Int) (h : 0 ≤ u) : zig (zag u) = u := by unfold zag zig; split <;> split <;> omega
theorem zig_bd (n : Int) (h1 : -9223372036854775808 ≤ n) (h2 : n ≤ 9223372036854775807) : 0 ≤ zig n ∧ zig n ≤ 18446744073709551615 := by unfold zig; split <;> omega
theorem zag_bd (u : Int) (h1 : 0 ≤ u) (h2 : u ≤ 18446744073709551615) : -9223372036854775808 ≤ zag u ∧ zag u ≤ 9223372036854775807 := by unfold zag; split <;> omega

/-- The bytes above the last one, the least first. -/
def hib (u : Nat) : List Int := if h : u = 0 then [] else (128 + (u % 128 : Nat)) :: hib (u / 128)
termination_by u
decreasing_by omega
theorem hib_zero : hib 0 = [] := by rw [hib]; simp
theorem hib_pos (u : Nat) (h : 0 < u) : hib u = (128 + (u % 128 : Nat) : Int) :: hib (u / 128) := by rw [hib]; simp [Nat.ne_of_gt h]
/-- The bytes of an unsigned number. -/
def encU (u : Nat) : List Int := (hib (u / 128)).reverse ++ [((u % 128 : Nat) : Int)]
def enc (n : Int) : List Int := encU (zig n).toNat

theorem hib_len (k : Nat) : ∀ u : Nat, u < 128 ^ k → (hib u).length ≤ k := by
  induction k with
  | zero => intro u h; have : u = 0 := by simpa using h
            subst this; simp [hib_zero]
  | succ k ih =>
    intro u h
    by_cases h0 : u = 0
    · subst h0; simp [hib_zero]
    · rw [hib_pos u (by omega)]
      have := ih (u / 128) (by rw [Nat.div_lt_iff_lt_mul (by omega)]; rw [Nat.pow_succ] at h; exact h)
      simp only [List.length_cons]; omega
theorem encU_len (u : Nat) (h : u < 18446744073709551616) : 1 ≤ (encU u).length ∧ (encU u).length ≤ 10 := by
  have := hib_len 9 (u / 128) (by
    have : (128 : Nat) ^ 9 = 9223372036854775808 := by decide
    rw [this]; omega)
  unfold encU; simp only [List.length_append, List.length_reverse, List.length_singleton]; omega
theorem hib_byte (u : Nat) : ∀ x ∈ hib u, 128 ≤ x ∧ x ≤ 255 := by
  induction u using Nat.strongRecOn with
  | _ u ih =>
    by_cases h0 : u = 0
    · subst h0; simp [hib_zero]
    · rw [hib_pos u (by omega)]
      intro x hx
      rcases List.mem_cons.1 hx with rfl | hx
      · omega
      · exact ih (u / 128) (by omega) x hx
theorem encU_byte (u : Nat) : ∀ x ∈ encU u, 0 ≤ x ∧ x ≤ 255 := by
  intro x hx
  unfold encU at hx
  rcases List.mem_append.1 hx with hx | hx
  · have := hib_byte _ x (List.mem_reverse.1 hx); omega
  · rw [List.mem_singleton] at hx; omega
theorem enc_len (n : Int) (h1 : -9223372036854775808 ≤ n) (h2 : n ≤ 9223372036854775807) : 1 ≤ (enc n).length ∧ (enc n).length ≤ 10 := by
  have := zig_bd n h1 h2
  exact encU_len _ (by omega)
theorem enc_byte (n : Int) : ∀ x ∈ enc n, 0 ≤ x ∧ x ≤ 255 := encU_byte _

theorem or_128 (m : Nat) : bits .or .u8 128 ((m : Int) % 128) = 128 + (m : Int) % 128 := by
  rw [show (128 : Int) = ((128 : Nat) : Int) from rfl, ← Int.natCast_emod, u8_or_nat 128 (m % 128) (by omega) (by omega), nat_join 7 128 (m % 128) (by decide) (by omega)]
  omega
theorem xor_ones (a : Nat) (h : a < 2 ^ 64) : a ^^^ 18446744073709551615 = 18446744073709551615 - a := by
  have h1 : (BitVec.ofNat 64 a ^^^ BitVec.allOnes 64).toNat = 2 ^ 64 - 1 - (BitVec.ofNat 64 a).toNat := by
    rw [BitVec.xor_allOnes, BitVec.toNat_not]
  rw [BitVec.toNat_xor, BitVec.toNat_ofNat, Nat.mod_eq_of_lt h, BitVec.toNat_allOnes] at h1
  exact h1
theorem fold_val (n : Int) (h1 : -9223372036854775808 ≤ n) (h2 : n ≤ 9223372036854775807) :
    bits .xor .u64 (IntKind.u64.wrap (IntKind.u64.wrap n * 2)) (IntKind.u64.wrap (n / 9223372036854775808)) = zig n := by
  unfold zig
  simp only [IntKind.wrap_u64]
  by_cases h : 0 ≤ n
  · rw [if_pos h]
    have e : n / 9223372036854775808 % 18446744073709551616 = 0 := by omega
    have e2 : n % 18446744073709551616 * 2 % 18446744073709551616 = 2 * n := by omega
    rw [e, e2, u64_xor _ _ (by omega) (by omega) (by omega) (by omega)]
    simp; omega
  · rw [if_neg h]
    have e : n / 9223372036854775808 % 18446744073709551616 = 18446744073709551615 := by omega
    have e2 : n % 18446744073709551616 * 2 % 18446744073709551616 = 18446744073709551616 + 2 * n := by omega
    rw [e, e2, u64_xor _ _ (by omega) (by omega) (by omega) (by omega)]
    obtain ⟨a, ha⟩ : ∃ a : Nat, a = (18446744073709551616 + 2 * n).toNat := ⟨_, rfl⟩
    have hlt : a < 2 ^ 64 := by omega
    have : a ^^^ 18446744073709551615 = 18446744073709551615 - a := xor_ones a hlt
    show (((18446744073709551616 + 2 * n).toNat ^^^ (18446744073709551615 : Int).toNat : Nat) : Int) = _
    rw [← ha]
    show ((a ^^^ 18446744073709551615 : Nat) : Int) = _
    rw [this]; omega
end Go.Proofs.Ytjcanlnnadnodaa
