/- The plain arithmetic of package code: numbers of either sign folded to unsigned ones, seven bits a byte, and back. It speaks of no program. -/
import Derived.Laws.BitsAllLaws
import Derived.Laws.Bits64
import Derived.Laws.BitsLemmas
import Derived.RowKit
namespace Go.Proofs.Ytcmpeohooiehcaa

def zig (n : Int) : Int := if 0 ≤ n then 2 * n else -2 * n - 1
def zag (u : Int) : Int := if u % 2 = 0 then u / 2 else -(u / 2) - 1
theorem zag_zig (n : Int) : zag (zig n) = n := by unfold zag zig; split <;> split <;> omega
theorem zig_zag (u : Int) (h : 0 ≤ u) : zig (zag u) = u := by unfold zag zig; split <;> split <;> omega
theorem zig_bd (n : Int) (h1 : -9223372036854775808 ≤ n) (h2 : n ≤ 9223372036854775807) : 0 ≤ zig n ∧ zig n ≤ 18446744073709551615 := by unfold zig; split <;> omega
theorem zag_bd (u : Int) (h1 : 0 ≤ u) (h2 : u ≤ 18446744073709551615) : -9223372036854775808 ≤ zag u ∧ zag u ≤ 9223372036854775807 := by unfold zag; split <;> omega

/-- The bytes above the last one, the least first. -/
def hib (u : Nat) : List Int := if h : u = 0 then [] else (128 + (u % 128 : Nat)) :: hib (u / 128)
termination_by u
decreasing_by omega
theorem hib_zero : hib 0 = [] := by rw [hib]; simp
theorem hib_pos (u : Nat) (h : 0 < u) : hib u = (128 + (u % 128 : Nat) : Int) :: hib (u / 128) := by rw [hib]; simp [Nat.ne_of_gt h]
/-- The bytes of an unsigned number. -/
def encU (u : Nat) : List Int := (hib (u / 128)).reverse ++ [((u % 128 : Nat) : Int)]
def enc (n : Int) : List Int := encU (zig n).toNat

theorem hib_len (k : Nat) : ∀ u : Nat, u < 128 ^ k → (hib u).length ≤ k := by
  induction k with
  | zero => intro u h; have : u = 0 := by simpa using h
            subst this; simp [hib_zero]
  | succ k ih =>
    intro u h
    by_cases h0 : u = 0
    · subst h0; simp [hib_zero]
    · rw [hib_pos u (by omega)]
      have := ih (u / 128) (by rw [Nat.div_lt_iff_lt_mul (by omega)]; rw [Nat.pow_succ] at h; exact h)
      simp only [List.length_cons]; omega
theorem encU_len (u : Nat) (h : u < 18446744073709551616) : 1 ≤ (encU u).length ∧ (encU u).length ≤ 10 := by
  have := hib_len 9 (u / 128) (by
    have : (128 : Nat) ^ 9 = 9223372036854775808 := by decide
    rw [this]; omega)
  unfold encU; simp only [List.length_append, List.length_reverse, List.length_singleton]; omega
theorem hib_byte (u : Nat) : ∀ x ∈ hib u, 128 ≤ x ∧ x ≤ 255 := by
  induction u using Nat.strongRecOn with
  | _ u ih =>
    by_cases h0 : u = 0
    · subst h0; simp [hib_zero]
    · rw [hib_pos u (by omega)]
      intro x hx
      rcases List.mem_cons.1 hx with rfl | hx
      · omega
      · exact ih (u / 128) (by omega) x hx
theorem encU_byte (u : Nat) : ∀ x ∈ encU u, 0 ≤ x ∧ x ≤ 255 := by
  intro x hx
  unfold encU at hx
  rcases List.mem_append.1 hx with hx | hx
  · have := hib_byte _ x (List.mem_reverse.1 hx); omega
  · rw [List.mem_singleton] at hx; omega
theorem enc_len (n : Int) (h1 : -9223372036854775808 ≤ n) (h2 : n ≤ 9223372036854775807) : 1 ≤ (enc n).length ∧ (enc n).length ≤ 10 := by
  have := zig_bd n h1 h2
  exact encU_len _ (by omega)
theorem enc_byte (n : Int) : ∀ x ∈ enc n, 0 ≤ x ∧ x ≤ 255 := encU_byte _

theorem or_128 (m : Nat) : bits .or .u8 128 ((m : Int) % 128) = 128 + (m : Int) % 128 := by
  rw [show (128 : Int) = ((128 : Nat) : Int) from rfl, ← Int.natCast_emod, u8_or_nat 128 (m % 128) (by omega) (by omega), nat_join 7 128 (m % 128) (by decide) (by omega)]
  omega
theorem or_7 (u y : Nat) (h : u < 144115188075855872) : bits .or .u64 ((u : Int) * 128) ((y : Int) % 128) = ((u * 128 + y % 128 : Nat) : Int) := by
  rw [show ((u : Int) * 128) = ((u * 128 : Nat) : Int) by omega, show ((y : Int) % 128) = ((y % 128 : Nat) : Int) by omega, u64_or_nat _ _ (by omega) (by omega), nat_join 7 _ _ (by omega) (by omega)]
/-- What a number read from l on is, x its byte at hand, u what stood ahead of it: the number or the error, and what is left. -/
def numLoop : Nat → Nat → List Int → Except Int Int × List Int
  | x, u, l => if x < 128 then (.ok (zag u), l) else match l with
    | [] => (.error 8, [])
    | y :: l' => if 144115188075855872 ≤ u then (.error 10, l') else numLoop y.toNat (u * 128 + y.toNat % 128) l'
def number (l : List Int) : Except Int Int × List Int := match l with
  | [] => (.error 8, [])
  | x :: l' => if x = 128 then (.error 10, l') else numLoop x.toNat (x.toNat % 128) l'
theorem numLoop_suffix : ∀ (l : List Int) (x u : Nat), ∃ p, l = p ++ (numLoop x u l).2
  | [], x, u => by unfold numLoop; split <;> exact ⟨[], rfl⟩
  | y :: l', x, u => by
    unfold numLoop
    split
    · exact ⟨[], rfl⟩
    · by_cases h : 144115188075855872 ≤ u
      · simp only [if_pos h]; exact ⟨[y], rfl⟩
      · simp only [if_neg h]
        obtain ⟨p, hp⟩ := numLoop_suffix l' y.toNat (u * 128 + y.toNat % 128)
        exact ⟨y :: p, by rw [List.cons_append, ← hp]⟩
theorem number_suffix (l : List Int) : ∃ p, l = p ++ (number l).2 := by
  cases l with
  | nil => exact ⟨[], rfl⟩
  | cons x l =>
    unfold number
    by_cases h : x = 128
    · simp only [if_pos h]; exact ⟨[x], rfl⟩
    · simp only [if_neg h]
      obtain ⟨p, hp⟩ := numLoop_suffix l x.toNat (x.toNat % 128)
      exact ⟨x :: p, by rw [List.cons_append, ← hp]⟩
theorem numLoop_bd : ∀ (l : List Int) (x u : Nat) (n : Int), u ≤ 18446744073709551615 → (numLoop x u l).1 = .ok n → -9223372036854775808 ≤ n ∧ n ≤ 9223372036854775807
  | [], x, u, n, hu, h => by
    unfold numLoop at h
    split at h
    · injection h with h; subst h; exact zag_bd _ (by omega) (by omega)
    · cases h
  | y :: l', x, u, n, hu, h => by
    unfold numLoop at h
    split at h
    · injection h with h; subst h; exact zag_bd _ (by omega) (by omega)
    · by_cases hb : 144115188075855872 ≤ u
      · simp only [if_pos hb] at h; cases h
      · simp only [if_neg hb] at h
        exact numLoop_bd l' _ _ n (by omega) h
theorem number_bd (l : List Int) (n : Int) (h : (number l).1 = .ok n) : -9223372036854775808 ≤ n ∧ n ≤ 9223372036854775807 := by
  cases l with
  | nil => cases h
  | cons x l =>
    unfold number at h
    by_cases h1 : x = 128
    · simp only [if_pos h1] at h; cases h
    · simp only [if_neg h1] at h
      exact numLoop_bd _ _ _ n (by omega) h
/-- The length of a text, of a list. -/
def lengthB (l : List Int) : Except Int Int × List Int := match number l with
  | (.ok n, r) => if n < 0 ∨ 65535 < n then (.error 4, r) else (.ok n, r)
  | (.error c, r) => (.error c, r)
def textB (l : List Int) : Except Int (List Int) × List Int := match lengthB l with
  | (.ok n, r) => if r.length < n.toNat then (.error 8, r) else (.ok (r.take n.toNat), r.drop n.toNat)
  | (.error c, r) => (.error c, r)
def numsB : List Int → Nat → List Int → Except Int (List Int) × List Int
  | acc, 0, l => (.ok acc, l)
  | acc, k + 1, l => match number l with
    | (.ok n, r) => numsB (acc ++ [n]) k r
    | (.error c, r) => (.error c, r)
def intsB (l : List Int) : Except Int (List Int) × List Int := match lengthB l with
  | (.ok n, r) => numsB [] n.toNat r
  | (.error c, r) => (.error c, r)
theorem lengthB_suffix (l : List Int) : ∃ p, l = p ++ (lengthB l).2 := by
  obtain ⟨p, hp⟩ := number_suffix l
  refine ⟨p, hp.trans ?_⟩
  unfold lengthB
  rcases hn : number l with ⟨v | v, r⟩
  · rfl
  · simp only; split <;> rfl
theorem xor_ones (a : Nat) (h : a < 2 ^ 64) : a ^^^ 18446744073709551615 = 18446744073709551615 - a := by
  have h1 : (BitVec.ofNat 64 a ^^^ BitVec.allOnes 64).toNat = 2 ^ 64 - 1 - (BitVec.ofNat 64 a).toNat := by
    rw [BitVec.xor_allOnes, BitVec.toNat_not]
  rw [BitVec.toNat_xor, BitVec.toNat_ofNat, Nat.mod_eq_of_lt h, BitVec.toNat_allOnes] at h1
  exact h1
theorem fold_val (n : Int) (h1 : -9223372036854775808 ≤ n) (h2 : n ≤ 9223372036854775807) :
    bits .xor .u64 (IntKind.u64.wrap (IntKind.u64.wrap n * 2)) (IntKind.u64.wrap (n / 9223372036854775808)) = zig n := by
  unfold zig
  simp only [IntKind.wrap_u64]
  by_cases h : 0 ≤ n
  · rw [if_pos h]
    have e : n / 9223372036854775808 % 18446744073709551616 = 0 := by omega
    have e2 : n % 18446744073709551616 * 2 % 18446744073709551616 = 2 * n := by omega
    rw [e, e2, u64_xor _ _ (by omega) (by omega) (by omega) (by omega)]
    simp; omega
  · rw [if_neg h]
    have e : n / 9223372036854775808 % 18446744073709551616 = 18446744073709551615 := by omega
    have e2 : n % 18446744073709551616 * 2 % 18446744073709551616 = 18446744073709551616 + 2 * n := by omega
    rw [e, e2, u64_xor _ _ (by omega) (by omega) (by omega) (by omega)]
    obtain ⟨a, ha⟩ : ∃ a : Nat, a = (18446744073709551616 + 2 * n).toNat := ⟨_, rfl⟩
    have hlt : a < 2 ^ 64 := by omega
    have : a ^^^ 18446744073709551615 = 18446744073709551615 - a := xor_ones a hlt
    show (((18446744073709551616 + 2 * n).toNat ^^^ (18446744073709551615 : Int).toNat : Nat) : Int) = _
    rw [← ha]
    show ((a ^^^ 18446744073709551615 : Nat) : Int) = _
    rw [this]; omega
theorem xor_all (a : Nat) (h : a < 9223372036854775808) : bits .xor .i64 (a : Int) (-1) = -(a : Int) - 1 := by
  show IntKind.i64.wrap ((BitVec.ofInt 64 (a : Int) ^^^ BitVec.ofInt 64 (-1)).toNat : Int) = _
  have e1 : BitVec.ofInt 64 (-1) = BitVec.allOnes 64 := by decide
  rw [e1, BitVec.xor_allOnes, BitVec.toNat_not, BitVec.ofInt_natCast, BitVec.toNat_ofNat, Nat.mod_eq_of_lt (by omega), IntKind.wrap_i64]
  omega
theorem xor_zero' (a : Nat) (h : a < 9223372036854775808) : bits .xor .i64 (a : Int) 0 = (a : Int) := by
  show IntKind.i64.wrap ((BitVec.ofInt 64 (a : Int) ^^^ BitVec.ofInt 64 0).toNat : Int) = _
  have e1 : BitVec.ofInt 64 0 = 0#64 := by decide
  rw [e1, BitVec.xor_zero, BitVec.ofInt_natCast, BitVec.toNat_ofNat, Nat.mod_eq_of_lt (by omega), IntKind.wrap_i64]
  omega
theorem unfold_val (u : Int) (h1 : 0 ≤ u) (h2 : u ≤ 18446744073709551615) : bits .xor .i64 (u / 2) (RowKit.wrap64 (-RowKit.wrap64 (bits .and .u64 u 1))) = zag u := by
  obtain ⟨n, rfl⟩ : ∃ n : Nat, u = n := ⟨u.toNat, by omega⟩
  have ea : bits .and .u64 (n : Int) 1 = ((n % 2 : Nat) : Int) := by
    rw [show (1 : Int) = ((1 : Nat) : Int) from rfl, u64_and_nat n 1 (by omega) (by omega), nat_mask1]
  rw [ea]
  have e2 : ((n : Int) / 2) = ((n / 2 : Nat) : Int) := by omega
  rw [e2]
  unfold zag
  rcases Nat.mod_two_eq_zero_or_one n with h | h
  · rw [h, if_pos (by omega)]
    have : RowKit.wrap64 (-RowKit.wrap64 ((0 : Nat) : Int)) = 0 := by decide
    rw [this, xor_zero' _ (by omega)]; omega
  · rw [h, if_neg (by omega)]
    have : RowKit.wrap64 (-RowKit.wrap64 ((1 : Nat) : Int)) = -1 := by decide
    rw [this, xor_all _ (by omega)]; omega

/-- What follows a byte that is not the last one, u read so far. -/
def goRest (u : Nat) (l : List Int) : Except Int Int × List Int := match l with
  | [] => (.error 8, [])
  | y :: l' => if 144115188075855872 ≤ u then (.error 10, l') else numLoop y.toNat (u * 128 + y.toNat % 128) l'
theorem numLoop_hi (x u : Nat) (l : List Int) (h : 128 ≤ x) : numLoop x u l = goRest u l := by
  cases l with
  | nil => unfold numLoop goRest; rw [if_neg (by omega)]
  | cons y l => unfold numLoop goRest; rw [if_neg (by omega)]
theorem numLoop_lo (x u : Nat) (l : List Int) (h : x < 128) : numLoop x u l = (.ok (zag u), l) := by
  cases l <;> (unfold numLoop; rw [if_pos h])
theorem goRest_cons (u : Nat) (y : Nat) (l : List Int) (h : u < 144115188075855872) : goRest u ((y : Int) :: l) = numLoop y (u * 128 + y % 128) l := by
  unfold goRest
  simp only [if_neg (show ¬ 144115188075855872 ≤ u by omega), Int.toNat_natCast]
theorem hib_snoc (u y : Nat) (hu : 0 < u) : hib (u * 128 + y % 128) = (128 + (y % 128 : Nat) : Int) :: hib u := by
  rw [hib_pos _ (by omega), show (u * 128 + y % 128) % 128 = y % 128 by omega, show (u * 128 + y % 128) / 128 = u by omega]
theorem number_hib (m : Nat) : ∀ r : List Int, 0 < m → m < 18446744073709551616 → number ((hib m).reverse ++ r) = goRest m r := by
  induction m using Nat.strongRecOn with
  | _ m ih =>
    intro r h0 hm
    rw [hib_pos m h0, List.reverse_cons, List.append_assoc, List.singleton_append]
    have ec : (128 + (m % 128 : Nat) : Int) = ((128 + m % 128 : Nat) : Int) := by omega
    rw [ec]
    by_cases h1 : m / 128 = 0
    · rw [h1, hib_zero, List.reverse_nil, List.nil_append]
      unfold number
      simp only [Int.toNat_natCast]
      rw [if_neg (by omega), numLoop_hi _ _ _ (by omega)]
      congr 1
      omega
    · rw [ih (m / 128) (by omega) _ (by omega) (by omega), goRest_cons _ _ _ (by omega), numLoop_hi _ _ _ (by omega)]
      congr 1
      omega
theorem number_encU (u : Nat) (r : List Int) (h : u < 18446744073709551616) : number (encU u ++ r) = (.ok (zag u), r) := by
  unfold encU
  rw [List.append_assoc, List.singleton_append]
  by_cases h1 : u / 128 = 0
  · rw [h1, hib_zero, List.reverse_nil, List.nil_append]
    unfold number
    simp only [Int.toNat_natCast]
    rw [if_neg (by omega), numLoop_lo _ _ _ (by omega)]
    congr 3
    omega
  · rw [number_hib _ _ (by omega) (by omega), goRest_cons _ _ _ (by omega), numLoop_lo _ _ _ (by omega)]
    congr 3
    omega
/-- What was written as a number is read as it was, whatever follows. -/
theorem number_enc (n : Int) (r : List Int) (h1 : -9223372036854775808 ≤ n) (h2 : n ≤ 9223372036854775807) : number (enc n ++ r) = (.ok n, r) := by
  have hb := zig_bd n h1 h2
  unfold enc
  rw [number_encU _ _ (by omega), show (((zig n).toNat : Nat) : Int) = zig n by omega, zag_zig]
theorem goRest_ok : ∀ (l : List Int) (u : Nat) (n : Int) (r : List Int), (∀ x ∈ l, 0 ≤ x ∧ x ≤ 255) → 0 < u → u < 18446744073709551616 → goRest u l = (.ok n, r) → (hib u).reverse ++ l = enc n ++ r
  | [], u, n, r, _, _, _, h => by unfold goRest at h; cases h
  | z :: l, u, n, r, hb, h0, hu, h => by
    have hz := hb z (by simp)
    obtain ⟨y, rfl⟩ : ∃ y : Nat, z = y := ⟨z.toNat, by omega⟩
    by_cases hbig : 144115188075855872 ≤ u
    · unfold goRest at h; simp only [if_pos hbig] at h; cases h
    · rw [goRest_cons _ _ _ (by omega)] at h
      by_cases hy : y < 128
      · rw [numLoop_lo _ _ _ hy] at h
        injection h with ha hc
        injection ha with ha
        subst ha hc
        unfold enc
        rw [zig_zag _ (by omega), Int.toNat_natCast]
        unfold encU
        rw [show (u * 128 + y % 128) / 128 = u by omega, show (u * 128 + y % 128) % 128 = y by omega, List.append_assoc]
        rfl
      · rw [numLoop_hi _ _ _ (by omega)] at h
        have := goRest_ok l _ n r (fun x hx => hb x (by simp [hx])) (by omega) (by omega) h
        rw [hib_snoc u y h0] at this
        rw [← this, List.reverse_cons, List.append_assoc]
        congr 1
        rw [List.singleton_append]
        congr 1
        omega
/-- What can be read as a number is written as it stood. -/
theorem number_ok_enc (l : List Int) (n : Int) (r : List Int) (hb : ∀ x ∈ l, 0 ≤ x ∧ x ≤ 255) (h : number l = (.ok n, r)) : l = enc n ++ r := by
  cases l with
  | nil => cases h
  | cons z l =>
    have hz := hb z (by simp)
    obtain ⟨y, rfl⟩ : ∃ y : Nat, z = y := ⟨z.toNat, by omega⟩
    unfold number at h
    simp only [Int.toNat_natCast] at h
    by_cases h1 : (y : Int) = 128
    · rw [if_pos h1] at h; cases h
    · rw [if_neg h1] at h
      by_cases hy : y < 128
      · rw [numLoop_lo _ _ _ hy] at h
        injection h with ha hc
        injection ha with ha
        subst ha hc
        unfold enc
        rw [zig_zag _ (by omega), Int.toNat_natCast]
        unfold encU
        rw [show y % 128 / 128 = 0 by omega, hib_zero, show y % 128 % 128 = y by omega]
        rfl
      · rw [numLoop_hi _ _ _ (by omega)] at h
        have := goRest_ok l _ n r (fun x hx => hb x (by simp [hx])) (by omega) (by omega) h
        rw [← this, hib_pos _ (by omega), show y % 128 / 128 = 0 by omega, hib_zero]
        simp only [List.reverse_cons, List.reverse_nil, List.nil_append, List.singleton_append]
        congr 1
        omega
theorem goRest_cut : ∀ (l : List Int) (u : Nat) (r : List Int), (∀ x ∈ l, 0 ≤ x ∧ x ≤ 255) → 0 < u → u < 18446744073709551616 → goRest u l = (.error 8, r) → (hib u).length + l.length ≤ 10
  | [], u, r, _, _, hu, _ => by
    have := hib_len 10 u (by
      have : (128 : Nat) ^ 10 = 1180591620717411303424 := by decide
      rw [this]; omega)
    simpa using this
  | z :: l, u, r, hb, h0, hu, h => by
    have hz := hb z (by simp)
    obtain ⟨y, rfl⟩ : ∃ y : Nat, z = y := ⟨z.toNat, by omega⟩
    by_cases hbig : 144115188075855872 ≤ u
    · unfold goRest at h; simp only [if_pos hbig] at h; cases h
    · rw [goRest_cons _ _ _ (by omega)] at h
      by_cases hy : y < 128
      · rw [numLoop_lo _ _ _ hy] at h; cases h
      · rw [numLoop_hi _ _ _ (by omega)] at h
        have := goRest_cut l _ r (fun x hx => hb x (by simp [hx])) (by omega) (by omega) h
        rw [hib_snoc u y h0] at this
        simp only [List.length_cons] at this ⊢
        omega
theorem number_cut (l : List Int) (r : List Int) (hb : ∀ x ∈ l, 0 ≤ x ∧ x ≤ 255) (h : number l = (.error 8, r)) : l.length ≤ 10 := by
  cases l with
  | nil => simp
  | cons z l =>
    have hz := hb z (by simp)
    obtain ⟨y, rfl⟩ : ∃ y : Nat, z = y := ⟨z.toNat, by omega⟩
    unfold number at h
    simp only [Int.toNat_natCast] at h
    by_cases h1 : (y : Int) = 128
    · rw [if_pos h1] at h; cases h
    · rw [if_neg h1] at h
      by_cases hy : y < 128
      · rw [numLoop_lo _ _ _ hy] at h; cases h
      · rw [numLoop_hi _ _ _ (by omega)] at h
        have := goRest_cut l _ r (fun x hx => hb x (by simp [hx])) (by omega) (by omega) h
        rw [hib_pos _ (by omega), show y % 128 / 128 = 0 by omega, hib_zero] at this
        simp only [List.length_cons, List.length_nil] at this ⊢
        omega
theorem numLoop_errs : ∀ (l : List Int) (x u : Nat) (c : Int) (r : List Int), numLoop x u l = (.error c, r) → c = 8 ∨ c = 10
  | [], x, u, c, r, h => by
    unfold numLoop at h
    split at h <;> cases h
    exact .inl rfl
  | y :: l', x, u, c, r, h => by
    unfold numLoop at h
    split at h
    · cases h
    · by_cases hb : 144115188075855872 ≤ u
      · simp only [if_pos hb] at h; cases h; exact .inr rfl
      · simp only [if_neg hb] at h
        exact numLoop_errs l' _ _ c r h
theorem number_errs (l : List Int) (c : Int) (r : List Int) (h : number l = (.error c, r)) : c = 8 ∨ c = 10 := by
  cases l with
  | nil => cases h; exact .inl rfl
  | cons x l =>
    unfold number at h
    by_cases h1 : x = 128
    · simp only [if_pos h1] at h; cases h; exact .inr rfl
    · simp only [if_neg h1] at h
      exact numLoop_errs _ _ _ c r h

theorem hib_at (j : Nat) : ∀ m : Nat, (j < (hib m).length ↔ m / 128 ^ j ≠ 0) ∧ (m / 128 ^ j ≠ 0 → (hib m)[j]? = some (128 + (m / 128 ^ j % 128 : Nat) : Int)) := by
  induction j with
  | zero =>
    intro m
    by_cases h : m = 0
    · subst h; simp [hib_zero]
    · rw [hib_pos m (by omega)]
      simp; omega
  | succ j ih =>
    intro m
    by_cases h : m = 0
    · subst h; simp [hib_zero]
    · rw [hib_pos m (by omega)]
      have e : m / 128 ^ (j + 1) = m / 128 / 128 ^ j := by rw [Nat.pow_succ, Nat.mul_comm, Nat.div_div_eq_div_mul]
      rw [e]
      have := ih (m / 128)
      simp only [List.length_cons, List.getElem?_cons_succ]
      exact ⟨by rw [← this.1]; omega, this.2⟩
theorem encU_more (u k : Nat) (h : 1 ≤ k) : k < (encU u).length ↔ u / 128 ^ k ≠ 0 := by
  have := (hib_at (k - 1) (u / 128)).1
  have e : u / 128 ^ k = u / 128 / 128 ^ (k - 1) := by
    have : k = (k - 1) + 1 := by omega
    conv => lhs; rw [this, Nat.pow_succ, Nat.mul_comm]
    rw [Nat.div_div_eq_div_mul]
  rw [e, ← this]
  unfold encU
  simp only [List.length_append, List.length_reverse, List.length_singleton]
  omega
/-- The byte that stands t places before the last one. -/
theorem encU_at (u t : Nat) (h : t < (encU u).length) : (encU u)[(encU u).length - 1 - t]? = some (if 0 < t then 128 + (u / 128 ^ t % 128 : Nat) else (u / 128 ^ t % 128 : Nat) : Int) := by
  rcases Nat.eq_zero_or_pos t with h0 | h0
  · subst h0
    unfold encU
    simp
  · have hm := (encU_more u t h0).1 h
    have h2 := hib_at (t - 1) (u / 128)
    have e : u / 128 ^ t = u / 128 / 128 ^ (t - 1) := by
      have : t = (t - 1) + 1 := by omega
      conv => lhs; rw [this, Nat.pow_succ, Nat.mul_comm]
      rw [Nat.div_div_eq_div_mul]
    rw [if_pos h0, e]
    rw [e] at hm
    have hl := h2.1.2 hm
    have hx := h2.2 hm
    unfold encU
    have hlen : ((hib (u / 128)).reverse ++ [((u % 128 : Nat) : Int)]).length = (hib (u / 128)).length + 1 := by simp
    rw [hlen, List.getElem?_append_left (by rw [List.length_reverse]; omega), List.getElem?_reverse (by omega), ← hx]
    congr 1
    omega
theorem and_127 (m : Nat) : bits .and .u8 ((m % 256 : Nat) : Int) 127 = ((m % 128 : Nat) : Int) := by
  rw [show (127 : Int) = ((127 : Nat) : Int) from rfl, u8_and_nat _ _ (by omega) (by omega), nat_mask7]
  congr 1
  omega
theorem or_128' (d : Nat) (h : d < 128) : bits .or .u8 (d : Int) 128 = 128 + (d : Int) := by
  rw [show (128 : Int) = ((128 : Nat) : Int) from rfl, u8_or_nat _ _ (by omega) (by omega), Nat.or_comm, nat_join 7 128 d (by decide) (by omega)]
  omega
theorem pow_7 (t : Nat) : (2 : Nat) ^ (7 * t) = 128 ^ t := by rw [Nat.pow_mul]
theorem div_7 (u t : Nat) : ((u : Int) / 2 ^ (7 * t)) = ((u / 128 ^ t : Nat) : Int) := by
  rw [← pow_7, Int.natCast_ediv, Int.natCast_pow]; rfl
/-- The reference's unsigned number of a number below nought. -/
theorem not_val (n : Int) (h1 : -9223372036854775808 ≤ n) (h2 : n < 0) : bits .xor .u64 IntKind.u64.max (IntKind.u64.wrap (IntKind.u64.wrap n * 2)) = zig n := by
  have e2 : IntKind.u64.wrap (IntKind.u64.wrap n * 2) = 18446744073709551616 + 2 * n := by simp only [IntKind.wrap_u64]; omega
  have em : IntKind.u64.max = ((18446744073709551615 : Nat) : Int) := rfl
  obtain ⟨a, ha⟩ : ∃ a : Nat, 18446744073709551616 + 2 * n = (a : Int) := ⟨(18446744073709551616 + 2 * n).toNat, by omega⟩
  rw [e2, em, ha, u64_xor_nat _ _ (by omega) (by omega), Nat.xor_comm, xor_ones a (by omega)]
  unfold zig
  rw [if_neg (by omega)]
  omega
end Go.Proofs.Ytcmpeohooiehcaa
