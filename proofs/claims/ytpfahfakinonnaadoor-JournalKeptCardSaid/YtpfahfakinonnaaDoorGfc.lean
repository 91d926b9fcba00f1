/- The reference's checksum, bit by bit, is the same; its four and its Frame. No condition of the program's own. -/
import Derived.Test.YtpfahfakinonnaaDoorGsc
namespace Go.Proofs.YtpfahfakinonnaaDoor
open Go.RowKit Go.ChangeShapes

def selP (b : Nat) : Nat := if b = 1 then 3988292384 else 0
def bit1 (c : Nat) : Nat := (c / 2) ^^^ selP (c % 2)
theorem bit1_xor (a b : Nat) : bit1 (a ^^^ b) = bit1 a ^^^ bit1 b := by
  unfold bit1
  rw [Nat.xor_div_two]
  have h : selP ((a ^^^ b) % 2) = selP (a % 2) ^^^ selP (b % 2) := by
    have e : ∀ x : Nat, selP (x % 2) = if x.testBit 0 = true then 3988292384 else 0 := fun x => by
      unfold selP; rw [Nat.testBit_zero]; simp
    rw [e, e, e, Nat.testBit_xor]
    cases a.testBit 0 <;> cases b.testBit 0 <;> decide
  rw [h]
  ac_rfl
theorem bit1_lt {c : Nat} (h : c < 4294967296) : bit1 c < 4294967296 := xor_lt32 (by omega) (by unfold selP; split <;> decide)
def bits1 : Nat → Nat → Nat
  | 0, c => c
  | k + 1, c => bit1 (bits1 k c)
theorem bits1_lt {c : Nat} (h : c < 4294967296) : ∀ k, bits1 k c < 4294967296
  | 0 => h
  | k + 1 => bit1_lt (bits1_lt h k)
theorem bits1_xor : ∀ (k a b : Nat), bits1 k (a ^^^ b) = bits1 k a ^^^ bits1 k b
  | 0, _, _ => rfl
  | k + 1, a, b => by show bit1 (bits1 k (a ^^^ b)) = bit1 (bits1 k a) ^^^ bit1 (bits1 k b); rw [bits1_xor k, bit1_xor]
theorem bits1_add : ∀ (j k c : Nat), bits1 (k + j) c = bits1 k (bits1 j c)
  | j, 0, c => by rw [Nat.zero_add]; rfl
  | j, k + 1, c => by rw [Nat.add_right_comm]; show bit1 (bits1 (k + j) c) = bit1 (bits1 k (bits1 j c)); rw [bits1_add]
theorem bits1_even : ∀ (k h : Nat), bits1 k (h * 2 ^ k) = h
  | 0, h => by show h * 1 = h; omega
  | k + 1, h => by
    show bit1 (bits1 k (h * 2 ^ (k + 1))) = h
    rw [show h * 2 ^ (k + 1) = (h * 2) * 2 ^ k by rw [Nat.pow_succ]; ac_rfl, bits1_even k]
    unfold bit1
    rw [show h * 2 / 2 = h by omega, show h * 2 % 2 = 0 by omega]
    exact Nat.xor_zero h
theorem split16 (c : Nat) : c = (c / 16 * 2 ^ 4) ^^^ (c % 16) := by
  have h := Nat.two_pow_add_eq_or_of_lt (i := 4) (show c % 16 < 2 ^ 4 by omega) (c / 16)
  have e : 2 ^ 4 * (c / 16) + c % 16 = c := by omega
  rw [e] at h
  have h0 : (2 ^ 4 * (c / 16)) &&& (c % 16) = 0 := by
    apply Nat.eq_of_testBit_eq
    intro i
    rw [Nat.testBit_and, Nat.zero_testBit]
    by_cases hi : i < 4
    · rw [Nat.testBit_two_pow_mul, show decide (4 ≤ i) = false by simp; omega]; rfl
    · rw [Nat.testBit_lt_two_pow (show c % 16 < 2 ^ i from Nat.lt_of_lt_of_le (show c % 16 < 2 ^ 4 by omega) (Nat.pow_le_pow_right (by decide) (by omega)))]
      exact Bool.and_false _
  have hx : (2 ^ 4 * (c / 16)) ||| (c % 16) = (2 ^ 4 * (c / 16)) ^^^ (c % 16) := by
    apply Nat.eq_of_testBit_eq
    intro i
    have hi := congrArg (·.testBit i) h0
    simp only [Nat.testBit_and, Nat.zero_testBit] at hi
    rw [Nat.testBit_or, Nat.testBit_xor]
    cases h1 : (2 ^ 4 * (c / 16)).testBit i <;> cases h2 : (c % 16).testBit i <;> rw [h1, h2] at hi <;> first | rfl | exact absurd hi (by decide)
  rw [Nat.mul_comm (c / 16)]
  rw [← hx]; exact h
theorem nib_bits (c : Nat) : nib c = bits1 4 c := by
  have h := split16 c
  have e : bits1 4 c = (c / 16) ^^^ bits1 4 (c % 16) := by
    rw [show bits1 4 c = bits1 4 ((c / 16 * 2 ^ 4) ^^^ (c % 16)) by rw [← h], bits1_xor, bits1_even]
  rw [e]
  unfold nib
  have : ∀ r, r < 16 → nibT r = bits1 4 r := by decide
  rw [this _ (by omega)]
theorem crcB_bits (c b : Nat) : crcB c b = bits1 8 (c ^^^ b) := by
  unfold crcB; rw [nib_bits, nib_bits, ← bits1_add]

set_option maxRecDepth 100000 in
theorem rcrc_any (A : Option Addr) (c : Nat) (l : List Int) (w : World) (h : Has w w.heap.size A (bs l)) (hb : ∀ x ∈ l, 0 ≤ x ∧ x ≤ 255) (hl : l.length ≤ maxLen) :
    Calls Tryd.prog 50 #[.slice A l.length c] w fun e w' => e = .returned (.int .u32 (crcP l)) ∧ w = w' := by
  unfold maxLen at hl
  have HA := Lib.hid h
  have HB := Lib.hid hb
  clear h hb
  go_enter Tryd.func50, Tryd.ntmps50
  go_wp2_with fail
  go_loopw [3, 4] (fun s3 si wr => ∃ i s : Nat, i ≤ l.length ∧ si = .int .i64 i ∧ s3 = .int .u32 s ∧ s < 4294967296 ∧ Hid (crcF s (l.drop i) = crcF 4294967295 l) ∧ wr = w) (fun _ si _ => l.length - (intOf si).toNat)
  case atStart => exact ⟨0, 4294967295, Nat.zero_le _, rfl, rfl, by decide, rfl, rfl⟩
  case round =>
    obtain ⟨i, s, hi, rfl, rfl, hs, HS, rfl⟩ := hrel
    by_cases hlt : i < l.length
    · have u1 : (i : Int) < (l.length : Int) := by omega
      have u0 : (0 : Int) ≤ (i : Int) := by omega
      have hes : IntKind.i64.wrap ((i : Int) + 1) = (i : Int) + 1 := by rw [IntKind.wrap_i64]; omega
      obtain ⟨x, hx⟩ : ∃ x, l[i]? = some x := ⟨_, List.getElem?_eq_getElem hlt⟩
      have hxb := HB.out x (List.mem_of_getElem? hx)
      obtain ⟨n, rfl⟩ : ∃ n : Nat, x = n := ⟨x.toNat, by omega⟩
      obtain ⟨b, off, rfl, hb, hc⟩ : ∃ b off, A = some ⟨b, off, none⟩ ∧ b < wr.heap.size ∧ wr.cell? ⟨b, off + i, none⟩ = some (.int .u8 n) := by
        rcases HA.out with h0 | ⟨b, off, hA, hb, hc⟩
        · have := congrArg List.length h0; simp [bs] at this; rw [this] at hlt; simp at hlt
        · exact ⟨b, off, hA, hb, hc i _ (by simp [bs, hx])⟩
      have hw : IntKind.u32.wrap (n : Int) = (n : Int) := by have := IntKind.wrap_u32 (n : Int); rw [this]; omega
      have hxo : bits .xor .u32 (s : Int) (n : Int) = ((s ^^^ n : Nat) : Int) := u32_xor_nat s n hs (by omega)
      have hsn : s ^^^ n < 4294967296 := xor_lt32 hs (by omega)
      obtain ⟨z, hz⟩ : ∃ z, z = s ^^^ n := ⟨_, rfl⟩
      rw [← hz] at hxo hsn
      have HZ := Lib.hid hz
      clear hz
      go_wp2_with fail
      go_loopw [3, 5] (fun s3 sj wx => ∃ j s' : Nat, j ≤ 8 ∧ sj = .int .i64 j ∧ s3 = .int .u32 s' ∧ s' < 4294967296 ∧ Hid (s' = bits1 j z) ∧ wx = wr) (fun _ sj _ => 8 - (intOf sj).toNat)
      case atStart => exact ⟨0, _, by omega, rfl, rfl, hsn, rfl, rfl⟩
      case round =>
        obtain ⟨j, s', hj, rfl, rfl, hs', HJ, rfl⟩ := hrel
        by_cases hjl : j < 8
        · have v1 : (j : Int) < 8 := by omega
          have vs : IntKind.i64.wrap ((j : Int) + 1) = (j : Int) + 1 := by rw [IntKind.wrap_i64]; omega
          have han : bits .and .u32 (s' : Int) 1 = ((s' % 2 : Nat) : Int) := by
            have := u32_and_nat s' 1 hs' (by decide)
            rw [show ((1 : Nat) : Int) = 1 from rfl] at this
            rw [this, Nat.and_one_is_mod]
          by_cases h2 : s' % 2 = 1
          · rw [h2] at han
            have hN : bits .xor .u32 ((s' : Int) / 2) 3988292384 = ((bit1 s' : Nat) : Int) := by
              have := u32_xor_nat (s' / 2) 3988292384 (by omega) (by decide)
              rw [show ((s' / 2 : Nat) : Int) = (s' : Int) / 2 by omega, show ((3988292384 : Nat) : Int) = 3988292384 from rfl] at this
              rw [this]; unfold bit1 selP; rw [h2, if_pos rfl]
            have han' : bits .and .u32 (s' : Int) 1 = 1 := han
            clear h2 han
            go_wp2_with fail
            exact ⟨⟨j + 1, bit1 s', by omega, by go_num, rfl, bit1_lt hs', by rw [HJ.out]; rfl, trivial⟩, by simp [intOf]; omega⟩
          · have h0 : s' % 2 = 0 := by omega
            rw [h0] at han
            have han' : bits .and .u32 (s' : Int) 1 = 0 := han
            have hN : Hid ((s' : Int) / 2 = ((bit1 s' : Nat) : Int)) := by
              unfold bit1 selP; rw [h0, if_neg (by decide), Nat.xor_zero]; show (s' : Int) / 2 = ((s' / 2 : Nat) : Int); omega
            clear h2 h0 han
            go_wp2_with fail
            exact ⟨⟨j + 1, bit1 s', by omega, by go_num, by rw [hN.out], bit1_lt hs', by rw [HJ.out]; rfl, trivial⟩, by simp [intOf]; omega⟩
        · have v1 : ¬ (j : Int) < 8 := by omega
          obtain rfl : j = 8 := by omega
          have HS' : Hid (crcF s' (l.drop (i + 1)) = crcF 4294967295 l) := by
            have h := HS.out
            rw [List.drop_eq_getElem_cons hlt] at h
            have e : l[i] = (n : Int) := by rw [List.getElem?_eq_getElem hlt] at hx; exact Option.some.inj hx
            rw [e] at h
            have e2 : s' = crcB s n := by rw [HJ.out, HZ.out, crcB_bits]
            rw [e2]
            exact h
          go_wp2_with fail
          exact ⟨⟨i + 1, s', by omega, by go_num, rfl, hs', HS', trivial⟩, by simp [intOf]; omega⟩
    · have u1 : ¬ (i : Int) < (l.length : Int) := by omega
      obtain rfl : i = l.length := by omega
      rw [List.drop_length] at HS
      have hX : bits .xor .u32 4294967295 (s : Int) = ((crcP l : Nat) : Int) := by
        have := u32_xor_nat 4294967295 s (by decide) hs
        rw [show ((4294967295 : Nat) : Int) = 4294967295 from rfl] at this
        rw [this]; unfold crcP; rw [← HS.out]; rfl
      go_wp2_with fail
      go_ret
      exact ⟨by rw [← hX]; rfl, rfl⟩

set_option maxRecDepth 100000 in
theorem four_any (base : Nat) (v : Value) (l : List Int) (n : Nat) (w : World) (hv : w.ownsRow base 5 1 v (bs l).length (bs l)) (hl : l.length ≤ 1000) (hbase : base ≤ w.heap.size) :
    Calls Tryd.prog 56 #[v, .int .u32 n] w fun e w' => ∃ v', e = .returned v' ∧ Grew w w' base 5 v v' (bs (l ++ w4 n)) := by
  obtain ⟨A, c, rfl⟩ := own_slice hv
  have HV := Lib.hid hv
  clear hv
  have x0 : IntKind.u8.wrap ((n : Int) / 16777216) = ((n / 16777216 % 256 : Nat) : Int) := by have := IntKind.wrap_u8 ((n : Int) / 16777216); rw [this]; omega
  have x1 : IntKind.u8.wrap ((n : Int) / 65536) = ((n / 65536 % 256 : Nat) : Int) := by have := IntKind.wrap_u8 ((n : Int) / 65536); rw [this]; omega
  have x2 : IntKind.u8.wrap ((n : Int) / 256) = ((n / 256 % 256 : Nat) : Int) := by have := IntKind.wrap_u8 ((n : Int) / 256); rw [this]; omega
  have x3 : IntKind.u8.wrap (n : Int) = ((n % 256 : Nat) : Int) := by have := IntKind.wrap_u8 (n : Int); rw [this]; omega
  obtain ⟨y0, h0⟩ : ∃ y : Int, y = ((n / 16777216 % 256 : Nat) : Int) := ⟨_, rfl⟩
  obtain ⟨y1, h1⟩ : ∃ y : Int, y = ((n / 65536 % 256 : Nat) : Int) := ⟨_, rfl⟩
  obtain ⟨y2, h2⟩ : ∃ y : Int, y = ((n / 256 % 256 : Nat) : Int) := ⟨_, rfl⟩
  obtain ⟨y3, h3⟩ : ∃ y : Int, y = ((n % 256 : Nat) : Int) := ⟨_, rfl⟩
  rw [← h0] at x0
  rw [← h1] at x1
  rw [← h2] at x2
  rw [← h3] at x3
  have HW : Hid (w4 n = [y0, y1, y2, y3]) := by rw [h0, h1, h2, h3]; rfl
  rw [HW.out]
  clear h0 h1 h2 h3
  have own1 := Lib.hid (HV.out.kept (World.grownBy_alloc w (.cells #[.int .u8 y0, .int .u8 y1, .int .u8 y2, .int .u8 y3] 5) none) (by cases (Value.slice A (bs l).length c).ownBlock <;> simp))
  have s1 : Hid (Src Tryd.prog 1 33 (.slice (some ⟨w.heap.size, 0, none⟩) 4 4) (bs [y0, y1, y2, y3]).length (bs [y0, y1, y2, y3]) (w.alloc (.cells #[.int .u8 y0, .int .u8 y1, .int .u8 y2, .int .u8 y3] 5))) :=
    Src.ofSlice _ Tryd.underlying33 _ 4 4 _ rfl (fun j u hu => by
      rw [Addr.add_lit, Nat.zero_add]
      unfold World.cell?; rw [heap_alloc_new]
      show (#[Value.int .u8 y0, .int .u8 y1, .int .u8 y2, .int .u8 y3] : Array Value)[j]? = _
      rw [← hu, ← Array.getElem?_toList]; rfl) (bs_one _)
  have hlen : (bs l).length + (bs [y0, y1, y2, y3]).length ≤ 70368744177664 := by rw [bs_len]; show _ + 4 ≤ _; omega
  have hz : base ≤ (w.alloc (.cells #[.int .u8 y0, .int .u8 y1, .int .u8 y2, .int .u8 y3] 5)).heap.size := Nat.le_trans hbase (World.grownBy_alloc w _ none).size
  go_enter Tryd.func56, Tryd.ntmps56
  go_wp2_with (at_builtin; go_loud (refine app_bytes rfl _ _ 33 rfl base (.slice A (bs l).length c) (bs l) rfl own1.out (.slice (some ⟨w.heap.size, 0, none⟩) 4 4) (bs [y0, y1, y2, y3]) rfl s1.out hlen hz ?_); intro v4 w4' g4)
  go_ret
  refine ⟨_, rfl, ?_⟩
  rw [← bs_append] at g4
  exact g4.ofAlloc
end Go.Proofs.YtpfahfakinonnaaDoor
