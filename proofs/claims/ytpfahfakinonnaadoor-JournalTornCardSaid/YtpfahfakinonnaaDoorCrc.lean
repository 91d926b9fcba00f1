/- Contract of frames.Crc: the checksum by nibbles, as a function of the bytes. Asked of the world: the table's sixteen cells. -/
import Derived.Test.YtpfahfakinonnaaDoorApp
import Derived.Laws.BitsAllLaws
import Derived.Lib.LaidTab
import Derived.Lib.LaidU8
namespace Go.Proofs.YtpfahfakinonnaaDoor
open Go.RowKit Go.ChangeShapes

def tabT : List Nat := [0, 498536548, 997073096, 651767980, 1994146192, 1802195444, 1303535960, 1342533948, 3988292384, 4027552580, 3604390888, 3412177804, 2607071920, 2262029012, 2685067896, 3183342108]
def nibT (i : Nat) : Nat := tabT.getD i 0
def nib (c : Nat) : Nat := (c / 16) ^^^ nibT (c % 16)
def crcB (c b : Nat) : Nat := nib (nib (c ^^^ b))
def crcF (c : Nat) (l : List Int) : Nat := l.foldl (fun c b => crcB c b.toNat) c
def crcP (l : List Int) : Nat := 4294967295 ^^^ crcF 4294967295 l
theorem nibT_lt (i : Nat) : nibT i < 4294967296 := by
  unfold nibT
  by_cases h : i < 16
  · have : ∀ i, i < 16 → tabT.getD i 0 < 4294967296 := by decide
    exact this i h
  · rw [List.getD_eq_getElem?_getD, List.getElem?_eq_none (by show 16 ≤ i; omega)]; decide
theorem xor_lt32 {a b : Nat} (ha : a < 4294967296) (hb : b < 4294967296) : a ^^^ b < 4294967296 := Nat.xor_lt_two_pow (n := 32) ha hb
theorem nib_lt {c : Nat} (h : c < 4294967296) : nib c < 4294967296 := xor_lt32 (by omega) (nibT_lt _)
theorem crcB_lt {c b : Nat} (h : c < 4294967296) (hb : b < 256) : crcB c b < 4294967296 := nib_lt (nib_lt (xor_lt32 h (by omega)))
/-- The table stands where the program has it. -/
def Tab (w : World) : Prop := ∀ j, j < 16 → w.cell? ⟨0, j, none⟩ = some (.int .u32 (nibT j))
set_option maxRecDepth 100000 in
theorem crc_any (A : Option Addr) (c : Nat) (l : List Int) (w : World) (h : Has w w.heap.size A (bs l)) (hb : ∀ x ∈ l, 0 ≤ x ∧ x ≤ 255) (hl : l.length ≤ maxLen) (hT : Tab w) :
    Calls Tryd.prog 58 #[.slice A l.length c] w fun e w' => e = .returned (.int .u32 (crcP l)) ∧ w = w' := by
  unfold maxLen at hl
  have HA := Lib.hid h
  have HB := Lib.hid hb
  have HT := Lib.hid hT
  clear h hb hT
  go_enter Tryd.func58, Tryd.ntmps58
  go_wp2_with fail
  go_loopw [3, 8] (fun s3 si wr => ∃ i s : Nat, i ≤ l.length ∧ si = .int .i64 i ∧ s3 = .int .u32 s ∧ s < 4294967296 ∧ Hid (crcF s (l.drop i) = crcF 4294967295 l) ∧ wr = w) (fun _ si _ => l.length - (intOf si).toNat)
  case atStart => exact ⟨0, 4294967295, Nat.zero_le _, rfl, rfl, by decide, rfl, rfl⟩
  case round =>
    obtain ⟨i, s, hi, rfl, rfl, hs, HS, rfl⟩ := hrel
    by_cases hlt : i < l.length
    · have u1 : (i : Int) < (l.length : Int) := by omega
      have u0 : (0 : Int) ≤ (i : Int) := by omega
      have hes : IntKind.i64.wrap ((i : Int) + 1) = (i : Int) + 1 := by rw [IntKind.wrap_i64]; omega
      obtain ⟨x, hx⟩ : ∃ x, l[i]? = some x := ⟨_, List.getElem?_eq_getElem hlt⟩
      have hxb := HB.out x (List.mem_of_getElem? hx)
      obtain ⟨n, rfl⟩ : ∃ n : Nat, x = n := ⟨x.toNat, by omega⟩
      obtain ⟨b, off, rfl, hb, hc⟩ : ∃ b off, A = some ⟨b, off, none⟩ ∧ b < wr.heap.size ∧ wr.cell? ⟨b, off + i, none⟩ = some (.int .u8 n) := by
        rcases HA.out with h0 | ⟨b, off, hA, hb, hc⟩
        · have := congrArg List.length h0; simp [bs] at this; rw [this] at hlt; simp at hlt
        · exact ⟨b, off, hA, hb, hc i _ (by simp [bs, hx])⟩
      have hw : IntKind.u32.wrap (n : Int) = (n : Int) := by have := IntKind.wrap_u32 (n : Int); rw [this]; omega
      have hxo : bits .xor .u32 (s : Int) (n : Int) = ((s ^^^ n : Nat) : Int) := u32_xor_nat s n hs (by omega)
      go_wp2_with fail
      go_loopw [3, 16] (fun s3 sj wx => ∃ j s' : Nat, j ≤ 2 ∧ sj = .int .i64 j ∧ s3 = .int .u32 s' ∧ s' < 4294967296 ∧ Hid ((j = 0 ∧ s' = s ^^^ n) ∨ (j = 1 ∧ s' = nib (s ^^^ n)) ∨ (j = 2 ∧ s' = crcB s n)) ∧ wx = wr) (fun _ sj _ => 2 - (intOf sj).toNat)
      case atStart => exact ⟨0, _, by omega, rfl, rfl, xor_lt32 hs (by omega), .inl ⟨rfl, rfl⟩, rfl⟩
      case round =>
        obtain ⟨j, s', hj, rfl, rfl, hs', HJ, rfl⟩ := hrel
        by_cases hjl : j < 2
        · have v1 : (j : Int) < 2 := by omega
          have vs : IntKind.i64.wrap ((j : Int) + 1) = (j : Int) + 1 := by rw [IntKind.wrap_i64]; omega
          obtain ⟨m, hm⟩ : ∃ m, m = s' % 16 := ⟨_, rfl⟩
          have hml : m < 16 := by omega
          have han : bits .and .u32 (s' : Int) 15 = (m : Int) := by
            have := u32_and_nat s' 15 hs' (by decide)
            rw [show ((15 : Nat) : Int) = 15 from rfl] at this
            rw [this, hm, show (15 : Nat) = 2 ^ 4 - 1 from rfl, Nat.and_two_pow_sub_one_eq_mod]
          have m0 : (0 : Int) ≤ (m : Int) := by omega
          have m1 : (m : Int) < 16 := by omega
          have hcT : wr.cell? ⟨0, m, none⟩ = some (.int .u32 (nibT m)) := HT.out m hml
          have hN : bits .xor .u32 ((s' : Int) / 16) ((nibT m : Nat) : Int) = ((nib s' : Nat) : Int) := by
            have := u32_xor_nat (s' / 16) (nibT m) (by omega) (nibT_lt _)
            rw [show ((s' / 16 : Nat) : Int) = (s' : Int) / 16 by omega] at this
            rw [this, hm]; rfl
          clear hm
          go_wp2_with fail
          refine ⟨⟨j + 1, nib s', by omega, by go_num, rfl, nib_lt hs', ?_, trivial⟩, ?_⟩
          · rcases HJ.out with ⟨rfl, rfl⟩ | ⟨rfl, rfl⟩ | ⟨rfl, _⟩
            · exact .inr (.inl ⟨rfl, rfl⟩)
            · exact .inr (.inr ⟨rfl, rfl⟩)
            · omega
          · simp [intOf]; omega
        · have v1 : ¬ (j : Int) < 2 := by omega
          obtain rfl : j = 2 := by omega
          obtain rfl : s' = crcB s n := by
            rcases HJ.out with ⟨h, _⟩ | ⟨h, _⟩ | ⟨_, h⟩
            · omega
            · omega
            · exact h
          have HS' : Hid (crcF (crcB s n) (l.drop (i + 1)) = crcF 4294967295 l) := by
            have h := HS.out
            rw [List.drop_eq_getElem_cons hlt] at h
            have e : l[i] = (n : Int) := by rw [List.getElem?_eq_getElem hlt] at hx; exact Option.some.inj hx
            rw [e] at h
            exact h
          go_wp2_with fail
          refine ⟨⟨i + 1, _, by omega, by go_num, rfl, hs', HS', trivial⟩, ?_⟩
          simp [intOf]; omega
    · have u1 : ¬ (i : Int) < (l.length : Int) := by omega
      obtain rfl : i = l.length := by omega
      rw [List.drop_length] at HS
      have hX : bits .xor .u32 4294967295 (s : Int) = ((crcP l : Nat) : Int) := by
        have := u32_xor_nat 4294967295 s (by decide) hs
        rw [show ((4294967295 : Nat) : Int) = 4294967295 from rfl] at this
        rw [this]; unfold crcP; rw [← HS.out]; rfl
      go_wp2_with fail
      go_ret
      exact ⟨by rw [← hX]; rfl, rfl⟩
end Go.Proofs.YtpfahfakinonnaaDoor
