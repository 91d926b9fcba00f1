/- frames.word, appendWord; the law's example and its within. Asked of the world: the table's cells. -/
import Derived.Test.YtpfahfakinonnaaDoorCrc
namespace Go.Proofs.YtpfahfakinonnaaDoor
open Go.RowKit Go.ChangeShapes

def w4 (n : Nat) : List Int := [((n / 16777216 % 256 : Nat) : Int), ((n / 65536 % 256 : Nat) : Int), ((n / 256 % 256 : Nat) : Int), ((n % 256 : Nat) : Int)]
def rd4 (l : List Int) : Nat := ((l.getD 0 0).toNat * 16777216 + (l.getD 1 0).toNat * 65536 + (l.getD 2 0).toNat * 256 + (l.getD 3 0).toNat)
theorem w4_len (n : Nat) : (w4 n).length = 4 := rfl
theorem w4_byte (n : Nat) : ∀ x ∈ w4 n, 0 ≤ x ∧ x ≤ 255 := fun x hx => by
  simp only [w4, List.mem_cons, List.not_mem_nil, or_false] at hx
  omega
theorem rd4_w4 (n : Nat) (h : n < 4294967296) (l : List Int) : rd4 (w4 n ++ l) = n := by
  simp only [rd4, w4, List.cons_append, List.nil_append, List.getD_cons_zero, List.getD_cons_succ, Int.toNat_natCast]
  omega
theorem Tab.grow {w w' : World} (h : Tab w) (hg : w.grownBy w' none) : Tab w' := fun j hj => by
  have h0 := h j hj
  have hb : 0 < w.heap.size := by
    rcases Nat.eq_zero_or_pos w.heap.size with h | h
    · simp [World.cell?, Array.getElem?_eq_none (show w.heap.size ≤ 0 by omega)] at h0
    · exact h
  exact (World.cell?_of_block (hg.block 0 hb (by simp))).trans h0
theorem shl8 (a b : Nat) (ha : a < 16777216) (hb : b < 256) : bits .or .u32 ((a * 256 : Nat) : Int) (b : Int) = ((a * 256 + b : Nat) : Int) := by
  rw [u32_or_nat _ _ (by omega) (by omega)]
  have : a * 256 ||| b = a * 256 + b := by
    have := Nat.two_pow_add_eq_or_of_lt (i := 8) (show b < 2 ^ 8 by omega) a
    rw [show 2 ^ 8 * a = a * 256 by omega] at this
    exact this.symm
  rw [this]
set_option maxRecDepth 100000 in
theorem word_any (A : Option Addr) (n c : Nat) (l : List Int) (hn : n = l.length) (w : World) (h : Has w w.heap.size A (bs l)) (hb : ∀ x ∈ l, 0 ≤ x ∧ x ≤ 255) (h4 : 4 ≤ l.length) :
    Calls Tryd.prog 53 #[.slice A n c] w fun e w' => e = .returned (.int .u32 (rd4 l)) ∧ w = w' := by
  obtain ⟨b0, b1, b2, b3, r, rfl⟩ : ∃ a b c d r, l = a :: b :: c :: d :: r := by
    match l, h4 with
    | a :: b :: c :: d :: r, _ => exact ⟨a, b, c, d, r, rfl⟩
  have k0 := hb b0 (by simp)
  have k1 := hb b1 (by simp)
  have k2 := hb b2 (by simp)
  have k3 := hb b3 (by simp)
  obtain ⟨b0, rfl⟩ : ∃ m : Nat, b0 = m := ⟨b0.toNat, by omega⟩
  obtain ⟨b1, rfl⟩ : ∃ m : Nat, b1 = m := ⟨b1.toNat, by omega⟩
  obtain ⟨b2, rfl⟩ : ∃ m : Nat, b2 = m := ⟨b2.toNat, by omega⟩
  obtain ⟨b3, rfl⟩ : ∃ m : Nat, b3 = m := ⟨b3.toNat, by omega⟩
  obtain ⟨b, off, rfl, hbb, hc⟩ : ∃ b off, A = some ⟨b, off, none⟩ ∧ b < w.heap.size ∧ ∀ j u, (bs ((b0 : Int) :: b1 :: b2 :: b3 :: r))[j]? = some u → w.cell? ⟨b, off + j, none⟩ = some u := by
    rcases h with h0 | ⟨b, off, hA, hb, hc⟩
    · simp [bs] at h0
    · exact ⟨b, off, hA, hb, hc⟩
  have c0 : w.cell? ⟨b, off, none⟩ = some (.int .u8 b0) := hc 0 _ rfl
  have c1 : w.cell? ⟨b, off + 1, none⟩ = some (.int .u8 b1) := hc 1 _ rfl
  have c2 : w.cell? ⟨b, off + 2, none⟩ = some (.int .u8 b2) := hc 2 _ rfl
  have c3 : w.cell? ⟨b, off + 3, none⟩ = some (.int .u8 b3) := hc 3 _ rfl
  have n0 : (0 : Int) < (n : Int) := by rw [hn]; simp; omega
  have n1 : (1 : Int) < (n : Int) := by rw [hn]; simp; omega
  have n2 : (2 : Int) < (n : Int) := by rw [hn]; simp; omega
  have n3 : (3 : Int) < (n : Int) := by rw [hn]; simp; omega
  have v0 : IntKind.u32.wrap (b0 : Int) = (b0 : Int) := by have := IntKind.wrap_u32 (b0 : Int); rw [this]; omega
  have v1 : IntKind.u32.wrap (b1 : Int) = (b1 : Int) := by have := IntKind.wrap_u32 (b1 : Int); rw [this]; omega
  have v2 : IntKind.u32.wrap (b2 : Int) = (b2 : Int) := by have := IntKind.wrap_u32 (b2 : Int); rw [this]; omega
  have v3 : IntKind.u32.wrap (b3 : Int) = (b3 : Int) := by have := IntKind.wrap_u32 (b3 : Int); rw [this]; omega
  have hR : ((rd4 ((b0 : Int) :: b1 :: b2 :: b3 :: r) : Nat) : Int) = (((b0 * 256 + b1) * 256 + b2) * 256 + b3 : Nat) := by
    simp only [rd4, List.getD_cons_zero, List.getD_cons_succ, Int.toNat_natCast]; omega
  rw [hR]
  clear hR h hb hc hn h4
  go_enter Tryd.func53, Tryd.ntmps53
  go_wp2_with fail
  go_loopw [3, 5] (fun s3 si wr => ∃ i s : Nat, i ≤ 4 ∧ si = .int .i64 i ∧ s3 = .int .u32 s ∧ (i = 0 ∧ s = 0 ∨ i = 1 ∧ s = b0 ∨ i = 2 ∧ s = b0 * 256 + b1 ∨ i = 3 ∧ s = (b0 * 256 + b1) * 256 + b2 ∨ i = 4 ∧ s = ((b0 * 256 + b1) * 256 + b2) * 256 + b3) ∧ wr = w) (fun _ si _ => 4 - (intOf si).toNat)
  case atStart => exact ⟨0, 0, by omega, rfl, rfl, .inl ⟨rfl, rfl⟩, rfl⟩
  case round =>
    obtain ⟨i, s, hi, rfl, rfl, hh, rfl⟩ := hrel
    rcases hh with ⟨rfl, hs⟩ | ⟨rfl, hs⟩ | ⟨rfl, hs⟩ | ⟨rfl, hs⟩ | ⟨rfl, hs⟩
    · subst hs
      have ho : bits .or .u32 0 (b0 : Int) = (b0 : Int) := by
        have := shl8 0 b0 (by omega) (by omega)
        simpa using this
      go_wp2_with fail
      exact ⟨⟨1, b0, by omega, by go_num, rfl, .inr (.inl ⟨rfl, rfl⟩), trivial⟩, by simp [intOf]⟩
    · have hsl : s < 16777216 := by omega
      have hw : IntKind.u32.wrap ((s : Int) * 256) = (s : Int) * 256 := by have := IntKind.wrap_u32 ((s : Int) * 256); rw [this]; omega
      have ho : bits .or .u32 ((s : Int) * 256) (b1 : Int) = ((s * 256 + b1 : Nat) : Int) := by
        have := shl8 s b1 hsl (by omega)
        rw [show ((s * 256 : Nat) : Int) = (s : Int) * 256 by omega] at this
        exact this
      have HS := Lib.hid hs
      clear hs
      go_wp2_with fail
      exact ⟨⟨2, s * 256 + b1, by omega, by go_num, rfl, .inr (.inr (.inl ⟨rfl, HS.out ▸ rfl⟩)), trivial⟩, by simp [intOf]⟩
    · have hsl : s < 16777216 := by omega
      have hw : IntKind.u32.wrap ((s : Int) * 256) = (s : Int) * 256 := by have := IntKind.wrap_u32 ((s : Int) * 256); rw [this]; omega
      have ho : bits .or .u32 ((s : Int) * 256) (b2 : Int) = ((s * 256 + b2 : Nat) : Int) := by
        have := shl8 s b2 hsl (by omega)
        rw [show ((s * 256 : Nat) : Int) = (s : Int) * 256 by omega] at this
        exact this
      have HS := Lib.hid hs
      clear hs
      go_wp2_with fail
      exact ⟨⟨3, s * 256 + b2, by omega, by go_num, rfl, .inr (.inr (.inr (.inl ⟨rfl, HS.out ▸ rfl⟩))), trivial⟩, by simp [intOf]⟩
    · have hsl : s < 16777216 := by omega
      have hw : IntKind.u32.wrap ((s : Int) * 256) = (s : Int) * 256 := by have := IntKind.wrap_u32 ((s : Int) * 256); rw [this]; omega
      have ho : bits .or .u32 ((s : Int) * 256) (b3 : Int) = ((s * 256 + b3 : Nat) : Int) := by
        have := shl8 s b3 hsl (by omega)
        rw [show ((s * 256 : Nat) : Int) = (s : Int) * 256 by omega] at this
        exact this
      have HS := Lib.hid hs
      clear hs
      go_wp2_with fail
      exact ⟨⟨4, s * 256 + b3, by omega, by go_num, rfl, .inr (.inr (.inr (.inr ⟨rfl, HS.out ▸ rfl⟩))), trivial⟩, by simp [intOf]⟩
    · subst hs
      go_wp2_with fail
      go_ret
      exact ⟨rfl, rfl⟩
end Go.Proofs.YtpfahfakinonnaaDoor
