/- Contracts of strings.Trim at one blank. No condition beyond the size that a string has. -/
import Derived.Test.YtjgbflgeicejeaaDoorRows
import Derived.WalkKit
import Derived.WalkLawsBesides
import Derived.WalkSpells
import Derived.Outline
import Derived.Lib.Hide
import Derived.Deep.Draws
import Derived.Laws.RangeAny
import Derived.Laws.OwnMore
import Derived.Deep.RegionHeld3
import Derived.Deep.DrawnRows
namespace Go.Proofs.YtjgbflgeicejeaaDoor
open Go.RowKit
attribute [local go_sem ↓] Go.wp_at_zero Go.wp_at_succ

def bl (s : ByteArray) : List UInt8 := s.data.toList
def ofB (l : List UInt8) : ByteArray := ⟨l.toArray⟩
theorem ofB_bl (s : ByteArray) : ofB (bl s) = s := by cases s; simp [ofB, bl]
theorem bl_ofB (l : List UInt8) : bl (ofB l) = l := by simp [ofB, bl]
theorem bl_len (s : ByteArray) : (bl s).length = s.size := rfl
theorem bl_extract (s : ByteArray) (a b : Nat) : bl (s.extract a b) = ((bl s).drop a).take (b - a) := by
  unfold bl
  rw [ByteArray.data_extract, Array.toList_extract, List.extract_eq_take_drop]
theorem bl_get (s : ByteArray) (i : Nat) (h : i < s.size) : (bl s)[i]'(by rw [bl_len]; exact h) = s[i] := by
  show s.data.toList[i] = s.data[i]
  simp
theorem bl_inj {s t : ByteArray} (h : bl s = bl t) : s = t := by rw [← ofB_bl s, h, ofB_bl]
def tl (l : List UInt8) : List UInt8 := l.dropWhile (· == 32)
def tr (l : List UInt8) : List UInt8 := (l.reverse.dropWhile (· == 32)).reverse
theorem is_32 (x : UInt8) : (((x.toNat : Int)) == 32) = (x == 32) := by
  rw [Bool.eq_iff_iff, beq_iff_eq, beq_iff_eq]
  constructor
  · intro h; apply UInt8.toNat_inj.1; simp; omega
  · intro h; subst h; rfl
theorem bl_cons (t : ByteArray) (h0 : 0 < t.size) : bl t = t[0] :: (bl t).drop 1 := by
  rw [← bl_get t 0 h0]
  have h : 0 < (bl t).length := by rw [bl_len]; exact h0
  have := List.drop_eq_getElem_cons h
  simpa using this
theorem tl_step (t : ByteArray) (h0 : 0 < t.size) (h : (((t[0]'h0).toNat : Int) == 32) = true) : tl (bl (t.extract 1 t.size)) = tl (bl t) := by
  rw [is_32] at h
  rw [bl_extract, List.take_of_length_le (by rw [List.length_drop, bl_len]; omega)]
  conv => rhs; rw [bl_cons t h0]
  unfold tl
  rw [List.dropWhile_cons_of_pos (p := (· == 32)) h]
theorem tl_stop (t : ByteArray) (h0 : 0 < t.size) (h : (((t[0]'h0).toNat : Int) == 32) = false) : tl (bl t) = bl t := by
  rw [is_32] at h
  rw [bl_cons t h0]
  unfold tl
  rw [List.dropWhile_cons_of_neg (p := (· == 32)) (by simpa using h)]
theorem tl_nil (t : ByteArray) (h0 : ¬ 0 < t.size) : tl (bl t) = bl t := by
  have : bl t = [] := List.eq_nil_of_length_eq_zero (by rw [bl_len]; omega)
  rw [this]; rfl
theorem bl_snoc (t : ByteArray) (h0 : t.size - 1 < t.size) : bl t = (bl t).take (t.size - 1) ++ [t[t.size - 1]] := by
  rw [← bl_get t (t.size - 1) h0, ← List.take_succ_eq_append_getElem, List.take_of_length_le]
  rw [bl_len]; omega
theorem tr_snoc (l : List UInt8) (x : UInt8) : tr (l ++ [x]) = if x = 32 then tr l else l ++ [x] := by
  unfold tr
  rw [List.reverse_append, List.reverse_singleton, List.singleton_append]
  by_cases h : x = 32
  · rw [if_pos h, List.dropWhile_cons_of_pos (by simpa using h)]
  · rw [if_neg h, List.dropWhile_cons_of_neg (by simpa using h)]; simp
theorem tr_step (t : ByteArray) (h0 : t.size - 1 < t.size) (h : (((t[t.size - 1]'h0).toNat : Int) == 32) = true) : tr (bl (t.extract 0 (t.size - 1))) = tr (bl t) := by
  rw [is_32, beq_iff_eq] at h
  rw [bl_extract]
  conv => rhs; rw [bl_snoc t h0]
  rw [tr_snoc, if_pos h]; simp
theorem tr_stop (t : ByteArray) (h0 : t.size - 1 < t.size) (h : (((t[t.size - 1]'h0).toNat : Int) == 32) = false) : tr (bl t) = bl t := by
  rw [is_32, beq_eq_false_iff_ne] at h
  rw [bl_snoc t h0, tr_snoc, if_neg h]
theorem tr_nil (t : ByteArray) (h0 : ¬ 0 < t.size) : tr (bl t) = bl t := by
  have : bl t = [] := List.eq_nil_of_length_eq_zero (by rw [bl_len]; omega)
  rw [this]; rfl
def strSize : Value → Nat
  | .string t => t.size
  | _ => 0

theorem trimLeft_any (s : ByteArray) (w : World) : Calls Tryd.prog 19 #[.string s, .int .u8 32] w fun e w' => e = .returned (.string (ofB (tl (bl s)))) ∧ w = w' := by
  go_enter Tryd.func19, Tryd.ntmps19
  go_wp2_with fail
  go_loopw [0] (fun st wr => ∃ t : ByteArray, st = .string t ∧ t.size ≤ s.size ∧ Hid (tl (bl t) = tl (bl s)) ∧ w = wr) (fun st _ => strSize st)
  case atStart => exact ⟨s, rfl, Nat.le_refl _, Lib.hid rfl, rfl⟩
  case round =>
    obtain ⟨t, rfl, hts, HT, rfl⟩ := hrel
    by_cases h0 : 0 < t.size
    · have h1 : (0 : Int) < (t.size : Int) := by omega
      by_cases hb : (((t[0]'h0).toNat : Int) == 32) = true
      · have HS := Lib.hid (tl_step t h0 hb)
        go_wp2_with fail
        go_roundw
        case rel => exact ⟨_, rfl, by simp; omega, HS.out.trans HT.out, trivial⟩
        case measure => simp [strSize]; omega
      · have hb' : (((t[0]'h0).toNat : Int) == 32) = false := by simpa using hb
        have HS := Lib.hid (tl_stop t h0 hb')
        clear hb
        go_wp2_with fail
        go_ret
        exact ⟨by rw [← HT.out, HS.out, ofB_bl]; rfl, rfl⟩
    · have h1 : ¬ (0 : Int) < (t.size : Int) := by omega
      have HS := Lib.hid (tl_nil t h0)
      go_wp2_with fail
      go_ret
      exact ⟨by rw [← HT.out, HS.out, ofB_bl]; rfl, rfl⟩
theorem trimRight_any (s : ByteArray) (hs : s.size ≤ maxLen) (w : World) : Calls Tryd.prog 20 #[.string s, .int .u8 32] w fun e w' => e = .returned (.string (ofB (tr (bl s)))) ∧ w = w' := by
  unfold maxLen at hs
  go_enter Tryd.func20, Tryd.ntmps20
  go_wp2_with fail
  go_loopw [0] (fun st wr => ∃ t : ByteArray, st = .string t ∧ t.size ≤ s.size ∧ Hid (tr (bl t) = tr (bl s)) ∧ w = wr) (fun st _ => strSize st)
  case atStart => exact ⟨s, rfl, Nat.le_refl _, Lib.hid rfl, rfl⟩
  case round =>
    obtain ⟨t, rfl, hts, HT, rfl⟩ := hrel
    by_cases h0 : 0 < t.size
    · have h1 : (0 : Int) < (t.size : Int) := by omega
      have h2 : t.size - 1 < t.size := by omega
      have hw : IntKind.i64.wrap ((t.size : Int) - 1) = (t.size : Int) - 1 := by rw [IntKind.wrap_i64]; omega
      have hi0 : (0 : Int) ≤ (t.size : Int) - 1 := by omega
      have hi1 : (t.size : Int) - 1 < (t.size : Int) := by omega
      have hi2 : (t.size : Int) - 1 ≤ (t.size : Int) := by omega
      by_cases hb : (((t[t.size - 1]'h2).toNat : Int) == 32) = true
      · have HS := Lib.hid (tr_step t h2 hb)
        go_wp2_with fail
        go_roundw
        case rel => exact ⟨_, rfl, by simp; omega, HS.out.trans HT.out, trivial⟩
        case measure => simp [strSize]; omega
      · have hb' : (((t[t.size - 1]'h2).toNat : Int) == 32) = false := by simpa using hb
        have HS := Lib.hid (tr_stop t h2 hb')
        clear hb
        go_wp2_with fail
        go_ret
        exact ⟨by rw [← HT.out, HS.out, ofB_bl]; rfl, rfl⟩
    · have h1 : ¬ (0 : Int) < (t.size : Int) := by omega
      have HS := Lib.hid (tr_nil t h0)
      go_wp2_with fail
      go_ret
      exact ⟨by rw [← HT.out, HS.out, ofB_bl]; rfl, rfl⟩
theorem tr_length (l : List UInt8) : (tr l).length ≤ l.length := by
  unfold tr
  rw [List.length_reverse]
  have := (List.dropWhile_sublist (· == 32) (l := l.reverse)).length_le
  simpa using this
theorem ofB_size (l : List UInt8) : (ofB l).size = l.length := by simp [ofB, ByteArray.size]
/-- Blanks at both ends go. -/
def tm (l : List UInt8) : List UInt8 := tl (tr l)
set_option maxRecDepth 100000 in
theorem trim_any (s : ByteArray) (hs : s.size ≤ maxLen) (w : World) : Calls Tryd.prog 16 #[.string s, .string { data := #[32] }] w fun e w' => e = .returned (.string (ofB (tm (bl s)))) ∧ w.grownBy w' none := by
  by_cases h0 : s.size = 0
  · have he : s = { data := #[] } := by
      apply bl_inj
      rw [List.eq_nil_of_length_eq_zero (by rw [bl_len]; exact h0 : (bl s).length = 0)]
      rfl
    subst he
    go_enter Tryd.func16, Tryd.ntmps16
    go_wp2_with fail
    go_ret
    exact ⟨rfl, ⟨rfl, rfl, rfl, Nat.le_refl _, fun _ _ _ => rfl⟩⟩
  · have hne : (s.toList == []) = false := by
      rw [beq_eq_false_iff_ne]
      intro he
      rw [ByteArray.toList_eq] at he
      exact h0 (by rw [← bl_len]; unfold bl; rw [he]; rfl)
    clear h0
    have HL := fun w => Lib.hid (trimRight_any s hs w)
    have HR := fun w => Lib.hid (trimLeft_any (ofB (tr (bl s))) w)
    rw [bl_ofB] at HR
    clear hs
    go_enter Tryd.func16, Tryd.ntmps16
    go_wp2_with fail
    go_region_held3 (fun W => w.drew = W) (first | rfl) ((first
      | (go_at_call 20; refine (HL _).out.mono ?_; rintro e wa ⟨rfl, rfl⟩)
      | (go_at_call 19; refine (HR _).out.mono ?_; rintro e wb ⟨rfl, rfl⟩)))
    all_goals (go_wp2_with fail; go_ret; exact ⟨rfl, ⟨rfl, rfl, rfl, Nat.le_refl _, fun _ _ _ => rfl⟩⟩)
end Go.Proofs.YtjgbflgeicejeaaDoor
