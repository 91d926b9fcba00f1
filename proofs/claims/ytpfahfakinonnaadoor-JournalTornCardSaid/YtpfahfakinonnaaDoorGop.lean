/- What One says of a frame, cut off, with more behind it, or with a greater length. Pure. -/
import Derived.Test.YtpfahfakinonnaaDoorGoo
namespace Go.Proofs.YtpfahfakinonnaaDoor
open Go.RowKit Go.ChangeShapes

theorem rd4_take (l : List Int) (k : Nat) (hk : 4 ≤ k) : rd4 (l.take k) = rd4 l := by
  have g : ∀ i, i < 4 → (l.take k).getD i 0 = l.getD i 0 := fun i hi => by
    rw [List.getD_eq_getElem?_getD, List.getD_eq_getElem?_getD, List.getElem?_take, if_pos (by omega)]
  unfold rd4; rw [g 0 (by omega), g 1 (by omega), g 2 (by omega), g 3 (by omega)]
theorem rd4_fr (l m : List Int) (hl : l.length < 4294967296) : rd4 (frP l ++ m) = l.length := by
  unfold frP; rw [List.append_assoc, List.append_assoc]; exact rd4_w4 _ hl _
theorem drop4_fr (l m : List Int) : (frP l ++ m).drop 4 = w4 (crcP l) ++ (l ++ m) := by
  unfold frP; rw [List.append_assoc, List.append_assoc]
  exact List.drop_left (l₁ := w4 l.length)
theorem drop8_fr (l m : List Int) : (frP l ++ m).drop 8 = l ++ m := by
  rw [show 8 = 4 + 4 from rfl, ← List.drop_drop, drop4_fr]; exact List.drop_left (l₁ := w4 (crcP l))
theorem recP_fr (l m : List Int) (hl : l.length < 4294967296) : recP (frP l ++ m) = l := by
  unfold recP; rw [rd4_fr l m hl, drop8_fr]; exact List.take_left
theorem first_fr (l m : List Int) (hb : ∀ x ∈ l, 0 ≤ x ∧ x ≤ 255) (hl : l.length ≤ 4194304) : firstE (frP l ++ m) = 0 := by
  unfold firstE
  rw [rd4_fr l m (by omega), recP_fr l m (by omega), drop4_fr, rd4_w4 _ (crcP_lt l hb), List.length_append, frP_len, if_neg (by omega), if_neg (by omega), if_neg (by omega), if_pos rfl]
theorem one_fr (l m : List Int) (hb : ∀ x ∈ l, 0 ≤ x ∧ x ≤ 255) (hl : l.length ≤ 4194304) : oneE (frP l ++ m) = if m = [] then 0 else 9 := by
  unfold oneE
  rw [first_fr l m hb hl, if_neg (by omega), rd4_fr l m (by omega), List.length_append, frP_len]
  by_cases h : m = []
  · rw [if_pos h, if_neg (by rw [h]; simp; omega)]
  · have : 0 < m.length := by
      rcases Nat.eq_zero_or_pos m.length with h0 | h0
      · exact absurd (List.eq_nil_of_length_eq_zero h0) h
      · exact h0
    rw [if_neg h, if_pos (by omega)]
theorem one_cut (l : List Int) (hl : l.length ≤ 4194304) (k : Nat) (hk : k < (frP l).length) : oneE ((frP l).take k) = 8 := by
  have hf : firstE ((frP l).take k) = 8 := by
    unfold firstE
    rw [frP_len] at hk
    have e : ((frP l).take k).length = k := by rw [List.length_take, frP_len]; omega
    rw [e]
    by_cases h8 : k < 8
    · rw [if_pos h8]
    · rw [if_neg h8, rd4_take _ _ (by omega)]
      have := rd4_fr l [] (by omega)
      rw [List.append_nil] at this
      rw [this, if_neg (by omega), if_pos (by omega)]
  unfold oneE
  rw [hf, if_pos (.inl rfl)]
theorem first_long (l : List Int) (b : Int) (h1 : 1 ≤ b) (m : List Int) : firstE ((frP l ++ m).set 0 b) = 5 := by
  unfold firstE
  have e : rd4 ((frP l ++ m).set 0 b) ≥ b.toNat * 16777216 := by
    have : ((frP l ++ m).set 0 b).getD 0 0 = b := by
      rw [List.getD_eq_getElem?_getD, List.getElem?_set, if_pos rfl, if_pos (by rw [List.length_append, frP_len]; omega)]; rfl
    unfold rd4; rw [this]; omega
  rw [List.length_set, List.length_append, frP_len, if_neg (by omega), if_pos (by omega)]
theorem one_long (l : List Int) (b : Int) (h1 : 1 ≤ b) (m : List Int) : oneE ((frP l ++ m).set 0 b) = 5 := by
  unfold oneE; rw [first_long l b h1 m, if_pos (.inr rfl)]
end Go.Proofs.YtpfahfakinonnaaDoor
