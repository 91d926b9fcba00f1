/- A frame one of whose bytes behind the length is another: pure. -/
import Derived.Test.YtjdpnidenjeigaaDoorFlo
namespace Go.Proofs.YtjdpnidenjeigaaDoor
open Go.RowKit Go.ChangeShapes

theorem iff_yes' {p : Prop} (h : p) : (true : Bool) = true ↔ p := ⟨fun _ => h, fun _ => rfl⟩
theorem bit1_inj {a b : Nat} (ha : a < 4294967296) (hb : b < 4294967296) (h : bit1 a = bit1 b) : a = b := by
  have key : ∀ c : Nat, c < 4294967296 → (bit1 c).testBit 31 = decide (c % 2 = 1) := fun c hc => by
    unfold bit1
    rw [Nat.testBit_xor, Nat.testBit_lt_two_pow (show c / 2 < 2 ^ 31 by omega)]
    rcases Nat.mod_two_eq_zero_or_one c with h | h
    · rw [h]; decide
    · rw [h]; decide
  have h1 := key a ha
  rw [h, key b hb, decide_eq_decide] at h1
  have h2 : a % 2 = b % 2 := by omega
  unfold bit1 at h
  rw [h2] at h
  have h3 : a / 2 = b / 2 := by
    have := congrArg (· ^^^ selP (b % 2)) h
    simpa [Nat.xor_assoc] using this
  omega
theorem bits1_inj : ∀ (k : Nat) {a b : Nat}, a < 4294967296 → b < 4294967296 → bits1 k a = bits1 k b → a = b
  | 0, _, _, _, _, h => h
  | k + 1, _, _, ha, hb, h => bits1_inj k ha hb (bit1_inj (bits1_lt ha k) (bits1_lt hb k) h)
theorem crcB_inj {a b : Nat} (n : Nat) (ha : a < 4294967296) (hb : b < 4294967296) (hn : n < 256) (h : crcB a n = crcB b n) : a = b := by
  rw [crcB_bits, crcB_bits] at h
  have := bits1_inj 8 (xor_lt32 ha (by omega)) (xor_lt32 hb (by omega)) h
  have := congrArg (· ^^^ n) this
  simpa [Nat.xor_assoc] using this
theorem crcB_inj2 {s : Nat} (a b : Nat) (hs : s < 4294967296) (ha : a < 256) (hb : b < 256) (h : crcB s a = crcB s b) : a = b := by
  rw [crcB_bits, crcB_bits] at h
  have := bits1_inj 8 (xor_lt32 hs (by omega)) (xor_lt32 hs (by omega)) h
  have := congrArg (s ^^^ ·) this
  simpa [← Nat.xor_assoc] using this
theorem crcF_inj : ∀ (l : List Int) {a b : Nat}, a < 4294967296 → b < 4294967296 → (∀ x ∈ l, 0 ≤ x ∧ x ≤ 255) → crcF a l = crcF b l → a = b
  | [], _, _, _, _, _, h => h
  | x :: r, a, b, ha, hb, hx, h => by
    have h0 := hx x (by simp)
    have hn : x.toNat < 256 := by omega
    exact crcB_inj x.toNat ha hb hn (crcF_inj r (crcB_lt ha hn) (crcB_lt hb hn) (fun y hy => hx y (by simp [hy])) h)
theorem crcF_set : ∀ (l : List Int) (i : Nat) (v : Int) (s : Nat), s < 4294967296 → (∀ x ∈ l, 0 ≤ x ∧ x ≤ 255) → 0 ≤ v ∧ v ≤ 255 → ∀ x, l[i]? = some x → v ≠ x → crcF s (l.set i v) ≠ crcF s l
  | [], i, v, s, _, _, _, x, hx, _ => by simp at hx
  | y :: r, 0, v, s, hs, hb, hv, x, hx, hne => by
    obtain rfl : y = x := by simpa using hx
    have h0 := hb y (by simp)
    intro h
    have h1 : crcF (crcB s v.toNat) r = crcF (crcB s y.toNat) r := h
    have h2 := crcF_inj r (crcB_lt hs (by omega)) (crcB_lt hs (by omega)) (fun z hz => hb z (by simp [hz])) h1
    have h3 := crcB_inj2 _ _ hs (by omega) (by omega) h2
    omega
  | y :: r, i + 1, v, s, hs, hb, hv, x, hx, hne => by
    have h0 := hb y (by simp)
    exact crcF_set r i v (crcB s y.toNat) (crcB_lt hs (by omega)) (fun z hz => hb z (by simp [hz])) hv x (by simpa using hx) hne
theorem crcP_set (l : List Int) (i : Nat) (v x : Int) (hb : ∀ x ∈ l, 0 ≤ x ∧ x ≤ 255) (hv : 0 ≤ v ∧ v ≤ 255) (hx : l[i]? = some x) (hne : v ≠ x) : crcP (l.set i v) ≠ crcP l := by
  intro h
  refine crcF_set l i v 4294967295 (by decide) hb hv x hx hne ?_
  have := congrArg (4294967295 ^^^ ·) h
  unfold crcP at this
  simpa [← Nat.xor_assoc] using this
theorem set_r (a b : List Int) (i : Nat) (v : Int) (h : a.length ≤ i) : (a ++ b).set i v = a ++ b.set (i - a.length) v := by rw [List.set_append, if_neg (by omega)]
theorem set_l (a b : List Int) (i : Nat) (v : Int) (h : i < a.length) : (a ++ b).set i v = a.set i v ++ b := by rw [List.set_append, if_pos h]
theorem rd4_set (c : Nat) (j : Nat) (v y : Int) (hj : j < 4) (hv : 0 ≤ v ∧ v ≤ 255) (hy : (w4 c)[j]? = some y) (hne : v ≠ y) (m : List Int) : rd4 ((w4 c ++ m).set j v) ≠ c := by
  rcases (show j = 0 ∨ j = 1 ∨ j = 2 ∨ j = 3 by omega) with rfl | rfl | rfl | rfl <;>
  · simp only [w4, List.getElem?_cons_zero, List.getElem?_cons_succ, Option.some.injEq] at hy
    simp only [rd4, w4, List.cons_append, List.nil_append, List.set_cons_zero, List.set_cons_succ, List.getD_cons_zero, List.getD_cons_succ, Int.toNat_natCast]
    omega
/-- The frame is bad. -/
theorem first_turned (x : List Int) (hb : ∀ y ∈ x, 0 ≤ y ∧ y ≤ 255) (hl : x.length ≤ 300) (j : Nat) (v y : Int) (h4 : 4 ≤ j) (hv : 0 ≤ v ∧ v ≤ 255) (hy : (frP x)[j]? = some y) (hne : v ≠ y) (m : List Int) : firstE ((frP x).set j v ++ m) = 10 := by
  have hj : j < (frP x).length := (List.getElem?_eq_some_iff.1 hy).1
  rw [frP_len] at hj
  have hfr : frP x = w4 x.length ++ (w4 (crcP x) ++ x) := by unfold frP; rw [List.append_assoc]
  have hset : (frP x).set j v = w4 x.length ++ (w4 (crcP x) ++ x).set (j - 4) v := by rw [hfr, set_r _ _ _ _ (by rw [w4_len]; omega), w4_len]
  have hrd : rd4 ((frP x).set j v ++ m) = x.length := by rw [hset, List.append_assoc]; exact rd4_w4 _ (by omega) _
  have hd4 : ((frP x).set j v ++ m).drop 4 = (w4 (crcP x) ++ x).set (j - 4) v ++ m := by rw [hset, List.append_assoc]; exact List.drop_left (l₁ := w4 x.length)
  have hy' : (w4 (crcP x) ++ x)[j - 4]? = some y := by
    rw [hfr, List.getElem?_append_right (by rw [w4_len]; omega), w4_len] at hy; exact hy
  have hne' : crcP (recP ((frP x).set j v ++ m)) ≠ rd4 (((frP x).set j v ++ m).drop 4) := by
    have hrec : recP ((frP x).set j v ++ m) = ((((frP x).set j v ++ m).drop 4).drop 4).take x.length := by unfold recP; rw [hrd, List.drop_drop]
    rw [hrec, hd4]
    by_cases h8 : j < 8
    · have e : (w4 (crcP x) ++ x).set (j - 4) v = (w4 (crcP x)).set (j - 4) v ++ x := set_l _ _ _ _ (by rw [w4_len]; omega)
      rw [e, List.append_assoc]
      have hl4 : ((w4 (crcP x)).set (j - 4) v).length = 4 := by rw [List.length_set]; rfl
      have e2 : (((w4 (crcP x)).set (j - 4) v ++ (x ++ m)).drop 4).take x.length = x := by
        rw [List.drop_left' hl4]; exact List.take_left
      rw [e2]
      have h := rd4_set (crcP x) (j - 4) v y (by omega) hv (by rw [List.getElem?_append_left (by rw [w4_len]; omega)] at hy'; exact hy') hne (x ++ m)
      rw [set_l _ _ _ _ (by rw [w4_len]; omega)] at h
      exact fun q => h q.symm
    · have e : (w4 (crcP x) ++ x).set (j - 4) v = w4 (crcP x) ++ x.set (j - 8) v := by rw [set_r _ _ _ _ (by rw [w4_len]; omega), w4_len, show j - 4 - 4 = j - 8 by omega]
      rw [e, List.append_assoc, rd4_w4 _ (crcP_lt x hb), List.drop_left' (w4_len _)]
      have e2 : (x.set (j - 8) v ++ m).take x.length = x.set (j - 8) v := List.take_left' (List.length_set)
      rw [e2]
      have hy2 : x[j - 8]? = some y := by
        rw [List.getElem?_append_right (by rw [w4_len]; omega), w4_len] at hy'
        rw [show j - 8 = j - 4 - 4 by omega]; exact hy'
      exact crcP_set x _ v y hb hv hy2 hne
  unfold firstE
  rw [hrd, List.length_append, List.length_set, frP_len, if_neg (by omega), if_neg (by omega), if_neg (by omega), if_neg hne']
theorem one_turned (x : List Int) (hb : ∀ y ∈ x, 0 ≤ y ∧ y ≤ 255) (hl : x.length ≤ 300) (j : Nat) (v y : Int) (h4 : 4 ≤ j) (hv : 0 ≤ v ∧ v ≤ 255) (hy : (frP x)[j]? = some y) (hne : v ≠ y) : oneE ((frP x).set j v) = 10 := by
  have h := first_turned x hb hl j v y h4 hv hy hne []
  rw [List.append_nil] at h
  have hfr : frP x = w4 x.length ++ (w4 (crcP x) ++ x) := by unfold frP; rw [List.append_assoc]
  have hrd : rd4 ((frP x).set j v) = x.length := by
    rw [hfr, set_r _ _ _ _ (by rw [w4_len]; omega)]; exact rd4_w4 _ (by omega) _
  unfold oneE
  rw [h, if_neg (by omega), hrd, List.length_set, frP_len, if_neg (by omega)]
/-- The log with one byte of a frame turned: the records ahead of it, and no more. -/
theorem scan_turned (L : List (List Int)) (hb : ∀ l ∈ L, ∀ x ∈ l, 0 ≤ x ∧ x ≤ 255) (hl : ∀ l ∈ L, l.length ≤ 300) (hit : Nat) (x : List Int) (hx : L[hit]? = some x) (j : Nat) (v y : Int) (h4 : 4 ≤ j) (hv : 0 ≤ v ∧ v ≤ 255) (hy : (frP x)[j]? = some y) (hne : v ≠ y) :
    scanP ((logP L).set ((logP (L.take hit)).length + j) v) = (L.take hit, (logP (L.take hit)).length) := by
  have hj : j < (frP x).length := (List.getElem?_eq_some_iff.1 hy).1
  have hm := List.mem_of_getElem? hx
  have hsplit : logP L = logP (L.take hit) ++ (frP x ++ logP (L.drop (hit + 1))) := by
    have e : L = L.take hit ++ (x :: L.drop (hit + 1)) := by
      have hi := (List.getElem?_eq_some_iff.1 hx)
      rw [← hi.2, ← List.drop_eq_getElem_cons hi.1, List.take_append_drop]
    rw [show logP L = logP (L.take hit ++ (x :: L.drop (hit + 1))) by rw [← e]]
    unfold logP
    rw [List.flatMap_append]; rfl
  have hset : (logP L).set ((logP (L.take hit)).length + j) v = logP (L.take hit) ++ ((frP x).set j v ++ logP (L.drop (hit + 1))) := by
    rw [hsplit, set_r _ _ _ _ (by omega), Nat.add_sub_cancel_left, set_l _ _ _ _ hj]
  rw [hset, scanP_log _ _ (fun l h => hb l (List.mem_of_mem_take h)) (fun l h => by have := hl l (List.mem_of_mem_take h); omega)]
  have := first_turned x (hb x hm) (hl x hm) j v y h4 hv hy hne (logP (L.drop (hit + 1)))
  rw [scanP_no (by rw [this]; decide)]
  simp
end Go.Proofs.YtjdpnidenjeigaaDoor
