/- Contracts of schema.Up and schema.Pick, of the reference's Up and Pick. No condition beyond the size that a string has. -/
import Derived.Test.YtjgbflgeicejeaaDoorLow
namespace Go.Proofs.YtjgbflgeicejeaaDoor
open Go.RowKit Go.Lib

def isV (n : Int) : Bool := decide (1 ≤ n ∧ n ≤ 3)
theorem isVersion_any (n : Int) (w : World) : Calls Tryd.prog 18 #[.int .i64 n] w fun e w' => e = .returned (.bool (isV n)) ∧ w = w' := by
  have hW : Hid (Calls Tryd.prog 26 #[.int .i64 n, .int .i64 1, .int .i64 3] w fun e w' => e = .returned (.bool (isV n)) ∧ w = w') := by
    unfold Hid
    by_cases h1 : 1 ≤ n
    · by_cases h2 : n ≤ 3
      · have hv : isV n = true := by simp [isV, h1, h2]
        rw [hv]
        clear hv
        go_enter Tryd.func26, Tryd.ntmps26
        go_wp2
        go_ret
        exact ⟨rfl, rfl⟩
      · have hv : isV n = false := by simp [isV, h2]
        rw [hv]
        clear hv
        go_enter Tryd.func26, Tryd.ntmps26
        go_wp2
        go_ret
        exact ⟨rfl, rfl⟩
    · have hv : isV n = false := by simp [isV, h1]
      rw [hv]
      clear hv
      go_enter Tryd.func26, Tryd.ntmps26
      go_wp2
      go_ret
      exact ⟨rfl, rfl⟩
  go_enter Tryd.func18, Tryd.ntmps18
  go_wp2_with fail
  refine hW.out.mono ?_
  rintro _ w1 ⟨rfl, rfl⟩
  go_wp2_with fail
  go_ret
  exact ⟨rfl, rfl⟩
theorem version_any (n : Int) (w : World) : Calls Tryd.prog 17 #[.int .i64 n] w fun e w' => e = .returned (.bool (isV n)) ∧ w = w' := by
  by_cases h1 : 1 ≤ n
  · by_cases h2 : n ≤ 3
    · have hv : isV n = true := by simp [isV, h1, h2]
      rw [hv]
      clear hv
      go_enter Tryd.func17, Tryd.ntmps17
      go_wp2
      go_ret
      exact ⟨rfl, rfl⟩
    · have hv : isV n = false := by simp [isV, h2]
      rw [hv]
      clear hv
      go_enter Tryd.func17, Tryd.ntmps17
      go_wp2
      go_ret
      exact ⟨rfl, rfl⟩
  · have hv : isV n = false := by simp [isV, h1]
    rw [hv]
    clear hv
    go_enter Tryd.func17, Tryd.ntmps17
    go_wp2
    go_ret
    exact ⟨rfl, rfl⟩
/-- What from, to say: an error's number, or nought. -/
def chk (f t : Int) : Int := if isV f = true ∧ isV t = true then (if t < f then 13 else 0) else 1
theorem check_any (f t : Int) (w : World) : Calls Tryd.prog 14 #[.int .i64 f, .int .i64 t] w fun e w' => e = .returned (.int .i64 (chk f t)) ∧ w = w' := by
  have HF := fun w => Lib.hid (isVersion_any f w)
  have HT := fun w => Lib.hid (isVersion_any t w)
  cases hf : isV f
  · have hv : chk f t = 1 := by simp [chk, hf]
    rw [hv]
    rw [hf] at HF
    clear hv hf HT
    go_enter Tryd.func14, Tryd.ntmps14
    go_wp2_with fail
    refine (HF _).out.mono ?_
    rintro _ w1 ⟨rfl, rfl⟩
    go_wp2_with fail
    go_ret
    exact ⟨rfl, rfl⟩
  · cases ht : isV t
    · have hv : chk f t = 1 := by simp [chk, ht]
      rw [hv]
      rw [hf] at HF
      rw [ht] at HT
      clear hv hf ht
      go_enter Tryd.func14, Tryd.ntmps14
      go_wp2_with fail
      refine (HF _).out.mono ?_
      rintro _ w1 ⟨rfl, rfl⟩
      go_wp2_with fail
      refine (HT _).out.mono ?_
      rintro _ w1 ⟨rfl, rfl⟩
      go_wp2_with fail
      go_ret
      exact ⟨rfl, rfl⟩
    · rw [hf] at HF
      rw [ht] at HT
      by_cases h : t < f
      · have hv : chk f t = 13 := by simp [chk, hf, ht, h]
        rw [hv]
        clear hv hf ht
        go_enter Tryd.func14, Tryd.ntmps14
        go_wp2_with fail
        refine (HF _).out.mono ?_
        rintro _ w1 ⟨rfl, rfl⟩
        go_wp2_with fail
        refine (HT _).out.mono ?_
        rintro _ w1 ⟨rfl, rfl⟩
        go_wp2_with fail
        go_ret
        exact ⟨rfl, rfl⟩
      · have hv : chk f t = 0 := by simp [chk, hf, ht, h]
        rw [hv]
        clear hv hf ht
        go_enter Tryd.func14, Tryd.ntmps14
        go_wp2_with fail
        refine (HF _).out.mono ?_
        rintro _ w1 ⟨rfl, rfl⟩
        go_wp2_with fail
        refine (HT _).out.mono ?_
        rintro _ w1 ⟨rfl, rfl⟩
        go_wp2_with fail
        go_ret
        exact ⟨rfl, rfl⟩
/-- What Up makes of a text's bytes, where the versions may be. -/
def upL (l : List UInt8) (f t : Int) : List UInt8 :=
  let a := if f ≤ 1 ∧ 2 ≤ t then low l else l
  if f ≤ 2 ∧ 3 ≤ t then tm a else a
def upS (s : ByteArray) (f t : Int) : ByteArray := if chk f t = 0 then ofB (upL (bl s) f t) else { data := #[] }
theorem chk_zero {f t : Int} (h : chk f t = 0) : (f = 1 ∨ f = 2 ∨ f = 3) ∧ (t = 1 ∨ t = 2 ∨ t = 3) ∧ f ≤ t := by
  unfold chk isV at h
  simp only [decide_eq_true_eq] at h
  split at h
  · split at h
    · cases h
    · omega
  · cases h
theorem tl_length (l : List UInt8) : (tl l).length ≤ l.length := (List.dropWhile_sublist (· == 32)).length_le
theorem tm_length (l : List UInt8) : (tm l).length ≤ l.length := Nat.le_trans (tl_length _) (tr_length _)
theorem upL_length (l : List UInt8) (f t : Int) : (upL l f t).length ≤ l.length := by
  unfold upL
  simp only
  split <;> split <;> first | (refine Nat.le_trans (tm_length _) ?_; first | (rw [low_len]; exact Nat.le_refl _) | exact Nat.le_refl _) | (rw [low_len]; exact Nat.le_refl _) | exact Nat.le_refl _
theorem upS_size (s : ByteArray) (f t : Int) : (upS s f t).size ≤ s.size := by
  unfold upS
  split
  · rw [ofB_size]; have := upL_length (bl s) f t; rw [bl_len] at this; exact this
  · exact Nat.zero_le _
theorem up_any (s : ByteArray) (f t : Int) (hs : s.size ≤ maxLen) (w : World) :
    Calls Tryd.prog 9 #[.string s, .int .i64 f, .int .i64 t] w fun e w' => e = .returned (.tuple #[.string (upS s f t), .int .i64 (chk f t)]) ∧ w.grownBy w' none := by
  have HC := fun w => Lib.hid (check_any f t w)
  by_cases h0 : chk f t = 0
  · have hv : upS s f t = ofB (upL (bl s) f t) := by unfold upS; rw [if_pos h0]
    rw [hv, h0]
    rw [h0] at HC
    obtain ⟨hf, ht, hft⟩ := chk_zero h0
    have HL := fun w => Lib.hid (lower_any s hs w)
    have HT1 := fun w => Lib.hid (trim_any s hs w)
    have hs2 : (ofB (low (bl s))).size ≤ maxLen := by rw [ofB_size, low_len, bl_len]; exact hs
    have HT2 := fun w => Lib.hid (trim_any (ofB (low (bl s))) hs2 w)
    rw [bl_ofB] at HT2
    clear hv h0 hs hs2
    rcases hf with rfl | rfl | rfl <;> rcases ht with rfl | rfl | rfl
    · clear hft
      have hu : ∀ l, upL l 1 1 = l := fun l => by simp [upL]
      rw [hu, ofB_bl]
      clear hu
      go_enter Tryd.func9, Tryd.ntmps9
      go_wp2_with fail
      refine (HC _).out.mono ?_
      rintro _ w1 ⟨rfl, rfl⟩
      go_wp2_with fail
      go_ret2
      exact ⟨rfl, only_refl _ _⟩
    · clear hft
      have hu : ∀ l, upL l 1 2 = low l := fun l => by simp [upL]
      rw [hu]
      clear hu
      go_enter Tryd.func9, Tryd.ntmps9
      go_wp2_with fail
      refine (HC _).out.mono ?_
      rintro _ w1 ⟨rfl, rfl⟩
      go_wp2_with fail
      refine (HL _).out.mono ?_
      rintro _ w1 ⟨rfl, g1⟩
      go_wp2_with fail
      go_ret2
      exact ⟨rfl, g1⟩
    · clear hft
      have hu : ∀ l, upL l 1 3 = tm (low l) := fun l => by simp [upL]
      rw [hu]
      clear hu
      go_enter Tryd.func9, Tryd.ntmps9
      go_wp2_with fail
      refine (HC _).out.mono ?_
      rintro _ w1 ⟨rfl, rfl⟩
      go_wp2_with fail
      refine (HL _).out.mono ?_
      rintro _ w1 ⟨rfl, g1⟩
      go_wp2_with fail
      refine (HT2 _).out.mono ?_
      rintro _ w2 ⟨rfl, g2⟩
      go_wp2_with fail
      go_ret2
      exact ⟨rfl, only_step g1 g2 (fun _ h => by cases h)⟩
    · exfalso; omega
    · clear hft
      have hu : ∀ l, upL l 2 2 = l := fun l => by simp [upL]
      rw [hu, ofB_bl]
      clear hu
      go_enter Tryd.func9, Tryd.ntmps9
      go_wp2_with fail
      refine (HC _).out.mono ?_
      rintro _ w1 ⟨rfl, rfl⟩
      go_wp2_with fail
      go_ret2
      exact ⟨rfl, only_refl _ _⟩
    · clear hft
      have hu : ∀ l, upL l 2 3 = tm l := fun l => by simp [upL]
      rw [hu]
      clear hu
      go_enter Tryd.func9, Tryd.ntmps9
      go_wp2_with fail
      refine (HC _).out.mono ?_
      rintro _ w1 ⟨rfl, rfl⟩
      go_wp2_with fail
      refine (HT1 _).out.mono ?_
      rintro _ w1 ⟨rfl, g1⟩
      go_wp2_with fail
      go_ret2
      exact ⟨rfl, g1⟩
    · exfalso; omega
    · exfalso; omega
    · clear hft
      have hu : ∀ l, upL l 3 3 = l := fun l => by simp [upL]
      rw [hu, ofB_bl]
      clear hu
      go_enter Tryd.func9, Tryd.ntmps9
      go_wp2_with fail
      refine (HC _).out.mono ?_
      rintro _ w1 ⟨rfl, rfl⟩
      go_wp2_with fail
      go_ret2
      exact ⟨rfl, only_refl _ _⟩
  · have hv : upS s f t = { data := #[] } := by unfold upS; rw [if_neg h0]
    rw [hv]
    obtain ⟨c, hc⟩ : ∃ c, c = chk f t := ⟨_, rfl⟩
    rw [← hc] at HC h0 ⊢
    have hcb : (c == 0) = false := by rw [beq_eq_false_iff_ne]; exact h0
    clear hv hc
    go_enter Tryd.func9, Tryd.ntmps9
    go_wp2_with fail
    refine (HC _).out.mono ?_
    rintro _ w1 ⟨rfl, rfl⟩
    go_wp2_with fail
    go_ret2
    exact ⟨rfl, only_refl _ _⟩
theorem pick_any (f t : Int) (w : World) :
    Calls Tryd.prog 11 #[.int .i64 f, .int .i64 t] w fun e w' => e = .returned (.tuple #[.int .i64 (if chk f t = 0 then f else 0), .int .i64 (chk f t)]) ∧ w = w' := by
  have HC := fun w => Lib.hid (check_any f t w)
  by_cases h0 : chk f t = 0
  · rw [h0] at HC ⊢
    rw [if_pos rfl]
    clear h0
    go_enter Tryd.func11, Tryd.ntmps11
    go_wp2_with fail
    refine (HC _).out.mono ?_
    rintro _ w1 ⟨rfl, rfl⟩
    go_wp2_with fail
    go_ret2
    exact ⟨rfl, rfl⟩
  · rw [if_neg h0]
    obtain ⟨c, hc⟩ : ∃ c, c = chk f t := ⟨_, rfl⟩
    rw [← hc] at HC h0 ⊢
    have hcb : (c == 0) = false := by rw [beq_eq_false_iff_ne]; exact h0
    clear hc
    go_enter Tryd.func11, Tryd.ntmps11
    go_wp2_with fail
    refine (HC _).out.mono ?_
    rintro _ w1 ⟨rfl, rfl⟩
    go_wp2_with fail
    go_ret2
    exact ⟨rfl, rfl⟩
end Go.Proofs.YtjgbflgeicejeaaDoor
