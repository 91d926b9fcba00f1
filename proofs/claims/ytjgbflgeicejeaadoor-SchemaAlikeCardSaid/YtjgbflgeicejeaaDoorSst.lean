/- What texts are behind one step, behind two; the walk of SchemaSteps: it returns true for every input. No condition. -/
import Derived.Test.YtjgbflgeicejeaaDoorSdn
namespace Go.Proofs.YtjgbflgeicejeaaDoor
open Go.RowKit Go.Lib

theorem tl_idem : ∀ l : List UInt8, tl (tl l) = tl l
  | [] => rfl
  | x :: l => by
    by_cases h : (x == 32) = true
    · unfold tl
      rw [List.dropWhile_cons_of_pos (p := (· == 32)) h]
      exact tl_idem l
    · unfold tl
      rw [List.dropWhile_cons_of_neg (p := (· == 32)) h, List.dropWhile_cons_of_neg (p := (· == 32)) h]
theorem tr_idem (l : List UInt8) : tr (tr l) = tr l := by
  have := tl_idem l.reverse
  unfold tl at this
  unfold tr
  rw [List.reverse_reverse, this]
theorem tl_snoc (l : List UInt8) (x : UInt8) : tl (l ++ [x]) = if tl l = [] then tl [x] else tl l ++ [x] := by
  unfold tl
  rw [List.dropWhile_append]
  cases h : List.dropWhile (· == 32) l with
  | nil => simp
  | cons y r => simp
theorem tl_tr (l : List UInt8) : tl (tr l) = tr (tl l) := by
  have key : ∀ (n : Nat) (l : List UInt8), l.length = n → tl (tr l) = tr (tl l) := by
    intro n
    induction n with
    | zero => intro l hl; rw [List.eq_nil_of_length_eq_zero hl]; rfl
    | succ n ih =>
      intro l hl
      have hne : l ≠ [] := by intro h; rw [h] at hl; simp at hl
      obtain ⟨m, x, rfl⟩ : ∃ m x, l = m ++ [x] := ⟨l.dropLast, l.getLast hne, (List.dropLast_concat_getLast hne).symm⟩
      have IH := ih m (by simpa using hl)
      rw [tr_snoc, tl_snoc]
      by_cases hx : x = 32
      · subst hx
        rw [if_pos rfl]
        by_cases h0 : tl m = []
        · rw [if_pos h0, IH, h0]; rfl
        · rw [if_neg h0, tr_snoc, if_pos rfl, IH]
      · rw [if_neg hx, tl_snoc]
        by_cases h0 : tl m = []
        · rw [if_pos h0]
          have h1 : tl [x] = [x] := by unfold tl; rw [List.dropWhile_cons_of_neg (p := (· == 32)) (by simpa using hx)]
          have h2 := tr_snoc [] x
          rw [if_neg hx] at h2
          rw [h1]; simpa using h2.symm
        · rw [if_neg h0, tr_snoc, if_neg hx]
  exact key l.length l rfl
theorem tm_idem (l : List UInt8) : tm (tm l) = tm l := by
  unfold tm
  rw [← tl_tr (tr l), tr_idem, tl_idem]
theorem lowB_low (x : UInt8) : lowB (lowB x) = lowB x := by
  unfold lowB
  by_cases h : 65 ≤ x.toNat ∧ x.toNat ≤ 90
  · rw [if_pos h, if_neg]
    rw [UInt8.toNat_add]
    simp; omega
  · rw [if_neg h, if_neg h]
theorem low_low (l : List UInt8) : low (low l) = low l := by
  unfold low
  rw [List.map_map]
  exact List.map_congr_left fun x _ => lowB_low x
theorem low_fix {l m : List UInt8} (h : ∀ x ∈ m, x ∈ low l) : low m = m := by
  unfold low
  conv => rhs; rw [← List.map_id m]
  refine List.map_congr_left fun x hx => ?_
  obtain ⟨y, _, rfl⟩ := List.mem_map.1 (h x hx)
  exact lowB_low y
theorem tm_mem (l : List UInt8) : ∀ x ∈ tm l, x ∈ l := fun x hx => by
  have h1 : x ∈ tr l := (List.dropWhile_sublist (· == 32)).subset hx
  have h2 := (List.dropWhile_sublist (· == 32)).subset (List.mem_reverse.1 h1)
  exact List.mem_reverse.1 h2
theorem low_tm (l : List UInt8) : low (tm (low l)) = tm (low l) := low_fix (tm_mem (low l))
theorem chk_ok {f t : Int} (h1 : 1 ≤ f) (h2 : f ≤ t) (h3 : t ≤ 3) : chk f t = 0 := by
  unfold chk isV
  simp only [decide_eq_true_eq]
  rw [if_pos (by omega), if_neg (by omega)]
theorem upS_ok (s : ByteArray) {f t : Int} (h1 : 1 ≤ f) (h2 : f ≤ t) (h3 : t ≤ 3) : upS s f t = ofB (upL (bl s) f t) := by unfold upS; rw [if_pos (chk_ok h1 h2 h3)]
theorem upL_steps (l : List UInt8) {a b c : Int} (h1 : 1 ≤ a) (h2 : a ≤ b) (h3 : b ≤ c) (h4 : c ≤ 3) : upL (upL l a b) b c = upL l a c ∧ upL l a a = l ∧ upL (upL l a c) a c = upL l a c := by
  have ha : a = 1 ∨ a = 2 ∨ a = 3 := by omega
  have hb : b = 1 ∨ b = 2 ∨ b = 3 := by omega
  have hc : c = 1 ∨ c = 2 ∨ c = 3 := by omega
  rcases ha with rfl | rfl | rfl <;> rcases hb with rfl | rfl | rfl <;> rcases hc with rfl | rfl | rfl <;> first | (exfalso; omega) | (simp [upL, low_low, tm_idem, low_tm])
theorem upS_steps (s : ByteArray) {a b c : Int} (h1 : 1 ≤ a) (h2 : a ≤ b) (h3 : b ≤ c) (h4 : c ≤ 3) : upS (upS s a b) b c = upS s a c ∧ upS s a a = s ∧ upS (upS s a c) a c = upS s a c := by
  obtain ⟨e1, e2, e3⟩ := upL_steps (bl s) h1 h2 h3 h4
  rw [upS_ok s h1 h2 (by omega), upS_ok s h1 (by omega : a ≤ c) h4, upS_ok s h1 (Int.le_refl _) (by omega), upS_ok _ (by omega : 1 ≤ b) h3 h4, upS_ok _ h1 (by omega : a ≤ c) h4, bl_ofB, bl_ofB, e1, e2, e3]
  exact ⟨rfl, ofB_bl s, rfl⟩

theorem within_any (n m : Int) (h1 : -9223372036854775808 ≤ n) (h2 : n ≤ 9223372036854775807) (m1 : 1 ≤ m) (m2 : m ≤ 9223372036854775807) (w : World) :
    Calls Tryd.prog 13 #[.int .i64 n, .int .i64 m] w fun e w' => e = .returned (.int .i64 (n % m)) ∧ w = w' := by
  have hb1 := Int.emod_nonneg n (show m ≠ 0 by omega)
  have hb2 := Int.emod_lt_of_pos n (show 0 < m by omega)
  by_cases hn : 0 ≤ n
  · have ht : ¬ n % m < 0 := by omega
    go_enter Tryd.func13, Tryd.ntmps13
    go_wp2
    go_ret
    exact ⟨rfl, rfl⟩
  · have e : n.tmod m = if n % m = 0 then 0 else n % m - m := by
      have h := @Int.tmod_eq_emod n m
      rw [h]
      by_cases h0 : n % m = 0
      · rw [if_pos h0, if_pos (by right; exact Int.dvd_of_emod_eq_zero h0), h0]; rfl
      · rw [if_neg h0, if_neg (by
          rintro (h | h)
          · exact hn h
          · exact h0 (Int.emod_eq_zero_of_dvd h))]
        omega
    by_cases h0 : n % m = 0
    · rw [if_pos h0] at e
      have E := Lib.hid h0
      clear h0
      go_enter Tryd.func13, Tryd.ntmps13
      go_wp2
      go_ret
      exact ⟨by rw [E.out]; rfl, rfl⟩
    · rw [if_neg h0] at e
      obtain ⟨r, hr⟩ : ∃ r, r = n % m := ⟨_, rfl⟩
      rw [← hr] at e hb1 hb2 h0
      have E := Lib.hid hr
      clear hr
      have ht : r - m < 0 := by omega
      go_enter Tryd.func13, Tryd.ntmps13
      go_wp2
      go_ret
      exact ⟨by rw [← E.out]; congr 2, rfl⟩

set_option maxHeartbeats 1000000 in
theorem steps_core (s : ByteArray) (a b c p q r : Int) (w : World) (hs : s.size ≤ 300) (ha : a % 3 = p) (hb : b % (3 - p) = q) (hc : c % (3 - p - q) = r)
    (a1 : -9223372036854775808 ≤ a) (a2 : a ≤ 9223372036854775807) (b1 : -9223372036854775808 ≤ b) (b2 : b ≤ 9223372036854775807) (c1 : -9223372036854775808 ≤ c) (c2 : c ≤ 9223372036854775807)
    (hp0 : 0 ≤ p) (hq0 : 0 ≤ q) (hr0 : 0 ≤ r) (hp : p ≤ 2) (hq : p + q ≤ 2) (hr : p + q + r ≤ 2) :
    Calls Tryd.prog 4 #[.string s, .int .i64 a, .int .i64 b, .int .i64 c] w fun e w' => e = .returned (.bool true) ∧ w.grownBy w' none := by
  have HK := fun w => Lib.hid (known_any w)
  have h1 : ¬ (300 : Int) < (s.size : Int) := by omega
  have HA : ∀ w, Hid (Calls Tryd.prog 13 #[.int .i64 a, .int .i64 3] w fun e w' => e = .returned (.int .i64 p) ∧ w = w') := fun w => by have h := within_any a 3 a1 a2 (by omega) (by omega) w; rw [ha] at h; exact h
  have HB : ∀ w, Hid (Calls Tryd.prog 13 #[.int .i64 b, .int .i64 (3 - p)] w fun e w' => e = .returned (.int .i64 q) ∧ w = w') := fun w => by have h := within_any b (3 - p) b1 b2 (by omega) (by omega) w; rw [hb] at h; exact h
  have HC : ∀ w, Hid (Calls Tryd.prog 13 #[.int .i64 c, .int .i64 (3 - p - q)] w fun e w' => e = .returned (.int .i64 r) ∧ w = w') := fun w => by have h := within_any c (3 - p - q) c1 c2 (by omega) (by omega) w; rw [hc] at h; exact h
  obtain ⟨e1, e2, e3⟩ := upS_steps s (a := 1 + p) (b := 1 + p + q) (c := 1 + p + q + r) (by omega) (by omega) (by omega) (by omega)
  obtain ⟨x, hx⟩ : ∃ x, x = upS s (1 + p) (1 + p + q) := ⟨_, rfl⟩
  obtain ⟨z, hz⟩ : ∃ z, z = upS s (1 + p) (1 + p + q + r) := ⟨_, rfl⟩
  have hxs : x.size ≤ maxLen := by have := upS_size s (1 + p) (1 + p + q); rw [← hx] at this; unfold maxLen; omega
  have hzs : z.size ≤ maxLen := by have := upS_size s (1 + p) (1 + p + q + r); rw [← hz] at this; unfold maxLen; omega
  have hss : s.size ≤ maxLen := by unfold maxLen; omega
  have k1 := chk_ok (f := 1 + p) (t := 1 + p + q) (by omega) (by omega) (by omega)
  have k2 := chk_ok (f := 1 + p + q) (t := 1 + p + q + r) (by omega) (by omega) (by omega)
  have k3 := chk_ok (f := 1 + p) (t := 1 + p + q + r) (by omega) (by omega) (by omega)
  have k4 := chk_ok (f := 1 + p) (t := 1 + p) (by omega) (by omega) (by omega)
  have U1 := fun w => up_any s (1 + p) (1 + p + q) hss w
  have U2 := fun w => up_any x (1 + p + q) (1 + p + q + r) hxs w
  have U3 := fun w => up_any s (1 + p) (1 + p + q + r) hss w
  have U4 := fun w => up_any s (1 + p) (1 + p) hss w
  have U5 := fun w => up_any z (1 + p) (1 + p + q + r) hzs w
  rw [← hx, k1] at U1
  rw [hx, e1, ← hz, k2, ← hx] at U2
  rw [← hz, k3] at U3
  rw [e2, k4] at U4
  rw [hz, e3, ← hz, k3] at U5
  clear ha hb hc e1 e2 e3 hx hz hxs hzs hss k1 k2 k3 k4
  have U1 := fun w => Lib.hid (U1 w)
  have U2 := fun w => Lib.hid (U2 w)
  have U3 := fun w => Lib.hid (U3 w)
  have U4 := fun w => Lib.hid (U4 w)
  have U5 := fun w => Lib.hid (U5 w)
  have hpp : p = 0 ∨ p = 1 ∨ p = 2 := by omega
  have hqq : q = 0 ∨ q = 1 ∨ q = 2 := by omega
  have hrr : r = 0 ∨ r = 1 ∨ r = 2 := by omega
  rcases hpp with rfl | rfl | rfl <;> rcases hqq with rfl | rfl | rfl <;> rcases hrr with rfl | rfl | rfl <;> first
    | (exfalso; omega)
    | skip
  all_goals
    clear hp0 hq0 hr0 hp hq hr
    (try simp only [Int.reduceAdd, Int.reduceSub] at HA HB HC U1 U2 U3 U4 U5)
    go_enter Tryd.func4, Tryd.ntmps4
    go_wp2_with fail
    refine (HK _).out.mono ?_
    rintro _ w1 ⟨rfl, g1⟩
    go_wp2_with fail
    refine (HA _).out.mono ?_
    rintro _ w2 ⟨rfl, rfl⟩
    go_wp2_with fail
    refine (HB _).out.mono ?_
    rintro _ w2 ⟨rfl, rfl⟩
    go_wp2_with fail
    refine (HC _).out.mono ?_
    rintro _ w2 ⟨rfl, rfl⟩
    go_wp2_with fail
    refine (U1 _).out.mono ?_
    rintro _ w3 ⟨rfl, g3⟩
    go_wp2_with fail
    refine (U2 _).out.mono ?_
    rintro _ w4 ⟨rfl, g4⟩
    go_wp2_with fail
    refine (U3 _).out.mono ?_
    rintro _ w5 ⟨rfl, g5⟩
    go_wp2_with fail
    refine (U4 _).out.mono ?_
    rintro _ w6 ⟨rfl, g6⟩
    go_wp2_with fail
    refine (U5 _).out.mono ?_
    rintro _ w7 ⟨rfl, g7⟩
    go_wp2_with fail
    go_ret
    exact ⟨rfl, only_step (only_step (only_step (only_step (only_step g1 g3 (fun _ h => by cases h)) g4 (fun _ h => by cases h)) g5 (fun _ h => by cases h)) g6 (fun _ h => by cases h)) g7 (fun _ h => by cases h)⟩
theorem schemaSteps_walk (s : ByteArray) (a b c : Int) (a1 : -9223372036854775808 ≤ a) (a2 : a ≤ 9223372036854775807) (b1 : -9223372036854775808 ≤ b) (b2 : b ≤ 9223372036854775807) (c1 : -9223372036854775808 ≤ c) (c2 : c ≤ 9223372036854775807) (w : World) :
    Calls Tryd.prog 4 #[.string s, .int .i64 a, .int .i64 b, .int .i64 c] w fun e w' => e = .returned (.bool true) ∧ w.grownBy w' none := by
  by_cases hs : s.size ≤ 300
  · have hp0 := Int.emod_nonneg a (show (3 : Int) ≠ 0 by decide)
    have hp1 := Int.emod_lt_of_pos a (show (0 : Int) < 3 by decide)
    have hq0 := Int.emod_nonneg b (show (3 : Int) - a % 3 ≠ 0 by omega)
    have hq1 := Int.emod_lt_of_pos b (show (0 : Int) < 3 - a % 3 by omega)
    have hr0 := Int.emod_nonneg c (show (3 : Int) - a % 3 - b % (3 - a % 3) ≠ 0 by omega)
    have hr1 := Int.emod_lt_of_pos c (show (0 : Int) < 3 - a % 3 - b % (3 - a % 3) by omega)
    exact steps_core s a b c _ _ _ w hs rfl rfl rfl a1 a2 b1 b2 c1 c2 hp0 hq0 hr0 (by omega) (by omega) (by omega)
  · have h1 : (300 : Int) < (s.size : Int) := by omega
    have HK := fun w => Lib.hid (known_any w)
    go_enter Tryd.func4, Tryd.ntmps4
    go_wp2_with fail
    refine (HK _).out.mono ?_
    rintro _ w1 ⟨rfl, g1⟩
    go_wp2_with fail
    go_ret
    exact ⟨rfl, g1⟩
end Go.Proofs.YtjgbflgeicejeaaDoor
