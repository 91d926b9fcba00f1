/- The walk of CodeMany: it returns true for every input. No condition. -/
import Derived.Test.YtjcanlnnadnodaaFails
namespace Go.Proofs.Ytjcanlnnadnodaa
open Go.RowKit Go.ChangeShapes

theorem length_enc (n : Int) (r : List Int) (h1 : -9223372036854775808 ≤ n) (h2 : n ≤ 9223372036854775807) (hn : n < 0 ∨ 65535 < n) : lengthB (enc n ++ r) = (.error 4, r) := by
  unfold lengthB
  rw [number_enc n r h1 h2]
  simp only [if_pos hn]
theorem ints_enc (n : Int) (r : List Int) (h1 : -9223372036854775808 ≤ n) (h2 : n ≤ 9223372036854775807) (hn : n < 0 ∨ 65535 < n) : ans intsB (enc n ++ r) 0 = (.error 4, r) := by
  unfold ans intsB; rw [length_enc n r h1 h2 hn]; rfl
theorem text_enc (n : Int) (r : List Int) (h1 : -9223372036854775808 ≤ n) (h2 : n ≤ 9223372036854775807) (hn : n < 0 ∨ 65535 < n) : ans textB (enc n ++ r) 0 = (.error 4, r) := by
  unfold ans textB; rw [length_enc n r h1 h2 hn]; rfl

set_option maxHeartbeats 2000000 in
theorem codeMany_core (A : Option Addr) (c : Nat) (l : List Int) (n : Int) (list : Bool) (w : World) (h : Has w w.heap.size A (bs l)) (hb : bytesOk l) (hl : l.length ≤ 50)
    (e1 : -9223372036854775808 ≤ n) (e2 : n ≤ 9223372036854775807) :
    Calls Try.prog 10 #[.int .i64 n, .bool list, .slice A l.length c] w fun e w' => e = .returned (.bool true) ∧ w.grownBy w' none := by
  have ht : ¬ (50 : Int) < (l.length : Int) := by omega
  have HB := Lib.hid hb
  clear hb
  have hcase : n < 0 ∨ 65535 < n ∨ (0 ≤ n ∧ n ≤ 65535) := by omega
  rcases hcase with hn | hn | ⟨hn, hn2⟩ <;> cases list
  all_goals
    go_enter Try.func10, Try.ntmps10
    go_wp2_with fail
    refine (known_any _).mono ?_
    rintro _ w1 ⟨rfl, g1⟩
    go_wp2_with fail
    refine (int_any none 0 [] _ _ Has.nil (by simp) (by simp) (by omega) (by omega)).mono ?_
    rintro _ w2 ⟨v2, rfl, g2⟩
    have hg2 : w.grownBy w2 none := only_step g1 (g2.none rfl) (fun _ h => by cases h)
    have hh := (h.only hg2 (Nat.le_refl _) (fun _ h => by cases h)).src (P := Try.prog) (tx := 22) Try.underlying22 c (bs_one l)
    have ho := g2.own
    have hsz := g2.only.size
    rw [List.nil_append] at ho
    rw [bs_len] at hh
    go_wp2_with (at_builtin; go_loud (refine app_bytes rfl _ _ 22 rfl w1.heap.size v2 _ rfl ho (.slice A l.length c) (bs l) rfl (by rw [bs_len]; exact hh) (by rw [bs_len, bs_len]; have := enc_len _ e1 e2; first | (have := enc_len n e1 e2; omega) | (have := enc_len (65536 + n) (by omega) (by omega); omega)) (by omega) ?_); intro v3 w3 g3)
    obtain ⟨A3, c3, rfl⟩ := own_slice g3.own
    have hg3 : w.grownBy w3 none := only_step hg2 g3.only (fun k hk => .inr (by have := (ho.lt k hk).1; have := g1.size; omega))
    have hH3 := Has.own g3.own
    rw [← bs_append] at hH3
    rw [← bs_append, bs_len]
    clear g1 g2 g3 hg2 hh ho
    refine (new_any A3 c3 _ _ hH3 (by rw [List.length_append]; first | (have := enc_len n e1 e2; omega) | (have := enc_len (65536 + n) (by omega) (by omega); omega))).mono ?_
    rintro _ w4 ⟨g, rfl, R, hg, g4⟩
    have hg4 : w.grownBy w4 none := only_step hg3 g4 (fun _ h => by cases h)
    have hgw := hg3.size
    go_wp2_with fail
    first
      | (go_at_call 27
         refine (rInts_any g _ 0 _ R (by rw [List.length_append]; first | (have := enc_len n e1 e2; omega) | (have := enc_len (65536 + n) (by omega) (by omega); omega)) (fun x hx => (List.mem_append.1 hx).elim (enc_byte _ x) (HB.out x))).mono ?_
         intro _ w5 hp
         rw [ints_enc _ _ (by omega) (by omega) (by omega)] at hp)
      | (go_at_call 24
         refine (rText_any g _ 0 _ R (by rw [List.length_append]; first | (have := enc_len n e1 e2; omega) | (have := enc_len (65536 + n) (by omega) (by omega); omega)) (fun x hx => (List.mem_append.1 hx).elim (enc_byte _ x) (HB.out x))).mono ?_
         intro _ w5 hp
         rw [text_enc _ _ (by omega) (by omega) (by omega)] at hp)
    obtain ⟨rfl, R5, g5⟩ := hp
    go_wp2_with fail
    refine (end_any g l _ _ R5 (by omega)).mono ?_
    rintro _ w6 ⟨rfl, rfl⟩
    rw [endOf_ne (by omega)]
    have hG : w.grownBy w5 none := only_step hg4 g5 (fun k hk => by cases hk; right; omega)
    clear g5 R5 R g4 hg4 hg3
    go_wp2_with fail
    go_ret
    exact ⟨rfl, hG⟩

theorem codeMany_walk (A : Option Addr) (c : Nat) (l : List Int) (n : Int) (list : Bool) (w : World) (h : Has w w.heap.size A (bs l)) (hb : bytesOk l) (hlm : l.length ≤ maxLen)
    (e1 : -9223372036854775808 ≤ n) (e2 : n ≤ 9223372036854775807) :
    Calls Try.prog 10 #[.int .i64 n, .bool list, .slice A l.length c] w fun e w' => e = .returned (.bool true) ∧ w.grownBy w' none := by
  unfold maxLen at hlm
  by_cases hl : l.length ≤ 50
  · exact codeMany_core A c l n list w h hb hl e1 e2
  · have ht : (50 : Int) < (l.length : Int) := by omega
    clear h hb
    go_enter Try.func10, Try.ntmps10
    go_wp2_with (go_at_call 12; refine (known_any _).mono ?_; rintro e w1 ⟨rfl, g1⟩)
    go_ret
    exact ⟨rfl, g1⟩
end Go.Proofs.Ytjcanlnnadnodaa
