/- The walk of CodeLoose: it returns true for every input. No condition. -/
import Derived.Test.YtjcanlnnadnodaaFails
import Derived.Deep.RegionLaw
import Derived.Deep.RegionHeld3
namespace Go.Proofs.Ytjcanlnnadnodaa
open Go.RowKit Go.ChangeShapes

/-- What CodeLoose has read, in the four ways. -/
theorem loose_cases (l : List Int) (hb : bytesOk l) :
    (∃ n r, number l = (.ok n, r) ∧ l = enc n ++ r ∧ -9223372036854775808 ≤ n ∧ n ≤ 9223372036854775807) ∨ (∃ r, number l = (.error 8, r) ∧ l.length ≤ 10) ∨ ∃ r, number l = (.error 10, r) := by
  rcases hn : number l with ⟨c | n, r⟩
  · rcases number_errs l c r hn with rfl | rfl
    · exact .inr (.inl ⟨r, rfl, number_cut l r hb hn⟩)
    · exact .inr (.inr ⟨r, rfl⟩)
  · have := number_bd l n (by rw [hn])
    exact .inl ⟨n, r, rfl, number_ok_enc l n r hb hn, this.1, this.2⟩

set_option maxHeartbeats 1000000 in
theorem loose_ok (A : Option Addr) (c : Nat) (n : Int) (w : World) (h : Has w w.heap.size A (bs (enc n))) (hl : (enc n).length ≤ 20) (e1 : -9223372036854775808 ≤ n) (e2 : n ≤ 9223372036854775807) :
    Calls Try.prog 7 #[.slice A (enc n).length c] w fun e w' => e = .returned (.bool true) ∧ w.grownBy w' none := by
  have ht : ¬ (20 : Int) < ((enc n).length : Int) := by omega
  have K := Lib.hid (number_enc n [] e1 e2)
  go_enter Try.func7, Try.ntmps7
  go_wp2_with fail
  refine (known_any _).mono ?_
  rintro _ w1 ⟨rfl, g1⟩
  go_wp2_with fail
  refine (new_any A c _ _ ((h.only g1 (Nat.le_refl _) (fun _ h => by cases h)).more g1.size) (by omega)).mono ?_
  rintro _ w2 ⟨g, rfl, R, hg, g2⟩
  have hg2 : w.grownBy w2 none := only_step g1 g2 (fun _ h => by cases h)
  have hgw := g1.size
  go_wp2_with fail
  refine (rInt_any g _ 0 _ R (by omega) (enc_byte n)).mono ?_
  intro _ w3 hp
  have hA : ans number (enc n) 0 = (.ok n, []) := by
    have := K.out
    rw [List.append_nil] at this
    exact this
  rw [hA] at hp
  obtain ⟨⟨v, rfl, hv⟩, R3, g3⟩ := hp
  obtain rfl : v = .int .i64 n := hv
  have hg3 : w.grownBy w3 none := only_step hg2 g3 (fun k hk => by cases hk; right; omega)
  go_wp2_with fail
  refine (end_any g [] 0 _ R3 (by simp)).mono ?_
  rintro _ w4 ⟨rfl, rfl⟩
  have he : endOf [] 0 = 0 := rfl
  rw [he]
  have hcb : ∀ W : World, w.grownBy W none → (convert 22 9 (.slice A (enc n).length c)).run Try.prog W = .ok (.string (strOfNums (enc n))) W :=
    fun W hW => conv_string (h.only hW (Nat.le_refl _) (fun _ h => by cases h)) c
  have hd3 : w.grownBy w3.drew none := only_drew hg3
  clear hA he R R3 g1 g2 g3 hg2
  go_wp2_with fail
  go_region_with (first | (go_at_call 13; refine (int_any none 0 [] n _ Has.nil (by simp) (by simp) (by omega) (by omega)).mono ?_; rintro e w5 ⟨v5, rfl, g5⟩; obtain ⟨A5, c5, rfl⟩ := own_slice g5.own; have hd5 : w.grownBy w5 none := only_step hd3 (g5.none rfl) (fun _ h => by cases h); have hc5 := conv_string (Has.own g5.own) c5; have hl5 := bs_len (enc n)))
  all_goals go_wp2_with fail
  all_goals go_ret
  all_goals exact ⟨by simp [Act.put], by assumption⟩


set_option maxHeartbeats 1000000 in
theorem loose_more (A : Option Addr) (c : Nat) (n : Int) (r l : List Int) (w : World) (hlr : l = enc n ++ r) (hr : 0 < r.length) (h : Has w w.heap.size A (bs l)) (hb : bytesOk l) (hl : l.length ≤ 20) (hc : l.length ≤ c) (e1 : -9223372036854775808 ≤ n) (e2 : n ≤ 9223372036854775807) :
    Calls Try.prog 7 #[.slice A l.length c] w fun e w' => e = .returned (.bool true) ∧ w.grownBy w' none := by
  have ht : ¬ (20 : Int) < (l.length : Int) := by omega
  have K := Lib.hid (number_enc n r e1 e2)
  have hel := enc_len n e1 e2
  have hlen : (enc n).length < l.length := by rw [hlr, List.length_append]; omega
  have htk : Hid (l.take (enc n).length = enc n) := by unfold Hid; rw [hlr]; exact List.take_left
  have HLR := Lib.hid hlr
  have HB := Lib.hid hb
  have hcb : ∀ W : World, w.grownBy W none → (convert 22 9 (.slice A (enc n).length c)).run Try.prog W = .ok (.string (strOfNums (enc n))) W := by
    intro W hW
    have h1 := (h.only hW (Nat.le_refl _) (fun _ h => by cases h)).take (enc n).length
    have e : (bs l).take (enc n).length = bs (enc n) := by rw [bs, ← List.map_take, htk.out, bs]
    rw [e] at h1
    exact conv_string h1 c
  clear hlr hb
  go_enter Try.func7, Try.ntmps7
  go_wp2_with fail
  refine (known_any _).mono ?_
  rintro _ w1 ⟨rfl, g1⟩
  go_wp2_with fail
  refine (new_any A c _ _ ((h.only g1 (Nat.le_refl _) (fun _ h => by cases h)).more g1.size) (by omega)).mono ?_
  rintro _ w2 ⟨g, rfl, R, hg, g2⟩
  have hg2 : w.grownBy w2 none := only_step g1 g2 (fun _ h => by cases h)
  have hgw := g1.size
  go_wp2_with fail
  refine (rInt_any g _ 0 _ R (by omega) HB.out).mono ?_
  intro _ w3 hp
  have hA : ans number l 0 = (.ok n, r) := by
    have := K.out
    rw [← HLR.out] at this
    exact this
  rw [hA] at hp
  obtain ⟨⟨v, rfl, hv⟩, R3, g3⟩ := hp
  obtain rfl : v = .int .i64 n := hv
  have hg3 : w.grownBy w3 none := only_step hg2 g3 (fun k hk => by cases hk; right; omega)
  have hrl : r.length ≤ l.length := by rw [HLR.out, List.length_append]; omega
  go_wp2_with fail
  refine (end_any g r 0 _ R3 (by omega)).mono ?_
  rintro _ w4 ⟨rfl, rfl⟩
  have he : endOf r 0 = 9 := by unfold endOf; rw [if_pos ⟨rfl, hr⟩]
  rw [he]
  clear hA he R R3 g1 g2 g3 hg2
  go_wp2_with fail
  refine (int_any none 0 [] n _ Has.nil (by simp) (by simp) (by omega) (by omega)).mono ?_
  rintro e w5 ⟨v5, rfl, g5⟩
  obtain ⟨A5, c5, rfl⟩ := own_slice g5.own
  have hd5 : w.grownBy w5 none := only_step hg3 (g5.none rfl) (fun _ h => by cases h)
  have hO := Lib.hid (Has.own g5.own)
  have hlt2 : ((enc n).length : Int) < (l.length : Int) := by omega
  have hd : decide (((enc n).length : Int) < (l.length : Int)) = true := by simpa using hlt2
  rw [List.nil_append, bs_len]
  have hc5 : ∀ k : Nat, (convert 22 9 (.slice A5 (enc n).length c5)).run Try.prog (w5.drewN k) = .ok (.string (strOfNums (enc n))) (w5.drewN k) := by
    intro k
    have h1 := hO.out
    rw [List.nil_append] at h1
    exact conv_string (Has.keep (w' := w5.drewN k) h1 (fun _ _ => rfl)) c5
  have hcb5 : ∀ k : Nat, (convert 22 9 (.slice A (enc n).length c)).run Try.prog (w5.drewN k) = .ok (.string (strOfNums (enc n))) (w5.drewN k) := fun k => hcb _ (only_drewN hd5 k)
  have hcc : (enc n).length ≤ c := by omega
  clear g5 hcb
  go_wp2_with fail
  go_quiet (fail)
  go_wp2_with fail
  go_ret
  exact ⟨rfl, only_drewN hd5 _⟩

set_option maxHeartbeats 1000000 in
theorem loose_cut (A : Option Addr) (c : Nat) (r l : List Int) (w : World) (hn : number l = (.error 8, r)) (h : Has w w.heap.size A (bs l)) (hb : bytesOk l) (hl : l.length ≤ 10) :
    Calls Try.prog 7 #[.slice A l.length c] w fun e w' => e = .returned (.bool true) ∧ w.grownBy w' none := by
  have ht : ¬ (20 : Int) < (l.length : Int) := by omega
  have K := Lib.hid hn
  have HB := Lib.hid hb
  have hrl : r.length ≤ l.length := by
    obtain ⟨p, hp⟩ := number_suffix l
    rw [hn] at hp
    rw [hp, List.length_append]; simp only; omega
  clear hn hb
  go_enter Try.func7, Try.ntmps7
  go_wp2_with fail
  refine (known_any _).mono ?_
  rintro _ w1 ⟨rfl, g1⟩
  go_wp2_with fail
  refine (new_any A c _ _ ((h.only g1 (Nat.le_refl _) (fun _ h => by cases h)).more g1.size) (by omega)).mono ?_
  rintro _ w2 ⟨g, rfl, R, hg, g2⟩
  have hg2 : w.grownBy w2 none := only_step g1 g2 (fun _ h => by cases h)
  have hgw := g1.size
  go_wp2_with fail
  refine (rInt_any g _ 0 _ R (by omega) HB.out).mono ?_
  intro _ w3 hp
  have hA : ans number l 0 = (.error 8, r) := K.out
  rw [hA] at hp
  obtain ⟨rfl, R3, g3⟩ := hp
  have hg3 : w.grownBy w3 none := only_step hg2 g3 (fun k hk => by cases hk; right; omega)
  go_wp2_with fail
  refine (end_any g r 8 _ R3 (by omega)).mono ?_
  rintro _ w4 ⟨rfl, rfl⟩
  have he : endOf r 8 = 8 := endOf_ne (by omega)
  rw [he]
  clear hA g1 g2 g3 hg2
  go_wp2_with fail
  go_ret
  exact ⟨by simp; omega, hg3⟩


set_option maxHeartbeats 1000000 in
theorem loose_bad (A : Option Addr) (c : Nat) (r l : List Int) (w : World) (hn : number l = (.error 10, r)) (h : Has w w.heap.size A (bs l)) (hb : bytesOk l) (hl : l.length ≤ 20) :
    Calls Try.prog 7 #[.slice A l.length c] w fun e w' => e = .returned (.bool true) ∧ w.grownBy w' none := by
  have ht : ¬ (20 : Int) < (l.length : Int) := by omega
  have K := Lib.hid hn
  have HB := Lib.hid hb
  have hrl : r.length ≤ l.length := by
    obtain ⟨p, hp⟩ := number_suffix l
    rw [hn] at hp
    rw [hp, List.length_append]; simp only; omega
  clear hn hb
  go_enter Try.func7, Try.ntmps7
  go_wp2_with fail
  refine (known_any _).mono ?_
  rintro _ w1 ⟨rfl, g1⟩
  go_wp2_with fail
  refine (new_any A c _ _ ((h.only g1 (Nat.le_refl _) (fun _ h => by cases h)).more g1.size) (by omega)).mono ?_
  rintro _ w2 ⟨g, rfl, R, hg, g2⟩
  have hg2 : w.grownBy w2 none := only_step g1 g2 (fun _ h => by cases h)
  have hgw := g1.size
  go_wp2_with fail
  refine (rInt_any g _ 0 _ R (by omega) HB.out).mono ?_
  intro _ w3 hp
  have hA : ans number l 0 = (.error 10, r) := K.out
  rw [hA] at hp
  obtain ⟨rfl, R3, g3⟩ := hp
  have hg3 : w.grownBy w3 none := only_step hg2 g3 (fun k hk => by cases hk; right; omega)
  go_wp2_with fail
  refine (end_any g r 10 _ R3 (by omega)).mono ?_
  rintro _ w4 ⟨rfl, rfl⟩
  have he : endOf r 10 = 10 := endOf_ne (by omega)
  rw [he]
  clear hA g1 g2 g3 hg2
  go_wp2_with fail
  refine (end_any g r 10 _ R3 (by omega)).mono ?_
  rintro _ w5 ⟨rfl, rfl⟩
  rw [he]
  clear R R3 he
  go_wp2_with fail
  go_ret
  exact ⟨rfl, hg3⟩


theorem codeLoose_walk (A : Option Addr) (c : Nat) (l : List Int) (w : World) (h : Has w w.heap.size A (bs l)) (hb : bytesOk l) (hc : l.length ≤ c) (hcm : c ≤ maxLen) :
    Calls Try.prog 7 #[.slice A l.length c] w fun e w' => e = .returned (.bool true) ∧ w.grownBy w' none := by
  by_cases hl : l.length ≤ 20
  · rcases loose_cases l hb with ⟨n, r, hn, hlr, e1, e2⟩ | ⟨r, hn, h10⟩ | ⟨r, hn⟩
    · by_cases hr : 0 < r.length
      · exact loose_more A c n r l w hlr hr h hb hl hc e1 e2
      · have : r = [] := List.eq_nil_of_length_eq_zero (by omega)
        subst this
        rw [List.append_nil] at hlr
        subst hlr
        exact loose_ok A c n w h hl e1 e2
    · exact loose_cut A c r l w hn h hb h10
    · exact loose_bad A c r l w hn h hb hl
  · have ht : (20 : Int) < (l.length : Int) := by omega
    unfold maxLen at hcm
    clear h hb
    go_enter Try.func7, Try.ntmps7
    go_wp2_with (go_at_call 12; refine (known_any _).mono ?_; rintro e w1 ⟨rfl, g1⟩)
    go_ret
    exact ⟨rfl, g1⟩
end Go.Proofs.Ytjcanlnnadnodaa
