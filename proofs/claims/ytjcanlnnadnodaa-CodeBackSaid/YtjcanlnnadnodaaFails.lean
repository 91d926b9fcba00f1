/- The walks of CodeFails and CodeMany: each returns true for every input. No condition. -/
import Derived.Test.YtjcanlnnadnodaaMeth
import Derived.Test.YtjcanlnnadnodaaShort
import Derived.OpenShut
namespace Go.Proofs.Ytjcanlnnadnodaa
open Go.RowKit Go.ChangeShapes

/-- A slice of integers that came in, as 'Has' says it. -/
theorem of_row {k : IntKind} {w : World} {A : Option Addr} {n c : Nat} {zs : List Int} (h : (A = none ∧ n = 0 ∧ c = 0 ∧ zs = []) ∨
    ∃ x, A = some x ∧ n ≤ c ∧ c ≤ maxLen ∧ zs.length = c ∧ (∀ i, i < zs.length → w.cell? (x.add i) = some (.int k (zs.getD i 0))) ∧ ∀ m ∈ zs, (Lit.int k m).wf = true) :
    ∃ l : List Int, l.length = n ∧ Has w w.heap.size A (l.map (Value.int k)) ∧ (∀ m ∈ l, (Lit.int k m).wf = true) ∧ n ≤ c ∧ c ≤ maxLen := by
  rcases h with ⟨rfl, rfl, rfl, rfl⟩ | ⟨x, rfl, h1, h2, h3, h4, h5⟩
  · exact ⟨[], rfl, .inl rfl, (fun m hm => by simp at hm), Nat.le_refl _, Nat.zero_le _⟩
  · refine ⟨zs.take n, by rw [List.length_take]; omega, ?_, fun m hm => h5 m (List.mem_of_mem_take hm), h1, h2⟩
    rcases Nat.eq_zero_or_pos n with h0 | h0
    · subst h0; exact .inl (by simp)
    · obtain ⟨b, off, spot⟩ := x
      have hc0 := h4 0 (by omega)
      have hs : spot = none := by simpa [Addr.add] using World.cell?_spot hc0
      subst hs
      have hb : b < w.heap.size := by
        rcases Nat.lt_or_ge b w.heap.size with h | h
        · exact h
        · rw [Addr.add_lit] at hc0
          simp [World.cell?, Array.getElem?_eq_none h] at hc0
      refine .inr ⟨b, off, rfl, hb, fun j u hu => ?_⟩
      rw [List.getElem?_map, List.getElem?_take] at hu
      split at hu
      · rename_i hj
        have hjl : j < zs.length := by omega
        rw [List.getElem?_eq_getElem hjl] at hu
        have := h4 j hjl
        rw [Addr.add_lit] at this
        rw [this]
        simp [List.getD, List.getElem?_eq_getElem hjl] at hu ⊢
        exact hu
      · cases hu
theorem bytes_of {l : List Int} (h : ∀ m ∈ l, (Lit.int .u8 m).wf = true) : bytesOk l := fun x hx => bounds_u8 (h x hx)

theorem endOf_ne {l : List Int} {e : Int} (h : ¬ e = 0) : endOf l e = e := by unfold endOf; rw [if_neg (fun h2 => h h2.1)]
theorem endOf_zero (l : List Int) : (endOf l 0 == 0) = ((l.length : Int) == 0) := by
  unfold endOf
  by_cases h : 0 < l.length
  · rw [if_pos ⟨rfl, h⟩]
    have : ((l.length : Int) == 0) = false := by rw [beq_eq_false_iff_ne]; omega
    rw [this]; rfl
  · rw [if_neg (by omega)]
    have : ((l.length : Int) == 0) = true := by rw [beq_iff_eq]; omega
    rw [this]; rfl

set_option maxHeartbeats 1000000 in
theorem codeFails_walk (A : Option Addr) (c : Nat) (l : List Int) (e f : Int) (w : World) (h : Has w w.heap.size A (bs l)) (hb : bytesOk l) (hlm : l.length ≤ maxLen)
    (e1 : -9223372036854775808 ≤ e) (e2 : e ≤ 9223372036854775807) (f1 : -9223372036854775808 ≤ f) (f2 : f ≤ 9223372036854775807) :
    Calls Try.prog 9 #[.slice A l.length c, .int .i64 e, .int .i64 f] w fun e w' => e = .returned (.bool true) ∧ w.grownBy w' none := by
  unfold maxLen at hlm
  by_cases hl : 100 < l.length
  · have ht : (100 : Int) < (l.length : Int) := by omega
    go_enter Try.func9, Try.ntmps9
    go_wp2_with (go_at_call 12; refine (known_any _).mono ?_; rintro e w1 ⟨rfl, g1⟩)
    go_ret
    exact ⟨rfl, g1⟩
  · have ht : ¬ (100 : Int) < (l.length : Int) := by omega
    have hl' : l.length ≤ 100 := by omega
    obtain ⟨a, ha⟩ : ∃ a, e % 22 = a := ⟨_, rfl⟩
    obtain ⟨b, hbb⟩ : ∃ b, f % 22 = b := ⟨_, rfl⟩
    have a1 : 0 ≤ a := by omega
    have a2 : a ≤ 21 := by omega
    have b1 : 0 ≤ b := by omega
    have b2 : b ≤ 21 := by omega
    have HA := Lib.hid ha
    have HBB := Lib.hid hbb
    have HB := Lib.hid hb
    have he0 := endOf_zero l
    clear ha hbb hb hl
    go_enter Try.func9, Try.ntmps9
    go_wp2_with fail
    refine (known_any _).mono ?_
    rintro _ w1 ⟨rfl, g1⟩
    go_wp2_with fail
    refine (within_any e 22 e1 e2 (by omega) (by omega) _).mono ?_
    rintro _ w2 ⟨rfl, rfl⟩
    rw [HA.out]
    go_wp2_with fail
    refine (within_any f 22 f1 f2 (by omega) (by omega) _).mono ?_
    rintro _ w2 ⟨rfl, rfl⟩
    rw [HBB.out]
    go_wp2_with fail
    refine (new_any A c l _ ((h.only g1 (Nat.le_refl _) (fun _ h => by cases h)).more g1.size) (by omega)).mono ?_
    rintro _ w2 ⟨g, rfl, R, hg, g2⟩
    go_wp2_with fail
    refine (fail_any g l 0 0 _ R).mono ?_
    rintro _ w3 ⟨rfl, R, g3⟩
    rw [failOf_zero] at R
    go_wp2_with fail
    refine (end_any g l _ _ R (by omega)).mono ?_
    rintro _ w4 ⟨rfl, rfl⟩
    go_wp2_with fail
    refine (fail_any g l _ _ _ R).mono ?_
    rintro _ w4 ⟨rfl, R, g4⟩
    rw [failOf_zero] at R
    go_wp2_with fail
    refine (fail_any g l _ _ _ R).mono ?_
    rintro _ w5 ⟨rfl, R, g5⟩
    rw [failOf_ne (by omega)] at R
    have hne : ¬ (1 + a) = 0 := by omega
    have hA1 : ans number l (1 + a) = (.error (1 + a), l) := if_neg hne
    have hA2 : ans textB l (1 + a) = (.error (1 + a), l) := if_neg hne
    have hA3 : ans intsB l (1 + a) = (.error (1 + a), l) := if_neg hne
    have HA1 := Lib.hid hA1
    have HA2 := Lib.hid hA2
    have HA3 := Lib.hid hA3
    clear hA1 hA2 hA3 hne
    go_wp2_with fail
    refine (rInt_any g l _ _ R (by omega) HB.out).mono ?_
    intro _ w6 hp
    rw [HA1.out] at hp
    obtain ⟨rfl, R, g6⟩ := hp
    go_wp2_with fail
    refine (rText_any g l _ _ R (by omega) HB.out).mono ?_
    intro _ w7 hp
    rw [HA2.out] at hp
    obtain ⟨rfl, R, g7⟩ := hp
    go_wp2_with fail
    refine (rInts_any g l _ _ R (by omega) HB.out).mono ?_
    intro _ w8 hp
    rw [HA3.out] at hp
    obtain ⟨rfl, R, g8⟩ := hp
    go_wp2_with fail
    refine (new_any none 0 [] _ Has.nil (by simp)).mono ?_
    rintro _ w9 ⟨g', rfl, R', hg', g9⟩
    have hgg : g < g' := by have := R.lt; omega
    have R := R.only g9 (fun _ h => by cases h)
    go_wp2_with fail
    refine (rInt_any g' [] 0 _ R' (by simp) (fun x hx => by cases hx)).mono ?_
    intro _ w10 hp
    obtain ⟨rfl, R', g10⟩ := hp
    have R := R.only g10 (fun k hk => by cases hk; exact hgg)
    go_wp2_with fail
    refine (fail_any g' _ _ _ _ R').mono ?_
    rintro _ w11 ⟨rfl, R', g11⟩
    rw [failOf_ne (by omega)] at R'
    have R := R.only g11 (fun k hk => by cases hk; exact hgg)
    go_wp2_with fail
    refine (end_any g l _ _ R (by omega)).mono ?_
    rintro _ w12 ⟨rfl, rfl⟩
    rw [endOf_ne (by omega)]
    go_wp2_with fail
    refine (end_any g' [] 8 _ R' (by simp)).mono ?_
    rintro _ w12 ⟨rfl, rfl⟩
    rw [endOf_ne (by omega)]
    have hG : w.grownBy w11 none := by
      have s1 := g1.size
      refine only_step (only_step (only_step (only_step (only_step (only_step (only_step (only_step (only_step (only_step g1 g2 ?_) g3 ?_) g4 ?_) g5 ?_) g6 ?_) g7 ?_) g8 ?_) g9 ?_) g10 ?_) g11 ?_ <;> intro k hk <;> first | (cases hk; done) | (cases hk; right; omega)
    clear g1 g2 g3 g4 g5 g6 g7 g8 g9 g10 g11 R R'
    go_wp2_with fail
    go_ret
    exact ⟨rfl, hG⟩
end Go.Proofs.Ytjcanlnnadnodaa
