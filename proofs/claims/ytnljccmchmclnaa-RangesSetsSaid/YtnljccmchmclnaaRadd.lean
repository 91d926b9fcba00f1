/- ranges.Add of a range that is none: the row's copy. No condition of the program's own. -/
import Derived.Test.YtnljccmchmclnaaPr
namespace Go.Proofs.Ytnljccmchmclnaa
open Go.RowKit Go.Deep

theorem wn_any (n a b : Int) (w : World) : Calls Try.prog 19 #[.int .i64 n, .int .i64 a, .int .i64 b] w fun e w' => e = .returned (.bool (decide (a ≤ n) && decide (n ≤ b))) ∧ w = w' := by
  by_cases h1 : a ≤ n
  · by_cases h2 : n ≤ b
    · have h3 : (decide (a ≤ n) && decide (n ≤ b)) = true := by simp [h1, h2]
      rw [h3]
      go_enter Try.func19, Try.ntmps19
      go_wp2_with fail
      go_ret
      exact ⟨rfl, rfl⟩
    · have h3 : (decide (a ≤ n) && decide (n ≤ b)) = false := by simp [h2]
      rw [h3]
      go_enter Try.func19, Try.ntmps19
      go_wp2_with fail
      go_ret
      exact ⟨rfl, rfl⟩
  · have h3 : (decide (a ≤ n) && decide (n ≤ b)) = false := by simp [h1]
    rw [h3]
    go_enter Try.func19, Try.ntmps19
    go_wp2_with fail
    go_ret
    exact ⟨rfl, rfl⟩

theorem own_less {w : World} {base base' e s n : Nat} {v : Value} {xs : List Value} (h : w.ownsRow base e s v n xs) (hb : base' ≤ base) : w.ownsRow base' e s v n xs := by
  rcases h.2 with hv | ⟨g, cap, cur, hv, hg, h2⟩
  · exact ⟨h.1, .inl hv⟩
  · exact ⟨h.1, .inr ⟨g, cap, cur, hv, by omega, h2⟩⟩
def isRange (f t : Int) : Prop := f < t ∧ (0 ≤ f ∧ f ≤ 1073741824) ∧ (0 ≤ t ∧ t ≤ 1073741824)
set_option maxRecDepth 100000 in
theorem add_bad (A : Option Addr) (c : Nat) (l : List (Int × Int)) (f t : Int) (w : World) (h : Has w w.heap.size A (pc l)) (hl : l.length ≤ 1099511627776) (hn : ¬ isRange f t) :
    Calls Try.prog 11 #[.slice A l.length c, .agg #[.int .i64 f, .int .i64 t]] w fun e w' => ∃ v, e = .returned v ∧ w'.ownsRow w.heap.size 24 2 v l.length (pc l) ∧ w.grownBy w' none := by
  have hG := World.grownBy_alloc w (.cells #[.int .i64 f, .int .i64 t] 24) none
  have HL : Hid (Calls Try.prog 20 #[.slice A l.length c] (w.alloc (.cells #[.int .i64 f, .int .i64 t] 24)) fun e w' => ∃ v, e = .returned v ∧ w'.ownsRow w.heap.size 24 2 v l.length (pc l) ∧ w.grownBy w' none) :=
    (list_any A c l _ ((h.only hG (Nat.le_refl _) (fun _ e => by cases e)).more hG.size) hl).mono fun _ _ ⟨v, he, ho, hg⟩ => ⟨v, he, own_less ho hG.size, only_step hG hg (fun _ e => by cases e)⟩
  have WN : ∀ (n : Int) (r : Bool), (decide (0 ≤ n) && decide (n ≤ 1073741824)) = r → ∀ W, Hid (Calls Try.prog 19 #[.int .i64 n, .int .i64 0, .int .i64 1073741824] W fun e w' => e = .returned (.bool r) ∧ W = w') := fun n r hr W => by rw [← hr]; exact wn_any n 0 1073741824 W
  clear h
  by_cases h1 : f < t
  · have t1 : ¬ t ≤ f := by omega
    by_cases h2 : 0 ≤ f ∧ f ≤ 1073741824
    · have h3 : ¬ (0 ≤ t ∧ t ≤ 1073741824) := fun h => hn ⟨h1, h2, h⟩
      have W1 := WN f true (by simp [h2.1, h2.2])
      have W2 := WN t false (by simp only [Bool.and_eq_false_iff, decide_eq_false_iff_not]; omega)
      clear hn h1 h2 h3 WN
      go_enter Try.func11, Try.ntmps11
      go_wp2_with fail
      refine (W1 _).out.mono ?_
      rintro _ w1 ⟨rfl, rfl⟩
      go_wp2_with fail
      refine (W2 _).out.mono ?_
      rintro _ w1 ⟨rfl, rfl⟩
      go_wp2_with fail
      refine HL.out.mono ?_
      rintro _ w2 ⟨v, rfl, ho, hg⟩
      go_wp2_with fail
      go_ret
      exact ⟨v, rfl, ho, hg⟩
    · have W1 := WN f false (by simp only [Bool.and_eq_false_iff, decide_eq_false_iff_not]; omega)
      clear hn h1 h2 WN
      go_enter Try.func11, Try.ntmps11
      go_wp2_with fail
      refine (W1 _).out.mono ?_
      rintro _ w1 ⟨rfl, rfl⟩
      go_wp2_with fail
      refine HL.out.mono ?_
      rintro _ w2 ⟨v, rfl, ho, hg⟩
      go_wp2_with fail
      go_ret
      exact ⟨v, rfl, ho, hg⟩
  · have t1 : t ≤ f := by omega
    clear hn h1 WN
    go_enter Try.func11, Try.ntmps11
    go_wp2_with fail
    refine HL.out.mono ?_
    rintro _ w2 ⟨v, rfl, ho, hg⟩
    go_wp2_with fail
    go_ret
    exact ⟨v, rfl, ho, hg⟩
end Go.Proofs.Ytnljccmchmclnaa
