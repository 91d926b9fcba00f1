/- The helpers of chapter 8's laws, and the walk of SchemaDowns: it returns true for every input. No condition. -/
import Derived.Test.YtjgbflgeicejeaaDoorUp
namespace Go.Proofs.YtjgbflgeicejeaaDoor
open Go.RowKit Go.Lib

theorem known_any (w : World) : Calls Tryd.prog 8 #[] w fun e w' => e = .returned (.bool true) ∧ w.grownBy w' none := by
  have hu : upS { data := #[32, 65, 32, 98, 32] } 1 3 = { data := #[97, 32, 98] } := by decide +kernel
  have hc : chk 1 3 = 0 := by decide +kernel
  have HU := fun w => Lib.hid (up_any { data := #[32, 65, 32, 98, 32] } 1 3 (by decide) w)
  rw [hu, hc] at HU
  clear hu hc
  go_enter Tryd.func8, Tryd.ntmps8
  go_wp2_with fail
  refine (HU _).out.mono ?_
  rintro _ w1 ⟨rfl, g1⟩
  go_wp2_with fail
  go_ret
  exact ⟨rfl, g1⟩

theorem schemaDowns_walk (s : ByteArray) (f t : Int) (_ : s.size ≤ maxLen) (w : World) :
    Calls Tryd.prog 6 #[.string s, .int .i64 f, .int .i64 t] w fun e w' => e = .returned (.bool true) ∧ w.grownBy w' none := by
  have HK := fun w => Lib.hid (known_any w)
  by_cases hs : s.size ≤ 300
  · have h1 : ¬ (300 : Int) < (s.size : Int) := by omega
    have HU := fun w => Lib.hid (up_any s f t (by unfold maxLen; omega) w)
    have HP := fun w => Lib.hid (pick_any f t w)
    obtain ⟨u, hu⟩ : ∃ u, u = upS s f t := ⟨_, rfl⟩
    rw [← hu] at HU
    unfold upS at hu
    have hq : (f < 1 ∧ chk f t = 1) ∨ (¬ f < 1 ∧ 3 < f ∧ chk f t = 1) ∨ (¬ f < 1 ∧ ¬ 3 < f ∧ t < 1 ∧ chk f t = 1) ∨ (¬ f < 1 ∧ ¬ 3 < f ∧ ¬ t < 1 ∧ 3 < t ∧ chk f t = 1) ∨
        (¬ f < 1 ∧ ¬ 3 < f ∧ ¬ t < 1 ∧ ¬ 3 < t ∧ t < f ∧ chk f t = 13) ∨ (¬ f < 1 ∧ ¬ 3 < f ∧ ¬ t < 1 ∧ ¬ 3 < t ∧ ¬ t < f ∧ chk f t = 0) := by
      unfold chk isV
      simp only [decide_eq_true_eq]
      split
      · split <;> omega
      · omega
    rcases hq with ⟨q1, hc⟩ | ⟨q1, q2, hc⟩ | ⟨q1, q2, q3, hc⟩ | ⟨q1, q2, q3, q4, hc⟩ | ⟨q1, q2, q3, q4, q5, hc⟩ | ⟨q1, q2, q3, q4, q5, hc⟩ <;> rw [hc] at HU HP hu
    all_goals
      (first | rw [if_neg (by decide)] at hu HP | rw [if_pos rfl] at HP)
      clear hc
    all_goals
      try subst hu
      go_enter Tryd.func6, Tryd.ntmps6
      go_wp2_with fail
      refine (HK _).out.mono ?_
      rintro _ w1 ⟨rfl, g1⟩
      go_wp2_with fail
      refine (HU _).out.mono ?_
      rintro _ w2 ⟨rfl, g2⟩
      go_wp2_with fail
      refine (HP _).out.mono ?_
      rintro _ w3 ⟨rfl, rfl⟩
      go_wp2_with fail
      go_ret
      exact ⟨rfl, only_step g1 g2 (fun _ h => by cases h)⟩
  · have h1 : (300 : Int) < (s.size : Int) := by omega
    go_enter Tryd.func6, Tryd.ntmps6
    go_wp2_with fail
    refine (HK _).out.mono ?_
    rintro _ w1 ⟨rfl, g1⟩
    go_wp2_with fail
    go_ret
    exact ⟨rfl, g1⟩
end Go.Proofs.YtjgbflgeicejeaaDoor
