/- The reference's Dots: are two rows the same. No condition of the program's own. -/
import Derived.Test.YtcmpeohooiehcaaOgd
namespace Go.Proofs.Ytcmpeohooiehcaa
open Go.RowKit Go.Deep Go.ChangeShapes
set_option maxRecDepth 100000 in
set_option maxHeartbeats 1000000 in
theorem requal_any (A B : Option Addr) (c d : Nat) (l m : List Dt) (w : World) (hA : Has w w.heap.size A (dc l)) (hB : Has w w.heap.size B (dc m)) (hl : l.length ≤ 1099511627776) :
    Calls Try.prog 37 #[.slice A l.length c, .slice B m.length d] w fun e w' => e = .returned (.bool (decide (l = m))) ∧ w.grownBy w' none := by
  by_cases hlen : l.length = m.length
  · have HA := Lib.hid hA
    have HB := Lib.hid hB
    have HE := Lib.hid hlen
    have hb : ((l.length : Int) != (m.length : Int)) = false := by rw [hlen]; simp
    have HD := fun (b : Bool) (h : b = true ↔ l = m) => Lib.hid (show b = decide (l = m) by rw [Bool.eq_iff_iff, decide_eq_true_eq]; exact h)
    clear hA hB hlen
    go_enter Try.func37, Try.ntmps37
    go_wp2_with fail
    go_loopw [5] (fun si wr => ∃ k : Nat, k ≤ l.length ∧ si = .int .i64 k ∧ Hid (∀ j, j < k → l[j]? = m[j]?) ∧ Hid (w.grownBy wr none)) (fun si _ => l.length - (intOf si).toNat)
    case atStart => exact ⟨0, Nat.zero_le _, rfl, fun j h => absurd h (by omega), only_refl _ _⟩
    case round =>
      obtain ⟨k, hk, rfl, HJ, hG⟩ := hrel
      by_cases hlt : k < l.length
      · obtain ⟨x, hx⟩ : ∃ x, l[k]? = some x := ⟨_, List.getElem?_eq_getElem (by omega)⟩
        obtain ⟨y, hy⟩ : ∃ y, m[k]? = some y := ⟨_, List.getElem?_eq_getElem (by have := HE.out; omega)⟩
        have hlm : k < m.length := by have := HE.out; omega
        obtain ⟨b, off, rfl, hb, x1, x2, x3⟩ := (HA.out.up hG.out).dot hx
        obtain ⟨b', off', rfl, hb', y1, y2, y3⟩ := (HB.out.up hG.out).dot hy
        have HX := Lib.hid hx
        have HY := Lib.hid hy
        clear hx hy hb hb'
        by_cases hxy : x = y
        · subst hxy
          go_wp2_with fail
          go_quiet (fail)
          go_wp2_with fail
          go_roundw
          case rel =>
            refine ⟨k + 1, hlt, by go_num, fun j hj => ?_, only_drewN hG.out _⟩
            rcases Nat.lt_or_ge j k with h5 | h5
            · exact HJ.out j h5
            · rw [show j = k by omega, HX.out, HY.out]
          case measure => simp [intOf]; omega
        · have hxy' := Lib.hid hxy
          obtain ⟨p1, p2, p3⟩ := x
          obtain ⟨q1, q2, q3⟩ := y
          dsimp only at x1 x2 x3 y1 y2 y3
          by_cases e1 : p1 = q1
          · subst e1
            by_cases e2 : p2 = q2
            · subst e2
              have e3 : ¬ p3 = q3 := fun e => hxy (by rw [e])
              clear hxy
              go_wp2_with fail
              go_quiet (fail)
              go_wp2_with fail
              go_ret
              refine ⟨?_, only_drewN hG.out _⟩
              rw [← (HD false (by
                constructor
                · intro h; cases h
                · intro h
                  have e := HX.out
                  rw [h, HY.out] at e
                  injection e with e
                  exact absurd e.symm hxy'.out)).out]
              rfl
            · clear hxy
              go_wp2_with fail
              go_quiet (fail)
              go_wp2_with fail
              go_ret
              refine ⟨?_, only_drewN hG.out _⟩
              rw [← (HD false (by
                constructor
                · intro h; cases h
                · intro h
                  have e := HX.out
                  rw [h, HY.out] at e
                  injection e with e
                  exact absurd e.symm hxy'.out)).out]
              rfl
          · clear hxy
            go_wp2_with fail
            go_quiet (fail)
            go_wp2_with fail
            go_ret
            refine ⟨?_, only_drewN hG.out _⟩
            rw [← (HD false (by
              constructor
              · intro h; cases h
              · intro h
                have e := HX.out
                rw [h, HY.out] at e
                injection e with e
                exact absurd e.symm hxy'.out)).out]
            rfl
      · go_wp2_with fail
        go_ret
        refine ⟨?_, hG.out⟩
        rw [← (HD true (by
          constructor
          · intro _
            apply List.ext_getElem?
            intro i
            rcases Nat.lt_or_ge i k with h5 | h5
            · exact HJ.out i h5
            · rw [List.getElem?_eq_none (by omega), List.getElem?_eq_none (by have := HE.out; omega)]
          · intro _; rfl)).out]
        rfl
  · have hb : ((l.length : Int) != (m.length : Int)) = true := by simp; omega
    have hd : decide (l = m) = false := by
      rw [decide_eq_false_iff_not]
      rintro rfl
      exact hlen rfl
    rw [hd]
    clear hlen hA hB hd
    go_enter Try.func37, Try.ntmps37
    go_wp2_with fail
    go_ret
    exact ⟨rfl, only_refl _ _⟩
end Go.Proofs.Ytcmpeohooiehcaa
