/- JournalBad: all inputs. No condition of the program's own. -/
import Derived.Test.YtpfahfakinonnaaDoorJb
namespace Go.Proofs.YtpfahfakinonnaaDoor
open Go.RowKit Go.Deep
set_option maxRecDepth 100000 in
theorem journalBad_walk (A A1 : Option Addr) (c c1 : Nat) (z t : List Int) (w : World) (hA : Has w w.heap.size A (bs z)) (hB : Has w w.heap.size A1 (bs t)) (bz : ∀ x ∈ z, 0 ≤ x ∧ x ≤ 255) (hc : z.length ≤ c) (hT : Tab w) :
    Calls Tryd.prog 6 #[.slice A z.length c, .slice A1 t.length c1] w fun e w' => e = .returned (.bool true) ∧ w.grownBy w' none := by
  have KN := Lib.hid (known_any w hT)
  by_cases h0 : z.length = 0
  · have t0 : ((z.length : Int) == 0) = true := by rw [beq_iff_eq]; omega
    clear hA hB bz hT
    go_enter Tryd.func6, Tryd.ntmps6
    go_wp2_with fail
    refine KN.out.mono ?_
    rintro _ w0 ⟨rfl, g0⟩
    go_wp2_with fail
    go_ret
    exact ⟨rfl, g0⟩
  · have t0 : ((z.length : Int) == 0) = false := by rw [beq_eq_false_iff_ne]; omega
    by_cases h1 : 200 < z.length
    · have t1 : (200 : Int) < z.length := by omega
      clear hA hB bz hT
      go_enter Tryd.func6, Tryd.ntmps6
      go_wp2_with fail
      refine KN.out.mono ?_
      rintro _ w0 ⟨rfl, g0⟩
      go_wp2_with fail
      go_ret
      exact ⟨rfl, g0⟩
    · by_cases h2 : 100 < t.length
      · have t1 : ¬ (200 : Int) < z.length := by omega
        have t2 : (100 : Int) < t.length := by omega
        clear hA hB bz hT
        go_enter Tryd.func6, Tryd.ntmps6
        go_wp2_with fail
        refine KN.out.mono ?_
        rintro _ w0 ⟨rfl, g0⟩
        go_wp2_with fail
        go_ret
        exact ⟨rfl, g0⟩
      · exact jb_run A A1 c c1 z t w hA hB bz hc (by omega) (by omega) (by omega) hT
end Go.Proofs.YtpfahfakinonnaaDoor
