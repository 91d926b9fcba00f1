/- JournalTorn: all inputs. No condition of the program's own. -/
import Derived.Test.YtpfahfakinonnaaDoorJ5
namespace Go.Proofs.YtpfahfakinonnaaDoor
open Go.RowKit Go.Deep
set_option maxRecDepth 100000 in
theorem journalTorn_walk (A : Option Addr) (c : Nat) (L : List (List Int)) (At : Option Addr) (ct : Nat) (t : List Int) (Am : Option Addr) (cm : Nat) (m : List Int) (w : World) (hA : RR w A L) (bL : ∀ l ∈ L, ∀ x ∈ l, 0 ≤ x ∧ x ≤ 255) (ht : Has w w.heap.size At (bs t)) (bt : ∀ x ∈ t, 0 ≤ x ∧ x ≤ 255) (hm : Has w w.heap.size Am (bs m)) (bm : ∀ x ∈ m, 0 ≤ x ∧ x ≤ 255) (hct : t.length ≤ ct) (hT : Tab w) :
    Calls Tryd.prog 5 #[.slice A L.length c, .slice At t.length ct, .slice Am m.length cm] w fun e w' => e = .returned (.bool true) ∧ w.grownBy w' none := by
  have KN := Lib.hid (known_any w hT)
  by_cases h1 : L.length ≤ 10
  · by_cases h2 : t.length ≤ 100
    · by_cases h3 : m.length ≤ 100
      · exact torn_run A c L At ct t Am cm m w hA bL ht bt hm bm h1 h2 h3 hct hT
      · have t1 : ¬ (10 : Int) < L.length := by omega
        have t2 : ¬ (100 : Int) < t.length := by omega
        have t3 : (100 : Int) < m.length := by omega
        clear hA bL ht bt hm bm hT
        go_enter Tryd.func5, Tryd.ntmps5
        go_wp2_with fail
        refine KN.out.mono ?_
        rintro _ w0 ⟨rfl, g0⟩
        go_wp2_with fail
        go_ret
        exact ⟨rfl, g0⟩
    · have t1 : ¬ (10 : Int) < L.length := by omega
      have t2 : (100 : Int) < t.length := by omega
      clear hA bL ht bt hm bm hT
      go_enter Tryd.func5, Tryd.ntmps5
      go_wp2_with fail
      refine KN.out.mono ?_
      rintro _ w0 ⟨rfl, g0⟩
      go_wp2_with fail
      go_ret
      exact ⟨rfl, g0⟩
  · have t1 : (10 : Int) < L.length := by omega
    clear hA bL ht bt hm bm hT
    go_enter Tryd.func5, Tryd.ntmps5
    go_wp2_with fail
    refine KN.out.mono ?_
    rintro _ w0 ⟨rfl, g0⟩
    go_wp2_with fail
    go_ret
    exact ⟨rfl, g0⟩
end Go.Proofs.YtpfahfakinonnaaDoor
