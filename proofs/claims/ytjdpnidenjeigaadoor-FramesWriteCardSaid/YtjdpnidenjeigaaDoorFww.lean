/- FramesWrite whole: out of its reach it answers true; in it the core walk. My own. -/
import Derived.Test.YtjdpnidenjeigaaDoorFwr
namespace Go.Proofs.YtjdpnidenjeigaaDoor
open Go.RowKit Go.ChangeShapes
set_option linter.unusedVariables false
set_option linter.unusedSimpArgs false

theorem framesWrite_walk (B : Option Addr) (cb : Nat) (m : List Int) (at' by' cut : Int) (w : World) (hB : Has w w.heap.size B (bs m)) (bm : ∀ x ∈ m, 0 ≤ x ∧ x ≤ 255) (hcb : m.length ≤ cb)
    (e1 : -9223372036854775808 ≤ at') (e2 : at' ≤ 9223372036854775807) (b1 : 0 ≤ by') (b2 : by' ≤ 255) (u1 : -9223372036854775808 ≤ cut) (u2 : cut ≤ 9223372036854775807) (hT : Tab w) :
    Calls Tryd.prog 3 #[.slice B m.length cb, .int .i64 at', .int .u8 by', .int .i64 cut] w fun e w' => e = .returned (.bool true) ∧ w.grownBy w' none := by
  by_cases hm : m.length ≤ 3000
  · exact write_core B cb m at' by' cut w hB bm hm hcb e1 e2 b1 b2 u1 u2 hT
  · have t3 : (3000 : Int) < (m.length : Int) := by omega
    have HT := Lib.hid hT
    clear hB bm hT hm
    go_enter Tryd.func3, Tryd.ntmps3
    go_wp2_with fail
    refine (known_any w HT.out).mono ?_
    rintro _ w1 ⟨rfl, g1⟩
    have G1 := Lib.hid g1
    clear g1
    go_wp2_with fail
    go_ret
    exact ⟨rfl, G1.out⟩
end Go.Proofs.YtjdpnidenjeigaaDoor
