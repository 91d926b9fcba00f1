/- JournalSnaps: all inputs. No condition of the program's own. -/
import Derived.Test.YtpfahfakinonnaaDoorJz
namespace Go.Proofs.YtpfahfakinonnaaDoor
open Go.RowKit Go.Deep
set_option maxRecDepth 100000 in
theorem journalSnaps_walk (A : Option Addr) (c : Nat) (L : List (List Int)) (ev : Int) (w : World) (hA : RR w A L) (bL : ∀ l ∈ L, ∀ x ∈ l, 0 ≤ x ∧ x ≤ 255) (e1 : -9223372036854775808 ≤ ev) (e2 : ev ≤ 9223372036854775807) (hT : Tab w) :
    Calls Tryd.prog 7 #[.slice A L.length c, .int .i64 ev] w fun e w' => e = .returned (.bool true) ∧ w.grownBy w' none := by
  by_cases h20 : L.length ≤ 20
  · exact snaps_run A c L ev w hA bL h20 e1 e2 hT
  · have KN := Lib.hid (known_any w hT)
    have t0 : (20 : Int) < L.length := by omega
    clear hA bL hT
    go_enter Tryd.func7, Tryd.ntmps7
    go_wp2_with fail
    refine KN.out.mono ?_
    rintro _ w0 ⟨rfl, g0⟩
    go_wp2_with fail
    go_ret
    exact ⟨rfl, g0⟩
end Go.Proofs.YtpfahfakinonnaaDoor
