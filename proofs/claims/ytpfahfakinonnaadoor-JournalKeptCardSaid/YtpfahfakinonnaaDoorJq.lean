/- The laws' known, and Count. No condition of the program's own. -/
import Derived.Test.YtpfahfakinonnaaDoorJp
namespace Go.Proofs.YtpfahfakinonnaaDoor
open Go.RowKit
theorem count_any (q : Nat) (n : Int) (w : World) (c : w.cell? ⟨q, 1, none⟩ = some (.int .i64 n)) :
    Calls Tryd.prog 27 #[.pointer (some ⟨q, 0, none⟩)] w fun e w' => e = .returned (.int .i64 n) ∧ w = w' := by
  go_enter Tryd.func27, Tryd.ntmps27
  go_wp2_with fail
  go_ret
  exact ⟨rfl, rfl⟩
theorem known_any (w : World) (hT : Tab w) :
    Calls Tryd.prog 8 #[] w fun e w' => e = .returned (.bool true) ∧ w.grownBy w' none := by
  have NW := Lib.hid (new_any w.heap.size 1000 w (by decide) (by decide) (Nat.le_refl _))
  go_enter Tryd.func8, Tryd.ntmps8
  go_wp2_with fail
  refine NW.out.mono ?_
  rintro _ w1 ⟨g, rfl, D1, g1⟩
  have T1 := hT.grow g1
  go_wp2_with fail
  refine (open_none _ g _ w1 D1 rfl rfl rfl T1).mono ?_
  rintro _ w2 ⟨q, rfl, cq, g2⟩
  go_wp2_with fail
  refine (count_any q 0 _ cq).mono ?_
  rintro _ _ ⟨rfl, rfl⟩
  go_wp2_with fail
  go_ret
  exact ⟨rfl, only_step g1 g2 (fun _ hk => .inl hk)⟩
end Go.Proofs.YtpfahfakinonnaaDoor
