/- journal.Open's deferred closure. No condition of the program's own. -/
import Derived.Test.YtpfahfakinonnaaDoorGd3
import Derived.Defers
import Derived.Recover
namespace Go.Proofs.YtpfahfakinonnaaDoor
open Go.RowKit
set_option maxRecDepth 100000 in
theorem close_ok (b2 b3 b4 b5 : Nat) (w : World) (c5 : w.cell? ⟨b5, 0, none⟩ = some (.int .i64 0)) :
    CallsD Tryd.prog 32 #[.pointer (some ⟨b5, 0, none⟩), .pointer (some ⟨b2, 0, none⟩), .pointer (some ⟨b3, 0, none⟩), .pointer (some ⟨b4, 0, none⟩)] .returning w fun e u' w' => u' = .returning ∧ (e = .returned (.tuple #[]) ∧ w' = w) := by
  go_enter_d Tryd.func32, Tryd.ntmps32
  go_wp2_with fail
  go_end0
  exact ⟨rfl, rfl⟩
set_option maxRecDepth 100000 in
theorem close_bad (b2 b3 b4 b5 : Nat) (k : Int) (v2 v3 v4 : Value) (w : World) (hk : k ≠ 0) (c5 : w.cell? ⟨b5, 0, none⟩ = some (.int .i64 k)) (c2 : w.cell? ⟨b2, 0, none⟩ = some v2) (c3 : w.cell? ⟨b3, 0, none⟩ = some v3) (c4 : w.cell? ⟨b4, 0, none⟩ = some v4)
    (f2 : w.frozen? ⟨b2, 0, none⟩ = false) (f3 : w.frozen? ⟨b3, 0, none⟩ = false) (f4 : w.frozen? ⟨b4, 0, none⟩ = false) (n23 : b2 ≠ b3) (n24 : b2 ≠ b4) (n34 : b3 ≠ b4) :
    CallsD Tryd.prog 32 #[.pointer (some ⟨b5, 0, none⟩), .pointer (some ⟨b2, 0, none⟩), .pointer (some ⟨b3, 0, none⟩), .pointer (some ⟨b4, 0, none⟩)] .returning w fun e u' w' => u' = .returning ∧ (e = .returned (.tuple #[]) ∧
      w' = ((w.setCell ⟨b2, 0, none⟩ (.pointer none)).setCell ⟨b3, 0, none⟩ (.slice none 0 0)).setCell ⟨b4, 0, none⟩ (.slice none 0 0)) := by
  have hb : (k == 0) = false := by rw [beq_eq_false_iff_ne]; exact hk
  have m32 := Ne.symm n23
  have m42 := Ne.symm n24
  have m43 := Ne.symm n34
  go_enter_d Tryd.func32, Tryd.ntmps32
  go_wp2_with fail
  go_end0
  exact ⟨rfl, rfl⟩
end Go.Proofs.YtpfahfakinonnaaDoor
