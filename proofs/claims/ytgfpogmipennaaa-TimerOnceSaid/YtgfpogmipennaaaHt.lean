/- queue.Swap, walked over the worlds that it makes. No condition of the program's own. -/
import Derived.Test.YtgfpogmipennaaaQs
import Derived.Deep.RegionHeld3
import Derived.BigRegion
namespace Go.Proofs.Ytgfpogmipennaaa
open Go.RowKit
set_option maxRecDepth 100000 in
set_option maxHeartbeats 2000000 in
theorem swap_two (B g b n c i j : Nat) (x y : It) (w : World) (hi : i < n) (hj : j < n) (hij : i ≠ j) (h0 : w.cell? ⟨B, 0, none⟩ = some (.slice (some ⟨g, 0, none⟩) n c)) (hBg : B ≠ g)
    (x1 : w.cell? ⟨g, i * 2, none⟩ = some (.int .i64 x.1)) (x2 : w.cell? ⟨g, i * 2 + 1, none⟩ = some (.int .i64 x.2)) (y1 : w.cell? ⟨g, j * 2, none⟩ = some (.int .i64 y.1)) (y2 : w.cell? ⟨g, j * 2 + 1, none⟩ = some (.int .i64 y.2)) (fz : ∀ k, w.frozen? ⟨g, k, none⟩ = false)
    (W W1 W2 : World) (hW0 : W.cell? ⟨B, 0, none⟩ = some (.slice (some ⟨g, 0, none⟩) n c)) (hW1 : W.cell? ⟨B, 1, none⟩ = some (.map (some b))) (q1 : W.cell? ⟨g, i * 2, none⟩ = some (.int .i64 y.1)) (q2 : W.cell? ⟨g, j * 2, none⟩ = some (.int .i64 x.1))
    (sx sy : Nat) (vx vy : Int) (E1 : (Instr.mapEntry 48 (.map (some b)) (.int .i64 y.1)).run Try.prog W.drew = .ok (.tuple #[.int .i64 vy, .int .i64 (sy : Int)]) W.drew) (E2 : (Instr.entryStore 48 (.map (some b)) (.int .i64 (sy : Int)) (.int .i64 i)).run Try.prog W.drew = .ok () W1)
    (E3 : (Instr.mapEntry 48 (.map (some b)) (.int .i64 x.1)).run Try.prog W1 = .ok (.tuple #[.int .i64 vx, .int .i64 (sx : Int)]) W1) (E4 : (Instr.entryStore 48 (.map (some b)) (.int .i64 (sx : Int)) (.int .i64 j)).run Try.prog W1 = .ok () W2)
    (E : ((((w.setCell ⟨g, i * 2, none⟩ (.int .i64 y.1)).setCell ⟨g, i * 2 + 1, none⟩ (.int .i64 y.2)).setCell ⟨g, j * 2, none⟩ (.int .i64 x.1)).setCell ⟨g, j * 2 + 1, none⟩ (.int .i64 x.2)).drew = W) :
    Calls Try.prog 54 #[.pointer (some ⟨B, 0, none⟩), .int .i64 i, .int .i64 j] w fun e w' => e = .returned (.tuple #[]) ∧ w' = W2 := by
  have u0 : (0 : Int) ≤ (i : Int) := by omega
  have u1 : (i : Int) < (n : Int) := by omega
  have v0 : (0 : Int) ≤ (j : Int) := by omega
  have v1 : (j : Int) < (n : Int) := by omega
  have E := Lib.hid E
  go_enter Try.func54, Try.ntmps54
  go_wp2_with fail
  go_region
  go_wp2_with fail
  generalize hW : World.drew _ = V
  rw [E.out] at hW
  subst hW
  go_region
  go_wp2_with fail
  go_end0
  exact ⟨rfl, rfl⟩
end Go.Proofs.Ytgfpogmipennaaa
