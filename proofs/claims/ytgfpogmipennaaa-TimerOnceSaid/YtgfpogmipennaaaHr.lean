/- queue.Less. No condition of the program's own. -/
import Derived.Test.YtgfpogmipennaaaHp
import Derived.Deep.RegionHeld3
import Derived.BigQuiet
namespace Go.Proofs.Ytgfpogmipennaaa
open Go.RowKit
instance (a b : It) : Decidable (ilt a b) := by unfold ilt; infer_instance
theorem grow_two (w : World) (o o' : Obj) : w.grownBy ((w.alloc o).alloc o').drew none := only_drew (only_alloc (World.grownBy_alloc w o none) o')
set_option maxRecDepth 100000 in
set_option maxHeartbeats 2000000 in
theorem less_q (B g n c i j : Nat) (x y : It) (w : World) (hB : B < w.heap.size) (hg : g < w.heap.size) (hi : i < n) (hj : j < n) (h0 : w.cell? ⟨B, 0, none⟩ = some (.slice (some ⟨g, 0, none⟩) n c))
    (x1 : w.cell? ⟨g, i * 2, none⟩ = some (.int .i64 x.1)) (x2 : w.cell? ⟨g, i * 2 + 1, none⟩ = some (.int .i64 x.2)) (y1 : w.cell? ⟨g, j * 2, none⟩ = some (.int .i64 y.1)) (y2 : w.cell? ⟨g, j * 2 + 1, none⟩ = some (.int .i64 y.2)) :
    Calls Try.prog 51 #[.pointer (some ⟨B, 0, none⟩), .int .i64 i, .int .i64 j] w fun e w' => e = .returned (.bool (decide (ilt x y))) ∧ w.grownBy w' none := by
  have u0 : (0 : Int) ≤ (i : Int) := by omega
  have u1 : (i : Int) < (n : Int) := by omega
  have v0 : (0 : Int) ≤ (j : Int) := by omega
  have v1 : (j : Int) < (n : Int) := by omega
  obtain ⟨r, hr⟩ : ∃ r, r = decide (ilt x y) := ⟨_, rfl⟩
  rw [← hr]
  by_cases t : x.2 = y.2
  · have t1 : (x.2 == y.2) = true := by rw [beq_iff_eq]; exact t
    have hr := Lib.hid (show decide (x.1 < y.1) = r by rw [hr]; exact decide_eq_decide.2 (by unfold ilt; omega))
    clear t
    go_enter Try.func51, Try.ntmps51
    go_wp2_with fail
    go_region
    all_goals go_wp2_with fail
    all_goals go_ret
    all_goals exact ⟨by rw [← hr.out]; rfl, grow_two _ _ _⟩
  · have t1 : (x.2 == y.2) = false := by rw [beq_eq_false_iff_ne]; exact t
    have hr := Lib.hid (show decide (x.2 < y.2) = r by rw [hr]; exact decide_eq_decide.2 (by unfold ilt; omega))
    clear t
    go_enter Try.func51, Try.ntmps51
    go_wp2_with fail
    go_region
    all_goals go_wp2_with fail
    all_goals go_ret
    all_goals exact ⟨by rw [← hr.out]; rfl, grow_two _ _ _⟩
end Go.Proofs.Ytgfpogmipennaaa
