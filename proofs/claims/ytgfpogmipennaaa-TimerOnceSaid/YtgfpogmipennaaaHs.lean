/- queue.Len, queue.first, moment.reached; the methods of a queue as an interface's value has them. No condition of the program's own. -/
import Derived.Test.YtgfpogmipennaaaHr
namespace Go.Proofs.Ytgfpogmipennaaa
open Go.RowKit
theorem m_less (a : Addr) (w : World) : (method 192 58 (.pointer (some a)) "Less").run Try.prog w = .ok (51, .pointer (some a)) w := by kernel_rfl
theorem m_swap (a : Addr) (w : World) : (method 192 58 (.pointer (some a)) "Swap").run Try.prog w = .ok (54, .pointer (some a)) w := by kernel_rfl
theorem m_len (a : Addr) (w : World) : (method 192 58 (.pointer (some a)) "Len").run Try.prog w = .ok (30, .pointer (some a)) w := by kernel_rfl
theorem m_push (a : Addr) (w : World) : (method 192 58 (.pointer (some a)) "Push").run Try.prog w = .ok (53, .pointer (some a)) w := by kernel_rfl
theorem m_pop (a : Addr) (w : World) : (method 192 58 (.pointer (some a)) "Pop").run Try.prog w = .ok (52, .pointer (some a)) w := by kernel_rfl
theorem m_first (a : Addr) (w : World) : (method 192 58 (.pointer (some a)) "escrow/timer.first").run Try.prog w = .ok (29, .pointer (some a)) w := by kernel_rfl
theorem len_q (B n c : Nat) (A : Option Addr) (w : World) (h0 : w.cell? ⟨B, 0, none⟩ = some (.slice A n c)) :
    Calls Try.prog 30 #[.pointer (some ⟨B, 0, none⟩)] w fun e w' => e = .returned (.int .i64 n) ∧ w = w' := by
  go_enter Try.func30, Try.ntmps30
  go_wp2_with fail
  go_ret
  exact ⟨rfl, rfl⟩
theorem reached_q (m : Int) (x : It) (w : World) :
    Calls Try.prog 28 #[.int .i64 m, .agg #[.int .i64 x.1, .int .i64 x.2]] w fun e w' => e = .returned (.bool (decide (x.2 ≤ m))) ∧ w.grownBy w' none := by
  have g := World.grownBy_alloc w (.cells #[.int .i64 x.1, .int .i64 x.2] 56) none
  obtain ⟨r, hr⟩ : ∃ r, r = decide (x.2 ≤ m) := ⟨_, rfl⟩
  rw [← hr]
  have HR := Lib.hid hr
  clear hr
  go_enter Try.func28, Try.ntmps28
  go_wp2_with fail
  go_ret
  exact ⟨by rw [HR.out]; rfl, g⟩
theorem first_q (B g n c : Nat) (x : It) (w : World) (hn : 0 < n) (h0 : w.cell? ⟨B, 0, none⟩ = some (.slice (some ⟨g, 0, none⟩) n c)) (hB : B < w.heap.size) (hg : g < w.heap.size)
    (x1 : w.cell? ⟨g, 0, none⟩ = some (.int .i64 x.1)) (x2 : w.cell? ⟨g, 1, none⟩ = some (.int .i64 x.2)) :
    Calls Try.prog 29 #[.pointer (some ⟨B, 0, none⟩)] w fun e w' => e = .returned (.agg #[.int .i64 x.1, .int .i64 x.2]) ∧ w.grownBy w' none := by
  have u0 : (0 : Int) < (n : Int) := by omega
  go_enter Try.func29, Try.ntmps29
  go_wp2_with fail
  refine bodyPost_ret (v := .agg #[.int .i64 x.1, .int .i64 x.2]) ?_ rfl ⟨rfl, World.grownBy_alloc _ _ none⟩
  exact results_cell_row (P := Try.prog) (p := 2) (ty := 56) rfl _ _ w.heap.size 56 #[.int .i64 x.1, .int .i64 x.2] (0, 0) _ rfl (heap_alloc_new w _) Try.underlying56 rfl rfl
end Go.Proofs.Ytgfpogmipennaaa
