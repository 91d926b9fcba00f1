/- frames.Scan where there is no frame at all. Asked of the world: the table's cells. -/
import Derived.Test.YtpfahfakinonnaaDoorGop
namespace Go.Proofs.YtpfahfakinonnaaDoor
open Go.RowKit Go.ChangeShapes
set_option maxRecDepth 100000 in
theorem scan_none (A : Option Addr) (c : Nat) (l : List Int) (w : World) (h : Has w w.heap.size A (bs l)) (hb : ∀ x ∈ l, 0 ≤ x ∧ x ≤ 255) (hl : l.length ≤ 1099511627776) (hc : l.length ≤ c) (hT : Tab w) (h0 : firstE l ≠ 0) :
    Calls Tryd.prog 34 #[.slice A l.length c] w fun e w' => e = .returned (.tuple #[.slice none 0 0, .int .i64 0]) ∧ w.grownBy w' none := by
  have F1 := Lib.hid (first_any A c l w h hb hl hc hT)
  obtain ⟨f, hf⟩ : ∃ f, f = firstE l := ⟨_, rfl⟩
  rw [← hf] at F1
  have t0 : (f != 0) = true := by rw [hf]; simpa using h0
  clear h hb hT hf h0
  have l0 : (0 : Int) ≤ (l.length : Int) := by omega
  go_enter Tryd.func34, Tryd.ntmps34
  go_wp2_with fail
  have hA0 : Option.map (fun x : Addr => x.add 0) A = A := by cases A <;> rfl
  go_loopw [2, 3] (fun s2 s3 wr => s2 = .slice none 0 0 ∧ s3 = .int .i64 0 ∧ wr = w) (fun _ _ _ => 0)
  case atStart => exact ⟨rfl, rfl, rfl⟩
  case round =>
    obtain ⟨rfl, rfl, rfl⟩ := hrel
    go_wp2_with fail
    refine F1.out.mono ?_
    rintro _ w1 ⟨v, rfl, hv, g1⟩
    have HV := Lib.hid hv
    clear hv
    go_wp2_with fail
    go_ret2
    exact ⟨rfl, g1⟩
end Go.Proofs.YtpfahfakinonnaaDoor
