/- From what the row says of the laid table to its cells. No condition of the program's own. -/
import Derived.Test.YtpfahfakinonnaaDoorCrc
import Derived.MakeChecks
namespace Go.Proofs.YtpfahfakinonnaaDoor
open Go.RowKit

theorem tab_of {w : World} (h : laidMetH Tryd.prog [("escrow/frames.nibbles", Rows.laid_escrow_frames_nibbles)] w) : Tab w := by
  rw [MakeChecks.laidMetH_plain _ _ _ (by kernel_rfl)] at h
  obtain ⟨g, t, cs, fuel, p, hg, hty, hvar, hd⟩ := Lib.laidMet.reads h (.head _)
  obtain rfl := Option.some.inj ((show Tryd.prog.globalNamed "escrow/frames.nibbles" = some 0 by kernel_rfl).symm.trans hg)
  obtain rfl := Option.some.inj ((show (Tryd.prog.globals[0]?).map (·.type) = some 84 by kernel_rfl).symm.trans hty)
  have hcs := Lib.cells_of_tab (zs := tabT.map fun n : Nat => (n : Int)) (k := .u32) Tryd.underlying84 Tryd.underlying78 (by kernel_rfl) (by kernel_rfl) hd
  intro j hj
  rw [World.var?_cell hg hvar j, ← Array.getElem?_toList, hcs]
  have hl : j < tabT.length := hj
  simp only [List.getElem?_map, nibT]
  rw [List.getElem?_eq_getElem hl, List.getD_eq_getElem?_getD, List.getElem?_eq_getElem hl]
  rfl
end Go.Proofs.YtpfahfakinonnaaDoor
