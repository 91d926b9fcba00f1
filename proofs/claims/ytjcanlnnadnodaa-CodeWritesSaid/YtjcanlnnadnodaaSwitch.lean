/- A region that draws its order, with a condition on the world that grows on the way: what a call inside the region has made may be read by an operation taken first. -/
import Derived.Deep.RegionHeld3
import Derived.Deep.DrawnRows
import Derived.Test.YtjcanlnnadnodaaRefs
import Derived.Test.YtjcanlnnadnodaaFails
namespace Go.Proofs.Ytjcanlnnadnodaa
open Go.RowKit

section
variable {P : Program} {md : Region.Mode} {ops : Array Oper} {Q : Exit → Act → World → Prop} {S S' : World → Prop}
/-- A stronger condition from here on. -/
theorem wpAnyH_more (hS : ∀ w, S' w → S w) : ∀ (fuel : Nat) (listed : Array Bool) (a : Act) (w : World), wpAnyH P md ops Q S' fuel listed a w → wpAnyH P md ops Q S fuel listed a w
  | 0, _, _, _, h => h
  | fuel + 1, _, _, _, h => ⟨h.1, fun i hi => wpOp_mono (fun a' w' h' => ⟨hS w' h'.1, wpAnyH_more hS fuel _ a' w' h'.2⟩) (h.2 i hi)⟩
end
/-- A row of the call's own is made into a string. -/
theorem conv_own {w : World} {base : Nat} {v : Value} {l : List Int} {n : Nat} (h : w.ownsRow base 5 1 v n (bs l)) : (convert 22 9 v).run Try.prog w = .ok (.string (strOfNums l)) w := by
  have hn : n = l.length := by have := h.1; rw [bs_len] at this; omega
  subst hn
  obtain ⟨A, c, rfl⟩ := own_slice h
  have h2 : w.ownsRow base 5 1 (.slice A (bs l).length c) (bs l).length (bs l) := by rw [bs_len]; exact h
  exact conv_string (Has.own h2) c
end Go.Proofs.Ytjcanlnnadnodaa
