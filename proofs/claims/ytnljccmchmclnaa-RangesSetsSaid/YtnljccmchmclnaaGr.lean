/- A region that draws its order, whose own operations only read and whose calls may make memory of their own: walked once, in the order of the text. No condition of the program's own. -/
import Derived.Test.YtnljccmchmclnaaMem
import Derived.Deep.Quiet
import Derived.Deep.QuietTactic
namespace Go.Proofs.Ytnljccmchmclnaa
open Go.RowKit

theorem wp_region_grow {P : Program} {id : Nat} {Q : Exit → Act → World → Prop} {a : Act} {w : World} {l : List Oper} (base : World) (hm : P.follows .mixedOrders = true) (hB : Region.lexB .any l.toArray = true) (h0 : base.grownBy w none)
    (h : wpQuiet P l.toArray (fun V => base.grownBy V none) (fun a' => ∀ V, base.grownBy V none → Q .normal a' V) l a) : (Code.region id l.toArray true).wp P Q a w :=
  wp_region_quiet (C := fun V => base.grownBy V none) hm hB (only_drew h0) (by simpa using h)
theorem grow2 {a b c : World} (h : a.grownBy b none) (k : b.grownBy c none) : a.grownBy c none := only_step h k (fun _ h => by cases h)
end Go.Proofs.Ytnljccmchmclnaa
