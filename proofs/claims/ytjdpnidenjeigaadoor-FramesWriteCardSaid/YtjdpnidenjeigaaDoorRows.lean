/-
  NARROWER THAN 'FOR EVERY INPUT', by the rows' own cells (each row's printed sentence says how): FramesWrite: laid · FramesScan: laid · FramesTorn: laid · FramesBack: laid · FramesTurned: laid · FramesOnes: laid.
  DERIVED. THE GIVEN ROWS OF THIS SEAT. 6 by the template 'for every input the law returns true; each argument reads behind the call as it read before'; 0 by the template 'total and deterministic' (their statements: YtjdpnidenjeigaaDoorTotals.lean).
  GIVEN WITH THE SEED: the statements are not yours to turn. If you find one false, say at which input.
  Laid BY PROGRAM, IN A SANDBOX (cutbox-rows.mjs): the forced cells as the released guide's own fill.sh prints them over the translation cb5330c7d71bd37b… (all of the seat's roots in one cut). By AI agents, Wed Nov 11 2026. No macro, syntax, notation, axiom, sorry.
-/
import Derived.Test.YtjdpnidenjeigaaDoorChecked
import GoSem.Claim
import GoSem.ClaimJoined
import GoSem.ClaimMapViews
import Derived.JoinedTies
import Derived.KernelRfl
namespace Go.Proofs.YtjdpnidenjeigaaDoor
/- THE CELL 'sum', in the pinned program and in every row, IS THE sha256 OF THE DUMP (.gsa) THAT YtjdpnidenjeigaaDoorProg.lean LOADS. Nothing in Lean hashes anything: it is a label: what it is worth is what the hold of that sum in a sandbox is worth. -/
noncomputable def Tryd.pinned : Pinned := { name := "ytjdpnidenjeigaadoor", sum := "cb5330c7d71bd37b84e99476d04d1268360105216b97ec34594edeffae248c9a", checked := Tryd.checked }
namespace Rows
def none {H : Type} : Left H := { results := [], args := [] }

/- WHAT THE LISTED PACKAGE-LEVEL VARIABLES READ AS WHEN THE CALL BEGINS. Each datum BY PROGRAM (the guide's laid-datum.mjs) off the statement by which the dump's own 'gosem.cut.vars' lays the variable. In a bare row this is a premise. The card (YtjdpnidenjeigaaDoorCards.lean) ties it to the program's text. -/
def laid_escrow_frames_nibbles {H : Type} : DataW H := .agg [.lit (.int .u32 0), .lit (.int .u32 498536548), .lit (.int .u32 997073096), .lit (.int .u32 651767980), .lit (.int .u32 1994146192), .lit (.int .u32 1802195444), .lit (.int .u32 1303535960), .lit (.int .u32 1342533948), .lit (.int .u32 3988292384), .lit (.int .u32 4027552580), .lit (.int .u32 3604390888), .lit (.int .u32 3412177804), .lit (.int .u32 2607071920), .lit (.int .u32 2262029012), .lit (.int .u32 2685067896), .lit (.int .u32 3183342108)]

/-- 'escrowlaw2.FramesWrite': WHATEVER THE INPUT: true; the input reads as it did. -/
def framesWriteSpec : ChangeSpec := { name := "framesWrite", fn := fun _ => fun
  | [d1, d2, d3, d4] => { results := [.lit (.bool true)], args := [d1, d2, d3, d4] }
  | _ => none }
def framesWriteRow : OpenClaim := { program := "ytjdpnidenjeigaadoor", sum := "cb5330c7d71bd37b84e99476d04d1268360105216b97ec34594edeffae248c9a", func := "escrow/escrowlaw2.FramesWrite", spec := "framesWrite", named := ["escrow/frames.nibbles"], apart := false, laid := [("escrow/frames.nibbles", laid_escrow_frames_nibbles)] }
def FramesWriteSaid : Prop := framesWriteRow.holds Tryd.pinned (OpenSpec.ofChange framesWriteSpec)

/-- ITS FALSE NEIGHBOUR: 'it returns false'. Refute it at one input. -/
def framesWriteWrong : ChangeSpec := { name := "framesWrite", fn := fun _ => fun
  | [d1, d2, d3, d4] => { results := [.lit (.bool false)], args := [d1, d2, d3, d4] }
  | _ => none }
def FramesWriteWrongFalsely : Prop := framesWriteRow.holds Tryd.pinned (OpenSpec.ofChange framesWriteWrong)

/-- 'escrowlaw2.FramesScan': WHATEVER THE INPUT: true; the input reads as it did. -/
def framesScanSpec : ChangeSpec := { name := "framesScan", fn := fun _ => fun
  | [d1, d2, d3, d4, d5] => { results := [.lit (.bool true)], args := [d1, d2, d3, d4, d5] }
  | _ => none }
def framesScanRow : OpenClaim := { program := "ytjdpnidenjeigaadoor", sum := "cb5330c7d71bd37b84e99476d04d1268360105216b97ec34594edeffae248c9a", func := "escrow/escrowlaw2.FramesScan", spec := "framesScan", named := ["escrow/frames.nibbles"], apart := false, laid := [("escrow/frames.nibbles", laid_escrow_frames_nibbles)] }
def FramesScanSaid : Prop := framesScanRow.holds Tryd.pinned (OpenSpec.ofChange framesScanSpec)

/-- ITS FALSE NEIGHBOUR: 'it returns false'. Refute it at one input. -/
def framesScanWrong : ChangeSpec := { name := "framesScan", fn := fun _ => fun
  | [d1, d2, d3, d4, d5] => { results := [.lit (.bool false)], args := [d1, d2, d3, d4, d5] }
  | _ => none }
def FramesScanWrongFalsely : Prop := framesScanRow.holds Tryd.pinned (OpenSpec.ofChange framesScanWrong)

/-- 'escrowlaw2.FramesTorn': WHATEVER THE INPUT: true; the input reads as it did. -/
def framesTornSpec : ChangeSpec := { name := "framesTorn", fn := fun _ => fun
  | [d1, d2, d3] => { results := [.lit (.bool true)], args := [d1, d2, d3] }
  | _ => none }
def framesTornRow : OpenClaim := { program := "ytjdpnidenjeigaadoor", sum := "cb5330c7d71bd37b84e99476d04d1268360105216b97ec34594edeffae248c9a", func := "escrow/escrowlaw2.FramesTorn", spec := "framesTorn", named := ["escrow/frames.nibbles"], apart := false, laid := [("escrow/frames.nibbles", laid_escrow_frames_nibbles)] }
def FramesTornSaid : Prop := framesTornRow.holds Tryd.pinned (OpenSpec.ofChange framesTornSpec)

/-- ITS FALSE NEIGHBOUR: 'it returns false'. Refute it at one input. -/
def framesTornWrong : ChangeSpec := { name := "framesTorn", fn := fun _ => fun
  | [d1, d2, d3] => { results := [.lit (.bool false)], args := [d1, d2, d3] }
  | _ => none }
def FramesTornWrongFalsely : Prop := framesTornRow.holds Tryd.pinned (OpenSpec.ofChange framesTornWrong)

/-- 'escrowlaw2.FramesBack': WHATEVER THE INPUT: true; the input reads as it did. -/
def framesBackSpec : ChangeSpec := { name := "framesBack", fn := fun _ => fun
  | [d1, d2] => { results := [.lit (.bool true)], args := [d1, d2] }
  | _ => none }
def framesBackRow : OpenClaim := { program := "ytjdpnidenjeigaadoor", sum := "cb5330c7d71bd37b84e99476d04d1268360105216b97ec34594edeffae248c9a", func := "escrow/escrowlaw2.FramesBack", spec := "framesBack", named := ["escrow/frames.nibbles"], apart := false, laid := [("escrow/frames.nibbles", laid_escrow_frames_nibbles)] }
def FramesBackSaid : Prop := framesBackRow.holds Tryd.pinned (OpenSpec.ofChange framesBackSpec)

/-- ITS FALSE NEIGHBOUR: 'it returns false'. Refute it at one input. -/
def framesBackWrong : ChangeSpec := { name := "framesBack", fn := fun _ => fun
  | [d1, d2] => { results := [.lit (.bool false)], args := [d1, d2] }
  | _ => none }
def FramesBackWrongFalsely : Prop := framesBackRow.holds Tryd.pinned (OpenSpec.ofChange framesBackWrong)

/-- 'escrowlaw2.FramesTurned': WHATEVER THE INPUT: true; the input reads as it did. -/
def framesTurnedSpec : ChangeSpec := { name := "framesTurned", fn := fun _ => fun
  | [d1, d2, d3] => { results := [.lit (.bool true)], args := [d1, d2, d3] }
  | _ => none }
def framesTurnedRow : OpenClaim := { program := "ytjdpnidenjeigaadoor", sum := "cb5330c7d71bd37b84e99476d04d1268360105216b97ec34594edeffae248c9a", func := "escrow/escrowlaw2.FramesTurned", spec := "framesTurned", named := ["escrow/frames.nibbles"], apart := false, laid := [("escrow/frames.nibbles", laid_escrow_frames_nibbles)] }
def FramesTurnedSaid : Prop := framesTurnedRow.holds Tryd.pinned (OpenSpec.ofChange framesTurnedSpec)

/-- ITS FALSE NEIGHBOUR: 'it returns false'. Refute it at one input. -/
def framesTurnedWrong : ChangeSpec := { name := "framesTurned", fn := fun _ => fun
  | [d1, d2, d3] => { results := [.lit (.bool false)], args := [d1, d2, d3] }
  | _ => none }
def FramesTurnedWrongFalsely : Prop := framesTurnedRow.holds Tryd.pinned (OpenSpec.ofChange framesTurnedWrong)

/-- 'escrowlaw2.FramesOnes': WHATEVER THE INPUT: true; the input reads as it did. -/
def framesOnesSpec : ChangeSpec := { name := "framesOnes", fn := fun _ => fun
  | [d1, d2, d3] => { results := [.lit (.bool true)], args := [d1, d2, d3] }
  | _ => none }
def framesOnesRow : OpenClaim := { program := "ytjdpnidenjeigaadoor", sum := "cb5330c7d71bd37b84e99476d04d1268360105216b97ec34594edeffae248c9a", func := "escrow/escrowlaw2.FramesOnes", spec := "framesOnes", named := ["escrow/frames.nibbles"], apart := false, laid := [("escrow/frames.nibbles", laid_escrow_frames_nibbles)] }
def FramesOnesSaid : Prop := framesOnesRow.holds Tryd.pinned (OpenSpec.ofChange framesOnesSpec)

/-- ITS FALSE NEIGHBOUR: 'it returns false'. Refute it at one input. -/
def framesOnesWrong : ChangeSpec := { name := "framesOnes", fn := fun _ => fun
  | [d1, d2, d3] => { results := [.lit (.bool false)], args := [d1, d2, d3] }
  | _ => none }
def FramesOnesWrongFalsely : Prop := framesOnesRow.holds Tryd.pinned (OpenSpec.ofChange framesOnesWrong)

/- THE SECOND FORM. 'bulk': how many values and letters a reading holds, each counted each time it is reached (what is shared counts as often as it is met; a slice's spare places count too). A statement '..UptoSaid' is the law's where the arguments, and the package variables that the reading takes, are together of bulk at most 1048576: NARROWER than '..Said'. Prove '..Said' where nothing that the law and all that it calls make is longer than what came in: it says more and counts as full. Else prove '..UptoSaid'. A law counts once. -/
mutual
def uptoBulk {H : Type} : DataW H → Nat
  | .lit (.string bytes) => bytes.length + 1
  | .lit _ => 1
  | .nil => 1
  | .ptr d => uptoBulk d + 1
  | .slice elems spare => uptoBulkAll elems + uptoBulkAll spare + 1
  | .agg parts => uptoBulkAll parts + 1
  | .iface _ d => uptoBulk d + 1
  | .map entries => uptoBulkEntries entries + 1
  | .held _ => 1
def uptoBulkAll {H : Type} : List (DataW H) → Nat
  | [] => 0
  | d :: r => uptoBulk d + uptoBulkAll r
def uptoBulkEntries {H : Type} : List (Lit × DataW H) → Nat
  | [] => 0
  | x :: r => uptoBulkEntry x + uptoBulkEntries r
def uptoBulkEntry {H : Type} : Lit × DataW H → Nat
  | (.string bytes, d) => bytes.length + uptoBulk d + 1
  | (_, d) => uptoBulk d + 1
 end
def uptoSmall : (H : Type) → List (DataW H) → Bool := fun _ ds => decide (uptoBulkAll ds ≤ 1048576)
def OpenSpec.upto (s : _root_.Go.ChangeSpec) : _root_.Go.OpenSpec := { _root_.Go.OpenSpec.ofChange s with cond := some uptoSmall }

/-- 'escrowlaw2.FramesWrite', WHERE WHAT IT READS IS OF BULK AT MOST 1048576: true; the input reads as it did. -/
def framesWriteUptoRow : OpenClaim := { program := "ytjdpnidenjeigaadoor", sum := "cb5330c7d71bd37b84e99476d04d1268360105216b97ec34594edeffae248c9a", func := "escrow/escrowlaw2.FramesWrite", spec := "framesWrite", named := ["escrow/frames.nibbles"], apart := false, laid := [("escrow/frames.nibbles", laid_escrow_frames_nibbles)], narrowed := true }
def FramesWriteUptoSaid : Prop := framesWriteUptoRow.holds Tryd.pinned (OpenSpec.upto framesWriteSpec)

/-- 'escrowlaw2.FramesScan', WHERE WHAT IT READS IS OF BULK AT MOST 1048576: true; the input reads as it did. -/
def framesScanUptoRow : OpenClaim := { program := "ytjdpnidenjeigaadoor", sum := "cb5330c7d71bd37b84e99476d04d1268360105216b97ec34594edeffae248c9a", func := "escrow/escrowlaw2.FramesScan", spec := "framesScan", named := ["escrow/frames.nibbles"], apart := false, laid := [("escrow/frames.nibbles", laid_escrow_frames_nibbles)], narrowed := true }
def FramesScanUptoSaid : Prop := framesScanUptoRow.holds Tryd.pinned (OpenSpec.upto framesScanSpec)

/-- 'escrowlaw2.FramesTorn', WHERE WHAT IT READS IS OF BULK AT MOST 1048576: true; the input reads as it did. -/
def framesTornUptoRow : OpenClaim := { program := "ytjdpnidenjeigaadoor", sum := "cb5330c7d71bd37b84e99476d04d1268360105216b97ec34594edeffae248c9a", func := "escrow/escrowlaw2.FramesTorn", spec := "framesTorn", named := ["escrow/frames.nibbles"], apart := false, laid := [("escrow/frames.nibbles", laid_escrow_frames_nibbles)], narrowed := true }
def FramesTornUptoSaid : Prop := framesTornUptoRow.holds Tryd.pinned (OpenSpec.upto framesTornSpec)

/-- 'escrowlaw2.FramesBack', WHERE WHAT IT READS IS OF BULK AT MOST 1048576: true; the input reads as it did. -/
def framesBackUptoRow : OpenClaim := { program := "ytjdpnidenjeigaadoor", sum := "cb5330c7d71bd37b84e99476d04d1268360105216b97ec34594edeffae248c9a", func := "escrow/escrowlaw2.FramesBack", spec := "framesBack", named := ["escrow/frames.nibbles"], apart := false, laid := [("escrow/frames.nibbles", laid_escrow_frames_nibbles)], narrowed := true }
def FramesBackUptoSaid : Prop := framesBackUptoRow.holds Tryd.pinned (OpenSpec.upto framesBackSpec)

/-- 'escrowlaw2.FramesTurned', WHERE WHAT IT READS IS OF BULK AT MOST 1048576: true; the input reads as it did. -/
def framesTurnedUptoRow : OpenClaim := { program := "ytjdpnidenjeigaadoor", sum := "cb5330c7d71bd37b84e99476d04d1268360105216b97ec34594edeffae248c9a", func := "escrow/escrowlaw2.FramesTurned", spec := "framesTurned", named := ["escrow/frames.nibbles"], apart := false, laid := [("escrow/frames.nibbles", laid_escrow_frames_nibbles)], narrowed := true }
def FramesTurnedUptoSaid : Prop := framesTurnedUptoRow.holds Tryd.pinned (OpenSpec.upto framesTurnedSpec)

/-- 'escrowlaw2.FramesOnes', WHERE WHAT IT READS IS OF BULK AT MOST 1048576: true; the input reads as it did. -/
def framesOnesUptoRow : OpenClaim := { program := "ytjdpnidenjeigaadoor", sum := "cb5330c7d71bd37b84e99476d04d1268360105216b97ec34594edeffae248c9a", func := "escrow/escrowlaw2.FramesOnes", spec := "framesOnes", named := ["escrow/frames.nibbles"], apart := false, laid := [("escrow/frames.nibbles", laid_escrow_frames_nibbles)], narrowed := true }
def FramesOnesUptoSaid : Prop := framesOnesUptoRow.holds Tryd.pinned (OpenSpec.upto framesOnesSpec)

end Rows
end Go.Proofs.YtjdpnidenjeigaaDoor
