/-
  NARROWER THAN 'FOR EVERY INPUT', by the rows' own cells (each row's printed sentence says how): JournalPlays: laid · JournalKept: laid · JournalTorn: laid · JournalBad: laid · JournalSnaps: laid.
  DERIVED. THE GIVEN ROWS OF THIS SEAT. 5 by the template 'for every input the law returns true; each argument reads behind the call as it read before'; 0 by the template 'total and deterministic' (their statements: YtpfahfakinonnaaDoorTotals.lean).
  GIVEN WITH THE SEED: the statements are not yours to turn. If you find one false, say at which input.
  Laid BY PROGRAM, IN A SANDBOX (cutbox-rows.mjs): the forced cells as the released guide's own fill.sh prints them over the translation 71e44ef1a9cf9e69… (all of the seat's roots in one cut). By AI agents, Wed Nov 11 2026. No macro, syntax, notation, axiom, sorry.
-/
import Derived.Test.YtpfahfakinonnaaDoorChecked
import GoSem.Claim
import GoSem.ClaimJoined
import GoSem.ClaimMapViews
import Derived.JoinedTies
import Derived.KernelRfl
namespace Go.Proofs.YtpfahfakinonnaaDoor
/- THE CELL 'sum', in the pinned program and in every row, IS THE sha256 OF THE DUMP (.gsa) THAT YtpfahfakinonnaaDoorProg.lean LOADS. Nothing in Lean hashes anything: it is a label: what it is worth is what the hold of that sum in a sandbox is worth. -/
noncomputable def Tryd.pinned : Pinned := { name := "ytpfahfakinonnaadoor", sum := "71e44ef1a9cf9e695d49f2ce752d75f09f78b7591938e7b414e0d874904f1220", checked := Tryd.checked }
namespace Rows
def none {H : Type} : Left H := { results := [], args := [] }

/- WHAT THE LISTED PACKAGE-LEVEL VARIABLES READ AS WHEN THE CALL BEGINS. Each datum BY PROGRAM (the guide's laid-datum.mjs) off the statement by which the dump's own 'gosem.cut.vars' lays the variable. In a bare row this is a premise. The card (YtpfahfakinonnaaDoorCards.lean) ties it to the program's text. -/
def laid_escrow_frames_nibbles {H : Type} : DataW H := .agg [.lit (.int .u32 0), .lit (.int .u32 498536548), .lit (.int .u32 997073096), .lit (.int .u32 651767980), .lit (.int .u32 1994146192), .lit (.int .u32 1802195444), .lit (.int .u32 1303535960), .lit (.int .u32 1342533948), .lit (.int .u32 3988292384), .lit (.int .u32 4027552580), .lit (.int .u32 3604390888), .lit (.int .u32 3412177804), .lit (.int .u32 2607071920), .lit (.int .u32 2262029012), .lit (.int .u32 2685067896), .lit (.int .u32 3183342108)]

/-- 'escrowlaw4.JournalPlays': WHATEVER THE INPUT: true; the input reads as it did. -/
def journalPlaysSpec : ChangeSpec := { name := "journalPlays", fn := fun _ => fun
  | [d1, d2] => { results := [.lit (.bool true)], args := [d1, d2] }
  | _ => none }
def journalPlaysRow : OpenClaim := { program := "ytpfahfakinonnaadoor", sum := "71e44ef1a9cf9e695d49f2ce752d75f09f78b7591938e7b414e0d874904f1220", func := "escrow/escrowlaw4.JournalPlays", spec := "journalPlays", unfollowed := true, recurses := true, named := ["escrow/frames.nibbles"], apart := false, laid := [("escrow/frames.nibbles", laid_escrow_frames_nibbles)] }
def JournalPlaysSaid : Prop := journalPlaysRow.holds Tryd.pinned (OpenSpec.ofChange journalPlaysSpec)

/-- ITS FALSE NEIGHBOUR: 'it returns false'. Refute it at one input. -/
def journalPlaysWrong : ChangeSpec := { name := "journalPlays", fn := fun _ => fun
  | [d1, d2] => { results := [.lit (.bool false)], args := [d1, d2] }
  | _ => none }
def JournalPlaysWrongFalsely : Prop := journalPlaysRow.holds Tryd.pinned (OpenSpec.ofChange journalPlaysWrong)

/-- 'escrowlaw4.JournalKept': WHATEVER THE INPUT: true; the input reads as it did. -/
def journalKeptSpec : ChangeSpec := { name := "journalKept", fn := fun _ => fun
  | [d1, d2, d3, d4] => { results := [.lit (.bool true)], args := [d1, d2, d3, d4] }
  | _ => none }
def journalKeptRow : OpenClaim := { program := "ytpfahfakinonnaadoor", sum := "71e44ef1a9cf9e695d49f2ce752d75f09f78b7591938e7b414e0d874904f1220", func := "escrow/escrowlaw4.JournalKept", spec := "journalKept", unfollowed := true, recurses := true, named := ["escrow/frames.nibbles"], apart := false, laid := [("escrow/frames.nibbles", laid_escrow_frames_nibbles)] }
def JournalKeptSaid : Prop := journalKeptRow.holds Tryd.pinned (OpenSpec.ofChange journalKeptSpec)

/-- ITS FALSE NEIGHBOUR: 'it returns false'. Refute it at one input. -/
def journalKeptWrong : ChangeSpec := { name := "journalKept", fn := fun _ => fun
  | [d1, d2, d3, d4] => { results := [.lit (.bool false)], args := [d1, d2, d3, d4] }
  | _ => none }
def JournalKeptWrongFalsely : Prop := journalKeptRow.holds Tryd.pinned (OpenSpec.ofChange journalKeptWrong)

/-- 'escrowlaw4.JournalTorn': WHATEVER THE INPUT: true; the input reads as it did. -/
def journalTornSpec : ChangeSpec := { name := "journalTorn", fn := fun _ => fun
  | [d1, d2, d3] => { results := [.lit (.bool true)], args := [d1, d2, d3] }
  | _ => none }
def journalTornRow : OpenClaim := { program := "ytpfahfakinonnaadoor", sum := "71e44ef1a9cf9e695d49f2ce752d75f09f78b7591938e7b414e0d874904f1220", func := "escrow/escrowlaw4.JournalTorn", spec := "journalTorn", unfollowed := true, recurses := true, named := ["escrow/frames.nibbles"], apart := false, laid := [("escrow/frames.nibbles", laid_escrow_frames_nibbles)] }
def JournalTornSaid : Prop := journalTornRow.holds Tryd.pinned (OpenSpec.ofChange journalTornSpec)

/-- ITS FALSE NEIGHBOUR: 'it returns false'. Refute it at one input. -/
def journalTornWrong : ChangeSpec := { name := "journalTorn", fn := fun _ => fun
  | [d1, d2, d3] => { results := [.lit (.bool false)], args := [d1, d2, d3] }
  | _ => none }
def JournalTornWrongFalsely : Prop := journalTornRow.holds Tryd.pinned (OpenSpec.ofChange journalTornWrong)

/-- 'escrowlaw4.JournalBad': WHATEVER THE INPUT: true; the input reads as it did. -/
def journalBadSpec : ChangeSpec := { name := "journalBad", fn := fun _ => fun
  | [d1, d2] => { results := [.lit (.bool true)], args := [d1, d2] }
  | _ => none }
def journalBadRow : OpenClaim := { program := "ytpfahfakinonnaadoor", sum := "71e44ef1a9cf9e695d49f2ce752d75f09f78b7591938e7b414e0d874904f1220", func := "escrow/escrowlaw4.JournalBad", spec := "journalBad", unfollowed := true, recurses := true, named := ["escrow/frames.nibbles"], apart := false, laid := [("escrow/frames.nibbles", laid_escrow_frames_nibbles)] }
def JournalBadSaid : Prop := journalBadRow.holds Tryd.pinned (OpenSpec.ofChange journalBadSpec)

/-- ITS FALSE NEIGHBOUR: 'it returns false'. Refute it at one input. -/
def journalBadWrong : ChangeSpec := { name := "journalBad", fn := fun _ => fun
  | [d1, d2] => { results := [.lit (.bool false)], args := [d1, d2] }
  | _ => none }
def JournalBadWrongFalsely : Prop := journalBadRow.holds Tryd.pinned (OpenSpec.ofChange journalBadWrong)

/-- 'escrowlaw4.JournalSnaps': WHATEVER THE INPUT: true; the input reads as it did. -/
def journalSnapsSpec : ChangeSpec := { name := "journalSnaps", fn := fun _ => fun
  | [d1, d2] => { results := [.lit (.bool true)], args := [d1, d2] }
  | _ => none }
def journalSnapsRow : OpenClaim := { program := "ytpfahfakinonnaadoor", sum := "71e44ef1a9cf9e695d49f2ce752d75f09f78b7591938e7b414e0d874904f1220", func := "escrow/escrowlaw4.JournalSnaps", spec := "journalSnaps", unfollowed := true, recurses := true, named := ["escrow/frames.nibbles"], apart := false, laid := [("escrow/frames.nibbles", laid_escrow_frames_nibbles)] }
def JournalSnapsSaid : Prop := journalSnapsRow.holds Tryd.pinned (OpenSpec.ofChange journalSnapsSpec)

/-- ITS FALSE NEIGHBOUR: 'it returns false'. Refute it at one input. -/
def journalSnapsWrong : ChangeSpec := { name := "journalSnaps", fn := fun _ => fun
  | [d1, d2] => { results := [.lit (.bool false)], args := [d1, d2] }
  | _ => none }
def JournalSnapsWrongFalsely : Prop := journalSnapsRow.holds Tryd.pinned (OpenSpec.ofChange journalSnapsWrong)

/- THE SECOND FORM. 'bulk': how many values and letters a reading holds, each counted each time it is reached (what is shared counts as often as it is met; a slice's spare places count too). A statement '..UptoSaid' is the law's where the arguments, and the package variables that the reading takes, are together of bulk at most 1048576: NARROWER than '..Said'. Prove '..Said' where nothing that the law and all that it calls make is longer than what came in: it says more and counts as full. Else prove '..UptoSaid'. A law counts once. -/
mutual
def uptoBulk {H : Type} : DataW H → Nat
  | .lit (.string bytes) => bytes.length + 1
  | .lit _ => 1
  | .nil => 1
  | .ptr d => uptoBulk d + 1
  | .slice elems spare => uptoBulkAll elems + uptoBulkAll spare + 1
  | .agg parts => uptoBulkAll parts + 1
  | .iface _ d => uptoBulk d + 1
  | .map entries => uptoBulkEntries entries + 1
  | .held _ => 1
def uptoBulkAll {H : Type} : List (DataW H) → Nat
  | [] => 0
  | d :: r => uptoBulk d + uptoBulkAll r
def uptoBulkEntries {H : Type} : List (Lit × DataW H) → Nat
  | [] => 0
  | x :: r => uptoBulkEntry x + uptoBulkEntries r
def uptoBulkEntry {H : Type} : Lit × DataW H → Nat
  | (.string bytes, d) => bytes.length + uptoBulk d + 1
  | (_, d) => uptoBulk d + 1
 end
def uptoSmall : (H : Type) → List (DataW H) → Bool := fun _ ds => decide (uptoBulkAll ds ≤ 1048576)
def OpenSpec.upto (s : _root_.Go.ChangeSpec) : _root_.Go.OpenSpec := { _root_.Go.OpenSpec.ofChange s with cond := some uptoSmall }

/-- 'escrowlaw4.JournalPlays', WHERE WHAT IT READS IS OF BULK AT MOST 1048576: true; the input reads as it did. -/
def journalPlaysUptoRow : OpenClaim := { program := "ytpfahfakinonnaadoor", sum := "71e44ef1a9cf9e695d49f2ce752d75f09f78b7591938e7b414e0d874904f1220", func := "escrow/escrowlaw4.JournalPlays", spec := "journalPlays", unfollowed := true, recurses := true, named := ["escrow/frames.nibbles"], apart := false, laid := [("escrow/frames.nibbles", laid_escrow_frames_nibbles)], narrowed := true }
def JournalPlaysUptoSaid : Prop := journalPlaysUptoRow.holds Tryd.pinned (OpenSpec.upto journalPlaysSpec)

/-- 'escrowlaw4.JournalKept', WHERE WHAT IT READS IS OF BULK AT MOST 1048576: true; the input reads as it did. -/
def journalKeptUptoRow : OpenClaim := { program := "ytpfahfakinonnaadoor", sum := "71e44ef1a9cf9e695d49f2ce752d75f09f78b7591938e7b414e0d874904f1220", func := "escrow/escrowlaw4.JournalKept", spec := "journalKept", unfollowed := true, recurses := true, named := ["escrow/frames.nibbles"], apart := false, laid := [("escrow/frames.nibbles", laid_escrow_frames_nibbles)], narrowed := true }
def JournalKeptUptoSaid : Prop := journalKeptUptoRow.holds Tryd.pinned (OpenSpec.upto journalKeptSpec)

/-- 'escrowlaw4.JournalTorn', WHERE WHAT IT READS IS OF BULK AT MOST 1048576: true; the input reads as it did. -/
def journalTornUptoRow : OpenClaim := { program := "ytpfahfakinonnaadoor", sum := "71e44ef1a9cf9e695d49f2ce752d75f09f78b7591938e7b414e0d874904f1220", func := "escrow/escrowlaw4.JournalTorn", spec := "journalTorn", unfollowed := true, recurses := true, named := ["escrow/frames.nibbles"], apart := false, laid := [("escrow/frames.nibbles", laid_escrow_frames_nibbles)], narrowed := true }
def JournalTornUptoSaid : Prop := journalTornUptoRow.holds Tryd.pinned (OpenSpec.upto journalTornSpec)

/-- 'escrowlaw4.JournalBad', WHERE WHAT IT READS IS OF BULK AT MOST 1048576: true; the input reads as it did. -/
def journalBadUptoRow : OpenClaim := { program := "ytpfahfakinonnaadoor", sum := "71e44ef1a9cf9e695d49f2ce752d75f09f78b7591938e7b414e0d874904f1220", func := "escrow/escrowlaw4.JournalBad", spec := "journalBad", unfollowed := true, recurses := true, named := ["escrow/frames.nibbles"], apart := false, laid := [("escrow/frames.nibbles", laid_escrow_frames_nibbles)], narrowed := true }
def JournalBadUptoSaid : Prop := journalBadUptoRow.holds Tryd.pinned (OpenSpec.upto journalBadSpec)

/-- 'escrowlaw4.JournalSnaps', WHERE WHAT IT READS IS OF BULK AT MOST 1048576: true; the input reads as it did. -/
def journalSnapsUptoRow : OpenClaim := { program := "ytpfahfakinonnaadoor", sum := "71e44ef1a9cf9e695d49f2ce752d75f09f78b7591938e7b414e0d874904f1220", func := "escrow/escrowlaw4.JournalSnaps", spec := "journalSnaps", unfollowed := true, recurses := true, named := ["escrow/frames.nibbles"], apart := false, laid := [("escrow/frames.nibbles", laid_escrow_frames_nibbles)], narrowed := true }
def JournalSnapsUptoSaid : Prop := journalSnapsUptoRow.holds Tryd.pinned (OpenSpec.upto journalSnapsSpec)

end Rows
end Go.Proofs.YtpfahfakinonnaaDoor
