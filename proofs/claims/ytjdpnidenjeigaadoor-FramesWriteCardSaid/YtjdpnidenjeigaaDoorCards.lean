/-
  DERIVED. GIVEN WITH THE SEED: THE CARDS: each row of YtjdpnidenjeigaaDoorRows.lean that lists a variable, with what it lists TIED to the program's text (the seventh form; the later family's looks); each row that meets fmt, with fmt's text TOLD by the authors' own Lean function (tested against real Go, not proved from fmt's source: count such statements apart). THE CARD IS WHAT COUNTS. Prove the row's statement (the work); the ties are given (YtjdpnidenjeigaaDoorTie.lean); close each card by the builder's one call (the guide's Derived/Test/ToyasCard.lean, 'card_holds'). Laid BY PROGRAM, IN A SANDBOX (cutbox-door.mjs). By AI agents, Wed Nov 11 2026. No macro, syntax, notation, axiom, sorry.
-/
import Derived.Test.YtjdpnidenjeigaaDoorRows
import GoSem.ClaimSeven
namespace Go.Proofs.YtjdpnidenjeigaaDoor
namespace Rows

/-- THE TIED CARD OF 'escrowlaw2.FramesWrite'. -/
def framesWriteCard : Claim7 := { stood := { row := framesWriteRow, standIns := [], harness := (true, "a6c9dff6fe7787e6d15a00e878defed2bb0e71bf914ae6595c4f1abea5e836f8"), looks := false }, kinds := [], alts := [], laidByText := true, laidKinds := [.data], laidTests := true, laidLooks := .later }
def FramesWriteCardSaid : Prop := Claim7.holds Tryd.pinned (.plain (OpenSpec.ofChange framesWriteSpec)) framesWriteCard

/-- THE TIED CARD OF 'escrowlaw2.FramesScan'. -/
def framesScanCard : Claim7 := { stood := { row := framesScanRow, standIns := [], harness := (true, "a6c9dff6fe7787e6d15a00e878defed2bb0e71bf914ae6595c4f1abea5e836f8"), looks := false }, kinds := [], alts := [], laidByText := true, laidKinds := [.data], laidTests := true, laidLooks := .later }
def FramesScanCardSaid : Prop := Claim7.holds Tryd.pinned (.plain (OpenSpec.ofChange framesScanSpec)) framesScanCard

/-- THE TIED CARD OF 'escrowlaw2.FramesTorn'. -/
def framesTornCard : Claim7 := { stood := { row := framesTornRow, standIns := [], harness := (true, "a6c9dff6fe7787e6d15a00e878defed2bb0e71bf914ae6595c4f1abea5e836f8"), looks := false }, kinds := [], alts := [], laidByText := true, laidKinds := [.data], laidTests := true, laidLooks := .later }
def FramesTornCardSaid : Prop := Claim7.holds Tryd.pinned (.plain (OpenSpec.ofChange framesTornSpec)) framesTornCard

/-- THE TIED CARD OF 'escrowlaw2.FramesBack'. -/
def framesBackCard : Claim7 := { stood := { row := framesBackRow, standIns := [], harness := (true, "a6c9dff6fe7787e6d15a00e878defed2bb0e71bf914ae6595c4f1abea5e836f8"), looks := false }, kinds := [], alts := [], laidByText := true, laidKinds := [.data], laidTests := true, laidLooks := .later }
def FramesBackCardSaid : Prop := Claim7.holds Tryd.pinned (.plain (OpenSpec.ofChange framesBackSpec)) framesBackCard

/-- THE TIED CARD OF 'escrowlaw2.FramesTurned'. -/
def framesTurnedCard : Claim7 := { stood := { row := framesTurnedRow, standIns := [], harness := (true, "a6c9dff6fe7787e6d15a00e878defed2bb0e71bf914ae6595c4f1abea5e836f8"), looks := false }, kinds := [], alts := [], laidByText := true, laidKinds := [.data], laidTests := true, laidLooks := .later }
def FramesTurnedCardSaid : Prop := Claim7.holds Tryd.pinned (.plain (OpenSpec.ofChange framesTurnedSpec)) framesTurnedCard

/-- THE TIED CARD OF 'escrowlaw2.FramesOnes'. -/
def framesOnesCard : Claim7 := { stood := { row := framesOnesRow, standIns := [], harness := (true, "a6c9dff6fe7787e6d15a00e878defed2bb0e71bf914ae6595c4f1abea5e836f8"), looks := false }, kinds := [], alts := [], laidByText := true, laidKinds := [.data], laidTests := true, laidLooks := .later }
def FramesOnesCardSaid : Prop := Claim7.holds Tryd.pinned (.plain (OpenSpec.ofChange framesOnesSpec)) framesOnesCard

/-- THE SECOND FORM's CARD OF 'escrowlaw2.FramesWrite'. -/
def framesWriteUptoCard : Claim7 := { stood := { row := framesWriteUptoRow, standIns := [], harness := (true, "a6c9dff6fe7787e6d15a00e878defed2bb0e71bf914ae6595c4f1abea5e836f8"), looks := false }, kinds := [], alts := [], laidByText := true, laidKinds := [.data], laidTests := true, laidLooks := .later }
def FramesWriteUptoCardSaid : Prop := Claim7.holds Tryd.pinned (.plain (OpenSpec.upto framesWriteSpec)) framesWriteUptoCard

/-- THE SECOND FORM's CARD OF 'escrowlaw2.FramesScan'. -/
def framesScanUptoCard : Claim7 := { stood := { row := framesScanUptoRow, standIns := [], harness := (true, "a6c9dff6fe7787e6d15a00e878defed2bb0e71bf914ae6595c4f1abea5e836f8"), looks := false }, kinds := [], alts := [], laidByText := true, laidKinds := [.data], laidTests := true, laidLooks := .later }
def FramesScanUptoCardSaid : Prop := Claim7.holds Tryd.pinned (.plain (OpenSpec.upto framesScanSpec)) framesScanUptoCard

/-- THE SECOND FORM's CARD OF 'escrowlaw2.FramesTorn'. -/
def framesTornUptoCard : Claim7 := { stood := { row := framesTornUptoRow, standIns := [], harness := (true, "a6c9dff6fe7787e6d15a00e878defed2bb0e71bf914ae6595c4f1abea5e836f8"), looks := false }, kinds := [], alts := [], laidByText := true, laidKinds := [.data], laidTests := true, laidLooks := .later }
def FramesTornUptoCardSaid : Prop := Claim7.holds Tryd.pinned (.plain (OpenSpec.upto framesTornSpec)) framesTornUptoCard

/-- THE SECOND FORM's CARD OF 'escrowlaw2.FramesBack'. -/
def framesBackUptoCard : Claim7 := { stood := { row := framesBackUptoRow, standIns := [], harness := (true, "a6c9dff6fe7787e6d15a00e878defed2bb0e71bf914ae6595c4f1abea5e836f8"), looks := false }, kinds := [], alts := [], laidByText := true, laidKinds := [.data], laidTests := true, laidLooks := .later }
def FramesBackUptoCardSaid : Prop := Claim7.holds Tryd.pinned (.plain (OpenSpec.upto framesBackSpec)) framesBackUptoCard

/-- THE SECOND FORM's CARD OF 'escrowlaw2.FramesTurned'. -/
def framesTurnedUptoCard : Claim7 := { stood := { row := framesTurnedUptoRow, standIns := [], harness := (true, "a6c9dff6fe7787e6d15a00e878defed2bb0e71bf914ae6595c4f1abea5e836f8"), looks := false }, kinds := [], alts := [], laidByText := true, laidKinds := [.data], laidTests := true, laidLooks := .later }
def FramesTurnedUptoCardSaid : Prop := Claim7.holds Tryd.pinned (.plain (OpenSpec.upto framesTurnedSpec)) framesTurnedUptoCard

/-- THE SECOND FORM's CARD OF 'escrowlaw2.FramesOnes'. -/
def framesOnesUptoCard : Claim7 := { stood := { row := framesOnesUptoRow, standIns := [], harness := (true, "a6c9dff6fe7787e6d15a00e878defed2bb0e71bf914ae6595c4f1abea5e836f8"), looks := false }, kinds := [], alts := [], laidByText := true, laidKinds := [.data], laidTests := true, laidLooks := .later }
def FramesOnesUptoCardSaid : Prop := Claim7.holds Tryd.pinned (.plain (OpenSpec.upto framesOnesSpec)) framesOnesUptoCard
end Rows
end Go.Proofs.YtjdpnidenjeigaaDoor
