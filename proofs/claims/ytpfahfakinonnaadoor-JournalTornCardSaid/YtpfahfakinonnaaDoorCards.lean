/-
  DERIVED. GIVEN WITH THE SEED: THE CARDS: each row of YtpfahfakinonnaaDoorRows.lean that lists a variable, with what it lists TIED to the program's text (the seventh form; the later family's looks); each row that meets fmt, with fmt's text TOLD by the authors' own Lean function (tested against real Go, not proved from fmt's source: count such statements apart). THE CARD IS WHAT COUNTS. Prove the row's statement (the work); the ties are given (YtpfahfakinonnaaDoorTie.lean); close each card by the builder's one call (the guide's Derived/Test/ToyasCard.lean, 'card_holds'). Laid BY PROGRAM, IN A SANDBOX (cutbox-door.mjs). By AI agents, Wed Nov 11 2026. No macro, syntax, notation, axiom, sorry.
-/
import Derived.Test.YtpfahfakinonnaaDoorRows
import GoSem.ClaimSeven
namespace Go.Proofs.YtpfahfakinonnaaDoor
namespace Rows

/-- THE TIED CARD OF 'escrowlaw4.JournalPlays'. -/
def journalPlaysCard : Claim7 := { stood := { row := journalPlaysRow, standIns := [], harness := (true, "8cccade1e5486bf5be9e516b74a55701e06fa6addba85f8bf3231a92adcf5b87"), looks := false }, kinds := [], alts := [], laidByText := true, laidKinds := [.data], laidTests := true, laidLooks := .later }
def JournalPlaysCardSaid : Prop := Claim7.holds Tryd.pinned (.plain (OpenSpec.ofChange journalPlaysSpec)) journalPlaysCard

/-- THE TIED CARD OF 'escrowlaw4.JournalKept'. -/
def journalKeptCard : Claim7 := { stood := { row := journalKeptRow, standIns := [], harness := (true, "8cccade1e5486bf5be9e516b74a55701e06fa6addba85f8bf3231a92adcf5b87"), looks := false }, kinds := [], alts := [], laidByText := true, laidKinds := [.data], laidTests := true, laidLooks := .later }
def JournalKeptCardSaid : Prop := Claim7.holds Tryd.pinned (.plain (OpenSpec.ofChange journalKeptSpec)) journalKeptCard

/-- THE TIED CARD OF 'escrowlaw4.JournalTorn'. -/
def journalTornCard : Claim7 := { stood := { row := journalTornRow, standIns := [], harness := (true, "8cccade1e5486bf5be9e516b74a55701e06fa6addba85f8bf3231a92adcf5b87"), looks := false }, kinds := [], alts := [], laidByText := true, laidKinds := [.data], laidTests := true, laidLooks := .later }
def JournalTornCardSaid : Prop := Claim7.holds Tryd.pinned (.plain (OpenSpec.ofChange journalTornSpec)) journalTornCard

/-- THE TIED CARD OF 'escrowlaw4.JournalBad'. -/
def journalBadCard : Claim7 := { stood := { row := journalBadRow, standIns := [], harness := (true, "8cccade1e5486bf5be9e516b74a55701e06fa6addba85f8bf3231a92adcf5b87"), looks := false }, kinds := [], alts := [], laidByText := true, laidKinds := [.data], laidTests := true, laidLooks := .later }
def JournalBadCardSaid : Prop := Claim7.holds Tryd.pinned (.plain (OpenSpec.ofChange journalBadSpec)) journalBadCard

/-- THE TIED CARD OF 'escrowlaw4.JournalSnaps'. -/
def journalSnapsCard : Claim7 := { stood := { row := journalSnapsRow, standIns := [], harness := (true, "8cccade1e5486bf5be9e516b74a55701e06fa6addba85f8bf3231a92adcf5b87"), looks := false }, kinds := [], alts := [], laidByText := true, laidKinds := [.data], laidTests := true, laidLooks := .later }
def JournalSnapsCardSaid : Prop := Claim7.holds Tryd.pinned (.plain (OpenSpec.ofChange journalSnapsSpec)) journalSnapsCard

/-- THE SECOND FORM's CARD OF 'escrowlaw4.JournalPlays'. -/
def journalPlaysUptoCard : Claim7 := { stood := { row := journalPlaysUptoRow, standIns := [], harness := (true, "8cccade1e5486bf5be9e516b74a55701e06fa6addba85f8bf3231a92adcf5b87"), looks := false }, kinds := [], alts := [], laidByText := true, laidKinds := [.data], laidTests := true, laidLooks := .later }
def JournalPlaysUptoCardSaid : Prop := Claim7.holds Tryd.pinned (.plain (OpenSpec.upto journalPlaysSpec)) journalPlaysUptoCard

/-- THE SECOND FORM's CARD OF 'escrowlaw4.JournalKept'. -/
def journalKeptUptoCard : Claim7 := { stood := { row := journalKeptUptoRow, standIns := [], harness := (true, "8cccade1e5486bf5be9e516b74a55701e06fa6addba85f8bf3231a92adcf5b87"), looks := false }, kinds := [], alts := [], laidByText := true, laidKinds := [.data], laidTests := true, laidLooks := .later }
def JournalKeptUptoCardSaid : Prop := Claim7.holds Tryd.pinned (.plain (OpenSpec.upto journalKeptSpec)) journalKeptUptoCard

/-- THE SECOND FORM's CARD OF 'escrowlaw4.JournalTorn'. -/
def journalTornUptoCard : Claim7 := { stood := { row := journalTornUptoRow, standIns := [], harness := (true, "8cccade1e5486bf5be9e516b74a55701e06fa6addba85f8bf3231a92adcf5b87"), looks := false }, kinds := [], alts := [], laidByText := true, laidKinds := [.data], laidTests := true, laidLooks := .later }
def JournalTornUptoCardSaid : Prop := Claim7.holds Tryd.pinned (.plain (OpenSpec.upto journalTornSpec)) journalTornUptoCard

/-- THE SECOND FORM's CARD OF 'escrowlaw4.JournalBad'. -/
def journalBadUptoCard : Claim7 := { stood := { row := journalBadUptoRow, standIns := [], harness := (true, "8cccade1e5486bf5be9e516b74a55701e06fa6addba85f8bf3231a92adcf5b87"), looks := false }, kinds := [], alts := [], laidByText := true, laidKinds := [.data], laidTests := true, laidLooks := .later }
def JournalBadUptoCardSaid : Prop := Claim7.holds Tryd.pinned (.plain (OpenSpec.upto journalBadSpec)) journalBadUptoCard

/-- THE SECOND FORM's CARD OF 'escrowlaw4.JournalSnaps'. -/
def journalSnapsUptoCard : Claim7 := { stood := { row := journalSnapsUptoRow, standIns := [], harness := (true, "8cccade1e5486bf5be9e516b74a55701e06fa6addba85f8bf3231a92adcf5b87"), looks := false }, kinds := [], alts := [], laidByText := true, laidKinds := [.data], laidTests := true, laidLooks := .later }
def JournalSnapsUptoCardSaid : Prop := Claim7.holds Tryd.pinned (.plain (OpenSpec.upto journalSnapsSpec)) journalSnapsUptoCard
end Rows
end Go.Proofs.YtpfahfakinonnaaDoor
