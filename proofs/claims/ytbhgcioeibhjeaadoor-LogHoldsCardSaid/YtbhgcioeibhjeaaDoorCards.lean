/-
  DERIVED. GIVEN WITH THE SEED: THE CARDS: each row of YtbhgcioeibhjeaaDoorRows.lean that lists a variable, with what it lists TIED to the program's text (the seventh form; the later family's looks); each row that meets fmt, with fmt's text TOLD by the authors' own Lean function (tested against real Go, not proved from fmt's source: count such statements apart). THE CARD IS WHAT COUNTS. Prove the row's statement (the work); the ties are given (YtbhgcioeibhjeaaDoorTie.lean); close each card by the builder's one call (the guide's Derived/Test/ToyasCard.lean, 'card_holds'). Laid BY PROGRAM, IN A SANDBOX (cutbox-door.mjs). By AI agents, Wed Nov 11 2026. No macro, syntax, notation, axiom, sorry.
-/
import Derived.Test.YtbhgcioeibhjeaaDoorRows
import GoSem.ClaimSeven
namespace Go.Proofs.YtbhgcioeibhjeaaDoor
namespace Rows

/-- THE TIED CARD OF 'swingbridgelaw10.LogRecords'. -/
def logRecordsCard : Claim7 := { stood := { row := logRecordsRow, standIns := [], harness := (true, "78dc5556e98ef63613a561809ca6df2c17cac23cff188cb008995a9606ac678b"), looks := true }, kinds := [], alts := [], laidByText := true, laidKinds := [.handle], laidTests := true, laidLooks := .later }
def LogRecordsCardSaid : Prop := Claim7.holds Tryd.pinned (.plain (OpenSpec.ofChange logRecordsSpec)) logRecordsCard

/-- THE TIED CARD OF 'swingbridgelaw10.LogHolds'. -/
def logHoldsCard : Claim7 := { stood := { row := logHoldsRow, standIns := [], harness := (true, "78dc5556e98ef63613a561809ca6df2c17cac23cff188cb008995a9606ac678b"), looks := true }, kinds := [], alts := [], laidByText := true, laidKinds := [.handle], laidTests := true, laidLooks := .later }
def LogHoldsCardSaid : Prop := Claim7.holds Tryd.pinned (.plain (OpenSpec.ofChange logHoldsSpec)) logHoldsCard

/-- THE SECOND FORM's CARD OF 'swingbridgelaw10.LogRecords'. -/
def logRecordsUptoCard : Claim7 := { stood := { row := logRecordsUptoRow, standIns := [], harness := (true, "78dc5556e98ef63613a561809ca6df2c17cac23cff188cb008995a9606ac678b"), looks := true }, kinds := [], alts := [], laidByText := true, laidKinds := [.handle], laidTests := true, laidLooks := .later }
def LogRecordsUptoCardSaid : Prop := Claim7.holds Tryd.pinned (.plain (OpenSpec.upto logRecordsSpec)) logRecordsUptoCard

/-- THE SECOND FORM's CARD OF 'swingbridgelaw10.LogHolds'. -/
def logHoldsUptoCard : Claim7 := { stood := { row := logHoldsUptoRow, standIns := [], harness := (true, "78dc5556e98ef63613a561809ca6df2c17cac23cff188cb008995a9606ac678b"), looks := true }, kinds := [], alts := [], laidByText := true, laidKinds := [.handle], laidTests := true, laidLooks := .later }
def LogHoldsUptoCardSaid : Prop := Claim7.holds Tryd.pinned (.plain (OpenSpec.upto logHoldsSpec)) logHoldsUptoCard
end Rows
end Go.Proofs.YtbhgcioeibhjeaaDoor
