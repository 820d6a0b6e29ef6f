/-
  DERIVED. GIVEN WITH THE SEED: THE CARDS: each row of YtocmjlnhcloccaaGreatDoorRows.lean that lists a variable, with what it lists TIED to the program's text (the seventh form; the later family's looks); each row that meets fmt, with fmt's text TOLD by the authors' own Lean function (tested against real Go, not proved from fmt's source: count such statements apart). THE CARD IS WHAT COUNTS. Prove the row's statement (the work); the ties are given (YtocmjlnhcloccaaGreatDoorTie.lean); close each card by the builder's one call (the guide's Derived/Test/ToyasCard.lean, 'card_holds'). Laid BY PROGRAM, IN A SANDBOX (cutbox-door.mjs). By AI agents, Wed Nov 11 2026. No macro, syntax, notation, axiom, sorry.
-/
import Derived.Test.YtocmjlnhcloccaaGreatDoorRows
import GoSem.ClaimSeven
namespace Go.Proofs.YtocmjlnhcloccaaGreatDoor
namespace Rows

/-- THE TIED CARD OF 'swingbridgelaw04.CodecRows'. -/
def codecRowsCard : Claim7 := { stood := { row := codecRowsRow, standIns := [], harness := (true, "38b6e36df4cbcae515276b9bc4bd2b10f0f3960620b75d69f66a63966a9412fb"), looks := true }, kinds := [], alts := [], laidByText := true, laidKinds := [.data, .data, .data, .handle], laidTests := true, laidLooks := .later }
def CodecRowsCardSaid : Prop := Claim7.holds Tryz.pinned (.plain (OpenSpec.ofChange codecRowsSpec)) codecRowsCard

/-- THE TIED CARD OF 'swingbridgelaw04.CodecReads'. -/
def codecReadsCard : Claim7 := { stood := { row := codecReadsRow, standIns := [], harness := (true, "38b6e36df4cbcae515276b9bc4bd2b10f0f3960620b75d69f66a63966a9412fb"), looks := true }, kinds := [], alts := [], laidByText := true, laidKinds := [.data, .data, .data, .handle], laidTests := true, laidLooks := .later }
def CodecReadsCardSaid : Prop := Claim7.holds Tryz.pinned (.plain (OpenSpec.ofChange codecReadsSpec)) codecReadsCard

/-- THE TIED CARD OF 'swingbridgelaw04.CodecEach'. -/
def codecEachCard : Claim7 := { stood := { row := codecEachRow, standIns := [], harness := (true, "38b6e36df4cbcae515276b9bc4bd2b10f0f3960620b75d69f66a63966a9412fb"), looks := true }, kinds := [], alts := [], laidByText := true, laidKinds := [.data, .data, .data, .handle], laidTests := true, laidLooks := .later }
def CodecEachCardSaid : Prop := Claim7.holds Tryz.pinned (.plain (OpenSpec.ofChange codecEachSpec)) codecEachCard

/-- THE TIED CARD OF 'swingbridgelaw04.CodecSchemas'. -/
def codecSchemasCard : Claim7 := { stood := { row := codecSchemasRow, standIns := [], harness := (true, "38b6e36df4cbcae515276b9bc4bd2b10f0f3960620b75d69f66a63966a9412fb"), looks := true }, kinds := [], alts := [], laidByText := true, laidKinds := [.data, .data, .data, .handle], laidTests := true, laidLooks := .later }
def CodecSchemasCardSaid : Prop := Claim7.holds Tryz.pinned (.plain (OpenSpec.ofChange codecSchemasSpec)) codecSchemasCard

/-- THE TIED CARD OF 'swingbridgelaw04.CodecHolds'. -/
def codecHoldsCard : Claim7 := { stood := { row := codecHoldsRow, standIns := [], harness := (true, "38b6e36df4cbcae515276b9bc4bd2b10f0f3960620b75d69f66a63966a9412fb"), looks := true }, kinds := [], alts := [], laidByText := true, laidKinds := [.data, .data, .data, .handle], laidTests := true, laidLooks := .later }
def CodecHoldsCardSaid : Prop := Claim7.holds Tryz.pinned (.plain (OpenSpec.ofChange codecHoldsSpec)) codecHoldsCard

/-- THE SECOND FORM's CARD OF 'swingbridgelaw04.CodecRows'. -/
def codecRowsUptoCard : Claim7 := { stood := { row := codecRowsUptoRow, standIns := [], harness := (true, "38b6e36df4cbcae515276b9bc4bd2b10f0f3960620b75d69f66a63966a9412fb"), looks := true }, kinds := [], alts := [], laidByText := true, laidKinds := [.data, .data, .data, .handle], laidTests := true, laidLooks := .later }
def CodecRowsUptoCardSaid : Prop := Claim7.holds Tryz.pinned (.plain (OpenSpec.upto codecRowsSpec)) codecRowsUptoCard

/-- THE SECOND FORM's CARD OF 'swingbridgelaw04.CodecReads'. -/
def codecReadsUptoCard : Claim7 := { stood := { row := codecReadsUptoRow, standIns := [], harness := (true, "38b6e36df4cbcae515276b9bc4bd2b10f0f3960620b75d69f66a63966a9412fb"), looks := true }, kinds := [], alts := [], laidByText := true, laidKinds := [.data, .data, .data, .handle], laidTests := true, laidLooks := .later }
def CodecReadsUptoCardSaid : Prop := Claim7.holds Tryz.pinned (.plain (OpenSpec.upto codecReadsSpec)) codecReadsUptoCard

/-- THE SECOND FORM's CARD OF 'swingbridgelaw04.CodecEach'. -/
def codecEachUptoCard : Claim7 := { stood := { row := codecEachUptoRow, standIns := [], harness := (true, "38b6e36df4cbcae515276b9bc4bd2b10f0f3960620b75d69f66a63966a9412fb"), looks := true }, kinds := [], alts := [], laidByText := true, laidKinds := [.data, .data, .data, .handle], laidTests := true, laidLooks := .later }
def CodecEachUptoCardSaid : Prop := Claim7.holds Tryz.pinned (.plain (OpenSpec.upto codecEachSpec)) codecEachUptoCard

/-- THE SECOND FORM's CARD OF 'swingbridgelaw04.CodecSchemas'. -/
def codecSchemasUptoCard : Claim7 := { stood := { row := codecSchemasUptoRow, standIns := [], harness := (true, "38b6e36df4cbcae515276b9bc4bd2b10f0f3960620b75d69f66a63966a9412fb"), looks := true }, kinds := [], alts := [], laidByText := true, laidKinds := [.data, .data, .data, .handle], laidTests := true, laidLooks := .later }
def CodecSchemasUptoCardSaid : Prop := Claim7.holds Tryz.pinned (.plain (OpenSpec.upto codecSchemasSpec)) codecSchemasUptoCard

/-- THE SECOND FORM's CARD OF 'swingbridgelaw04.CodecHolds'. -/
def codecHoldsUptoCard : Claim7 := { stood := { row := codecHoldsUptoRow, standIns := [], harness := (true, "38b6e36df4cbcae515276b9bc4bd2b10f0f3960620b75d69f66a63966a9412fb"), looks := true }, kinds := [], alts := [], laidByText := true, laidKinds := [.data, .data, .data, .handle], laidTests := true, laidLooks := .later }
def CodecHoldsUptoCardSaid : Prop := Claim7.holds Tryz.pinned (.plain (OpenSpec.upto codecHoldsSpec)) codecHoldsUptoCard
end Rows
end Go.Proofs.YtocmjlnhcloccaaGreatDoor
