/-
  DERIVED. GIVEN WITH THE SEED: THE CARDS: each row of YtlnemefegkjjiaaDoorRows.lean that lists a variable, with what it lists TIED to the program's text (the seventh form; the later family's looks); each row that meets fmt, with fmt's text TOLD by the authors' own Lean function (tested against real Go, not proved from fmt's source: count such statements apart). THE CARD IS WHAT COUNTS. Prove the row's statement (the work); the ties are given (YtlnemefegkjjiaaDoorTie.lean); close each card by the builder's one call (the guide's Derived/Test/ToyasCard.lean, 'card_holds'). Laid BY PROGRAM, IN A SANDBOX (cutbox-door.mjs). By AI agents, Wed Nov 11 2026. No macro, syntax, notation, axiom, sorry.
-/
import Derived.Test.YtlnemefegkjjiaaDoorRows
import GoSem.ClaimSeven
namespace Go.Proofs.YtlnemefegkjjiaaDoor
namespace Rows

/-- THE TIED CARD OF 'swingbridgelaw09.DiskHolds'. -/
def diskHoldsCard : Claim7 := { stood := { row := diskHoldsRow, standIns := [], harness := (true, "65c91d8ec02f3652b4bf916b2f9c4c369d664bec8fa26594e1ab3ccd55e74517"), looks := true }, kinds := [], alts := [], laidByText := true, laidKinds := [.handle], laidTests := true, laidLooks := .later }
def DiskHoldsCardSaid : Prop := Claim7.holds Tryd.pinned (.plain (OpenSpec.ofChange diskHoldsSpec)) diskHoldsCard

/-- THE SECOND FORM's CARD OF 'swingbridgelaw09.DiskHolds'. -/
def diskHoldsUptoCard : Claim7 := { stood := { row := diskHoldsUptoRow, standIns := [], harness := (true, "65c91d8ec02f3652b4bf916b2f9c4c369d664bec8fa26594e1ab3ccd55e74517"), looks := true }, kinds := [], alts := [], laidByText := true, laidKinds := [.handle], laidTests := true, laidLooks := .later }
def DiskHoldsUptoCardSaid : Prop := Claim7.holds Tryd.pinned (.plain (OpenSpec.upto diskHoldsSpec)) diskHoldsUptoCard
end Rows
end Go.Proofs.YtlnemefegkjjiaaDoor
