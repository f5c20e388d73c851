/-
  DERIVED. GIVEN WITH THE SEED: THE CARDS: each row of YtojgigoknjenoaaDoorRows.lean that lists a variable, with what it lists TIED to the program's text (the seventh form; the later family's looks); each row that meets fmt, with fmt's text TOLD by the authors' own Lean function (tested against real Go, not proved from fmt's source: count such statements apart). THE CARD IS WHAT COUNTS. Prove the row's statement (the work); the ties are given (YtojgigoknjenoaaDoorTie.lean); close each card by the builder's one call (the guide's Derived/Test/ToyasCard.lean, 'card_holds'). Laid BY PROGRAM, IN A SANDBOX (cutbox-door.mjs). By AI agents, Wed Nov 11 2026. No macro, syntax, notation, axiom, sorry.
-/
import Derived.Test.YtojgigoknjenoaaDoorRows
import GoSem.ClaimSeven
namespace Go.Proofs.YtojgigoknjenoaaDoor
namespace Rows

/-- THE TIED CARD OF 'coveylaw22.VeilStreams'. -/
def veilStreamsCard : Claim7 := { stood := { row := veilStreamsRow, standIns := [], harness := (true, "0c4d553d825677d0a9baf9cfd0f4897fcf915d3bb5e95acd5f9c64c89867afd6"), looks := true }, kinds := [], alts := [], laidByText := true, laidKinds := [.data, .data, .data], laidTests := true, laidLooks := .later }
def VeilStreamsCardSaid : Prop := Claim7.holds Tryd.pinned (.plain (OpenSpec.ofChange veilStreamsSpec)) veilStreamsCard

/-- THE SECOND FORM's CARD OF 'coveylaw22.VeilStreams'. -/
def veilStreamsUptoCard : Claim7 := { stood := { row := veilStreamsUptoRow, standIns := [], harness := (true, "0c4d553d825677d0a9baf9cfd0f4897fcf915d3bb5e95acd5f9c64c89867afd6"), looks := true }, kinds := [], alts := [], laidByText := true, laidKinds := [.data, .data, .data], laidTests := true, laidLooks := .later }
def VeilStreamsUptoCardSaid : Prop := Claim7.holds Tryd.pinned (.plain (OpenSpec.upto veilStreamsSpec)) veilStreamsUptoCard
end Rows
end Go.Proofs.YtojgigoknjenoaaDoor
