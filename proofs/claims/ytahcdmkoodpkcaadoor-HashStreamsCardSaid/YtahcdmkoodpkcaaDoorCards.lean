/-
  DERIVED. GIVEN WITH THE SEED: THE CARDS: each row of YtahcdmkoodpkcaaDoorRows.lean that lists a variable, with what it lists TIED to the program's text (the seventh form; the later family's looks); each row that meets fmt, with fmt's text TOLD by the authors' own Lean function (tested against real Go, not proved from fmt's source: count such statements apart). THE CARD IS WHAT COUNTS. Prove the row's statement (the work); the ties are given (YtahcdmkoodpkcaaDoorTie.lean); close each card by the builder's one call (the guide's Derived/Test/ToyasCard.lean, 'card_holds'). Laid BY PROGRAM, IN A SANDBOX (cutbox-door.mjs). By AI agents, Wed Nov 11 2026. No macro, syntax, notation, axiom, sorry.
-/
import Derived.Test.YtahcdmkoodpkcaaDoorRows
import GoSem.ClaimSeven
namespace Go.Proofs.YtahcdmkoodpkcaaDoor
namespace Rows

/-- THE TIED CARD OF 'coveylaw03.HashStreams'. -/
def hashStreamsCard : Claim7 := { stood := { row := hashStreamsRow, standIns := [], harness := (true, "79b17c3f7d67c7585350c80a9df63d70690fb26d89c6986ca17c173c4efae48f"), looks := true }, kinds := [], alts := [], laidByText := true, laidKinds := [.data, .data, .data], laidTests := true, laidLooks := .later }
def HashStreamsCardSaid : Prop := Claim7.holds Tryd.pinned (.plain (OpenSpec.ofChange hashStreamsSpec)) hashStreamsCard

/-- THE TIED CARD OF 'coveylaw12.NodeBits'. -/
def nodeBitsCard : Claim7 := { stood := { row := nodeBitsRow, standIns := [], harness := (true, "79b17c3f7d67c7585350c80a9df63d70690fb26d89c6986ca17c173c4efae48f"), looks := true }, kinds := [], alts := [], laidByText := true, laidKinds := [.data, .data, .data], laidTests := true, laidLooks := .later }
def NodeBitsCardSaid : Prop := Claim7.holds Tryd.pinned (.plain (OpenSpec.ofChange nodeBitsSpec)) nodeBitsCard

/-- THE SECOND FORM's CARD OF 'coveylaw03.HashStreams'. -/
def hashStreamsUptoCard : Claim7 := { stood := { row := hashStreamsUptoRow, standIns := [], harness := (true, "79b17c3f7d67c7585350c80a9df63d70690fb26d89c6986ca17c173c4efae48f"), looks := true }, kinds := [], alts := [], laidByText := true, laidKinds := [.data, .data, .data], laidTests := true, laidLooks := .later }
def HashStreamsUptoCardSaid : Prop := Claim7.holds Tryd.pinned (.plain (OpenSpec.upto hashStreamsSpec)) hashStreamsUptoCard

/-- THE SECOND FORM's CARD OF 'coveylaw12.NodeBits'. -/
def nodeBitsUptoCard : Claim7 := { stood := { row := nodeBitsUptoRow, standIns := [], harness := (true, "79b17c3f7d67c7585350c80a9df63d70690fb26d89c6986ca17c173c4efae48f"), looks := true }, kinds := [], alts := [], laidByText := true, laidKinds := [.data, .data, .data], laidTests := true, laidLooks := .later }
def NodeBitsUptoCardSaid : Prop := Claim7.holds Tryd.pinned (.plain (OpenSpec.upto nodeBitsSpec)) nodeBitsUptoCard
end Rows
end Go.Proofs.YtahcdmkoodpkcaaDoor
