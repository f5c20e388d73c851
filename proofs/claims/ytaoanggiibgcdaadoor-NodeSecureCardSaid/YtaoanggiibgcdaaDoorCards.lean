/-
  DERIVED. GIVEN WITH THE SEED: THE CARDS: each row of YtaoanggiibgcdaaDoorRows.lean that lists a variable, with what it lists TIED to the program's text (the seventh form; the later family's looks); each row that meets fmt, with fmt's text TOLD by the authors' own Lean function (tested against real Go, not proved from fmt's source: count such statements apart). THE CARD IS WHAT COUNTS. Prove the row's statement (the work); the ties are given (YtaoanggiibgcdaaDoorTie.lean); close each card by the builder's one call (the guide's Derived/Test/ToyasCard.lean, 'card_holds'). Laid BY PROGRAM, IN A SANDBOX (cutbox-door.mjs). By AI agents, Wed Nov 11 2026. No macro, syntax, notation, axiom, sorry.
-/
import Derived.Test.YtaoanggiibgcdaaDoorRows
import GoSem.ClaimSeven
namespace Go.Proofs.YtaoanggiibgcdaaDoor
namespace Rows

/-- THE TIED CARD OF 'coveylaw12.NodeSecure'. -/
def nodeSecureCard : Claim7 := { stood := { row := nodeSecureRow, standIns := [], harness := (true, "0af9b70f028a001079c579b052770dda88fc483af850a7f9b9b0fe30db22e54f"), looks := true }, kinds := [], alts := [], laidByText := true, laidKinds := [.data, .data, .data], laidTests := true, laidLooks := .later }
def NodeSecureCardSaid : Prop := Claim7.holds Tryd.pinned (.plain (OpenSpec.ofChange nodeSecureSpec)) nodeSecureCard

/-- THE SECOND FORM's CARD OF 'coveylaw12.NodeSecure'. -/
def nodeSecureUptoCard : Claim7 := { stood := { row := nodeSecureUptoRow, standIns := [], harness := (true, "0af9b70f028a001079c579b052770dda88fc483af850a7f9b9b0fe30db22e54f"), looks := true }, kinds := [], alts := [], laidByText := true, laidKinds := [.data, .data, .data], laidTests := true, laidLooks := .later }
def NodeSecureUptoCardSaid : Prop := Claim7.holds Tryd.pinned (.plain (OpenSpec.upto nodeSecureSpec)) nodeSecureUptoCard
end Rows
end Go.Proofs.YtaoanggiibgcdaaDoor
