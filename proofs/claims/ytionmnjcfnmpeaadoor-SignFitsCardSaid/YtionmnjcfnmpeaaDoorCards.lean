/-
  DERIVED. GIVEN WITH THE SEED: THE CARDS: each row of YtionmnjcfnmpeaaDoorRows.lean that lists a variable, with what it lists TIED to the program's text (the seventh form; the later family's looks); each row that meets fmt, with fmt's text TOLD by the authors' own Lean function (tested against real Go, not proved from fmt's source: count such statements apart). THE CARD IS WHAT COUNTS. Prove the row's statement (the work); the ties are given (YtionmnjcfnmpeaaDoorTie.lean); close each card by the builder's one call (the guide's Derived/Test/ToyasCard.lean, 'card_holds'). Laid BY PROGRAM, IN A SANDBOX (cutbox-door.mjs). By AI agents, Wed Nov 11 2026. No macro, syntax, notation, axiom, sorry.
-/
import Derived.Test.YtionmnjcfnmpeaaDoorRows
import GoSem.ClaimSeven
namespace Go.Proofs.YtionmnjcfnmpeaaDoor
namespace Rows

/-- THE TIED CARD OF 'coveylaw08.SignFits'. -/
def signFitsCard : Claim7 := { stood := { row := signFitsRow, standIns := [], harness := (true, "d8c45520f1177ffbd79096d71266ac23c93cbca6364eb1434338f3df5d81242a"), looks := true }, kinds := [], alts := [], laidByText := true, laidKinds := [.data, .data, .data], laidTests := true, laidLooks := .later }
def SignFitsCardSaid : Prop := Claim7.holds Tryd.pinned (.plain (OpenSpec.ofChange signFitsSpec)) signFitsCard

/-- THE TIED CARD OF 'coveylaw12.NodeBits'. -/
def nodeBitsCard : Claim7 := { stood := { row := nodeBitsRow, standIns := [], harness := (true, "d8c45520f1177ffbd79096d71266ac23c93cbca6364eb1434338f3df5d81242a"), looks := true }, kinds := [], alts := [], laidByText := true, laidKinds := [.data, .data, .data], laidTests := true, laidLooks := .later }
def NodeBitsCardSaid : Prop := Claim7.holds Tryd.pinned (.plain (OpenSpec.ofChange nodeBitsSpec)) nodeBitsCard

/-- THE TIED CARD OF 'coveylaw12.NodeSecure'. -/
def nodeSecureCard : Claim7 := { stood := { row := nodeSecureRow, standIns := [], harness := (true, "d8c45520f1177ffbd79096d71266ac23c93cbca6364eb1434338f3df5d81242a"), looks := true }, kinds := [], alts := [], laidByText := true, laidKinds := [.data, .data, .data], laidTests := true, laidLooks := .later }
def NodeSecureCardSaid : Prop := Claim7.holds Tryd.pinned (.plain (OpenSpec.ofChange nodeSecureSpec)) nodeSecureCard

/-- THE SECOND FORM's CARD OF 'coveylaw08.SignFits'. -/
def signFitsUptoCard : Claim7 := { stood := { row := signFitsUptoRow, standIns := [], harness := (true, "d8c45520f1177ffbd79096d71266ac23c93cbca6364eb1434338f3df5d81242a"), looks := true }, kinds := [], alts := [], laidByText := true, laidKinds := [.data, .data, .data], laidTests := true, laidLooks := .later }
def SignFitsUptoCardSaid : Prop := Claim7.holds Tryd.pinned (.plain (OpenSpec.upto signFitsSpec)) signFitsUptoCard

/-- THE SECOND FORM's CARD OF 'coveylaw12.NodeBits'. -/
def nodeBitsUptoCard : Claim7 := { stood := { row := nodeBitsUptoRow, standIns := [], harness := (true, "d8c45520f1177ffbd79096d71266ac23c93cbca6364eb1434338f3df5d81242a"), looks := true }, kinds := [], alts := [], laidByText := true, laidKinds := [.data, .data, .data], laidTests := true, laidLooks := .later }
def NodeBitsUptoCardSaid : Prop := Claim7.holds Tryd.pinned (.plain (OpenSpec.upto nodeBitsSpec)) nodeBitsUptoCard

/-- THE SECOND FORM's CARD OF 'coveylaw12.NodeSecure'. -/
def nodeSecureUptoCard : Claim7 := { stood := { row := nodeSecureUptoRow, standIns := [], harness := (true, "d8c45520f1177ffbd79096d71266ac23c93cbca6364eb1434338f3df5d81242a"), looks := true }, kinds := [], alts := [], laidByText := true, laidKinds := [.data, .data, .data], laidTests := true, laidLooks := .later }
def NodeSecureUptoCardSaid : Prop := Claim7.holds Tryd.pinned (.plain (OpenSpec.upto nodeSecureSpec)) nodeSecureUptoCard
end Rows
end Go.Proofs.YtionmnjcfnmpeaaDoor
