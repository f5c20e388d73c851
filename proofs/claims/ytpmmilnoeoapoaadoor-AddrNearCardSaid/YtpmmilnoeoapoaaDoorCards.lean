/-
  DERIVED. GIVEN WITH THE SEED: THE CARDS: each row of YtpmmilnoeoapoaaDoorRows.lean that lists a variable, with what it lists TIED to the program's text (the seventh form; the later family's looks); each row that meets fmt, with fmt's text TOLD by the authors' own Lean function (tested against real Go, not proved from fmt's source: count such statements apart). THE CARD IS WHAT COUNTS. Prove the row's statement (the work); the ties are given (YtpmmilnoeoapoaaDoorTie.lean); close each card by the builder's one call (the guide's Derived/Test/ToyasCard.lean, 'card_holds'). Laid BY PROGRAM, IN A SANDBOX (cutbox-door.mjs). By AI agents, Wed Nov 11 2026. No macro, syntax, notation, axiom, sorry.
-/
import Derived.Test.YtpmmilnoeoapoaaDoorRows
import GoSem.ClaimSeven
namespace Go.Proofs.YtpmmilnoeoapoaaDoor
namespace Rows

/-- THE TIED CARD OF 'coveylaw07.AddrNear'. -/
def addrNearCard : Claim7 := { stood := { row := addrNearRow, standIns := [], harness := (true, "9f6e91c5698c197b09eaa01e4322bb4b65317919f6d44152f5f8990a52b830c0"), looks := true }, kinds := [], alts := [], laidByText := true, laidKinds := [.data, .data, .data, .data, .pinned], laidTests := true, laidLooks := .later }
def AddrNearCardSaid : Prop := Claim7.holds Tryd.pinned (.plain (OpenSpec.ofChange addrNearSpec)) addrNearCard

/-- THE SECOND FORM's CARD OF 'coveylaw07.AddrNear'. -/
def addrNearUptoCard : Claim7 := { stood := { row := addrNearUptoRow, standIns := [], harness := (true, "9f6e91c5698c197b09eaa01e4322bb4b65317919f6d44152f5f8990a52b830c0"), looks := true }, kinds := [], alts := [], laidByText := true, laidKinds := [.data, .data, .data, .data, .pinned], laidTests := true, laidLooks := .later }
def AddrNearUptoCardSaid : Prop := Claim7.holds Tryd.pinned (.plain (OpenSpec.upto addrNearSpec)) addrNearUptoCard
end Rows
end Go.Proofs.YtpmmilnoeoapoaaDoor
