/-
  DERIVED. GIVEN WITH THE SEED: THE CARDS: each row of YtpmmilnoeoapoaaGreatDoorRows.lean that lists a variable, with what it lists TIED to the program's text (the seventh form; the later family's looks); each row that meets fmt, with fmt's text TOLD by the authors' own Lean function (tested against real Go, not proved from fmt's source: count such statements apart). THE CARD IS WHAT COUNTS. Prove the row's statement (the work); the ties are given (YtpmmilnoeoapoaaGreatDoorTie.lean); close each card by the builder's one call (the guide's Derived/Test/ToyasCard.lean, 'card_holds'). Laid BY PROGRAM, IN A SANDBOX (cutbox-door.mjs). By AI agents, Wed Nov 11 2026. No macro, syntax, notation, axiom, sorry.
-/
import Derived.Test.YtpmmilnoeoapoaaGreatDoorRows
import GoSem.ClaimSeven
namespace Go.Proofs.YtpmmilnoeoapoaaGreatDoor
namespace Rows

/-- THE TIED CARD OF 'coveylaw07.AddrPacks'. -/
def addrPacksCard : Claim7 := { stood := { row := addrPacksRow, standIns := [], harness := (true, "10bcc5bf23ca8adb9b462f5fca9965d5936a0829e048c7e3195231f195a00a29"), looks := true }, kinds := [], alts := [], laidByText := true, laidKinds := [.data, .data, .data, .data, .pinned], laidTests := true, laidLooks := .later }
def AddrPacksCardSaid : Prop := Claim7.holds Tryz.pinned (.plain (OpenSpec.ofChange addrPacksSpec)) addrPacksCard

/-- THE TIED CARD OF 'coveylaw07.AddrOrders'. -/
def addrOrdersCard : Claim7 := { stood := { row := addrOrdersRow, standIns := [], harness := (true, "10bcc5bf23ca8adb9b462f5fca9965d5936a0829e048c7e3195231f195a00a29"), looks := true }, kinds := [], alts := [], laidByText := true, laidKinds := [.data, .data, .data, .data, .pinned], laidTests := true, laidLooks := .later }
def AddrOrdersCardSaid : Prop := Claim7.holds Tryz.pinned (.plain (OpenSpec.ofChange addrOrdersSpec)) addrOrdersCard

/-- THE TIED CARD OF 'coveylaw07.AddrKinds'. -/
def addrKindsCard : Claim7 := { stood := { row := addrKindsRow, standIns := [], harness := (true, "10bcc5bf23ca8adb9b462f5fca9965d5936a0829e048c7e3195231f195a00a29"), looks := true }, kinds := [], alts := [], laidByText := true, laidKinds := [.data, .data, .data, .data, .pinned], laidTests := true, laidLooks := .later }
def AddrKindsCardSaid : Prop := Claim7.holds Tryz.pinned (.plain (OpenSpec.ofChange addrKindsSpec)) addrKindsCard

/-- THE TIED CARD OF 'coveylaw07.AddrSecure'. -/
def addrSecureCard : Claim7 := { stood := { row := addrSecureRow, standIns := [], harness := (true, "10bcc5bf23ca8adb9b462f5fca9965d5936a0829e048c7e3195231f195a00a29"), looks := true }, kinds := [], alts := [], laidByText := true, laidKinds := [.data, .data, .data, .data, .pinned], laidTests := true, laidLooks := .later }
def AddrSecureCardSaid : Prop := Claim7.holds Tryz.pinned (.plain (OpenSpec.ofChange addrSecureSpec)) addrSecureCard

/-- THE SECOND FORM's CARD OF 'coveylaw07.AddrPacks'. -/
def addrPacksUptoCard : Claim7 := { stood := { row := addrPacksUptoRow, standIns := [], harness := (true, "10bcc5bf23ca8adb9b462f5fca9965d5936a0829e048c7e3195231f195a00a29"), looks := true }, kinds := [], alts := [], laidByText := true, laidKinds := [.data, .data, .data, .data, .pinned], laidTests := true, laidLooks := .later }
def AddrPacksUptoCardSaid : Prop := Claim7.holds Tryz.pinned (.plain (OpenSpec.upto addrPacksSpec)) addrPacksUptoCard

/-- THE SECOND FORM's CARD OF 'coveylaw07.AddrOrders'. -/
def addrOrdersUptoCard : Claim7 := { stood := { row := addrOrdersUptoRow, standIns := [], harness := (true, "10bcc5bf23ca8adb9b462f5fca9965d5936a0829e048c7e3195231f195a00a29"), looks := true }, kinds := [], alts := [], laidByText := true, laidKinds := [.data, .data, .data, .data, .pinned], laidTests := true, laidLooks := .later }
def AddrOrdersUptoCardSaid : Prop := Claim7.holds Tryz.pinned (.plain (OpenSpec.upto addrOrdersSpec)) addrOrdersUptoCard

/-- THE SECOND FORM's CARD OF 'coveylaw07.AddrKinds'. -/
def addrKindsUptoCard : Claim7 := { stood := { row := addrKindsUptoRow, standIns := [], harness := (true, "10bcc5bf23ca8adb9b462f5fca9965d5936a0829e048c7e3195231f195a00a29"), looks := true }, kinds := [], alts := [], laidByText := true, laidKinds := [.data, .data, .data, .data, .pinned], laidTests := true, laidLooks := .later }
def AddrKindsUptoCardSaid : Prop := Claim7.holds Tryz.pinned (.plain (OpenSpec.upto addrKindsSpec)) addrKindsUptoCard

/-- THE SECOND FORM's CARD OF 'coveylaw07.AddrSecure'. -/
def addrSecureUptoCard : Claim7 := { stood := { row := addrSecureUptoRow, standIns := [], harness := (true, "10bcc5bf23ca8adb9b462f5fca9965d5936a0829e048c7e3195231f195a00a29"), looks := true }, kinds := [], alts := [], laidByText := true, laidKinds := [.data, .data, .data, .data, .pinned], laidTests := true, laidLooks := .later }
def AddrSecureUptoCardSaid : Prop := Claim7.holds Tryz.pinned (.plain (OpenSpec.upto addrSecureSpec)) addrSecureUptoCard
end Rows
end Go.Proofs.YtpmmilnoeoapoaaGreatDoor
