/-
  Addresses: the leading zeros of a byte.
-/
import Derived.Test.YtpmmilnoeoapoaaDoorRows
import Derived.Test.YtpmmilnoeoapoaaDoorSx
import Derived.Test.YtpmmilnoeoapoaaDoorBa
import Derived.WalkKit
import Derived.WalkSpells
import Derived.Shelf.Small.Bits
import Derived.Shelf.Lay
import Derived.Ground.NamesProg
namespace Go.Proofs
open Go.Shelf
shelf_lay Lays.n131 Nm 131 at Tryd as Tryd.laysLz8
end Go.Proofs
namespace Go.Proofs.YtpmmilnoeoapoaaDoor.Bc
open Go Go.RowKit

theorem Lz8_any (x : Int) (w : World) (h0 : 0 ≤ x) (h1 : x ≤ 255) :
    Calls Tryd.prog 16 #[.int .u8 x] w fun e w' => e = .returned (.int .i64 (8 - (Lib.bitLen x.toNat : Int))) ∧ w' = w :=
  Any.bits_LeadingZeros8 Tryd.laysLz8 x w h0 h1
/-- the first one of a byte that is not zero -/
def lz (x : Nat) : Nat := 8 - Lib.bitLen x
theorem lz_all : ∀ x : Fin 256, x.val ≠ 0 → lz x.val < 8 ∧ x.val.testBit (7 - lz x.val) = true ∧ ∀ j : Fin 8, j.val < lz x.val → x.val.testBit (7 - j.val) = false := by decide +kernel
theorem lz_is (x : Nat) (h : x < 256) (h0 : x ≠ 0) : lz x < 8 ∧ x.testBit (7 - lz x) = true ∧ ∀ j, j < lz x → x.testBit (7 - j) = false := by
  obtain ⟨h1, h2, h3⟩ := lz_all ⟨x, h⟩ h0
  have h1 : lz x < 8 := h1
  exact ⟨h1, h2, fun j hj => h3 ⟨j, by omega⟩ hj⟩
theorem lz_int (x : Nat) (h : x < 256) : 8 - (Lib.bitLen (x : Int).toNat : Int) = (lz x : Int) := by
  have l := Lib.bitLen_le8 ⟨x, h⟩
  simp only at l
  unfold lz
  rw [Int.toNat_natCast]
  omega
end Go.Proofs.YtpmmilnoeoapoaaDoor.Bc
