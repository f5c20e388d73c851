/-
  Addresses: the reference's Valid, pack, Pack.
-/
import Derived.Test.YtpmmilnoeoapoaaDoorAg
namespace Go.Proofs.YtpmmilnoeoapoaaDoor.Ac
open Go Go.RowKit Go.Proofs.YtpmmilnoeoapoaaDoor.Hz Go.Proofs.YtpmmilnoeoapoaaDoor.Sx

set_option maxRecDepth 100000 in
set_option maxHeartbeats 3200000 in
theorem RVal_any (f : Int) (ip : ByteArray) (p : Int) (w : World) : Calls Tryd.prog 17 #[.agg #[.int .i64 f, .string ip, .int .i64 p]] w fun e w' => e = .returned (.bool (decide (okA f ip p))) ∧ Below w.heap.size w w' := by
  by_cases f4 : f = 4
  · subst f4
    by_cases z : (ip.size : Int) = 4
    · by_cases p1 : 1 ≤ p
      · by_cases p2 : p ≤ 65535
        · have D : decide (okA 4 ip p) = true := decide_eq_true (by unfold okA; omega)
          have DD := Lib.hid D
          clear D
          go_enter Tryd.func17, Tryd.ntmps17
          go_wp2
          go_ret
          exact ⟨by rw [DD.out]; rfl, (Below.refl _ _).alloc (Nat.le_refl _) _⟩
        · have D : decide (okA 4 ip p) = false := decide_eq_false (by unfold okA; omega)
          have DD := Lib.hid D
          clear D
          go_enter Tryd.func17, Tryd.ntmps17
          go_wp2
          go_ret
          exact ⟨by rw [DD.out]; rfl, (Below.refl _ _).alloc (Nat.le_refl _) _⟩
      · have D : decide (okA 4 ip p) = false := decide_eq_false (by unfold okA; omega)
        have DD := Lib.hid D
        clear D
        go_enter Tryd.func17, Tryd.ntmps17
        go_wp2
        go_ret
        exact ⟨by rw [DD.out]; rfl, (Below.refl _ _).alloc (Nat.le_refl _) _⟩
    · have D : decide (okA 4 ip p) = false := decide_eq_false (by unfold okA; omega)
      have DD := Lib.hid D
      clear D
      go_enter Tryd.func17, Tryd.ntmps17
      go_wp2
      go_ret
      exact ⟨by rw [DD.out]; rfl, (Below.refl _ _).alloc (Nat.le_refl _) _⟩
  · by_cases f6 : f = 6
    · subst f6
      by_cases z : (ip.size : Int) = 16
      · by_cases p1 : 1 ≤ p
        · by_cases p2 : p ≤ 65535
          · have D : decide (okA 6 ip p) = true := decide_eq_true (by unfold okA; omega)
            have DD := Lib.hid D
            clear D
            go_enter Tryd.func17, Tryd.ntmps17
            go_wp2
            go_ret
            exact ⟨by rw [DD.out]; rfl, (Below.refl _ _).alloc (Nat.le_refl _) _⟩
          · have D : decide (okA 6 ip p) = false := decide_eq_false (by unfold okA; omega)
            have DD := Lib.hid D
            clear D
            go_enter Tryd.func17, Tryd.ntmps17
            go_wp2
            go_ret
            exact ⟨by rw [DD.out]; rfl, (Below.refl _ _).alloc (Nat.le_refl _) _⟩
        · have D : decide (okA 6 ip p) = false := decide_eq_false (by unfold okA; omega)
          have DD := Lib.hid D
          clear D
          go_enter Tryd.func17, Tryd.ntmps17
          go_wp2
          go_ret
          exact ⟨by rw [DD.out]; rfl, (Below.refl _ _).alloc (Nat.le_refl _) _⟩
      · have D : decide (okA 6 ip p) = false := decide_eq_false (by unfold okA; omega)
        have DD := Lib.hid D
        clear D
        go_enter Tryd.func17, Tryd.ntmps17
        go_wp2
        go_ret
        exact ⟨by rw [DD.out]; rfl, (Below.refl _ _).alloc (Nat.le_refl _) _⟩
    · have D : decide (okA f ip p) = false := decide_eq_false (by unfold okA; omega)
      have DD := Lib.hid D
      clear D
      go_enter Tryd.func17, Tryd.ntmps17
      go_wp2
      go_ret
      exact ⟨by rw [DD.out]; rfl, (Below.refl _ _).alloc (Nat.le_refl _) _⟩


end Go.Proofs.YtpmmilnoeoapoaaDoor.Ac
