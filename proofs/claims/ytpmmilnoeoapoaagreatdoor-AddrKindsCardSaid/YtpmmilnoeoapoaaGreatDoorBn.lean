/-
  Addresses: the law's Light.
-/
import Derived.Test.YtpmmilnoeoapoaaGreatDoorBl
import Derived.WalkKit
import Derived.WalkSpells
import Derived.LoopTactic
import Derived.Outline
set_option linter.unusedVariables false
namespace Go.Proofs.YtpmmilnoeoapoaaGreatDoor.Bk
open Go Go.RowKit Go.Proofs.YtpmmilnoeoapoaaGreatDoor.Hz Go.Proofs.YtpmmilnoeoapoaaGreatDoor.Na Go.Proofs.YtpmmilnoeoapoaaGreatDoor.Sx

/-- addresses in a row -/
structure Adr where
  f : Int
  ip : ByteArray
  p : Int
def AA (w : World) (a : Option Addr) (len : Nat) (N : Nat → Adr) : Prop := 0 < len → ∃ b off, a = some ⟨b, off, none⟩ ∧ b < w.heap.size ∧ ∀ i, i < len →
  w.cell? ⟨b, off + i * 3, none⟩ = some (.int .i64 (N i).f) ∧ w.cell? ⟨b, off + i * 3 + 1, none⟩ = some (.string (N i).ip) ∧ w.cell? ⟨b, off + i * 3 + 2, none⟩ = some (.int .i64 (N i).p)
theorem AA.below {w w' : World} {a : Option Addr} {len : Nat} {N : Nat → Adr} (h : AA w a len N) (hb : Below w.heap.size w w') : AA w' a len N := fun h0 => by
  obtain ⟨b, off, e, hlt, hc⟩ := h h0
  exact ⟨b, off, e, Nat.lt_of_lt_of_le hlt hb.size, fun i hi => ⟨kcell hb (hc i hi).1, kcell hb (hc i hi).2.1, kcell hb (hc i hi).2.2⟩⟩
/-- few and short -/
def lt40 (N : Nat → Adr) (len : Nat) : Prop := (∀ i, i < len → (N i).ip.size ≤ 40) ∧ len ≤ 100
instance (N : Nat → Adr) (len : Nat) : Decidable (lt40 N len) := by unfold lt40; infer_instance

set_option maxRecDepth 100000 in
set_option maxHeartbeats 2000000 in
theorem Light_any (a : Option Addr) (len cap : Nat) (N : Nat → Adr) (w : World) (hl : len ≤ 140737488351232) (hN : AA w a len N) :
    Calls Tryz.prog 7 #[.slice a len cap] w fun e w' => e = .returned (.bool (decide (lt40 N len))) ∧ Below w.heap.size w w' := by
  have HN := Lib.hid hN
  clear hN
  go_enter Tryz.func7, Tryz.ntmps7
  go_wp2_with fail
  go_loopw [7] (fun i wr => ∃ (k : Nat), k ≤ len ∧ i = .int .i64 (k : Int) ∧ Hid (∀ j, j < k → (N j).ip.size ≤ 40) ∧ Hid (Below w.heap.size w wr)) (fun i _ => len - (iOf i).toNat)
  case atStart => exact ⟨0, Nat.zero_le _, rfl, Lib.hid (fun j hj => by omega), Lib.hid (Below.refl _ _)⟩
  case round =>
    obtain ⟨k, hk, rfl, HO, HB⟩ := hrel
    by_cases hkl : k < len
    · have hN := HN.out.below HB.out
      obtain ⟨b, off, rfl, hb, hc⟩ := hN (by omega)
      obtain ⟨c0, c1, c2⟩ := hc k hkl
      clear hc hN
      have HB5 := Lib.hid (blw_alloc (o := .cells #[.int .i64 (N k).f, .string (N k).ip, .int .i64 (N k).p] 26) HB.out)
      by_cases h40 : 40 < (N k).ip.size
      · have h41 : (40 : Int) < ((N k).ip.size : Int) := by omega
        have HF := Lib.hid (show decide (lt40 N len) = false from decide_eq_false (fun h => by have := h.1 k hkl; omega))
        go_wp2_with fail
        go_ret
        exact ⟨by rw [HF.out]; rfl, HB5.out⟩
      · have h41 : ¬ (40 : Int) < ((N k).ip.size : Int) := by omega
        have HO2 := Lib.hid (show ∀ j, j < k + 1 → (N j).ip.size ≤ 40 from fun j hj => by
          obtain h | rfl : j < k ∨ j = k := by omega
          · exact HO.out j h
          · omega)
        go_wp2_with fail
        exact ⟨⟨k + 1, by omega, by go_num, HO2, HB5⟩, by simp [iOf]; omega⟩
    · obtain rfl : k = len := by omega
      have HF := Lib.hid (show decide (lt40 N k) = decide ((k : Int) ≤ 100) from decide_eq_decide.2 ⟨fun h => by have := h.2; omega, fun h => ⟨HO.out, by omega⟩⟩)
      go_wp2_with fail
      go_ret
      exact ⟨by rw [HF.out]; rfl, HB.out⟩
end Go.Proofs.YtpmmilnoeoapoaaGreatDoor.Bk
