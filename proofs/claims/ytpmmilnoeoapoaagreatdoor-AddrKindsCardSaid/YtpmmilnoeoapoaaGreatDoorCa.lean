/-
  Addresses: the program's both; masked IPs.
-/
import Derived.Test.YtpmmilnoeoapoaaGreatDoorNb
import Derived.Test.YtpmmilnoeoapoaaGreatDoorBl
set_option linter.unusedVariables false
namespace Go.Proofs.YtpmmilnoeoapoaaGreatDoor.Ca
open Go Go.RowKit Go.Proofs.YtpmmilnoeoapoaaGreatDoor.Hz Go.Proofs.YtpmmilnoeoapoaaGreatDoor.Na Go.Proofs.YtpmmilnoeoapoaaGreatDoor.Nb Go.Proofs.YtpmmilnoeoapoaaGreatDoor.Sx

/-- the bytes of an IP that count -/
def ml (ip m : ByteArray) (n : Nat) : List Int := (List.range n).map fun j => ((by_ ip j &&& by_ m j : Nat) : Int)
def ms (ip m : ByteArray) : ByteArray := strOfNums (ml ip m m.size)
theorem ml_len (ip m : ByteArray) (n : Nat) : (ml ip m n).length = n := by simp [ml]
theorem ml_at (ip m : ByteArray) (n k : Nat) (h : k < n) : (ml ip m n).getD k 0 = ((by_ ip k &&& by_ m k : Nat) : Int) := by
  simp [ml, List.getD, List.getElem?_map, List.getElem?_range h]
def iOf : Value → Int | .int _ n => n | _ => 0

set_option maxRecDepth 100000 in
set_option maxHeartbeats 3200000 in
theorem both_any (ip m : ByteArray) (w : World) (hm : m.size ≤ 16) (hi : m.size ≤ ip.size) (hb : ip.size ≤ 100) : Calls Tryz.prog 181 #[.string ip, .string m] w fun e w' => e = .returned (.string (ms ip m)) ∧ Below w.heap.size w w' := by
  have hmk : ∀ w, (Instr.makeSlice 66 (.int .i64 (m.size : Int)) (.int .i64 (m.size : Int))).run Tryz.prog w = .ok (.slice (some ⟨w.heap.size, 0, none⟩) m.size m.size) (w.alloc (.cells (bytesI (List.replicate m.size 0)) 5)) := fun w => makeN m.size w (by omega)
  go_enter Tryz.func181, Tryz.ntmps181
  go_wp2_with fail
  clear hmk
  go_loopw [12] (fun i wr => ∃ (k : Nat), k ≤ m.size ∧ i = .int .i64 (k : Int) ∧ Hid (Bk wr w.heap.size ((ml ip m m.size).take k ++ List.replicate (m.size - k) 0)) ∧ Hid (Below w.heap.size w wr)) (fun i _ => m.size - (iOf i).toNat)
  case atStart => exact ⟨0, Nat.zero_le _, rfl, Lib.hid (by rw [List.take_zero, List.nil_append, Nat.sub_zero]; exact Bk.new w _ _), Lib.hid ((Below.refl _ _).alloc (Nat.le_refl _) _)⟩
  case round =>
    obtain ⟨k, hk, rfl, HB, HBL⟩ := hrel
    by_cases hlt : k < m.size
    · have hln : ((ml ip m m.size).take k ++ List.replicate (m.size - k) 0).length = m.size := by rw [List.length_append, List.length_take, ml_len, List.length_replicate]; omega
      have hcx := HB.out.cell k (by omega)
      have hfx := HB.out.free k
      have HS := Lib.hid (set_step (ml ip m m.size) m.size k _ (ml_len _ _ _) hlt (ml_at ip m _ k hlt))
      have hki : k < ip.size := by omega
      have h0 : (0 : Int) ≤ (k : Int) := by omega
      have h1 : (k : Int) < (ip.size : Int) := by omega
      have h2 : (k : Int) < (m.size : Int) := by omega
      have hx := by_at ip k hki
      have hy := by_at m k hlt
      have hand := Bk.and8 (by_ ip k) (by_ m k) (by_lt _ _) (by_lt _ _)
      generalize by_ ip k &&& by_ m k = z at hand HS
      generalize by_ ip k = x at hx hand
      generalize by_ m k = y at hy hand
      generalize List.getD _ k 0 = q at hcx
      go_wp2_with fail
      go_region
      all_goals
        go_wp2_with fail
        exact ⟨⟨k + 1, by omega, by go_num, Lib.hid (by rw [← HS.out]; exact (HB.out.set k _).drew), Lib.hid (HBL.out.setCell (p := ⟨w.heap.size, k, none⟩) (Nat.le_refl _) _).drew⟩, by simp [iOf]; omega⟩
    · obtain rfl : k = m.size := by omega
      have hB := HB.out
      rw [Nat.sub_self, List.replicate_zero, List.append_nil, List.take_of_length_le (by rw [ml_len]; omega)] at hB
      have hcv := hB.conv m.size m.size (ml_len _ _ _)
      rw [show strOfNums (ml ip m m.size) = ms ip m from rfl] at hcv
      clear hB
      go_wp2_with fail
      go_ret
      exact ⟨rfl, HBL.out⟩
end Go.Proofs.YtpmmilnoeoapoaaGreatDoor.Ca
