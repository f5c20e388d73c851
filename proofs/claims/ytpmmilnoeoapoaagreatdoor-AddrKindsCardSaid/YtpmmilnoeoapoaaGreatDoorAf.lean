/-
  Addresses: the program's pack, Pack.
-/
import Derived.Test.YtpmmilnoeoapoaaGreatDoorAe
import Derived.Laws.BytesArg
set_option linter.unusedVariables false
namespace Go.Proofs.YtpmmilnoeoapoaaGreatDoor.Ac
open Go Go.RowKit Go.Proofs.YtpmmilnoeoapoaaGreatDoor.Hz

theorem cnv2 (w : World) (u v : Int) : (convert 66 9 (.slice (some ⟨w.heap.size, 0, none⟩) 2 2)).run Tryz.prog (w.alloc (.cells #[.int .u8 u, .int .u8 v] 5)) = .ok (.string (strOfNums [u, v])) (w.alloc (.cells #[.int .u8 u, .int .u8 v] 5)) := by
  refine run_convert_bytes_arg (P := Tryz.prog) _ 66 5 Tryz.underlying66 Tryz.underlying5 w.heap.size 0 2 2 [u, v] rfl (fun i hi => ?_) 9 Tryz.underlying9
  obtain rfl | rfl : i = 0 ∨ i = 1 := by omega
  · simp [go_sem]
  · simp [go_sem]

/-- the pack of an address -/
def pk (ip : ByteArray) (p : Int) : ByteArray := ip ++ strOfNums [p / 256, p % 256]

set_option maxHeartbeats 1000000 in
theorem pack_any (f : Int) (ip : ByteArray) (p : Int) (w : World) (hz : ip.size ≤ 16) (p1 : 1 ≤ p) (p2 : p ≤ 65535) : Calls Tryz.prog 46 #[.agg #[.int .i64 f, .string ip, .int .i64 p]] w fun e w' => e = .returned (.string (pk ip p)) ∧ Below w.heap.size w w' := by
  have hcv := cnv2 (w.alloc (.cells #[.int .i64 f, .string ip, .int .i64 p] 26)) (p / 256) (p % 256)
  rw [World.size_alloc] at hcv
  go_enter Tryz.func46, Tryz.ntmps46
  have hs : (strOfNums [p / 256, p % 256]).size = 2 := by rw [strOfNums_size]; rfl
  go_wp2
  go_ret
  exact ⟨rfl, ((Below.refl _ _).alloc (Nat.le_refl _) _).alloc (by simp) _⟩

set_option maxHeartbeats 1000000 in
theorem PackF_ok (f : Int) (ip : ByteArray) (p : Int) (b : Nat) (w : World) (h : okA f ip p) (k0 : w.cell? ⟨b, 0, none⟩ = some (.int .i64 f)) (k1 : w.cell? ⟨b, 1, none⟩ = some (.string ip)) (k2 : w.cell? ⟨b, 2, none⟩ = some (.int .i64 p)) : Calls Tryz.prog 50 #[.pointer (some ⟨b, 0, none⟩)] w fun e w' => e = .returned (.string (pk ip p)) ∧ Below w.heap.size w w' := by
  have HA := Lib.hid (fun w => (ask_ok f ip p w h))
  have HP := Lib.hid (fun w => (pack_any f ip p w (by obtain ⟨h, _⟩ := h; omega) h.2.1 h.2.2))
  clear h
  go_enter Tryz.func50, Tryz.ntmps50
  go_wp2_with fail
  refine (HA.out _).mono ?_
  rintro e w2 ⟨rfl, hb⟩
  have q0 := kcell hb k0
  have q1 := kcell hb k1
  have q2 := kcell hb k2
  clear k0 k1 k2
  go_wp2_with fail
  refine (HP.out _).mono ?_
  rintro e w3 ⟨rfl, hb3⟩
  have hb4 := blw hb hb3
  go_wp2_with fail
  go_ret
  exact ⟨rfl, hb4⟩

set_option maxHeartbeats 1000000 in
theorem PackF_no (f : Int) (ip : ByteArray) (p : Int) (b : Nat) (w : World) (h : ¬ okA f ip p) (k0 : w.cell? ⟨b, 0, none⟩ = some (.int .i64 f)) (k1 : w.cell? ⟨b, 1, none⟩ = some (.string ip)) (k2 : w.cell? ⟨b, 2, none⟩ = some (.int .i64 p)) : Calls Tryz.prog 50 #[.pointer (some ⟨b, 0, none⟩)] w fun e w' => e = .panicked [{ v := .iface 27 (.int .i64 1), recovered := false }] ∧ Below w.heap.size w w' := by
  have HA := Lib.hid (fun w => (ask_no f ip p w h))
  clear h
  go_enter Tryz.func50, Tryz.ntmps50
  go_wp2_with fail
  refine (HA.out _).mono ?_
  rintro e w2 ⟨rfl, hb⟩
  exact ⟨rfl, rfl, hb⟩
end Go.Proofs.YtpmmilnoeoapoaaGreatDoor.Ac
