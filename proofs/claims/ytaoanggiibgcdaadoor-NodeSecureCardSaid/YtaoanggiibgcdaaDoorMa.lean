/-
  Addresses: the specification's Valid and mask. (made by mk_ma.py)
-/
import Derived.Test.YtaoanggiibgcdaaDoorNl
import Derived.Test.YtaoanggiibgcdaaDoorDi
import Derived.Test.YtaoanggiibgcdaaDoorHr
namespace Go.Proofs.YtaoanggiibgcdaaDoor.Ma
open Go Go.RowKit Go.Shelf Go.Proofs.YtaoanggiibgcdaaDoor.Hz Go.Proofs.YtaoanggiibgcdaaDoor.Na Go.Proofs.YtaoanggiibgcdaaDoor.Nb

def okIP (f : Int) (ip : ByteArray) (p : Int) : Prop := ((f = 4 ∧ ip.size = 4) ∨ (f = 6 ∧ ip.size = 16)) ∧ 1 ≤ p ∧ p ≤ 65535
instance (f : Int) (ip : ByteArray) (p : Int) : Decidable (okIP f ip p) := by unfold okIP; infer_instance
abbrev ag (f : Int) (ip : ByteArray) (p : Int) : Value := .agg #[.int .i64 f, .string ip, .int .i64 p]

set_option maxRecDepth 100000 in
set_option maxHeartbeats 3200000 in
theorem RVal_any (f : Int) (ip : ByteArray) (p : Int) (w : World) : Calls Tryd.prog 4 #[.agg #[.int .i64 f, .string ip, .int .i64 p]] w fun e w' => e = .returned (.bool (decide (okIP f ip p))) ∧ Below w.heap.size w w' := by
  by_cases f4 : f = 4
  · subst f4
    by_cases z : (ip.size : Int) = 4
    · by_cases p1 : 1 ≤ p
      · by_cases p2 : p ≤ 65535
        · have D : decide (okIP 4 ip p) = true := decide_eq_true (by unfold okIP; omega)
          have DD := Lib.hid D
          clear D
          go_enter Tryd.func4, Tryd.ntmps4
          go_wp2
          go_ret
          exact ⟨by rw [DD.out]; rfl, (Below.refl _ _).alloc (Nat.le_refl _) _⟩
        · have D : decide (okIP 4 ip p) = false := decide_eq_false (by unfold okIP; omega)
          have DD := Lib.hid D
          clear D
          go_enter Tryd.func4, Tryd.ntmps4
          go_wp2
          go_ret
          exact ⟨by rw [DD.out]; rfl, (Below.refl _ _).alloc (Nat.le_refl _) _⟩
      · have D : decide (okIP 4 ip p) = false := decide_eq_false (by unfold okIP; omega)
        have DD := Lib.hid D
        clear D
        go_enter Tryd.func4, Tryd.ntmps4
        go_wp2
        go_ret
        exact ⟨by rw [DD.out]; rfl, (Below.refl _ _).alloc (Nat.le_refl _) _⟩
    · have D : decide (okIP 4 ip p) = false := decide_eq_false (by unfold okIP; omega)
      have DD := Lib.hid D
      clear D
      go_enter Tryd.func4, Tryd.ntmps4
      go_wp2
      go_ret
      exact ⟨by rw [DD.out]; rfl, (Below.refl _ _).alloc (Nat.le_refl _) _⟩
  · by_cases f6 : f = 6
    · subst f6
      by_cases z : (ip.size : Int) = 16
      · by_cases p1 : 1 ≤ p
        · by_cases p2 : p ≤ 65535
          · have D : decide (okIP 6 ip p) = true := decide_eq_true (by unfold okIP; omega)
            have DD := Lib.hid D
            clear D
            go_enter Tryd.func4, Tryd.ntmps4
            go_wp2
            go_ret
            exact ⟨by rw [DD.out]; rfl, (Below.refl _ _).alloc (Nat.le_refl _) _⟩
          · have D : decide (okIP 6 ip p) = false := decide_eq_false (by unfold okIP; omega)
            have DD := Lib.hid D
            clear D
            go_enter Tryd.func4, Tryd.ntmps4
            go_wp2
            go_ret
            exact ⟨by rw [DD.out]; rfl, (Below.refl _ _).alloc (Nat.le_refl _) _⟩
        · have D : decide (okIP 6 ip p) = false := decide_eq_false (by unfold okIP; omega)
          have DD := Lib.hid D
          clear D
          go_enter Tryd.func4, Tryd.ntmps4
          go_wp2
          go_ret
          exact ⟨by rw [DD.out]; rfl, (Below.refl _ _).alloc (Nat.le_refl _) _⟩
      · have D : decide (okIP 6 ip p) = false := decide_eq_false (by unfold okIP; omega)
        have DD := Lib.hid D
        clear D
        go_enter Tryd.func4, Tryd.ntmps4
        go_wp2
        go_ret
        exact ⟨by rw [DD.out]; rfl, (Below.refl _ _).alloc (Nat.le_refl _) _⟩
    · have D : decide (okIP f ip p) = false := decide_eq_false (by unfold okIP; omega)
      have DD := Lib.hid D
      clear D
      go_enter Tryd.func4, Tryd.ntmps4
      go_wp2
      go_ret
      exact ⟨by rw [DD.out]; rfl, (Below.refl _ _).alloc (Nat.le_refl _) _⟩

set_option maxRecDepth 100000 in
set_option maxHeartbeats 3200000 in
theorem mask4 (ip : ByteArray) (p : Int) (w : World) (hz : 4 ≤ ip.size) : Calls Tryd.prog 33 #[.agg #[.int .i64 4, .string ip, .int .i64 p]] w fun e w' => ∃ m : ByteArray, e = .returned (.string m) ∧ m.size = 4 ∧ Below w.heap.size w w' := by
  have hmk : ∀ w, (Instr.makeSlice 39 (.int .i64 4) (.int .i64 4)).run Tryd.prog w = .ok (.slice (some ⟨w.heap.size, 0, none⟩) 4 4) (w.alloc (.cells (bytesI (List.replicate 4 0)) 5)) := fun w => makeN 4 w (by omega)
  have HZ := Lib.hid hz
  have hcip : (w.alloc (.cells #[.int .i64 4, .string ip, .int .i64 p] 23)).cell? ⟨w.heap.size, 1, none⟩ = some (.string ip) := by simp [go_sem]
  have HCIP := Lib.hid hcip
  clear hz hcip
  go_enter Tryd.func33, Tryd.ntmps33
  go_wp2_with fail
  obtain ⟨w1, hw1⟩ : ∃ w1, w.alloc (.cells #[.int .i64 4, .string ip, .int .i64 p] 23) = w1 := ⟨_, rfl⟩
  have hs1 : w.heap.size + 1 = w1.heap.size := by rw [← hw1]; simp
  have HB1 : Hid (Below w.heap.size w w1) := Lib.hid (by rw [← hw1]; exact (Below.refl _ _).alloc (Nat.le_refl _) _)
  rw [hw1] at HCIP ⊢
  rw [hs1]
  clear hmk hw1
  go_loopw [14, 5] (fun i _ wr => ∃ (k : Nat) (xs : List Int), k ≤ 4 ∧ i = .int .i64 (k : Int) ∧ xs.length = 4 ∧ Hid (Bk wr w1.heap.size xs) ∧ Hid (Below w1.heap.size w1 wr)) (fun i _ _ => 4 - (intOf i).toNat)
  case atStart => exact ⟨0, _, Nat.zero_le _, rfl, by simp, Lib.hid (Bk.new w1 _ _), Lib.hid ((Below.refl _ _).alloc (Nat.le_refl _) _)⟩
  case round =>
    obtain ⟨k, xs, hk, rfl, hxl, HB, HBL⟩ := hrel
    by_cases hlt : k < 4
    · have hcx := HB.out.cell k (by omega)
      have hfx := HB.out.free k
      have cip := kcell HBL.out HCIP.out
      have hki : k < ip.size := by have := HZ.out; omega
      have hkk : (k : Int) < (ip.size : Int) := by omega
      go_wp2_with fail
      go_region
      all_goals
        go_wp2_with fail
        exact ⟨⟨k + 1, _, by omega, by go_num, by rw [List.length_set]; exact hxl, Lib.hid (HB.out.set k _).drew, Lib.hid (HBL.out.setCell (p := ⟨w1.heap.size, k, none⟩) (Nat.le_refl _) _).drew⟩, by simp [intOf]; omega⟩
    · obtain rfl : k = 4 := by omega
      have hcv := HB.out.conv 4 4 hxl
      have hsz : (strOfNums xs).size = 4 := by rw [strOfNums_size, hxl]
      obtain ⟨S, hS⟩ : ∃ S, strOfNums xs = S := ⟨_, rfl⟩
      rw [hS] at hcv hsz
      have HSZ := Lib.hid hsz
      clear hS hsz
      go_wp2_with fail
      go_ret
      exact ⟨S, rfl, HSZ.out, HB1.out.trans (HBL.out.mono (by omega))⟩

set_option maxRecDepth 100000 in
set_option maxHeartbeats 3200000 in
theorem mask6 (ip : ByteArray) (p : Int) (w : World) (hz : 8 ≤ ip.size) : Calls Tryd.prog 33 #[.agg #[.int .i64 6, .string ip, .int .i64 p]] w fun e w' => ∃ m : ByteArray, e = .returned (.string m) ∧ m.size = 8 ∧ Below w.heap.size w w' := by
  have hmk : ∀ w, (Instr.makeSlice 39 (.int .i64 8) (.int .i64 8)).run Tryd.prog w = .ok (.slice (some ⟨w.heap.size, 0, none⟩) 8 8) (w.alloc (.cells (bytesI (List.replicate 8 0)) 5)) := fun w => makeN 8 w (by omega)
  have HZ := Lib.hid hz
  have hcip : (w.alloc (.cells #[.int .i64 6, .string ip, .int .i64 p] 23)).cell? ⟨w.heap.size, 1, none⟩ = some (.string ip) := by simp [go_sem]
  have HCIP := Lib.hid hcip
  clear hz hcip
  go_enter Tryd.func33, Tryd.ntmps33
  go_wp2_with fail
  obtain ⟨w1, hw1⟩ : ∃ w1, w.alloc (.cells #[.int .i64 6, .string ip, .int .i64 p] 23) = w1 := ⟨_, rfl⟩
  have hs1 : w.heap.size + 1 = w1.heap.size := by rw [← hw1]; simp
  have HB1 : Hid (Below w.heap.size w w1) := Lib.hid (by rw [← hw1]; exact (Below.refl _ _).alloc (Nat.le_refl _) _)
  rw [hw1] at HCIP ⊢
  rw [hs1]
  clear hmk hw1
  go_loopw [14, 5] (fun i _ wr => ∃ (k : Nat) (xs : List Int), k ≤ 8 ∧ i = .int .i64 (k : Int) ∧ xs.length = 8 ∧ Hid (Bk wr w1.heap.size xs) ∧ Hid (Below w1.heap.size w1 wr)) (fun i _ _ => 8 - (intOf i).toNat)
  case atStart => exact ⟨0, _, Nat.zero_le _, rfl, by simp, Lib.hid (Bk.new w1 _ _), Lib.hid ((Below.refl _ _).alloc (Nat.le_refl _) _)⟩
  case round =>
    obtain ⟨k, xs, hk, rfl, hxl, HB, HBL⟩ := hrel
    by_cases hlt : k < 8
    · have hcx := HB.out.cell k (by omega)
      have hfx := HB.out.free k
      have cip := kcell HBL.out HCIP.out
      have hki : k < ip.size := by have := HZ.out; omega
      have hkk : (k : Int) < (ip.size : Int) := by omega
      go_wp2_with fail
      go_region
      all_goals
        go_wp2_with fail
        exact ⟨⟨k + 1, _, by omega, by go_num, by rw [List.length_set]; exact hxl, Lib.hid (HB.out.set k _).drew, Lib.hid (HBL.out.setCell (p := ⟨w1.heap.size, k, none⟩) (Nat.le_refl _) _).drew⟩, by simp [intOf]; omega⟩
    · obtain rfl : k = 8 := by omega
      have hcv := HB.out.conv 8 8 hxl
      have hsz : (strOfNums xs).size = 8 := by rw [strOfNums_size, hxl]
      obtain ⟨S, hS⟩ : ∃ S, strOfNums xs = S := ⟨_, rfl⟩
      rw [hS] at hcv hsz
      have HSZ := Lib.hid hsz
      clear hS hsz
      go_wp2_with fail
      go_ret
      exact ⟨S, rfl, HSZ.out, HB1.out.trans (HBL.out.mono (by omega))⟩
end Go.Proofs.YtaoanggiibgcdaaDoor.Ma
