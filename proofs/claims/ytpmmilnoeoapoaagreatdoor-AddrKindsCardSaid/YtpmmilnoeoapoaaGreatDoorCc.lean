/-
  Addresses: mask and Mask of the reference. (made by mk_cc.py)
-/
import Derived.Test.YtpmmilnoeoapoaaGreatDoorCb
import Derived.Test.YtpmmilnoeoapoaaGreatDoorAh
set_option linter.unusedVariables false
namespace Go.Proofs.YtpmmilnoeoapoaaGreatDoor.Ca
open Go Go.RowKit Go.Proofs.YtpmmilnoeoapoaaGreatDoor.Hz Go.Proofs.YtpmmilnoeoapoaaGreatDoor.Ac Go.Proofs.YtpmmilnoeoapoaaGreatDoor.Na Go.Proofs.YtpmmilnoeoapoaaGreatDoor.Nb Go.Proofs.YtpmmilnoeoapoaaGreatDoor.Sx

set_option maxRecDepth 100000 in
set_option maxHeartbeats 3200000 in
theorem Rmask4 (ip : ByteArray) (p : Int) (w : World) (hz : ip.size = 4) : Calls Tryz.prog 64 #[.agg #[.int .i64 4, .string ip, .int .i64 p]] w fun e w' => e = .returned (.string (mk 4 ip)) ∧ Below w.heap.size w w' := by
  have hmk : ∀ w, (Instr.makeSlice 66 (.int .i64 4) (.int .i64 4)).run Tryz.prog w = .ok (.slice (some ⟨w.heap.size, 0, none⟩) 4 4) (w.alloc (.cells (bytesI (List.replicate 4 0)) 5)) := fun w => makeN 4 w (by omega)
  have hmz : m4.size = 4 := by decide
  have HX := Lib.hid (show mk 4 ip = strOfNums (ml ip m4 4) from by rw [show mk 4 ip = ms ip m4 from if_pos rfl]; rfl)
  generalize mk 4 ip = X at HX ⊢
  obtain ⟨w1, hw1⟩ : ∃ w1, w.alloc (.cells #[.int .i64 4, .string ip, .int .i64 p] 26) = w1 := ⟨_, rfl⟩
  have hs1 : w1.heap.size = w.heap.size + 1 := by rw [← hw1]; simp
  have HS1 := Lib.hid hs1
  have HB1 := Lib.hid (show Below w.heap.size w w1 from by rw [← hw1]; exact (Below.refl _ _).alloc (Nat.le_refl _) _)
  have HK := Lib.hid (show w1.cell? ⟨w.heap.size, 1, none⟩ = some (.string ip) from by rw [← hw1]; simp [go_sem])
  have HW1 := Lib.hid hw1
  clear hw1 hs1
  have HM := Lib.hid (show (m4 : ByteArray) = ⟨#[3, 15, 63, 255]⟩ from rfl)
  have HMZ := Lib.hid hmz
  clear hmz
  generalize m4 = m at HX HM HMZ
  have hml : (⟨#[3, 15, 63, 255]⟩ : ByteArray).size = 4 := by decide
  go_enter Tryz.func64, Tryz.ntmps64
  go_wp2_with fail
  rw [HW1.out]
  clear hmk
  go_loopw [14] (fun i wr => ∃ (k : Nat), k ≤ 4 ∧ i = .int .i64 (k : Int) ∧ Hid (Bk wr (w.heap.size + 1) ((ml ip m 4).take k ++ List.replicate (4 - k) 0)) ∧ Hid (Below w1.heap.size w1 wr)) (fun i _ => 4 - (iOf i).toNat)
  case atStart => exact ⟨0, Nat.zero_le _, rfl, Lib.hid (by rw [List.take_zero, List.nil_append, Nat.sub_zero]; have := Bk.new w1 (List.replicate 4 0) 5; rw [HS1.out] at this; exact this), Lib.hid ((Below.refl _ _).alloc (Nat.le_refl _) _)⟩
  case round =>
    obtain ⟨k, hk, rfl, HB, HBL⟩ := hrel
    by_cases hlt : k < 4
    · have hln : ((ml ip m 4).take k ++ List.replicate (4 - k) 0).length = 4 := by rw [List.length_append, List.length_take, ml_len, List.length_replicate]; omega
      have hcx := HB.out.cell k (by omega)
      have hfx := HB.out.free k
      have cip := kcell HBL.out HK.out
      have HS := Lib.hid (set_step (ml ip m 4) 4 k _ (ml_len _ _ _) hlt (ml_at ip m _ k hlt))
      have hki : k < ip.size := by omega
      have hkm : k < m.size := by rw [HMZ.out]; omega
      have h0 : (0 : Int) ≤ (k : Int) := by omega
      have h1 : (k : Int) < (ip.size : Int) := by omega
      have h2 : (k : Int) < 4 := by omega
      have hx := by_at ip k hki
      have hy := by_at m k hkm
      have hand := Bk.and8 (by_ ip k) (by_ m k) (by_lt _ _) (by_lt _ _)
      have hm := HM.out
      have hk2 : k < (⟨#[3, 15, 63, 255]⟩ : ByteArray).size := by rw [hml]; omega
      have hy2 : ((⟨#[3, 15, 63, 255]⟩ : ByteArray)[k]'hk2).toNat = by_ m k := by subst hm; exact hy
      clear hy hm hkm
      generalize by_ ip k &&& by_ m k = z at hand HS
      generalize by_ ip k = x at hx hand
      generalize by_ m k = y at hy2 hand
      generalize List.getD _ k 0 = q at hcx
      go_wp2_with fail
      go_region
      all_goals
        go_wp2_with fail
        exact ⟨⟨k + 1, by omega, by go_num, Lib.hid (by rw [← HS.out]; exact (HB.out.set k _).drew), Lib.hid (HBL.out.setCell (p := ⟨w.heap.size + 1, k, none⟩) (Nat.le_of_eq HS1.out) _).drew⟩, by simp [iOf]; omega⟩
    · obtain rfl : k = 4 := by omega
      have hB := HB.out
      rw [Nat.sub_self, List.replicate_zero, List.append_nil, List.take_of_length_le (by rw [ml_len]; omega)] at hB
      have hcv := hB.conv 4 4 (ml_len _ _ _)
      rw [← HX.out] at hcv
      clear hB
      go_wp2_with fail
      go_ret
      exact ⟨rfl, blw HB1.out HBL.out⟩

set_option maxRecDepth 100000 in
set_option maxHeartbeats 3200000 in
theorem Rmask6 (ip : ByteArray) (p : Int) (w : World) (hz : ip.size = 16) : Calls Tryz.prog 64 #[.agg #[.int .i64 6, .string ip, .int .i64 p]] w fun e w' => e = .returned (.string (mk 6 ip)) ∧ Below w.heap.size w w' := by
  have hmk : ∀ w, (Instr.makeSlice 66 (.int .i64 8) (.int .i64 8)).run Tryz.prog w = .ok (.slice (some ⟨w.heap.size, 0, none⟩) 8 8) (w.alloc (.cells (bytesI (List.replicate 8 0)) 5)) := fun w => makeN 8 w (by omega)
  have hmz : m6.size = 8 := by decide
  have HX := Lib.hid (show mk 6 ip = strOfNums (ml ip m6 8) from by rw [show mk 6 ip = ms ip m6 from if_neg (by decide)]; rfl)
  generalize mk 6 ip = X at HX ⊢
  obtain ⟨w1, hw1⟩ : ∃ w1, w.alloc (.cells #[.int .i64 6, .string ip, .int .i64 p] 26) = w1 := ⟨_, rfl⟩
  have hs1 : w1.heap.size = w.heap.size + 1 := by rw [← hw1]; simp
  have HS1 := Lib.hid hs1
  have HB1 := Lib.hid (show Below w.heap.size w w1 from by rw [← hw1]; exact (Below.refl _ _).alloc (Nat.le_refl _) _)
  have HK := Lib.hid (show w1.cell? ⟨w.heap.size, 1, none⟩ = some (.string ip) from by rw [← hw1]; simp [go_sem])
  have HW1 := Lib.hid hw1
  clear hw1 hs1
  have HM := Lib.hid (show (m6 : ByteArray) = ⟨#[1, 3, 7, 15, 31, 63, 127, 255]⟩ from rfl)
  have HMZ := Lib.hid hmz
  clear hmz
  generalize m6 = m at HX HM HMZ
  have hml : (⟨#[1, 3, 7, 15, 31, 63, 127, 255]⟩ : ByteArray).size = 8 := by decide
  go_enter Tryz.func64, Tryz.ntmps64
  go_wp2_with fail
  rw [HW1.out]
  clear hmk
  go_loopw [14] (fun i wr => ∃ (k : Nat), k ≤ 8 ∧ i = .int .i64 (k : Int) ∧ Hid (Bk wr (w.heap.size + 1) ((ml ip m 8).take k ++ List.replicate (8 - k) 0)) ∧ Hid (Below w1.heap.size w1 wr)) (fun i _ => 8 - (iOf i).toNat)
  case atStart => exact ⟨0, Nat.zero_le _, rfl, Lib.hid (by rw [List.take_zero, List.nil_append, Nat.sub_zero]; have := Bk.new w1 (List.replicate 8 0) 5; rw [HS1.out] at this; exact this), Lib.hid ((Below.refl _ _).alloc (Nat.le_refl _) _)⟩
  case round =>
    obtain ⟨k, hk, rfl, HB, HBL⟩ := hrel
    by_cases hlt : k < 8
    · have hln : ((ml ip m 8).take k ++ List.replicate (8 - k) 0).length = 8 := by rw [List.length_append, List.length_take, ml_len, List.length_replicate]; omega
      have hcx := HB.out.cell k (by omega)
      have hfx := HB.out.free k
      have cip := kcell HBL.out HK.out
      have HS := Lib.hid (set_step (ml ip m 8) 8 k _ (ml_len _ _ _) hlt (ml_at ip m _ k hlt))
      have hki : k < ip.size := by omega
      have hkm : k < m.size := by rw [HMZ.out]; omega
      have h0 : (0 : Int) ≤ (k : Int) := by omega
      have h1 : (k : Int) < (ip.size : Int) := by omega
      have h2 : (k : Int) < 8 := by omega
      have hx := by_at ip k hki
      have hy := by_at m k hkm
      have hand := Bk.and8 (by_ ip k) (by_ m k) (by_lt _ _) (by_lt _ _)
      have hm := HM.out
      have hk2 : k < (⟨#[1, 3, 7, 15, 31, 63, 127, 255]⟩ : ByteArray).size := by rw [hml]; omega
      have hy2 : ((⟨#[1, 3, 7, 15, 31, 63, 127, 255]⟩ : ByteArray)[k]'hk2).toNat = by_ m k := by subst hm; exact hy
      clear hy hm hkm
      generalize by_ ip k &&& by_ m k = z at hand HS
      generalize by_ ip k = x at hx hand
      generalize by_ m k = y at hy2 hand
      generalize List.getD _ k 0 = q at hcx
      go_wp2_with fail
      go_region
      all_goals
        go_wp2_with fail
        exact ⟨⟨k + 1, by omega, by go_num, Lib.hid (by rw [← HS.out]; exact (HB.out.set k _).drew), Lib.hid (HBL.out.setCell (p := ⟨w.heap.size + 1, k, none⟩) (Nat.le_of_eq HS1.out) _).drew⟩, by simp [iOf]; omega⟩
    · obtain rfl : k = 8 := by omega
      have hB := HB.out
      rw [Nat.sub_self, List.replicate_zero, List.append_nil, List.take_of_length_le (by rw [ml_len]; omega)] at hB
      have hcv := hB.conv 8 8 (ml_len _ _ _)
      rw [← HX.out] at hcv
      clear hB
      go_wp2_with fail
      go_ret
      exact ⟨rfl, blw HB1.out HBL.out⟩

/-- what Mask answers -/
def mkV (f : Int) (ip : ByteArray) (p : Int) : ByteArray := if okA f ip p then mk f ip else ⟨#[]⟩
def mkE (f : Int) (ip : ByteArray) (p : Int) : Int := if okA f ip p then 0 else 1
theorem Rmask_any (f : Int) (ip : ByteArray) (p : Int) (w : World) (h : okA f ip p) : Calls Tryz.prog 64 #[.agg #[.int .i64 f, .string ip, .int .i64 p]] w fun e w' => e = .returned (.string (mk f ip)) ∧ Below w.heap.size w w' := by
  rcases h.1 with ⟨rfl, hz⟩ | ⟨rfl, hz⟩
  · exact Rmask4 ip p w hz
  · exact Rmask6 ip p w hz
set_option maxRecDepth 100000 in
set_option maxHeartbeats 1000000 in
theorem RMask_any (f : Int) (ip : ByteArray) (p : Int) (w : World) : Calls Tryz.prog 25 #[.agg #[.int .i64 f, .string ip, .int .i64 p]] w fun e w' => e = .returned (.tuple #[.string (mkV f ip p), .int .i64 (mkE f ip p)]) ∧ Below w.heap.size w w' := by
  have HV := Lib.hid (fun w => RVal_any f ip p w)
  obtain ⟨w1, hw1⟩ : ∃ w1, w.alloc (.cells #[.int .i64 f, .string ip, .int .i64 p] 26) = w1 := ⟨_, rfl⟩
  have HB1 := Lib.hid (show Below w.heap.size w w1 from by rw [← hw1]; exact (Below.refl _ _).alloc (Nat.le_refl _) _)
  have k0 : w1.cell? ⟨w.heap.size, 0, none⟩ = some (.int .i64 f) := by rw [← hw1]; simp [go_sem]
  have k1 : w1.cell? ⟨w.heap.size, 1, none⟩ = some (.string ip) := by rw [← hw1]; simp [go_sem]
  have k2 : w1.cell? ⟨w.heap.size, 2, none⟩ = some (.int .i64 p) := by rw [← hw1]; simp [go_sem]
  have HW1 := Lib.hid hw1
  clear hw1
  by_cases h : okA f ip p
  · rw [show mkV f ip p = mk f ip from if_pos h, show mkE f ip p = 0 from if_pos h]
    rw [decide_eq_true h] at HV
    have HM := Lib.hid (fun w => Rmask_any f ip p w h)
    generalize mk f ip = X at HM ⊢
    go_enter Tryz.func25, Tryz.ntmps25
    go_wp2_with fail
    rw [HW1.out]
    refine (HV.out _).mono ?_
    rintro e w2 ⟨rfl, hb⟩
    have q0 := kcell hb k0
    have q1 := kcell hb k1
    have q2 := kcell hb k2
    have HB2 := Lib.hid (blw HB1.out hb)
    clear hb k0 k1 k2
    go_wp2_with fail
    refine (HM.out _).mono ?_
    rintro e w3 ⟨rfl, hb⟩
    have HB3 := Lib.hid (blw HB2.out hb)
    clear hb
    go_wp2
    go_ret2
    exact ⟨rfl, HB3.out⟩
  · rw [show mkV f ip p = ⟨#[]⟩ from if_neg h, show mkE f ip p = 1 from if_neg h]
    rw [decide_eq_false h] at HV
    clear k0 k1 k2
    go_enter Tryz.func25, Tryz.ntmps25
    go_wp2_with fail
    rw [HW1.out]
    refine (HV.out _).mono ?_
    rintro e w2 ⟨rfl, hb⟩
    have HB2 := Lib.hid (blw HB1.out hb)
    clear hb
    go_wp2
    go_ret2
    exact ⟨rfl, HB2.out⟩
end Go.Proofs.YtpmmilnoeoapoaaGreatDoor.Ca
