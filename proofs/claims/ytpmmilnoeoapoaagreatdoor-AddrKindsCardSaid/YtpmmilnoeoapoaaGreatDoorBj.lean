/-
  Addresses: the law's check (awake).
-/
import Derived.Test.YtpmmilnoeoapoaaGreatDoorBi
import Derived.Test.YtpmmilnoeoapoaaGreatDoorBf
import Derived.Test.YtpmmilnoeoapoaaGreatDoorBg
import Derived.Test.YtpmmilnoeoapoaaGreatDoorAg
set_option linter.unusedVariables false
namespace Go.Proofs.YtpmmilnoeoapoaaGreatDoor.Bj
open Go Go.RowKit Go.Proofs.YtpmmilnoeoapoaaGreatDoor.Hz Go.Proofs.YtpmmilnoeoapoaaGreatDoor.Ac Go.Proofs.YtpmmilnoeoapoaaGreatDoor.Na Go.Proofs.YtpmmilnoeoapoaaGreatDoor.Sx Go.Proofs.YtpmmilnoeoapoaaGreatDoor.Bh Go.Proofs.YtpmmilnoeoapoaaGreatDoor.Bd Go.Proofs.YtpmmilnoeoapoaaGreatDoor.Bg

def nn (j : Nat) : Int := if j = 0 then 10 else if j = 3 then 1 else 0
def ipn : ByteArray := ⟨#[10, 0, 0, 1]⟩
theorem nn_ok : v4ok nn 80 := by decide
theorem nn_ip : v4i nn = ipn := by decide
theorem ok_ip : okA 4 ipn 80 := by decide
theorem tx_ip : txa ipn 80 = ⟨#[49, 48, 46, 48, 46, 48, 46, 49, 58, 56, 48]⟩ := by decide +kernel
theorem pk_ip : pkS 4 ipn 80 = ⟨#[10, 0, 0, 1, 0, 80]⟩ := by decide +kernel
theorem kd_ip : kdV 4 ipn 80 = 3 := by decide +kernel
set_option maxRecDepth 100000 in
set_option maxHeartbeats 2000000 in
theorem awake_any (w : World) (ht : Tab w) : Calls Tryz.prog 8 #[] w fun e w' => e = .returned (.bool true) ∧ Below w.heap.size w w' := by
  have H1 := Lib.hid (fun w => V4_any nn 80 w)
  rw [show vF nn 80 = 4 from if_pos nn_ok, show vI nn 80 = ipn from (if_pos nn_ok).trans nn_ip, show vP nn 80 = 80 from if_pos nn_ok, show vE nn 80 = 0 from if_pos nn_ok, show nn 0 = 10 from rfl, show nn 1 = 0 from rfl, show nn 2 = 0 from rfl, show nn 3 = 1 from rfl] at H1
  have H2 := Lib.hid (fun w ht => Text_4 ipn 80 w ok_ip ht)
  rw [tx_ip, show ((80 : Nat) : Int) = 80 from rfl] at H2
  have H3 := Lib.hid (fun w => Pack_any 4 ipn 80 w)
  rw [pk_ip, show pkE 4 ipn 80 = 0 from if_pos ok_ip] at H3
  have H4 := Lib.hid (fun w => Kind_any 4 ipn 80 w)
  rw [kd_ip, show kdE 4 ipn 80 = 0 from if_pos ok_ip] at H4
  have HT := Lib.hid ht
  clear ht
  generalize ipn = I at H1 H2 H3 H4
  go_enter Tryz.func8, Tryz.ntmps8
  go_wp2_with fail
  refine (H1.out _).mono ?_
  rintro e w1 ⟨rfl, hb1⟩
  have HT1 := Lib.hid (HT.out.below hb1)
  go_wp2_with fail
  obtain ⟨w2, hw2⟩ : ∃ w2, w1.alloc (.cells #[.int .i64 4, .string I, .int .i64 80] 26) = w2 := ⟨_, rfl⟩
  have k0 : w2.cell? ⟨w1.heap.size, 0, none⟩ = some (.int .i64 4) := by rw [← hw2]; simp [go_sem]
  have k1 : w2.cell? ⟨w1.heap.size, 1, none⟩ = some (.string I) := by rw [← hw2]; simp [go_sem]
  have k2 : w2.cell? ⟨w1.heap.size, 2, none⟩ = some (.int .i64 80) := by rw [← hw2]; simp [go_sem]
  have hb2 : Below w.heap.size w w2 := by rw [← hw2]; exact blw_alloc hb1
  rw [hw2]
  clear hw2 hb1 HT1
  refine (H2.out _ (HT.out.below hb2)).mono ?_
  rintro e w3 ⟨rfl, hb3⟩
  have q0 := kcell hb3 k0
  have q1 := kcell hb3 k1
  have q2 := kcell hb3 k2
  have hb3' := blw hb2 hb3
  clear k0 k1 k2 hb2 hb3
  go_wp2_with fail
  refine (H3.out _).mono ?_
  rintro e w4 ⟨rfl, hb4⟩
  have r0 := kcell hb4 q0
  have r1 := kcell hb4 q1
  have r2 := kcell hb4 q2
  have hb4' := blw hb3' hb4
  clear q0 q1 q2 hb3' hb4
  go_wp2_with fail
  refine (H4.out _).mono ?_
  rintro e w5 ⟨rfl, hb5⟩
  have hb5' := blw hb4' hb5
  go_wp2
  go_ret
  exact ⟨rfl, hb5'⟩
end Go.Proofs.YtpmmilnoeoapoaaGreatDoor.Bj
