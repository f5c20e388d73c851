/-
  Addresses: the law AddrKinds: its walk.
-/
import Derived.Test.YtpmmilnoeoapoaaGreatDoorCf
import Derived.Test.YtpmmilnoeoapoaaGreatDoorCd4
import Derived.Test.YtpmmilnoeoapoaaGreatDoorCd6
import Derived.Test.YtpmmilnoeoapoaaGreatDoorCe
import Derived.Test.YtpmmilnoeoapoaaGreatDoorBn
import Derived.Test.YtpmmilnoeoapoaaGreatDoorBj
set_option linter.unusedVariables false
namespace Go.Proofs.YtpmmilnoeoapoaaGreatDoor.Cg
open Go Go.RowKit Go.Proofs.YtpmmilnoeoapoaaGreatDoor.Hz Go.Proofs.YtpmmilnoeoapoaaGreatDoor.Ac Go.Proofs.YtpmmilnoeoapoaaGreatDoor.Na Go.Proofs.YtpmmilnoeoapoaaGreatDoor.Sx Go.Proofs.YtpmmilnoeoapoaaGreatDoor.Bd Go.Proofs.YtpmmilnoeoapoaaGreatDoor.Bg Go.Proofs.YtpmmilnoeoapoaaGreatDoor.Bk Go.Proofs.YtpmmilnoeoapoaaGreatDoor.Ca

theorem RKindOf_any (f : Int) (ip : ByteArray) (p : Int) (w : World) (h : okA f ip p) : Calls Tryz.prog 62 #[.agg #[.int .i64 f, .string ip, .int .i64 p]] w fun e w' => e = .returned (.int .i64 (kd f ip)) ∧ Below w.heap.size w w' := by
  rcases h.1 with ⟨rfl, hz⟩ | ⟨rfl, hz⟩
  · exact RKind4 ip p w hz
  · exact RKind6 ip p w hz
set_option maxRecDepth 100000 in
set_option maxHeartbeats 1000000 in
theorem RKind_any (f : Int) (ip : ByteArray) (p : Int) (w : World) : Calls Tryz.prog 23 #[.agg #[.int .i64 f, .string ip, .int .i64 p]] w fun e w' => e = .returned (.tuple #[.int .i64 (kdV f ip p), .int .i64 (kdE f ip p)]) ∧ Below w.heap.size w w' := by
  have HV := Lib.hid (fun w => RVal_any f ip p w)
  obtain ⟨w1, hw1⟩ : ∃ w1, w.alloc (.cells #[.int .i64 f, .string ip, .int .i64 p] 26) = w1 := ⟨_, rfl⟩
  have HB1 := Lib.hid (show Below w.heap.size w w1 from by rw [← hw1]; exact (Below.refl _ _).alloc (Nat.le_refl _) _)
  have k0 : w1.cell? ⟨w.heap.size, 0, none⟩ = some (.int .i64 f) := by rw [← hw1]; simp [go_sem]
  have k1 : w1.cell? ⟨w.heap.size, 1, none⟩ = some (.string ip) := by rw [← hw1]; simp [go_sem]
  have k2 : w1.cell? ⟨w.heap.size, 2, none⟩ = some (.int .i64 p) := by rw [← hw1]; simp [go_sem]
  have HW1 := Lib.hid hw1
  clear hw1
  by_cases h : okA f ip p
  · rw [show kdV f ip p = kd f ip from if_pos h, show kdE f ip p = 0 from if_pos h]
    rw [decide_eq_true h] at HV
    have HM := Lib.hid (fun w => RKindOf_any f ip p w h)
    generalize kd f ip = X at HM ⊢
    go_enter Tryz.func23, Tryz.ntmps23
    go_wp2_with fail
    rw [HW1.out]
    refine (HV.out _).mono ?_
    rintro e w2 ⟨rfl, hb⟩
    have q0 := kcell hb k0
    have q1 := kcell hb k1
    have q2 := kcell hb k2
    have HB2 := Lib.hid (blw HB1.out hb)
    clear hb k0 k1 k2
    go_wp2_with fail
    refine (HM.out _).mono ?_
    rintro e w3 ⟨rfl, hb⟩
    have HB3 := Lib.hid (blw HB2.out hb)
    clear hb
    go_wp2
    go_ret2
    exact ⟨rfl, HB3.out⟩
  · rw [show kdV f ip p = 0 from if_neg h, show kdE f ip p = 1 from if_neg h]
    rw [decide_eq_false h] at HV
    clear k0 k1 k2
    go_enter Tryz.func23, Tryz.ntmps23
    go_wp2_with fail
    rw [HW1.out]
    refine (HV.out _).mono ?_
    rintro e w2 ⟨rfl, hb⟩
    have HB2 := Lib.hid (blw HB1.out hb)
    clear hb
    go_wp2
    go_ret2
    exact ⟨rfl, HB2.out⟩

/-- one address, boxed, and in a row of its own -/
def b1w (w : World) (a : Adr) : World := (w.alloc (.cells #[.int .i64 a.f, .string a.ip, .int .i64 a.p] 26)).alloc (.cells #[.int .i64 a.f, .string a.ip, .int .i64 a.p] 26)
theorem b1_al (w : World) (a : Adr) : AL (b1w w a) w.heap.size a.f a.ip a.p := by unfold b1w AL; simp [go_sem]
theorem b1_row (w : World) (a : Adr) : AA (b1w w a) (some ⟨w.heap.size + 1, 0, none⟩) 1 (fun _ => a) := fun _ => by
  refine ⟨w.heap.size + 1, 0, rfl, by unfold b1w; simp, fun i hi => ?_⟩
  obtain rfl : i = 0 := by omega
  unfold b1w
  simp [go_sem]
theorem b1_below (w : World) (a : Adr) : Below w.heap.size w (b1w w a) := by
  unfold b1w
  exact below_gb (gb_trans (gb_alloc _ _ none) (gb_alloc _ _ _))
def nf (p q r s : Int) (j : Nat) : Int := if j = 0 then p else if j = 1 then q else if j = 2 then r else s

set_option maxRecDepth 100000 in
set_option maxHeartbeats 4000000 in
theorem walk (a : Adr) (p q r s port : Int) (w : World) (ht : Bh.Tab w) :
    Calls Tryz.prog 5 #[.agg #[.int .i64 a.f, .string a.ip, .int .i64 a.p], .int .i64 p, .int .i64 q, .int .i64 r, .int .i64 s, .int .i64 port] w fun e w' => e = .returned (.bool true) ∧ Below w.heap.size w w' := by
  have HL := Lib.hid (Light_any (some ⟨w.heap.size + 1, 0, none⟩) 1 1 (fun _ => a) _ (by omega) (b1_row w a))
  have HW := Lib.hid (b1_below w a)
  have HX := Lib.hid (b1_al w a)
  have HA := Lib.hid (fun w ht => Bj.awake_any w ht)
  have HT := Lib.hid ht
  generalize hW0 : b1w w a = W0 at HL HW HX
  have HW0 := Lib.hid hW0
  unfold b1w at HW0
  clear hW0 ht
  have K1 := Lib.hid (fun w => Kind_any a.f a.ip a.p w)
  have K2 := Lib.hid (fun w => RKind_any a.f a.ip a.p w)
  have M1 := Lib.hid (fun w => Mask_any a.f a.ip a.p w)
  have M2 := Lib.hid (fun w => RMask_any a.f a.ip a.p w)
  have V1 := Lib.hid (fun w => V4_any (nf p q r s) port w)
  have V2 := Lib.hid (fun w => RV4_any (nf p q r s) port w)
  rw [show nf p q r s 0 = p from rfl, show nf p q r s 1 = q from rfl, show nf p q r s 2 = r from rfl, show nf p q r s 3 = s from rfl] at V1 V2
  generalize kdV a.f a.ip a.p = kv at K1 K2
  generalize kdE a.f a.ip a.p = ke at K1 K2
  generalize mkV a.f a.ip a.p = mv at M1 M2
  generalize mkE a.f a.ip a.p = me at M1 M2
  generalize vF (nf p q r s) port = vf at V1 V2
  generalize vI (nf p q r s) port = vi at V1 V2
  generalize vP (nf p q r s) port = vp at V1 V2
  generalize vE (nf p q r s) port = ve at V1 V2
  cases hD : decide (lt40 (fun _ => a) 1)
  · rw [hD] at HL
    clear hD HX K1 K2 M1 M2 V1 V2
    go_enter Tryz.func5, Tryz.ntmps5
    go_wp2_with fail
    rw [HW0.out]
    refine HL.out.mono ?_
    rintro e w1 ⟨rfl, hb⟩
    have hb1 := blw HW.out hb
    go_wp2_with fail
    refine (HA.out _ (HT.out.below hb1)).mono ?_
    rintro e w2 ⟨rfl, hb2⟩
    have hb3 := blw hb1 hb2
    go_wp2
    go_ret
    exact ⟨rfl, hb3⟩
  · rw [hD] at HL
    clear hD
    go_enter Tryz.func5, Tryz.ntmps5
    go_wp2_with fail
    rw [HW0.out]
    refine HL.out.mono ?_
    rintro e w1 ⟨rfl, hb⟩
    have HB1 := Lib.hid (blw HW.out hb)
    obtain ⟨a0, a1, a2⟩ := HX.out.below hb
    clear hb
    go_wp2_with fail
    refine (K1.out _).mono ?_
    rintro e w2 ⟨rfl, hb⟩
    have HB2 := Lib.hid (blw HB1.out hb)
    have b0 := kcell hb a0
    have b1 := kcell hb a1
    have b2 := kcell hb a2
    clear hb a0 a1 a2
    go_wp2_with fail
    refine (K2.out _).mono ?_
    rintro e w3 ⟨rfl, hb⟩
    have HB3 := Lib.hid (blw HB2.out hb)
    have a0 := kcell hb b0
    have a1 := kcell hb b1
    have a2 := kcell hb b2
    clear hb b0 b1 b2
    go_wp2_with fail
    refine (M1.out _).mono ?_
    rintro e w4 ⟨rfl, hb⟩
    have HB4 := Lib.hid (blw HB3.out hb)
    have b0 := kcell hb a0
    have b1 := kcell hb a1
    have b2 := kcell hb a2
    clear hb a0 a1 a2
    go_wp2_with fail
    refine (M2.out _).mono ?_
    rintro e w5 ⟨rfl, hb⟩
    have HB5 := Lib.hid (blw HB4.out hb)
    clear hb b0 b1 b2
    go_wp2_with fail
    refine (V1.out _).mono ?_
    rintro e w6 ⟨rfl, hb⟩
    have HB6 := Lib.hid (blw_alloc (o := .cells #[.int .i64 vf, .string vi, .int .i64 vp] 26) (blw HB5.out hb))
    clear hb
    go_wp2_with fail
    obtain ⟨W6, hW6⟩ : ∃ W6, w6.alloc (.cells #[.int .i64 vf, .string vi, .int .i64 vp] 26) = W6 := ⟨_, rfl⟩
    have a0 : W6.cell? ⟨w6.heap.size, 0, none⟩ = some (.int .i64 vf) := by rw [← hW6]; simp [go_sem]
    have a1 : W6.cell? ⟨w6.heap.size, 1, none⟩ = some (.string vi) := by rw [← hW6]; simp [go_sem]
    have a2 : W6.cell? ⟨w6.heap.size, 2, none⟩ = some (.int .i64 vp) := by rw [← hW6]; simp [go_sem]
    rw [hW6] at HB6 ⊢
    clear hW6
    refine (V2.out _).mono ?_
    rintro e w7 ⟨rfl, hb⟩
    have HB7 := Lib.hid (blw_alloc (o := .cells #[.int .i64 vf, .string vi, .int .i64 vp] 26) (blw HB6.out hb))
    have b0 := acell (.cells #[.int .i64 vf, .string vi, .int .i64 vp] 26) (kcell hb a0)
    have b1 := acell (.cells #[.int .i64 vf, .string vi, .int .i64 vp] 26) (kcell hb a1)
    have b2 := acell (.cells #[.int .i64 vf, .string vi, .int .i64 vp] 26) (kcell hb a2)
    clear hb a0 a1 a2
    go_wp2_with fail
    refine (HA.out _ (HT.out.below HB7.out)).mono ?_
    rintro e w8 ⟨rfl, hb⟩
    have HB8 := Lib.hid (blw HB7.out hb)
    clear hb
    go_wp2
    go_ret
    exact ⟨rfl, HB8.out⟩
end Go.Proofs.YtpmmilnoeoapoaaGreatDoor.Cg
