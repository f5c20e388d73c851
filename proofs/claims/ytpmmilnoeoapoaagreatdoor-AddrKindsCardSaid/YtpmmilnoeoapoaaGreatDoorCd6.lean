/-
  Addresses: Kind of the reference, family 6, whole. (made by mk_cd.py)
-/
import Derived.Test.YtpmmilnoeoapoaaGreatDoorCd6a
import Derived.Test.YtpmmilnoeoapoaaGreatDoorCd6b
set_option linter.unusedVariables false
namespace Go.Proofs.YtpmmilnoeoapoaaGreatDoor.Bd
open Go Go.RowKit Go.Proofs.YtpmmilnoeoapoaaGreatDoor.Hz Go.Proofs.YtpmmilnoeoapoaaGreatDoor.Ac Go.Proofs.YtpmmilnoeoapoaaGreatDoor.Na Go.Proofs.YtpmmilnoeoapoaaGreatDoor.Sx Go.Proofs.YtpmmilnoeoapoaaGreatDoor.Nb

theorem RKind6 (ip : ByteArray) (p : Int) (w : World) (h : ip.size = 16) : Calls Tryz.prog 62 #[.agg #[.int .i64 6, .string ip, .int .i64 p]] w fun e w' => e = .returned (.int .i64 (kd 6 ip)) ∧ Below w.heap.size w w' := by
  have HKD := kd_6 ip h
  generalize hZ : decide (zr ip 15) = Z at HKD
  generalize hxx : by_ ip 0 = x at HKD
  generalize hyy : by_ ip 1 = y at HKD
  generalize hll : by_ ip 15 = l at HKD
  rw [HKD]
  clear HKD
  cases Z
  · by_cases c0 : x = 255
    · rw [kb_1 (by first | omega | (simp; omega) | simp_all)]
      exact RK6_0 ip p w x y l h hZ hxx hyy hll c0
    · by_cases c1 : x = 252
      · rw [kb_3 (by first | omega | (simp; omega) | simp_all) (by first | omega | (simp; omega) | simp_all) (by unfold ne6; omega)]
        exact RK6_1 ip p w x y l h hZ hxx hyy hll c0 c1
      · by_cases c2 : x = 253
        · rw [kb_3 (by first | omega | (simp; omega) | simp_all) (by first | omega | (simp; omega) | simp_all) (by unfold ne6; omega)]
          exact RK6_2 ip p w x y l h hZ hxx hyy hll c0 c1 c2
        · by_cases c3 : x = 254
          · by_cases c4 : 128 ≤ y
            · by_cases c5 : y ≤ 191
              · rw [kb_3 (by first | omega | (simp; omega) | simp_all) (by first | omega | (simp; omega) | simp_all) (by unfold ne6; omega)]
                exact RK6_3 ip p w x y l h hZ hxx hyy hll c0 c1 c2 c3 c4 c5
              · rw [kb_4 (by first | omega | (simp; omega) | simp_all) (by first | omega | (simp; omega) | simp_all) (by unfold ne6; omega)]
                exact RK6_4 ip p w x y l h hZ hxx hyy hll c0 c1 c2 c3 c4 c5
            · rw [kb_4 (by first | omega | (simp; omega) | simp_all) (by first | omega | (simp; omega) | simp_all) (by unfold ne6; omega)]
              exact RK6_5 ip p w x y l h hZ hxx hyy hll c0 c1 c2 c3 c4
          · rw [kb_4 (by first | omega | (simp; omega) | simp_all) (by first | omega | (simp; omega) | simp_all) (by unfold ne6; omega)]
            exact RK6_6 ip p w x y l h hZ hxx hyy hll c0 c1 c2 c3
  · by_cases c0 : l = 0
    · rw [kb_1 (by first | omega | (simp; omega) | simp_all)]
      exact RK6_7 ip p w x y l h hZ hxx hyy hll c0
    · by_cases c1 : x = 255
      · rw [kb_1 (by first | omega | (simp; omega) | simp_all)]
        exact RK6_8 ip p w x y l h hZ hxx hyy hll c0 c1
      · by_cases c2 : l = 1
        · rw [kb_2 (by first | omega | (simp; omega) | simp_all) (by first | omega | (simp; omega) | simp_all)]
          exact RK6_9 ip p w x y l h hZ hxx hyy hll c0 c1 c2
        · by_cases c3 : x = 252
          · rw [kb_3 (by first | omega | (simp; omega) | simp_all) (by first | omega | (simp; omega) | simp_all) (by unfold ne6; omega)]
            exact RK6_10 ip p w x y l h hZ hxx hyy hll c0 c1 c2 c3
          · by_cases c4 : x = 253
            · rw [kb_3 (by first | omega | (simp; omega) | simp_all) (by first | omega | (simp; omega) | simp_all) (by unfold ne6; omega)]
              exact RK6_11 ip p w x y l h hZ hxx hyy hll c0 c1 c2 c3 c4
            · by_cases c5 : x = 254
              · by_cases c6 : 128 ≤ y
                · by_cases c7 : y ≤ 191
                  · rw [kb_3 (by first | omega | (simp; omega) | simp_all) (by first | omega | (simp; omega) | simp_all) (by unfold ne6; omega)]
                    exact RK6_12 ip p w x y l h hZ hxx hyy hll c0 c1 c2 c3 c4 c5 c6 c7
                  · rw [kb_4 (by first | omega | (simp; omega) | simp_all) (by first | omega | (simp; omega) | simp_all) (by unfold ne6; omega)]
                    exact RK6_13 ip p w x y l h hZ hxx hyy hll c0 c1 c2 c3 c4 c5 c6 c7
                · rw [kb_4 (by first | omega | (simp; omega) | simp_all) (by first | omega | (simp; omega) | simp_all) (by unfold ne6; omega)]
                  exact RK6_14 ip p w x y l h hZ hxx hyy hll c0 c1 c2 c3 c4 c5 c6
              · rw [kb_4 (by first | omega | (simp; omega) | simp_all) (by first | omega | (simp; omega) | simp_all) (by unfold ne6; omega)]
                exact RK6_15 ip p w x y l h hZ hxx hyy hll c0 c1 c2 c3 c4 c5
end Go.Proofs.YtpmmilnoeoapoaaGreatDoor.Bd
