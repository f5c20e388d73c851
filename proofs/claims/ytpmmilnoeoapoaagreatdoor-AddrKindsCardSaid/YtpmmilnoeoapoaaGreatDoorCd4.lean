/-
  Addresses: Kind of the reference, family 4, whole. (made by mk_cd.py)
-/
import Derived.Test.YtpmmilnoeoapoaaGreatDoorCd4a
import Derived.Test.YtpmmilnoeoapoaaGreatDoorCd4b
set_option linter.unusedVariables false
namespace Go.Proofs.YtpmmilnoeoapoaaGreatDoor.Bd
open Go Go.RowKit Go.Proofs.YtpmmilnoeoapoaaGreatDoor.Hz Go.Proofs.YtpmmilnoeoapoaaGreatDoor.Ac Go.Proofs.YtpmmilnoeoapoaaGreatDoor.Na Go.Proofs.YtpmmilnoeoapoaaGreatDoor.Sx Go.Proofs.YtpmmilnoeoapoaaGreatDoor.Nb

theorem RKind4 (ip : ByteArray) (p : Int) (w : World) (h : ip.size = 4) : Calls Tryz.prog 62 #[.agg #[.int .i64 4, .string ip, .int .i64 p]] w fun e w' => e = .returned (.int .i64 (kd 4 ip)) ∧ Below w.heap.size w w' := by
  have HKD := kd_4 ip h
  generalize hZ : decide (zr ip 3) = Z at HKD
  generalize hxx : by_ ip 0 = x at HKD
  generalize hyy : by_ ip 1 = y at HKD
  generalize hll : by_ ip 3 = l at HKD
  rw [HKD]
  clear HKD
  cases Z
  · by_cases c0 : 224 ≤ x
    · rw [kb_1 (by first | omega | (simp; omega) | simp_all)]
      exact RK4_0 ip p w x y l h hZ hxx hyy hll c0
    · by_cases c1 : x = 127
      · rw [kb_2 (by first | omega | (simp; omega) | simp_all) (by first | omega | (simp; omega) | simp_all)]
        exact RK4_1 ip p w x y l h hZ hxx hyy hll c0 c1
      · by_cases c2 : x = 10
        · rw [kb_3 (by first | omega | (simp; omega) | simp_all) (by first | omega | (simp; omega) | simp_all) (by unfold ne4; omega)]
          exact RK4_2 ip p w x y l h hZ hxx hyy hll c0 c1 c2
        · by_cases c3 : x = 192
          · by_cases c4 : y = 168
            · rw [kb_3 (by first | omega | (simp; omega) | simp_all) (by first | omega | (simp; omega) | simp_all) (by unfold ne4; omega)]
              exact RK4_3 ip p w x y l h hZ hxx hyy hll c0 c1 c2 c3 c4
            · rw [kb_4 (by first | omega | (simp; omega) | simp_all) (by first | omega | (simp; omega) | simp_all) (by unfold ne4; omega)]
              exact RK4_4 ip p w x y l h hZ hxx hyy hll c0 c1 c2 c3 c4
          · by_cases c4 : x = 169
            · by_cases c5 : y = 254
              · rw [kb_3 (by first | omega | (simp; omega) | simp_all) (by first | omega | (simp; omega) | simp_all) (by unfold ne4; omega)]
                exact RK4_5 ip p w x y l h hZ hxx hyy hll c0 c1 c2 c3 c4 c5
              · rw [kb_4 (by first | omega | (simp; omega) | simp_all) (by first | omega | (simp; omega) | simp_all) (by unfold ne4; omega)]
                exact RK4_6 ip p w x y l h hZ hxx hyy hll c0 c1 c2 c3 c4 c5
            · by_cases c5 : x = 172
              · by_cases c6 : 16 ≤ y
                · by_cases c7 : y ≤ 31
                  · rw [kb_3 (by first | omega | (simp; omega) | simp_all) (by first | omega | (simp; omega) | simp_all) (by unfold ne4; omega)]
                    exact RK4_7 ip p w x y l h hZ hxx hyy hll c0 c1 c2 c3 c4 c5 c6 c7
                  · rw [kb_4 (by first | omega | (simp; omega) | simp_all) (by first | omega | (simp; omega) | simp_all) (by unfold ne4; omega)]
                    exact RK4_8 ip p w x y l h hZ hxx hyy hll c0 c1 c2 c3 c4 c5 c6 c7
                · rw [kb_4 (by first | omega | (simp; omega) | simp_all) (by first | omega | (simp; omega) | simp_all) (by unfold ne4; omega)]
                  exact RK4_9 ip p w x y l h hZ hxx hyy hll c0 c1 c2 c3 c4 c5 c6
              · rw [kb_4 (by first | omega | (simp; omega) | simp_all) (by first | omega | (simp; omega) | simp_all) (by unfold ne4; omega)]
                exact RK4_10 ip p w x y l h hZ hxx hyy hll c0 c1 c2 c3 c4 c5
  · by_cases c0 : l = 0
    · rw [kb_1 (by first | omega | (simp; omega) | simp_all)]
      exact RK4_11 ip p w x y l h hZ hxx hyy hll c0
    · by_cases c1 : 224 ≤ x
      · rw [kb_1 (by first | omega | (simp; omega) | simp_all)]
        exact RK4_12 ip p w x y l h hZ hxx hyy hll c0 c1
      · by_cases c2 : x = 127
        · rw [kb_2 (by first | omega | (simp; omega) | simp_all) (by first | omega | (simp; omega) | simp_all)]
          exact RK4_13 ip p w x y l h hZ hxx hyy hll c0 c1 c2
        · by_cases c3 : x = 10
          · rw [kb_3 (by first | omega | (simp; omega) | simp_all) (by first | omega | (simp; omega) | simp_all) (by unfold ne4; omega)]
            exact RK4_14 ip p w x y l h hZ hxx hyy hll c0 c1 c2 c3
          · by_cases c4 : x = 192
            · by_cases c5 : y = 168
              · rw [kb_3 (by first | omega | (simp; omega) | simp_all) (by first | omega | (simp; omega) | simp_all) (by unfold ne4; omega)]
                exact RK4_15 ip p w x y l h hZ hxx hyy hll c0 c1 c2 c3 c4 c5
              · rw [kb_4 (by first | omega | (simp; omega) | simp_all) (by first | omega | (simp; omega) | simp_all) (by unfold ne4; omega)]
                exact RK4_16 ip p w x y l h hZ hxx hyy hll c0 c1 c2 c3 c4 c5
            · by_cases c5 : x = 169
              · by_cases c6 : y = 254
                · rw [kb_3 (by first | omega | (simp; omega) | simp_all) (by first | omega | (simp; omega) | simp_all) (by unfold ne4; omega)]
                  exact RK4_17 ip p w x y l h hZ hxx hyy hll c0 c1 c2 c3 c4 c5 c6
                · rw [kb_4 (by first | omega | (simp; omega) | simp_all) (by first | omega | (simp; omega) | simp_all) (by unfold ne4; omega)]
                  exact RK4_18 ip p w x y l h hZ hxx hyy hll c0 c1 c2 c3 c4 c5 c6
              · by_cases c6 : x = 172
                · by_cases c7 : 16 ≤ y
                  · by_cases c8 : y ≤ 31
                    · rw [kb_3 (by first | omega | (simp; omega) | simp_all) (by first | omega | (simp; omega) | simp_all) (by unfold ne4; omega)]
                      exact RK4_19 ip p w x y l h hZ hxx hyy hll c0 c1 c2 c3 c4 c5 c6 c7 c8
                    · rw [kb_4 (by first | omega | (simp; omega) | simp_all) (by first | omega | (simp; omega) | simp_all) (by unfold ne4; omega)]
                      exact RK4_20 ip p w x y l h hZ hxx hyy hll c0 c1 c2 c3 c4 c5 c6 c7 c8
                  · rw [kb_4 (by first | omega | (simp; omega) | simp_all) (by first | omega | (simp; omega) | simp_all) (by unfold ne4; omega)]
                    exact RK4_21 ip p w x y l h hZ hxx hyy hll c0 c1 c2 c3 c4 c5 c6 c7
                · rw [kb_4 (by first | omega | (simp; omega) | simp_all) (by first | omega | (simp; omega) | simp_all) (by unfold ne4; omega)]
                  exact RK4_22 ip p w x y l h hZ hxx hyy hll c0 c1 c2 c3 c4 c5 c6
end Go.Proofs.YtpmmilnoeoapoaaGreatDoor.Bd
