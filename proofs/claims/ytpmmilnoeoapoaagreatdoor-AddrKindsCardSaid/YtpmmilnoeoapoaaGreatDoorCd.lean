/-
  Addresses: Kind of the reference.
-/
import Derived.Test.YtpmmilnoeoapoaaGreatDoorBf
import Derived.Test.YtpmmilnoeoapoaaGreatDoorAh
import Derived.Test.YtpmmilnoeoapoaaGreatDoorNb
set_option linter.unusedVariables false
namespace Go.Proofs.YtpmmilnoeoapoaaGreatDoor.Bd
open Go Go.RowKit Go.Proofs.YtpmmilnoeoapoaaGreatDoor.Hz Go.Proofs.YtpmmilnoeoapoaaGreatDoor.Ac Go.Proofs.YtpmmilnoeoapoaaGreatDoor.Na Go.Proofs.YtpmmilnoeoapoaaGreatDoor.Sx Go.Proofs.YtpmmilnoeoapoaaGreatDoor.Nb

/-- all but the last byte are 0 -/
def zr (ip : ByteArray) (n : Nat) : Prop := ∀ j, j < n → by_ ip j = 0
instance (ip : ByteArray) (n : Nat) : Decidable (zr ip n) := by unfold zr; infer_instance
theorem by_ext' (s t : ByteArray) (n : Nat) (hs : s.size = n) (ht : t.size = n) (h : ∀ k, k < n → by_ s k = by_ t k) : s = t := by
  apply ByteArray.ext
  apply Array.ext'
  apply List.ext_getElem (by rw [Na.len_data, Na.len_data, hs, ht])
  intro k h1 h2
  rw [Na.len_data] at h1 h2
  have := h k (by omega)
  unfold by_ at this
  rw [List.getD, List.getD, List.getElem?_eq_getElem (by rw [Na.len_data]; omega), List.getElem?_eq_getElem (by rw [Na.len_data]; omega)] at this
  exact UInt8.toNat_inj.1 this
theorem by_extract (s : ByteArray) (n k : Nat) (h : k < n) (hn : n ≤ s.size) : by_ (s.extract 0 n) k = by_ s k := by
  have h1 : k < (s.extract 0 n).size := by rw [ByteArray.size_extract]; omega
  have h2 : k < s.size := by omega
  rw [← by_at _ k h1, ← by_at s k h2, ByteArray.getElem_extract]
  congr 2
  omega
theorem by_zero (n k : Nat) (h : k < n) : by_ (strOfNums (List.replicate n 0)) k = 0 := by
  refine by_str _ k (by simpa using h) 0 (by omega) ?_
  simp [List.getD, h]
theorem zr_beq (ip : ByteArray) (n : Nat) (h : n ≤ ip.size) : ((ip.extract 0 n).toList == (strOfNums (List.replicate n 0)).toList) = decide (zr ip n) := by
  rw [tl_beq, decide_eq_decide]
  constructor
  · intro e j hj
    rw [← by_extract ip n j hj h, e, by_zero n j hj]
  · intro e
    exact by_ext' _ _ n (by rw [ByteArray.size_extract]; omega) (by rw [strOfNums_size]; simp) fun k hk => by rw [by_extract ip n k hk h, e k hk, by_zero n k hk]
theorem az_zr (ip : ByteArray) (n : Nat) (h : ip.size = n + 1) : az ip ↔ zr ip n ∧ by_ ip n = 0 := by
  constructor
  · exact fun a => ⟨fun j hj => a j (by omega), a n (by omega)⟩
  · rintro ⟨a, b⟩ j hj
    by_cases e : j < n
    · exact a j e
    · rw [show j = n by omega]; exact b
theorem on_zr (ip : ByteArray) (h : ip.size = 16) : on ip ↔ zr ip 15 ∧ by_ ip 15 = 1 := by
  constructor
  · rintro rfl
    exact ⟨by decide, by decide⟩
  · rintro ⟨a, b⟩
    refine by_ext' _ _ 16 h rfl fun k hk => ?_
    by_cases e : k < 15
    · rw [a k e]
      have : ∀ j : Fin 15, by_ ⟨#[0, 0, 0, 0, 0, 0, 0, 0, 0, 0, 0, 0, 0, 0, 0, 1]⟩ j.val = 0 := by decide
      exact (this ⟨k, e⟩).symm
    · rw [show k = 15 by omega, b]; rfl
theorem kd_4 (ip : ByteArray) (h : ip.size = 4) : kd 4 ip = kb (decide ((decide (zr ip 3) = true ∧ by_ ip 3 = 0) ∨ 224 ≤ by_ ip 0)) (decide (by_ ip 0 = 127)) (decide (ne4 (by_ ip 0) (by_ ip 1))) := by
  rw [kd_kb]
  congr 1
  · exact decide_eq_decide.2 (by rw [az_zr ip 3 h]; simp [noP])
  · exact decide_eq_decide.2 (by simp [owP])
  · exact decide_eq_decide.2 (by simp [neP])
theorem kd_6 (ip : ByteArray) (h : ip.size = 16) : kd 6 ip = kb (decide ((decide (zr ip 15) = true ∧ by_ ip 15 = 0) ∨ by_ ip 0 = 255)) (decide (decide (zr ip 15) = true ∧ by_ ip 15 = 1)) (decide (ne6 (by_ ip 0) (by_ ip 1))) := by
  rw [kd_kb]
  congr 1
  · exact decide_eq_decide.2 (by rw [az_zr ip 15 h]; simp [noP])
  · exact decide_eq_decide.2 (by rw [decide_eq_true_eq, ← on_zr ip h]; simp [owP])
  · exact decide_eq_decide.2 (by simp [neP])

theorem kb_1 {A B C : Prop} [Decidable A] [Decidable B] [Decidable C] (h : A) : kb (decide A) (decide B) (decide C) = 1 := by unfold kb; rw [if_pos (decide_eq_true h)]
theorem kb_2 {A B C : Prop} [Decidable A] [Decidable B] [Decidable C] (h : ¬ A) (g : B) : kb (decide A) (decide B) (decide C) = 2 := by unfold kb; rw [if_neg (by simpa using h), if_pos (decide_eq_true g)]
theorem kb_3 {A B C : Prop} [Decidable A] [Decidable B] [Decidable C] (h : ¬ A) (g : ¬ B) (k : C) : kb (decide A) (decide B) (decide C) = 3 := by unfold kb; rw [if_neg (by simpa using h), if_neg (by simpa using g), if_pos (decide_eq_true k)]
theorem kb_4 {A B C : Prop} [Decidable A] [Decidable B] [Decidable C] (h : ¬ A) (g : ¬ B) (k : ¬ C) : kb (decide A) (decide B) (decide C) = 4 := by unfold kb; rw [if_neg (by simpa using h), if_neg (by simpa using g), if_neg (by simpa using k)]
end Go.Proofs.YtpmmilnoeoapoaaGreatDoor.Bd
