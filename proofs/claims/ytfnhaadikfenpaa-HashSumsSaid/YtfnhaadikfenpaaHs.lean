/-
  HashSums: the walk.
-/
import Derived.Test.YtfnhaadikfenpaaHr
import Derived.WalkKit
import Derived.WalkSpells
import Derived.WalkLawsBesides
import Derived.LoopTactic
import Derived.Outline
import Derived.Deep.QuietTactic
import Derived.BigQuiet
import Derived.BigRegion
import Derived.RegionTactic
import Derived.Deep.RegionWith
import Derived.Lib.Hide
namespace Go.Proofs.Ytfnhaadikfenpaa.Hh
open Go Go.RowKit





theorem beq_self (x : ByteArray) : (x.toList == x.toList) = true := by simp
theorem chk_sum (l : List UInt8) : Dg.chk l (Dg.sum l) = true := by
  have hz := Dg.sum_size l
  have hck : ∀ d', Dg.chk l d' = if d'.size = 20 then (Dg.old l).toList == d'.toList else if d'.size = 32 then (Dg.sum l).toList == d'.toList else false := fun _ => rfl
  generalize Dg.sum l = d at hz hck ⊢
  rw [hck, if_neg (by omega), if_pos hz]
  exact beq_self d
theorem chk_old (l : List UInt8) : Dg.chk l (Dg.old l) = true := by
  have hz := Dg.old_size l
  have hck : ∀ d', Dg.chk l d' = if d'.size = 20 then (Dg.old l).toList == d'.toList else if d'.size = 32 then (Dg.sum l).toList == d'.toList else false := fun _ => rfl
  generalize Dg.old l = d at hz hck ⊢
  rw [hck, if_pos hz]
  exact beq_self d

set_option maxHeartbeats 1000000 in
theorem sums_in (a b d : ByteArray) (w : World) (h : a.size + b.size ≤ 5000) :
    Calls Try.prog 3 #[.string a, .string b, .string d] w fun e w' => e = .returned (.bool true) ∧ Below w.heap.size w w' := by
  have ha : a.size + 4 ≤ maxLen := by unfold maxLen; omega
  have hb : b.size + 4 ≤ maxLen := by unfold maxLen; omega
  have hab : a.size + b.size ≤ maxLen := by unfold maxLen; omega
  obtain ⟨S, hS⟩ : ∃ S, Dg.sum a.data.toList = S := ⟨_, rfl⟩
  obtain ⟨O, hO⟩ : ∃ O, Dg.old a.data.toList = O := ⟨_, rfl⟩
  obtain ⟨R, hR⟩ : ∃ R, Dg.sum (a.data.toList ++ b.data.toList) = R := ⟨_, rfl⟩
  obtain ⟨Z, hZ⟩ : ∃ Z, Dg.zero = Z := ⟨_, rfl⟩
  obtain ⟨C, hC⟩ : ∃ C, Dg.chk a.data.toList d = C := ⟨_, rfl⟩
  obtain ⟨S', hS'⟩ : ∃ S, Dg.sum b.data.toList = S := ⟨_, rfl⟩
  obtain ⟨O', hO'⟩ : ∃ O, Dg.old b.data.toList = O := ⟨_, rfl⟩
  have HS := Lib.hid hS
  have HO := Lib.hid hO
  have HR := Lib.hid hR
  have HZ := Lib.hid hZ
  have HC := Lib.hid hC
  have HS' := Lib.hid hS'
  have HO' := Lib.hid hO'
  have hc1 := chk_sum b.data.toList
  have hc2 := chk_old b.data.toList
  rw [hS'] at hc1
  rw [hO'] at hc2
  clear hS hO hR hZ hC hS' hO'
  have Hc1 := Lib.hid hc1
  have Hc2 := Lib.hid hc2
  clear hc1 hc2
  go_enter Try.func3, Try.ntmps3
  go_wp2_with fail
  refine (Sum_any a _ (by omega)).mono ?_
  rintro e w1 ⟨rfl, hb1⟩
  rw [HS.out]
  go_wp2_with fail
  refine (RSum_any a _ (by omega)).mono ?_
  rintro e w2 ⟨rfl, hb2⟩
  rw [HS.out]
  go_wp2_with fail
  refine (Old_any a _ ha).mono ?_
  rintro e w3 ⟨rfl, hb3⟩
  rw [HO.out]
  go_wp2_with fail
  refine (ROld_any a _ ha).mono ?_
  rintro e w4 ⟨rfl, hb4⟩
  rw [HO.out]
  go_wp2_with fail
  refine (Pair_any a b _ hab).mono ?_
  rintro e w5 ⟨rfl, hb5⟩
  rw [HR.out]
  go_wp2_with fail
  refine (RPair_any a b _ hab).mono ?_
  rintro e w6 ⟨rfl, hb6⟩
  rw [HR.out]
  go_wp2_with fail
  refine (Zero_any _).mono ?_
  rintro e w7 ⟨rfl, hb7⟩
  rw [HZ.out]
  go_wp2_with fail
  refine (RZero_any _).mono ?_
  rintro e w8 ⟨rfl, hb8⟩
  rw [HZ.out]
  go_wp2_with fail
  refine (check_any a d _ ha).mono ?_
  rintro e w9 ⟨rfl, hb9⟩
  rw [HC.out]
  go_wp2_with fail
  refine (RCheck_any a d _ ha).mono ?_
  rintro e w10 ⟨rfl, hb10⟩
  rw [HC.out]
  have hCC : (C != C) = false := by cases C <;> rfl
  go_wp2_with fail
  refine (Sum_any b _ (by omega)).mono ?_
  rintro e w11 ⟨rfl, hb11⟩
  rw [HS'.out]
  go_wp2_with fail
  refine (check_any b S' _ hb).mono ?_
  rintro e w12 ⟨rfl, hb12⟩
  rw [Hc1.out]
  go_wp2_with fail
  refine (Old_any b _ hb).mono ?_
  rintro e w13 ⟨rfl, hb13⟩
  rw [HO'.out]
  go_wp2_with fail
  refine (check_any b O' _ hb).mono ?_
  rintro e w14 ⟨rfl, hb14⟩
  rw [Hc2.out]
  go_wp2_with fail
  refine (awake_any _).mono ?_
  rintro e w15 ⟨rfl, hb15⟩
  go_wp2
  go_ret
  exact ⟨rfl, by repeat (first | exact Below.refl _ _ | refine blw ?_ (by assumption))⟩

set_option maxHeartbeats 400000 in
theorem sums_out (a b d : ByteArray) (w : World) (h : 5000 < a.size + b.size) (ha : a.size ≤ 140737488351232) (hb : b.size ≤ 140737488351232) :
    Calls Try.prog 3 #[.string a, .string b, .string d] w fun e w' => e = .returned (.bool true) ∧ Below w.heap.size w w' := by
  go_enter Try.func3, Try.ntmps3
  go_wp2_with fail
  refine (awake_any _).mono ?_
  rintro e w15 ⟨rfl, hb15⟩
  go_wp2
  go_ret
  exact ⟨rfl, hb15⟩

end Go.Proofs.Ytfnhaadikfenpaa.Hh
