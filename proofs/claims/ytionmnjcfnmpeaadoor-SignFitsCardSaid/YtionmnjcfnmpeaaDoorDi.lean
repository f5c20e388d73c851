/-
  strconv.Itoa, laid; Decimal.
-/
import Derived.Test.YtionmnjcfnmpeaaDoorHf
import Derived.Shelf.Strconv.Itoa3
import Derived.Shelf.Lay
import Derived.Ground.NamesProg
import Derived.Lib.AppendIntMem
import Derived.WalkKit
import Derived.WalkSpells
import Derived.LoopTactic
import Derived.Outline
import Derived.BigRegion
import Derived.Lib.Hide
namespace Go.Proofs
open Go.Shelf
shelf_lay LaysM.n171 Nm 171 at Tryd as Tryd.laysItoa
end Go.Proofs
namespace Go.Proofs.YtionmnjcfnmpeaaDoor.Hh
open Go Go.RowKit

/-- strconv's table in memory -/
def Tab (w : World) : Prop := Lib.TabIs Tryd.prog w "internal/strconv.uint64pow10" .u64 Lib.pow10Tab
theorem Tab.below {w w' : World} (h : Tab w) (hb : Below w.heap.size w w') : Tab w' := Lib.tabBelow_of_tabIs h w' hb

/-- a number's digits -/
def dec (k : Nat) : ByteArray := ⟨(Lib.decDigits k).toArray⟩
theorem dec_data (k : Nat) : (dec k).data.toList = Lib.decDigits k := rfl

theorem below_grow (w : World) (k : Nat) (os : Array Obj) : Below w.heap.size w (Sort.grow (w.drewN k) os) := by
  refine ⟨rfl, rfl, rfl, ?_, fun b hb => ?_⟩
  · simp [Sort.grow]
  · simp [Sort.grow, Array.getElem?_append_left hb]

theorem Itoa_any (k : Nat) (hk : k ≤ 9223372036854775807) (w : World) (ht : Tab w) :
    Calls Tryd.prog 76 #[.int .i64 (k : Int)] w fun e w' => e = .returned (.string (dec k)) ∧ Below w.heap.size w w' := by
  refine (Any.strconv_Itoa Tryd.laysItoa (k : Int) (by omega) (by omega) w ht).mono ?_
  rintro e w' ⟨rfl, n, os, rfl⟩
  refine ⟨?_, below_grow w n os⟩
  rw [Lib.itoa_nonneg]
  rfl

theorem dec_small (k : Nat) (h : k < 10) : dec k = strOfNums [48 + (k : Int)] := by
  apply ByteArray.ext
  apply Array.toList_inj.1
  rw [dec_data, Lib.decDigits_one h, strOfNums_data]
  simp only [List.map_cons, List.map_nil]
  rw [show (48 + (k : Int)).toNat = 48 + k by omega]
theorem dec_big (k : Nat) (h : ¬ k < 10) : dec k = dec (k / 10) ++ strOfNums [48 + ((k % 10 : Nat) : Int)] := by
  apply ByteArray.ext
  apply Array.toList_inj.1
  rw [ByteArray.data_append, Array.toList_append, dec_data, dec_data, strOfNums_data]
  rw [Lib.decDigits, dif_neg h]
  simp only [List.map_cons, List.map_nil]
  rw [show (48 + ((k % 10 : Nat) : Int)).toNat = 48 + k % 10 by omega]
theorem dec_size (k : Nat) (h : k ≤ 9223372036854775807) : (dec k).size ≤ 30 := by
  have : ∀ n k : Nat, k < 10 ^ (n + 1) → (dec k).size ≤ n + 1 := by
    intro n
    induction n with
    | zero => intro k hk; rw [dec_small k (by omega), strOfNums_size]; simp
    | succ n ih =>
      intro k hk
      by_cases h10 : k < 10
      · rw [dec_small k h10, strOfNums_size]; simp
      · rw [dec_big k h10, ByteArray.size_append, strOfNums_size]
        have := ih (k / 10) (by rw [Nat.pow_succ] at hk; omega)
        simp; omega
  have := this 19 k (by omega)
  omega

theorem conv1 (w : World) (v : Int) : (convert 70 9 (.slice (some ⟨w.heap.size, 0, none⟩) 1 1)).run Tryd.prog (w.alloc (.cells #[.int .u8 v] 5)) = .ok (.string (strOfNums [v])) (w.alloc (.cells #[.int .u8 v] 5)) :=
  conv_new w #[.int .u8 v] [v] _ 1 _ rfl rfl rfl

set_option maxRecDepth 100000 in
set_option maxHeartbeats 800000 in
theorem Decimal_small (k : Nat) (hk : k < 10) (w : World) :
    Calls Tryd.prog 89 #[.int .i64 (k : Int)] w fun e w' => e = .returned (.string (dec k)) ∧ Below w.heap.size w w' := by
  have hcv := fun v => conv1 w v
  have a1 : (k : Int) % 10 = (k : Int) := by omega
  have a2 : IntKind.u8.wrap (48 + (k : Int)) = 48 + (k : Int) := by simp only [IntKind.wrap_u8]; omega
  have HD := Lib.hid (dec_small k hk)
  go_enter Tryd.func89, Tryd.ntmps89
  go_wp2_with fail
  go_ret
  exact ⟨by rw [HD.out]; rfl, (Below.refl _ _).alloc (Nat.le_refl _) _⟩

set_option maxRecDepth 100000 in
set_option maxHeartbeats 800000 in
theorem Decimal_any : ∀ (n k : Nat), k < 10 ^ (n + 1) → k ≤ 9223372036854775807 → ∀ w : World,
    Calls Tryd.prog 89 #[.int .i64 (k : Int)] w fun e w' => e = .returned (.string (dec k)) ∧ Below w.heap.size w w' := by
  intro n
  induction n with
  | zero => exact fun k hk _ w => Decimal_small k (by omega) w
  | succ n ih =>
    intro k hk hm w
    by_cases h10 : k < 10
    · exact Decimal_small k h10 w
    · have hih : ∀ w, Calls Tryd.prog 89 #[.int .i64 ((k : Int) / 10)] w fun e w' => e = .returned (.string (dec (k / 10))) ∧ Below w.heap.size w w' := fun w => by
        have := ih (k / 10) (by rw [Nat.pow_succ] at hk; omega) (by omega) w
        rwa [show ((k / 10 : Nat) : Int) = (k : Int) / 10 by omega] at this
      have hd : dec k = dec (k / 10) ++ strOfNums [48 + (k : Int) % 10] := by rw [dec_big k h10, show ((k % 10 : Nat) : Int) = (k : Int) % 10 by omega]
      have hz1 : (dec (k / 10)).size ≤ 30 := dec_size _ (by omega)
      have hz2 : (strOfNums [48 + (k : Int) % 10]).size = 1 := by rw [strOfNums_size]; rfl
      have hcv := fun v => conv1 w v
      have a2 : IntKind.u8.wrap (48 + (k : Int) % 10) = 48 + (k : Int) % 10 := by simp only [IntKind.wrap_u8]; omega
      generalize dec (k / 10) = D at hih hd hz1
      have HD := Lib.hid hd
      have HI := Lib.hid hih
      clear hd hih ih
      go_enter Tryd.func89, Tryd.ntmps89
      go_wp2_with fail
      refine (HI.out _).mono ?_
      rintro e w1 ⟨rfl, hb1⟩
      go_wp2_with fail
      go_ret
      exact ⟨by rw [HD.out]; rfl, below_alloc _ hb1⟩

theorem Decimal_all (k : Nat) (hk : k ≤ 9223372036854775807) (w : World) :
    Calls Tryd.prog 89 #[.int .i64 (k : Int)] w fun e w' => e = .returned (.string (dec k)) ∧ Below w.heap.size w w' :=
  Decimal_any 19 k (by omega) hk w

end Go.Proofs.YtionmnjcfnmpeaaDoor.Hh
