/-
  HashMasks: the walk.
-/
import Derived.Test.YtfnhaadikfenpaaHu
import Derived.WalkKit
import Derived.WalkSpells
import Derived.WalkLawsBesides
import Derived.LoopTactic
import Derived.Outline
import Derived.Deep.QuietTactic
import Derived.BigQuiet
import Derived.BigRegion
import Derived.RegionTactic
import Derived.Deep.RegionWith
import Derived.Lib.Hide
namespace Go.Proofs.Ytfnhaadikfenpaa.Hh
open Go Go.RowKit






theorem xor_byte (x y : UInt8) : UInt8.ofNat (bits BinOp.xor IntKind.u8 (x.toNat : Int) (y.toNat : Int)).toNat = x ^^^ y := by
  rw [u8_xor_nat _ _ (UInt8.toNat_lt x) (UInt8.toNat_lt y), Int.toNat_natCast, ← UInt8.toNat_xor]
  exact UInt8.ofNat_toNat
theorem mx_data (a b : ByteArray) : (mx a b).data.toList = List.zipWith (fun x y => x ^^^ y) a.data.toList b.data.toList := by
  unfold mx mxI
  rw [strOfNums_data, List.map_zipWith]
  simp only [xor_byte]
theorem zip_back : ∀ (l m : List UInt8), l.length = m.length → List.zipWith (fun x y => x ^^^ y) (List.zipWith (fun x y => x ^^^ y) l m) m = l
  | [], [], _ => rfl
  | x :: l, y :: m, h => by
    simp only [List.zipWith_cons_cons]
    rw [zip_back l m (by simpa using h), UInt8.xor_assoc, UInt8.xor_self, UInt8.xor_zero]
theorem mx_back (a b : ByteArray) (h : a.size = b.size) : mx (mx a b) b = a := by
  apply ByteArray.ext
  apply Array.toList_inj.1
  rw [mx_data, mx_data]
  exact zip_back _ _ (by rw [len_data, len_data]; exact h)
theorem mx_size (a b : ByteArray) (h : a.size = b.size) : (mx a b).size = a.size := by
  rw [mx, strOfNums_size, mxI_length a b h]

set_option maxHeartbeats 400000 in
theorem masks_out (a b : ByteArray) (w : World) (h : 5000 < a.size ∨ 5000 < b.size) :
    Calls Try.prog 8 #[.string a, .string b] w fun e w' => e = .returned (.bool true) ∧ Below w.heap.size w w' := by
  by_cases h1 : (5000 : Int) < (a.size : Int)
  · go_enter Try.func8, Try.ntmps8
    go_wp2_with (go_at_call 9; refine (awake_any _).mono ?_; rintro e w1 ⟨rfl, hb1⟩)
    go_ret
    exact ⟨rfl, hb1⟩
  · have h2 : (5000 : Int) < (b.size : Int) := by omega
    go_enter Try.func8, Try.ntmps8
    go_wp2_with (go_at_call 9; refine (awake_any _).mono ?_; rintro e w1 ⟨rfl, hb1⟩)
    go_ret
    exact ⟨rfl, hb1⟩

set_option maxHeartbeats 400000 in
theorem masks_ne (a b : ByteArray) (w : World) (ha : a.size ≤ 5000) (hb : b.size ≤ 5000) (h : a.size ≠ b.size) :
    Calls Try.prog 8 #[.string a, .string b] w fun e w' => e = .returned (.bool true) ∧ Below w.heap.size w w' := by
  have h1 : decide ((5000 : Int) < (a.size : Int)) = false := by simp; omega
  have h2 : decide ((5000 : Int) < (b.size : Int)) = false := by simp; omega
  go_enter Try.func8, Try.ntmps8
  go_wp2_with fail
  refine (Mask_ne a b _ h).mono ?_
  rintro e w1 ⟨rfl, hb1⟩
  go_wp2_with fail
  refine (RMask_ne a b _ h).mono ?_
  rintro e w2 ⟨rfl, hb2⟩
  go_wp2_with fail
  refine (awake_any _).mono ?_
  rintro e w3 ⟨rfl, hb3⟩
  go_wp2
  go_ret
  exact ⟨rfl, blw (blw hb1 hb2) hb3⟩

set_option maxHeartbeats 400000 in
theorem masks_eq (a b : ByteArray) (w : World) (ha : a.size ≤ 5000) (h : a.size = b.size) :
    Calls Try.prog 8 #[.string a, .string b] w fun e w' => e = .returned (.bool true) ∧ Below w.heap.size w w' := by
  have h1 : decide ((5000 : Int) < (a.size : Int)) = false := by simp; omega
  have h2 : decide ((5000 : Int) < (b.size : Int)) = false := by simp; omega
  have hz := mx_size a b h
  have hk := mx_back a b h
  have hR := fun w => RMask_eq a b w h ha
  have hM := fun w => Mask_eq a b w h ha
  have hM2 := fun w => Mask_eq (mx a b) b w (by omega) (by omega)
  rw [hk] at hM2
  generalize mx a b = m at hR hM hM2
  have HR := Lib.hid hR
  have HM := Lib.hid hM
  have HM2 := Lib.hid hM2
  clear hR hM hM2 hz hk h
  go_enter Try.func8, Try.ntmps8
  go_wp2_with fail
  refine (HM.out _).mono ?_
  rintro e w1 ⟨rfl, hb1⟩
  go_wp2_with fail
  refine (HR.out _).mono ?_
  rintro e w2 ⟨rfl, hb2⟩
  go_wp2_with fail
  refine (HM2.out _).mono ?_
  rintro e w3 ⟨rfl, hb3⟩
  go_wp2_with fail
  refine (awake_any _).mono ?_
  rintro e w4 ⟨rfl, hb4⟩
  go_wp2
  go_ret
  exact ⟨rfl, blw (blw (blw hb1 hb2) hb3) hb4⟩

end Go.Proofs.Ytfnhaadikfenpaa.Hh
