/-
  node: NodeBits where the identifier is none.
-/
import Derived.Test.YtionmnjcfnmpeaaDoorNx
namespace Go.Proofs.YtionmnjcfnmpeaaDoor.Nq
open Go Go.RowKit Go.Shelf Go.Proofs.YtionmnjcfnmpeaaDoor.Hz Go.Proofs.YtionmnjcfnmpeaaDoor.Na Go.Proofs.YtionmnjcfnmpeaaDoor.Nb Go.Proofs.YtionmnjcfnmpeaaDoor.Nf
open Go.Proofs.YtionmnjcfnmpeaaDoor.Nh (flp)

set_option maxRecDepth 1000000 in
set_option maxHeartbeats 4000000 in
theorem bits_no (s o d : ByteArray) (i n k : Int) (w : World) (hv : vd s = false) (hk : k ≤ 9223372036854775807) (ht : Hh.Tab w) :
    Calls Tryd.prog 4 #[.string s, .string o, .string d, .int .i64 i, .int .i64 n, .int .i64 k] w fun e w' => e = .returned (.bool true) ∧ Below w.heap.size w w' := by
  have HT : Hid (∀ w', Below w.heap.size w w' → Hh.Tab w') := Lib.hid fun w' h => ht.below h
  have HAW := Lib.hid Nh.awake_any
  have H1 := Lib.hid (fun w => Bit_id s i w hv)
  have H2 := Lib.hid (fun w => Flip_id s i w hv)
  have H3 := Lib.hid (fun w => Prefix_id s n w hv)
  have H4 := Lib.hid (fun w => Within_id o s n w (by rw [hv, Bool.and_false]))
  have H5 := Lib.hid (fun w => Next_id s w hv)
  have H6 := Lib.hid (fun w => Middle_id s o w (by rw [hv, Bool.false_and]))
  have H7 := Lib.hid (fun w => In_id s n d k w hv)
  have H8 := Lib.hid (fun w ht => Random_v d k w hk ht)
  have H9 := Lib.hid (fun w => Nj.RValid_any s w)
  rw [hv] at H9
  obtain ⟨v8, e8⟩ : ∃ v, raV d k = v := ⟨_, rfl⟩
  obtain ⟨er, f6⟩ : ∃ v, raE d k = v := ⟨_, rfl⟩
  simp only [e8, f6] at H8
  clear hv e8 f6 ht
  go_enter Tryd.func4, Tryd.ntmps4
  go_wp2_with fail
  refine (H1.out _).mono ?_
  rintro e w1 ⟨rfl, b1⟩
  have B1 := Lib.hid b1
  clear b1
  go_wp2_with fail
  refine (H2.out _).mono ?_
  rintro e w2 ⟨rfl, b⟩
  have B2 := Lib.hid (blw B1.out b)
  clear b B1
  go_wp2_with fail
  refine (H3.out _).mono ?_
  rintro e w3 ⟨rfl, b⟩
  have B3 := Lib.hid (blw B2.out b)
  clear b B2
  go_wp2_with fail
  refine (H4.out _).mono ?_
  rintro e w4 ⟨rfl, b⟩
  have B4 := Lib.hid (blw B3.out b)
  clear b B3
  go_wp2_with fail
  refine (H5.out _).mono ?_
  rintro e w5 ⟨rfl, b⟩
  have B5 := Lib.hid (blw B4.out b)
  clear b B4
  go_wp2_with fail
  refine (H6.out _).mono ?_
  rintro e w6 ⟨rfl, b⟩
  have B6 := Lib.hid (blw B5.out b)
  clear b B5
  go_wp2_with fail
  refine (H7.out _).mono ?_
  rintro e w7 ⟨rfl, b⟩
  have B7 := Lib.hid (blw B6.out b)
  clear b B6
  go_wp2_with fail
  refine (H8.out _ (HT.out _ B7.out)).mono ?_
  rintro e w8 ⟨rfl, b⟩
  have B8 := Lib.hid (blw B7.out b)
  clear b B7
  go_wp2_with fail
  refine (H9.out _).mono ?_
  rintro e w9 ⟨rfl, rfl⟩
  go_wp2_with fail
  refine (HAW.out _).mono ?_
  rintro e w10 ⟨rfl, b⟩
  have B10 := Lib.hid (blw B8.out b)
  clear b B8
  go_wp2
  go_ret
  exact ⟨rfl, B10.out⟩
end Go.Proofs.YtionmnjcfnmpeaaDoor.Nq
