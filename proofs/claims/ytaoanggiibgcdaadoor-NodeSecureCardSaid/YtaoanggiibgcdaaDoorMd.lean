/-
  Addresses: the specification's Node: an identifier of 20 bytes.
-/
import Derived.Test.YtaoanggiibgcdaaDoorMb
namespace Go.Proofs.YtaoanggiibgcdaaDoor.Ma
open Go Go.RowKit Go.Shelf Go.Proofs.YtaoanggiibgcdaaDoor.Hz Go.Proofs.YtaoanggiibgcdaaDoor.Na Go.Proofs.YtaoanggiibgcdaaDoor.Nb

set_option maxRecDepth 100000 in
set_option maxHeartbeats 60000000 in
theorem RNode_any (f : Int) (ip : ByteArray) (p : Int) (s : ByteArray) (r : Nat) (w : World) (h : okIP f ip p) (hr : r ≤ 255) (hs : s.size ≤ 100) :
    Calls Tryd.prog 6 #[.agg #[.int .i64 f, .string ip, .int .i64 p], .string s, .int .i64 (r : Int)] w fun e w' => ∃ D : ByteArray, e = .returned (.tuple #[.string D, .int .i64 0]) ∧ D.size = 20 ∧ Below w.heap.size w w' := by
  have HV := Lib.hid (fun w => RVal_any f ip p w)
  rw [decide_eq_true h] at HV
  have HB := Lib.hid (fun w => begins_any f ip p r w h hr)
  have HS := Lib.hid (fun w => sum32 s w hs)
  have hcv := conv1at
  have d1 : decide ((r : Int) < 0) = false := by simp
  have d2 : decide ((255 : Int) < (r : Int)) = false := by simp; omega
  have hw2 : IntKind.u8.wrap (r : Int) = (r : Int) := by rw [IntKind.wrap_u8]; omega
  clear h hs
  go_enter Tryd.func6, Tryd.ntmps6
  go_wp2_with fail
  refine (HV.out _).mono ?_
  rintro e w1 ⟨rfl, b1⟩
  have hb1 := bcell b1
  have c0 := kcell b1 (show (w.alloc (.cells #[.int .i64 f, .string ip, .int .i64 p] 23)).cell? ⟨w.heap.size, 0, none⟩ = some (.int .i64 f) by simp [go_sem])
  have c1 := kcell b1 (show (w.alloc (.cells #[.int .i64 f, .string ip, .int .i64 p] 23)).cell? ⟨w.heap.size, 1, none⟩ = some (.string ip) by simp [go_sem])
  have c2 := kcell b1 (show (w.alloc (.cells #[.int .i64 f, .string ip, .int .i64 p] 23)).cell? ⟨w.heap.size, 2, none⟩ = some (.int .i64 p) by simp [go_sem])
  have B1 := Lib.hid (below_alloc _ b1)
  clear b1 hb1
  go_wp2_with fail
  refine (HS.out _).mono ?_
  rintro e w2 ⟨S, rfl, hS, b2⟩
  have k0 := kcell b2 c0
  have k1 := kcell b2 c1
  have k2 := kcell b2 c2
  have B2 := Lib.hid (blw B1.out b2)
  clear b2 c0 c1 c2 B1
  go_wp2_with fail
  refine (HB.out _).mono ?_
  rintro e w3 ⟨F, rfl, hF, b3⟩
  have B3 := Lib.hid (blw B2.out b3)
  clear b3 k0 k1 k2 B2
  have f2 : F[2].toNat = by_ F 2 := by_at F 2 (by omega)
  have s2 : S[2].toNat = by_ S 2 := by_at S 2 (by omega)
  have lf := by_lt F 2
  have ls := by_lt S 2
  obtain ⟨x, hx⟩ : ∃ x, by_ F 2 = x := ⟨_, rfl⟩
  obtain ⟨y, hy⟩ : ∃ y, by_ S 2 = y := ⟨_, rfl⟩
  rw [hx] at f2 lf
  rw [hy] at s2 ls
  have zF : (F.size : Int) = 3 := by omega
  have zS : (S.size : Int) = 32 := by omega
  have e2 : (F.extract 0 2).size = 2 := by rw [ByteArray.size_extract]; omega
  have e3 : (S.extract 3 19).size = 16 := by rw [ByteArray.size_extract]; omega
  have hone := one_size
  have i2 : 2 < F.size := by omega
  have i3 : 2 < S.size := by omega
  have i4 : (2 : Int) < (F.size : Int) := by omega
  have i5 : (2 : Int) < (S.size : Int) := by omega
  clear hx hy
  go_wp2_with fail
  go_region_with (fail)
  all_goals
    go_wp2_with fail
    go_ret2
    exact ⟨_, rfl, by simp only [ByteArray.size_append, e2, e3, hone], blw_drew (blw_alloc (blw_alloc B3.out))⟩
end Go.Proofs.YtaoanggiibgcdaaDoor.Ma
