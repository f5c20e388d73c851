/-
  The digests as the document's own text reckons them (coveyref03).
-/
import Derived.Test.YthlkpbpcfkgljaaHf
import Derived.WalkKit
import Derived.WalkSpells
import Derived.WalkLawsBesides
import Derived.LoopTactic
import Derived.Outline
import Derived.Deep.QuietTactic
import Derived.BigQuiet
import Derived.BigRegion
import Derived.RegionTactic
import Derived.Deep.RegionWith
import Derived.Lib.Hide
namespace Go.Proofs.Ythlkpbpcfkgljaa.Dg
open Go
theorem wu_lo (x : Int) : 0 ≤ wu x := by unfold wu; simp only [IntKind.wrap]; simp [IntKind.bits, IntKind.signed]; omega
theorem wu_hi (x : Int) : wu x < 18446744073709551616 := by unfold wu; simp only [IntKind.wrap]; simp [IntKind.bits, IntKind.signed]; omega
theorem wu_in (x : Int) (h0 : 0 ≤ x) (h1 : x < 18446744073709551616) : wu x = x := by unfold wu; simp only [IntKind.wrap]; simp [IntKind.bits, IntKind.signed]; omega
theorem wtd (x c : Int) (hc : 0 < c) : IntKind.u64.wrap ((IntKind.u64.wrap x).tdiv c) = IntKind.u64.wrap x / c := by
  have h0 := wu_lo x
  have h1 := wu_hi x
  unfold wu at h0 h1
  rw [Int.tdiv_eq_ediv_of_nonneg h0]
  refine wu_in _ (Int.ediv_nonneg h0 (by omega)) ?_
  have := Int.ediv_le_self (b := c) (a := IntKind.u64.wrap x) h0
  omega
theorem r0 : wu (14695981039346656037 + wu (0 * 11400714819323198485)) = st0 := by decide +kernel
theorem r1 : wu (14695981039346656037 + wu (1 * 11400714819323198485)) = st1 := by decide +kernel
theorem r2 : wu (14695981039346656037 + wu (2 * 11400714819323198485)) = st2 := by decide +kernel
theorem r3 : wu (14695981039346656037 + wu (3 * 11400714819323198485)) = st3 := by decide +kernel
/-- a number's bytes, one division behind the other -/
def numsR (x : Int) : List Int := [x / 256 / 256 / 256 / 256 / 256 / 256 / 256 % 256, x / 256 / 256 / 256 / 256 / 256 / 256 % 256, x / 256 / 256 / 256 / 256 / 256 % 256, x / 256 / 256 / 256 / 256 % 256, x / 256 / 256 / 256 % 256, x / 256 / 256 % 256, x / 256 % 256, x % 256]
theorem numsR_eq (x : Int) : numsR x = nums x := by
  have e1 : x / 256 / 256 = x / 65536 := by omega
  have e2 : x / 65536 / 256 = x / 16777216 := by omega
  have e3 : x / 16777216 / 256 = x / 4294967296 := by omega
  have e4 : x / 4294967296 / 256 = x / 1099511627776 := by omega
  have e5 : x / 1099511627776 / 256 = x / 281474976710656 := by omega
  have e6 : x / 281474976710656 / 256 = x / 72057594037927936 := by omega
  unfold numsR nums
  rw [e1, e2, e3, e4, e5, e6]
theorem strOf_append (a b : List Int) : strOfNums a ++ strOfNums b = strOfNums (a ++ b) := by
  apply ByteArray.ext
  rw [ByteArray.data_append]
  simp [strOfNums]
def e8 (x : Int) : ByteArray := strOfNums (nums x)
theorem e8_size (x : Int) : (e8 x).size = 8 := by rw [e8, strOfNums_size]; rfl
theorem sum_e8 (l : List UInt8) : (⟨#[]⟩ : ByteArray) ++ e8 (fin (run l st0) l.length) ++ e8 (fin (run l st1) l.length) ++ e8 (fin (run l st2) l.length) ++ e8 (fin (run l st3) l.length) = sum l := by
  have h0 : (⟨#[]⟩ : ByteArray) = strOfNums [] := rfl
  unfold sum out outN e8
  rw [h0, strOf_append, strOf_append, strOf_append, strOf_append]
  simp [List.append_assoc]
theorem fin_lo (h n : Int) : 0 ≤ fin h n := wu_lo _
theorem fin_hi (h n : Int) : fin h n < 18446744073709551616 := wu_hi _
end Go.Proofs.Ythlkpbpcfkgljaa.Dg
namespace Go.Proofs.Ythlkpbpcfkgljaa.Hh
open Go Go.RowKit




theorem len_data (d : ByteArray) : d.data.toList.length = d.size := by simp

set_option maxRecDepth 100000 in
set_option maxHeartbeats 400000 in
theorem one_any (s : ByteArray) (h : Int) (w : World) (hs : s.size ≤ maxLen) :
    Calls Try.prog 49 #[.string s, .int .u64 h] w fun e w' => e = .returned (.int .u64 (Dg.fin (Dg.run s.data.toList h) (s.size : Int))) ∧ w = w' := by
  unfold maxLen at hs
  go_enter Try.func49, Try.ntmps49
  go_wp2
  go_loop [1, 8] (fun v i => ∃ k : Nat, k ≤ s.size ∧ i = .int .i64 k ∧ v = .int .u64 (Dg.run (s.data.toList.take k) h)) (fun _ i => s.size - (intOf i).toNat)
  case atStart => exact ⟨0, Nat.zero_le _, rfl, rfl⟩
  case round =>
    obtain ⟨k, hk, rfl, rfl⟩ := hrel
    by_cases hlt : k < s.size
    · go_wp2
      refine ⟨⟨k + 1, by omega, by go_num, ?_⟩, by simp [intOf]; omega⟩
      rw [Dg.run_take s k hlt, Dg.wtd _ _ (by decide)]
      rfl
    · go_wp2
      go_ret
      rw [Dg.take_all s k (by omega)]
      refine ⟨?_, rfl⟩
      have hn : Dg.wu (s.size : Int) = (s.size : Int) := Dg.wu_in _ (by omega) (by omega)
      unfold Dg.fin
      rw [hn]
      simp only [Dg.wtd _ 4294967296 (by decide)]
      rfl

set_option maxRecDepth 100000 in
set_option maxHeartbeats 400000 in
theorem start_any (k : Int) (w : World) :
    Calls Try.prog 50 #[.int .u64 k] w fun e w' => e = .returned (.int .u64 (Dg.wu (14695981039346656037 + Dg.wu (k * 11400714819323198485)))) ∧ w = w' := by
  go_enter Try.func50, Try.ntmps50
  go_wp2
  go_ret
  exact ⟨rfl, rfl⟩

theorem make8 (w : World) : (Instr.makeSlice 58 (.int .i64 8) (.int .i64 8)).run Try.prog w = .ok (.slice (some ⟨w.heap.size, 0, none⟩) 8 8) (w.alloc (.cells #[.int .u8 0, .int .u8 0, .int .u8 0, .int .u8 0, .int .u8 0, .int .u8 0, .int .u8 0, .int .u8 0] 5)) := by kernel_rfl

set_option maxRecDepth 100000 in
set_option maxHeartbeats 800000 in
theorem eight_any (x : Int) (w : World) (h0 : 0 ≤ x) (h1 : x < 18446744073709551616) :
    Calls Try.prog 48 #[.int .u64 x] w fun e w' => e = .returned (.string (Dg.e8 x)) ∧ Below w.heap.size w w' := by
  have hmk := make8
  go_enter Try.func48, Try.ntmps48
  go_wp2
  refine wp_loop_rounds 9 ?_
  rw [rounds_succ]; go_wp2
  rw [rounds_succ]; go_wp2
  rw [rounds_succ]; go_wp2
  rw [rounds_succ]; go_wp2
  rw [rounds_succ]; go_wp2
  rw [rounds_succ]; go_wp2
  rw [rounds_succ]; go_wp2
  rw [rounds_succ]; go_wp2
  rw [rounds_succ]; go_wp2
  rw [conv_new w _ (Dg.numsR x) _ 8 _ rfl ?hc rfl]
  case hc => rfl
  go_wp2
  go_ret
  exact ⟨by rw [Dg.e8, ← Dg.numsR_eq]; rfl, (Below.refl _ _).alloc (Nat.le_refl _) _⟩

theorem start0 (w : World) : Calls Try.prog 50 #[.int .u64 0] w fun e w' => e = .returned (.int .u64 Dg.st0) ∧ w = w' :=
  (start_any 0 w).mono fun e w' h => ⟨by rw [h.1, Dg.r0], h.2⟩
theorem start1 (w : World) : Calls Try.prog 50 #[.int .u64 1] w fun e w' => e = .returned (.int .u64 Dg.st1) ∧ w = w' :=
  (start_any 1 w).mono fun e w' h => ⟨by rw [h.1, Dg.r1], h.2⟩
theorem start2 (w : World) : Calls Try.prog 50 #[.int .u64 2] w fun e w' => e = .returned (.int .u64 Dg.st2) ∧ w = w' :=
  (start_any 2 w).mono fun e w' h => ⟨by rw [h.1, Dg.r2], h.2⟩
theorem start3 (w : World) : Calls Try.prog 50 #[.int .u64 3] w fun e w' => e = .returned (.int .u64 Dg.st3) ∧ w = w' :=
  (start_any 3 w).mono fun e w' h => ⟨by rw [h.1, Dg.r3], h.2⟩

set_option maxRecDepth 100000 in
set_option maxHeartbeats 1600000 in
theorem RSum_any (s : ByteArray) (w : World) (hs : s.size ≤ maxLen) :
    Calls Try.prog 25 #[.string s] w fun e w' => e = .returned (.string (Dg.sum s.data.toList)) ∧ Below w.heap.size w w' := by
  have hz := Dg.e8_size
  go_enter Try.func25, Try.ntmps25
  go_wp2
  refine wp_loop_rounds 5 ?_
  rw [rounds_succ]
  go_wp2_with fail
  refine (start0 _).mono ?_
  rintro e w1 ⟨rfl, rfl⟩
  go_wp2_with fail
  refine (one_any s _ _ hs).mono ?_
  rintro e w1 ⟨rfl, rfl⟩
  go_wp2_with fail
  refine (eight_any _ _ (Dg.fin_lo _ _) (Dg.fin_hi _ _)).mono ?_
  rintro e w1 ⟨rfl, hb1⟩
  go_wp2_with fail
  rw [rounds_succ]
  go_wp2_with fail
  refine (start1 _).mono ?_
  rintro e w1 ⟨rfl, rfl⟩
  go_wp2_with fail
  refine (one_any s _ _ hs).mono ?_
  rintro e w1 ⟨rfl, rfl⟩
  go_wp2_with fail
  refine (eight_any _ _ (Dg.fin_lo _ _) (Dg.fin_hi _ _)).mono ?_
  rintro e w2 ⟨rfl, hb2⟩
  go_wp2_with fail
  rw [rounds_succ]
  go_wp2_with fail
  refine (start2 _).mono ?_
  rintro e w1 ⟨rfl, rfl⟩
  go_wp2_with fail
  refine (one_any s _ _ hs).mono ?_
  rintro e w1 ⟨rfl, rfl⟩
  go_wp2_with fail
  refine (eight_any _ _ (Dg.fin_lo _ _) (Dg.fin_hi _ _)).mono ?_
  rintro e w3 ⟨rfl, hb3⟩
  go_wp2_with fail
  rw [rounds_succ]
  go_wp2_with fail
  refine (start3 _).mono ?_
  rintro e w1 ⟨rfl, rfl⟩
  go_wp2_with fail
  refine (one_any s _ _ hs).mono ?_
  rintro e w1 ⟨rfl, rfl⟩
  go_wp2_with fail
  refine (eight_any _ _ (Dg.fin_lo _ _) (Dg.fin_hi _ _)).mono ?_
  rintro e w4 ⟨rfl, hb4⟩
  go_wp2_with fail
  rw [rounds_succ]
  go_wp2
  go_ret
  refine ⟨?_, (((hb1.trans (hb2.mono hb1.size)).trans (hb3.mono (Nat.le_trans hb1.size hb2.size))).trans (hb4.mono (Nat.le_trans (Nat.le_trans hb1.size hb2.size) hb3.size)))⟩
  have e := Dg.sum_e8 s.data.toList
  rw [len_data] at e
  rw [← e]
  rfl

set_option maxRecDepth 100000 in
set_option maxHeartbeats 400000 in
theorem ROld_any (s : ByteArray) (w : World) (hs : s.size + 4 ≤ maxLen) :
    Calls Try.prog 11 #[.string s] w fun e w' => e = .returned (.string (Dg.old s.data.toList)) ∧ Below w.heap.size w w' := by
  have hs' : s.size + 4 ≤ 9223372036854775807 := hs
  have e : Dg.old s.data.toList = (Dg.sum (oldT ++ s).data.toList).extract 0 20 := by simp [Dg.old, oldT, ByteArray.data_append]
  rw [e]
  have hz := Dg.sum_size (oldT ++ s).data.toList
  have hsz : (oldT ++ s).size ≤ maxLen := by rw [ByteArray.size_append]; show 4 + s.size ≤ maxLen; omega
  generalize hD : Dg.sum (oldT ++ s).data.toList = D at hz
  have HD := Lib.hid hD
  clear hD e
  go_enter Try.func11, Try.ntmps11
  go_wp2_with fail
  refine (RSum_any (oldT ++ s) _ hsz).mono ?_
  rintro e w1 ⟨rfl, hb⟩
  rw [HD.out]
  go_wp2
  go_ret
  exact ⟨rfl, hb⟩

theorem beq_comm' (a b : ByteArray) : (a.toList == b.toList) = (b.toList == a.toList) := by
  rw [Bool.eq_iff_iff]; simp; exact ⟨fun h => h.symm, fun h => h.symm⟩

end Go.Proofs.Ythlkpbpcfkgljaa.Hh
