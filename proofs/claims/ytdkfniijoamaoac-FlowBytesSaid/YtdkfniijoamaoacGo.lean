/-
  Encode of a packet that is not valid; the law's number.
-/
import Derived.Test.YtdkfniijoamaoacGm
import Derived.Test.YtdkfniijoamaoacGe
import Derived.Test.YtdkfniijoamaoacHb
namespace Go.Proofs.Ytdkfniijoamaoac.Ga
open Go Go.RowKit Go.Proofs.Ytdkfniijoamaoac.Hz Go.Proofs.Ytdkfniijoamaoac.Ob

set_option maxRecDepth 100000 in
set_option maxHeartbeats 1600000 in
theorem EncodeF_no (pp : Nat) (kind conn seq ack win : Int) (marks body : ByteArray) (time late : Int) (w : World) (h : ¬ Seg.ok ⟨kind, conn, seq, ack, win, marks, body, time, late⟩) (t : TypeId)
    (hp : w.heap[pp]? = some (.cells #[.int .i64 kind, .int .i64 conn, .int .i64 seq, .int .i64 ack, .int .i64 win, .string marks, .string body, .int .i64 time, .int .i64 late] t (0, 0))) :
    Calls Try.prog 19 #[.pointer (some ⟨pp, 0, none⟩)] w fun e w' => e = .panicked [{ v := .iface 25 (.int .i64 1), recovered := false }] ∧ Below w.heap.size w w' := by
  have HV := Lib.hid (Valid_no kind conn seq ack win marks body time late h)
  clear h
  have d0 : w.cell? ⟨pp, 0, none⟩ = some (.int .i64 kind) := by simp [World.cell?, hp]
  have d1 : w.cell? ⟨pp, 1, none⟩ = some (.int .i64 conn) := by simp [World.cell?, hp]
  have d2 : w.cell? ⟨pp, 2, none⟩ = some (.int .i64 seq) := by simp [World.cell?, hp]
  have d3 : w.cell? ⟨pp, 3, none⟩ = some (.int .i64 ack) := by simp [World.cell?, hp]
  have d4 : w.cell? ⟨pp, 4, none⟩ = some (.int .i64 win) := by simp [World.cell?, hp]
  have d5 : w.cell? ⟨pp, 5, none⟩ = some (.string marks) := by simp [World.cell?, hp]
  have d6 : w.cell? ⟨pp, 6, none⟩ = some (.string body) := by simp [World.cell?, hp]
  have d7 : w.cell? ⟨pp, 7, none⟩ = some (.int .i64 time) := by simp [World.cell?, hp]
  have d8 : w.cell? ⟨pp, 8, none⟩ = some (.int .i64 late) := by simp [World.cell?, hp]
  have HP := Lib.hid hp
  clear hp
  go_enter Try.func19, Try.ntmps19
  go_wp2_with fail
  refine (HV.out _).mono ?_
  rintro e w1 ⟨rfl, hb1⟩
  go_wp2_with fail
  refine (Fb.refuse_yes _ _).mono ?_
  rintro e w2 ⟨rfl, rfl⟩
  exact ⟨rfl, rfl, hb1⟩

set_option maxHeartbeats 800000 in
theorem Encode_no (kind conn seq ack win : Int) (marks body : ByteArray) (time late : Int) (w : World) (h : ¬ Seg.ok ⟨kind, conn, seq, ack, win, marks, body, time, late⟩) :
    Calls Try.prog 7 #[.agg #[.int .i64 kind, .int .i64 conn, .int .i64 seq, .int .i64 ack, .int .i64 win, .string marks, .string body, .int .i64 time, .int .i64 late]] w fun e w' => e = .returned (.tuple #[.string ⟨#[]⟩, .int .i64 1]) ∧ Below w.heap.size w w' := by
  have hmf : ∀ (fn : Fn) (first cap : Array Value) (w : World), (Instr.makeFunc fn first cap).run Try.prog w = .ok (.func fn first cap) w := fun _ _ _ _ => rfl
  have hF := EncodeF_no w.heap.size kind conn seq ack win marks body time late (Fb.aw (w.alloc (.cells #[.int .i64 kind, .int .i64 conn, .int .i64 seq, .int .i64 ack, .int .i64 win, .string marks, .string body, .int .i64 time, .int .i64 late] 23))) h 23 (by
    unfold Fb.aw
    exact ((World.grownBy_alloc _ _ none).block _ (by simp; omega) (by simp)).trans (((World.grownBy_alloc _ _ none).block _ (by simp) (by simp)).trans (heap_alloc_new _ _)))
  have HA := Lib.hid (Fb.attempt_err 19 #[.pointer (some ⟨w.heap.size, 0, none⟩)] 1 (w.alloc (.cells #[.int .i64 kind, .int .i64 conn, .int .i64 seq, .int .i64 ack, .int .i64 win, .string marks, .string body, .int .i64 time, .int .i64 late] 23)) enterEncode hF)
  clear hF h
  go_enter Try.func7, Try.ntmps7
  go_wp2_with fail
  refine HA.out.mono ?_
  rintro e w1 ⟨rfl, hb⟩
  go_wp2
  go_ret2
  exact ⟨rfl, below_alloc _ hb⟩

theorem strOf_snoc (xs : List Int) (x : Int) : strOfNums (xs ++ [x]) = strOfNums xs ++ strOfNums [x] := by
  apply ByteArray.ext
  rw [ByteArray.data_append]
  simp [strOfNums]

set_option maxHeartbeats 1600000 in
theorem number_any (x : Int) (n : Nat) (w : World) (hn : n ≤ 4) (h0 : 0 ≤ x) :
    Calls Try.prog 10 #[.int .i64 x, .int .i64 n] w fun e w' => e = .returned (.string (strOfNums (pb x n n))) ∧ Below w.heap.size w w' := by
  go_enter Try.func10, Try.ntmps10
  go_wp2_with fail
  go_loopw [5, 6] (fun v i wr => ∃ j : Nat, j ≤ n ∧ i = .int .i64 ((n : Int) - 1 - j) ∧ v = .string (strOfNums (pb x n j)) ∧ Below w.heap.size w wr) (fun _ i _ => (intOf i + 1).toNat)
  case atStart => exact ⟨0, Nat.zero_le _, by go_num, rfl, Below.refl _ _⟩
  case round =>
    obtain ⟨j, hj, rfl, rfl, hbl⟩ := hrel
    by_cases hlt : j < n
    · have HS := Lib.hid ((congrArg strOfNums (pb_succ x n j)).trans (strOf_snoc _ _))
      have hz : (strOfNums (pb x n j)).size = j := by rw [strOfNums_size, pb_len]
      have hz1 : (strOfNums [x / 2 ^ (8 * (n - 1 - j)) % 256]).size = 1 := by rw [strOfNums_size]; rfl
      have hcv := Hh.conv_new wr #[.int .u8 (x / 2 ^ (8 * (n - 1 - j)) % 256)] [x / 2 ^ (8 * (n - 1 - j)) % 256] wr.heap.size 1 5 rfl rfl rfl
      have hbl1 := hbl.alloc hbl.size (.cells #[.int .u8 (x / 2 ^ (8 * (n - 1 - j)) % 256)] 5)
      obtain ⟨S, hS⟩ : ∃ S, strOfNums (pb x n j) = S := ⟨_, rfl⟩
      obtain ⟨T, hT⟩ : ∃ T, strOfNums [x / 2 ^ (8 * (n - 1 - j)) % 256] = T := ⟨_, rfl⟩
      rw [hS] at hz HS ⊢
      rw [hT] at hz1 hcv HS
      have hz2 : S.size ≤ 4 := by omega
      have hz3 : T.size ≤ 4 := by omega
      clear hS hT hz hz1
      go_wp2_with fail
      exact ⟨⟨j + 1, by omega, by go_num, by rw [HS.out], hbl1⟩, by simp [intOf]; omega⟩
    · obtain rfl : j = n := by omega
      go_wp2_with fail
      go_ret
      exact ⟨rfl, hbl⟩
end Go.Proofs.Ytdkfniijoamaoac.Ga
