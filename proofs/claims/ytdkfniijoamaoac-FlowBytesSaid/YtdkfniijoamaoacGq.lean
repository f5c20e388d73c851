/-
  FlowBytes: the walk.
-/
import Derived.Test.YtdkfniijoamaoacGo
import Derived.Test.YtdkfniijoamaoacGp
import Derived.Test.YtdkfniijoamaoacGr
import Derived.Test.YtdkfniijoamaoacFj
import Derived.Test.YtdkfniijoamaoacHg
import Derived.Test.YtdkfniijoamaoacHr
import Derived.Deep.RegionHeld3
import Derived.Deep.RegionWith
import Derived.RegionTactic
import Derived.BigRegion
namespace Go.Proofs.Ytdkfniijoamaoac.Ga
open Go Go.RowKit Go.Proofs.Ytdkfniijoamaoac.Hz Go.Proofs.Ytdkfniijoamaoac.Ob

/-- what the law puts together is what a packet is written as, behind its digest -/
theorem rest_nums (p : Seg) (h : p.ok) : strOfNums (pb p.kind 1 1) ++ strOfNums (pb (p.marks.size : Int) 1 1) ++ strOfNums (pb p.conn 2 2) ++ strOfNums (pb p.seq 2 2) ++ strOfNums (pb p.ack 2 2) ++ strOfNums (pb p.time 4 4) ++ strOfNums (pb p.late 4 4) ++ strOfNums (pb p.win 4 4) ++ p.marks ++ p.body = p.rest := by
  have hm := h.m
  unfold Seg.rest Seg.head
  rw [Dg.strOf_append, Dg.strOf_append, Dg.strOf_append, Dg.strOf_append, Dg.strOf_append, Dg.strOf_append, Dg.strOf_append]
  have e1 : pb p.kind 1 1 = [p.kind % 256] := by show [p.kind / 1 % 256] = _; rw [Int.ediv_one]
  have e2 : pb (p.marks.size : Int) 1 1 = [(p.marks.size : Int)] := by show [(p.marks.size : Int) / 1 % 256] = _; congr 1; omega
  rw [e1, e2]
  rfl

set_option maxRecDepth 1000000 in
set_option maxHeartbeats 6400000 in
theorem bytes_long (kind conn seq ack win : Int) (marks body : ByteArray) (time late at_ bit : Int) (w : World) (h : (2000 : Int) < (body.size : Int) ∨ (20 : Int) < (marks.size : Int)) :
    Calls Try.prog 3 #[.agg #[.int .i64 kind, .int .i64 conn, .int .i64 seq, .int .i64 ack, .int .i64 win, .string marks, .string body, .int .i64 time, .int .i64 late], .int .i64 at_, .int .i64 bit] w fun e w' => e = .returned (.bool true) ∧ Below w.heap.size w w' := by
  have HA := Lib.hid Fl.awake_any
  rcases h with h | h
  · go_enter Try.func3, Try.ntmps3
    go_wp2_with fail
    refine (HA.out _).mono ?_
    rintro e w1 ⟨rfl, hb1⟩
    go_wp2
    go_ret
    exact ⟨rfl, below_alloc _ hb1⟩
  · by_cases h2 : (2000 : Int) < (body.size : Int)
    all_goals
      go_enter Try.func3, Try.ntmps3
      go_wp2_with fail
      refine (HA.out _).mono ?_
      rintro e w1 ⟨rfl, hb1⟩
      go_wp2
      go_ret
      exact ⟨rfl, below_alloc _ hb1⟩

set_option maxRecDepth 1000000 in
set_option maxHeartbeats 6400000 in
theorem bytes_no (kind conn seq ack win : Int) (marks body : ByteArray) (time late at_ bit : Int) (w : World) (h1 : (body.size : Int) ≤ (2000 : Int)) (h2 : (marks.size : Int) ≤ 20) (h : ¬ Seg.ok ⟨kind, conn, seq, ack, win, marks, body, time, late⟩) :
    Calls Try.prog 3 #[.agg #[.int .i64 kind, .int .i64 conn, .int .i64 seq, .int .i64 ack, .int .i64 win, .string marks, .string body, .int .i64 time, .int .i64 late], .int .i64 at_, .int .i64 bit] w fun e w' => e = .returned (.bool true) ∧ Below w.heap.size w w' := by
  have HA := Lib.hid Fl.awake_any
  have hS0 : (w.alloc (.cells #[.int .i64 kind, .int .i64 conn, .int .i64 seq, .int .i64 ack, .int .i64 win, .string marks, .string body, .int .i64 time, .int .i64 late] 23)).cell? ⟨w.heap.size, 0, none⟩ = some (.int .i64 kind) ∧ (w.alloc (.cells #[.int .i64 kind, .int .i64 conn, .int .i64 seq, .int .i64 ack, .int .i64 win, .string marks, .string body, .int .i64 time, .int .i64 late] 23)).cell? ⟨w.heap.size, 1, none⟩ = some (.int .i64 conn) ∧ (w.alloc (.cells #[.int .i64 kind, .int .i64 conn, .int .i64 seq, .int .i64 ack, .int .i64 win, .string marks, .string body, .int .i64 time, .int .i64 late] 23)).cell? ⟨w.heap.size, 2, none⟩ = some (.int .i64 seq) ∧ (w.alloc (.cells #[.int .i64 kind, .int .i64 conn, .int .i64 seq, .int .i64 ack, .int .i64 win, .string marks, .string body, .int .i64 time, .int .i64 late] 23)).cell? ⟨w.heap.size, 3, none⟩ = some (.int .i64 ack) ∧ (w.alloc (.cells #[.int .i64 kind, .int .i64 conn, .int .i64 seq, .int .i64 ack, .int .i64 win, .string marks, .string body, .int .i64 time, .int .i64 late] 23)).cell? ⟨w.heap.size, 4, none⟩ = some (.int .i64 win) ∧ (w.alloc (.cells #[.int .i64 kind, .int .i64 conn, .int .i64 seq, .int .i64 ack, .int .i64 win, .string marks, .string body, .int .i64 time, .int .i64 late] 23)).cell? ⟨w.heap.size, 5, none⟩ = some (.string marks) ∧ (w.alloc (.cells #[.int .i64 kind, .int .i64 conn, .int .i64 seq, .int .i64 ack, .int .i64 win, .string marks, .string body, .int .i64 time, .int .i64 late] 23)).cell? ⟨w.heap.size, 6, none⟩ = some (.string body) ∧ (w.alloc (.cells #[.int .i64 kind, .int .i64 conn, .int .i64 seq, .int .i64 ack, .int .i64 win, .string marks, .string body, .int .i64 time, .int .i64 late] 23)).cell? ⟨w.heap.size, 7, none⟩ = some (.int .i64 time) ∧ (w.alloc (.cells #[.int .i64 kind, .int .i64 conn, .int .i64 seq, .int .i64 ack, .int .i64 win, .string marks, .string body, .int .i64 time, .int .i64 late] 23)).cell? ⟨w.heap.size, 8, none⟩ = some (.int .i64 late) ∧ Below w.heap.size w (w.alloc (.cells #[.int .i64 kind, .int .i64 conn, .int .i64 seq, .int .i64 ack, .int .i64 win, .string marks, .string body, .int .i64 time, .int .i64 late] 23)) :=
    ⟨by simp [go_sem], by simp [go_sem], by simp [go_sem], by simp [go_sem], by simp [go_sem], by simp [go_sem], by simp [go_sem], by simp [go_sem], by simp [go_sem], (Below.refl _ w).alloc (Nat.le_refl _) _⟩
  have HE := Lib.hid (fun w => Encode_no kind conn seq ack win marks body time late w h)
  have HV := Lib.hid (Valid_no kind conn seq ack win marks body time late h)
  have HR := Lib.hid (right_no kind conn seq ack win marks body time late h)
  clear h
  go_enter Try.func3, Try.ntmps3
  go_wp2_with fail
  refine (HE.out _).mono ?_
  rintro e w1 ⟨rfl, hb1⟩
  have hS1 : w1.cell? ⟨w.heap.size, 0, none⟩ = some (.int .i64 kind) ∧ w1.cell? ⟨w.heap.size, 1, none⟩ = some (.int .i64 conn) ∧ w1.cell? ⟨w.heap.size, 2, none⟩ = some (.int .i64 seq) ∧ w1.cell? ⟨w.heap.size, 3, none⟩ = some (.int .i64 ack) ∧ w1.cell? ⟨w.heap.size, 4, none⟩ = some (.int .i64 win) ∧ w1.cell? ⟨w.heap.size, 5, none⟩ = some (.string marks) ∧ w1.cell? ⟨w.heap.size, 6, none⟩ = some (.string body) ∧ w1.cell? ⟨w.heap.size, 7, none⟩ = some (.int .i64 time) ∧ w1.cell? ⟨w.heap.size, 8, none⟩ = some (.int .i64 late) ∧ Below w.heap.size w w1 := by
    go_split_ands
    exact ⟨kcell hb1 (by assumption), kcell hb1 (by assumption), kcell hb1 (by assumption), kcell hb1 (by assumption), kcell hb1 (by assumption), kcell hb1 (by assumption), kcell hb1 (by assumption), kcell hb1 (by assumption), kcell hb1 (by assumption), blw (by assumption) hb1⟩
  clear hS0
  have HS1 := Lib.hid hS1
  go_split_ands
  go_wp2_with fail
  have hSd : w1.drew.cell? ⟨w.heap.size, 0, none⟩ = some (.int .i64 kind) ∧ w1.drew.cell? ⟨w.heap.size, 1, none⟩ = some (.int .i64 conn) ∧ w1.drew.cell? ⟨w.heap.size, 2, none⟩ = some (.int .i64 seq) ∧ w1.drew.cell? ⟨w.heap.size, 3, none⟩ = some (.int .i64 ack) ∧ w1.drew.cell? ⟨w.heap.size, 4, none⟩ = some (.int .i64 win) ∧ w1.drew.cell? ⟨w.heap.size, 5, none⟩ = some (.string marks) ∧ w1.drew.cell? ⟨w.heap.size, 6, none⟩ = some (.string body) ∧ w1.drew.cell? ⟨w.heap.size, 7, none⟩ = some (.int .i64 time) ∧ w1.drew.cell? ⟨w.heap.size, 8, none⟩ = some (.int .i64 late) ∧ Below w.heap.size w w1.drew := by
    obtain ⟨q0, q1, q2, q3, q4, q5, q6, q7, q8, q9⟩ := HS1.out
    exact ⟨q0, q1, q2, q3, q4, q5, q6, q7, q8, q9.drew⟩
  go_region_held3 (fun w' => w'.cell? ⟨w.heap.size, 0, none⟩ = some (.int .i64 kind) ∧ w'.cell? ⟨w.heap.size, 1, none⟩ = some (.int .i64 conn) ∧ w'.cell? ⟨w.heap.size, 2, none⟩ = some (.int .i64 seq) ∧ w'.cell? ⟨w.heap.size, 3, none⟩ = some (.int .i64 ack) ∧ w'.cell? ⟨w.heap.size, 4, none⟩ = some (.int .i64 win) ∧ w'.cell? ⟨w.heap.size, 5, none⟩ = some (.string marks) ∧ w'.cell? ⟨w.heap.size, 6, none⟩ = some (.string body) ∧ w'.cell? ⟨w.heap.size, 7, none⟩ = some (.int .i64 time) ∧ w'.cell? ⟨w.heap.size, 8, none⟩ = some (.int .i64 late) ∧ Below w.heap.size w w')
    (first
      | exact hSd
      | ((go_split_ands; refine ⟨?_, ?_, ?_, ?_, ?_, ?_, ?_, ?_, ?_, ?_⟩ <;> assumption))
      | (go_split_ands; exact ⟨kcell hbx (by assumption), kcell hbx (by assumption), kcell hbx (by assumption), kcell hbx (by assumption), kcell hbx (by assumption), kcell hbx (by assumption), kcell hbx (by assumption), kcell hbx (by assumption), kcell hbx (by assumption), blw (by assumption) hbx⟩))
    (first
      | (go_at_call 8; refine (HV.out _).mono ?_; rintro e w2 ⟨rfl, hbx⟩)
      | (go_at_call 9; refine (HR.out _).mono ?_; rintro e w2 ⟨rfl, hbx⟩))
  go_split_ands
  go_wp2_with fail
  refine (HR.out _).mono ?_
  rintro e w3 ⟨rfl, hb3⟩
  go_wp2_with fail
  refine (HA.out _).mono ?_
  rintro e w4 ⟨rfl, hb4⟩
  go_wp2
  go_ret
  exact ⟨rfl, blw (blw (by assumption) hb3) hb4⟩

set_option maxRecDepth 1000000 in
set_option maxHeartbeats 6400000 in
theorem bytes_yes (kind conn seq ack win : Int) (marks body : ByteArray) (time late at_ bit : Int) (w : World) (h1 : (body.size : Int) ≤ (2000 : Int)) (h2 : (marks.size : Int) ≤ 20) (h : Seg.ok ⟨kind, conn, seq, ack, win, marks, body, time, late⟩) :
    Calls Try.prog 3 #[.agg #[.int .i64 kind, .int .i64 conn, .int .i64 seq, .int .i64 ack, .int .i64 win, .string marks, .string body, .int .i64 time, .int .i64 late], .int .i64 at_, .int .i64 bit] w fun e w' => e = .returned (.bool true) ∧ Below w.heap.size w w' := by
  have HA := Lib.hid Fl.awake_any
  have hS0 : (w.alloc (.cells #[.int .i64 kind, .int .i64 conn, .int .i64 seq, .int .i64 ack, .int .i64 win, .string marks, .string body, .int .i64 time, .int .i64 late] 23)).cell? ⟨w.heap.size, 0, none⟩ = some (.int .i64 kind) ∧ (w.alloc (.cells #[.int .i64 kind, .int .i64 conn, .int .i64 seq, .int .i64 ack, .int .i64 win, .string marks, .string body, .int .i64 time, .int .i64 late] 23)).cell? ⟨w.heap.size, 1, none⟩ = some (.int .i64 conn) ∧ (w.alloc (.cells #[.int .i64 kind, .int .i64 conn, .int .i64 seq, .int .i64 ack, .int .i64 win, .string marks, .string body, .int .i64 time, .int .i64 late] 23)).cell? ⟨w.heap.size, 2, none⟩ = some (.int .i64 seq) ∧ (w.alloc (.cells #[.int .i64 kind, .int .i64 conn, .int .i64 seq, .int .i64 ack, .int .i64 win, .string marks, .string body, .int .i64 time, .int .i64 late] 23)).cell? ⟨w.heap.size, 3, none⟩ = some (.int .i64 ack) ∧ (w.alloc (.cells #[.int .i64 kind, .int .i64 conn, .int .i64 seq, .int .i64 ack, .int .i64 win, .string marks, .string body, .int .i64 time, .int .i64 late] 23)).cell? ⟨w.heap.size, 4, none⟩ = some (.int .i64 win) ∧ (w.alloc (.cells #[.int .i64 kind, .int .i64 conn, .int .i64 seq, .int .i64 ack, .int .i64 win, .string marks, .string body, .int .i64 time, .int .i64 late] 23)).cell? ⟨w.heap.size, 5, none⟩ = some (.string marks) ∧ (w.alloc (.cells #[.int .i64 kind, .int .i64 conn, .int .i64 seq, .int .i64 ack, .int .i64 win, .string marks, .string body, .int .i64 time, .int .i64 late] 23)).cell? ⟨w.heap.size, 6, none⟩ = some (.string body) ∧ (w.alloc (.cells #[.int .i64 kind, .int .i64 conn, .int .i64 seq, .int .i64 ack, .int .i64 win, .string marks, .string body, .int .i64 time, .int .i64 late] 23)).cell? ⟨w.heap.size, 7, none⟩ = some (.int .i64 time) ∧ (w.alloc (.cells #[.int .i64 kind, .int .i64 conn, .int .i64 seq, .int .i64 ack, .int .i64 win, .string marks, .string body, .int .i64 time, .int .i64 late] 23)).cell? ⟨w.heap.size, 8, none⟩ = some (.int .i64 late) ∧ Below w.heap.size w (w.alloc (.cells #[.int .i64 kind, .int .i64 conn, .int .i64 seq, .int .i64 ack, .int .i64 win, .string marks, .string body, .int .i64 time, .int .i64 late] 23)) :=
    ⟨by simp [go_sem], by simp [go_sem], by simp [go_sem], by simp [go_sem], by simp [go_sem], by simp [go_sem], by simp [go_sem], by simp [go_sem], by simp [go_sem], (Below.refl _ w).alloc (Nat.le_refl _) _⟩
  have HV := Lib.hid (fun w => Valid_yes ⟨kind, conn, seq, ack, win, marks, body, time, late⟩ w h)
  have HR := Lib.hid (right_ok kind conn seq ack win marks body time late h)
  have he := fun w => Encode_yes ⟨kind, conn, seq, ack, win, marks, body, time, late⟩ w h
  have hdec := fun w => Decode_enc ⟨kind, conn, seq, ack, win, marks, body, time, late⟩ h w
  have hsz := Seg.enc_size ⟨kind, conn, seq, ack, win, marks, body, time, late⟩
  have hrs := rest_nums ⟨kind, conn, seq, ack, win, marks, body, time, late⟩ h
  have hes : Seg.enc ⟨kind, conn, seq, ack, win, marks, body, time, late⟩ = (Dg.sum (Seg.rest ⟨kind, conn, seq, ack, win, marks, body, time, late⟩).data.toList).extract 0 4 ++ Seg.rest ⟨kind, conn, seq, ack, win, marks, body, time, late⟩ := rfl
  have hrz := Seg.rest_size ⟨kind, conn, seq, ack, win, marks, body, time, late⟩
  have hm := h.m
  have hb := h.b
  simp only at hm hb hsz hrz hrs
  have hsum := fun w => Hh.RSum_any (Seg.rest ⟨kind, conn, seq, ack, win, marks, body, time, late⟩) w (by rw [hrz]; unfold maxLen; omega)
  have hs32 : (Dg.sum (Seg.rest ⟨kind, conn, seq, ack, win, marks, body, time, late⟩).data.toList).size = 32 := Dg.sum_size _
  have hn0 := fun w => number_any kind 1 w (by omega) (by have := h.k1; simp only at this; omega)
  have hn1 := fun w => number_any (marks.size : Int) 1 w (by omega) (by omega)
  have hn2 := fun w => number_any conn 2 w (by omega) h.c1
  have hn3 := fun w => number_any seq 2 w (by omega) h.s1
  have hn4 := fun w => number_any ack 2 w (by omega) h.a1
  have hn5 := fun w => number_any time 4 w (by omega) h.t1
  have hn6 := fun w => number_any late 4 w (by omega) h.l1
  have hn7 := fun w => number_any win 4 w (by omega) h.w1
  have hcl : Seg.cells ⟨kind, conn, seq, ack, win, marks, body, time, late⟩ = #[.int .i64 kind, .int .i64 conn, .int .i64 seq, .int .i64 ack, .int .i64 win, .string marks, .string body, .int .i64 time, .int .i64 late] := rfl
  rw [hcl] at HV
  simp only [hcl] at he hdec
  obtain ⟨E, hE⟩ : ∃ E, Seg.enc ⟨kind, conn, seq, ack, win, marks, body, time, late⟩ = E := ⟨_, rfl⟩
  obtain ⟨R, hR⟩ : ∃ R, Seg.rest ⟨kind, conn, seq, ack, win, marks, body, time, late⟩ = R := ⟨_, rfl⟩
  simp only [hE] at he hdec hsz hes
  simp only [hR] at hrs hes hrz hsum hs32
  obtain ⟨SM, hSM⟩ : ∃ z, Dg.sum R.data.toList = z := ⟨_, rfl⟩
  simp only [hSM] at hes hsum hs32
  obtain ⟨N0, hN0⟩ : ∃ z, strOfNums (pb kind 1 1) = z := ⟨_, rfl⟩
  have hz0 : N0.size = 1 := by rw [← hN0, strOfNums_size, pb_len]
  obtain ⟨N1, hN1⟩ : ∃ z, strOfNums (pb (marks.size : Int) 1 1) = z := ⟨_, rfl⟩
  have hz1 : N1.size = 1 := by rw [← hN1, strOfNums_size, pb_len]
  obtain ⟨N2, hN2⟩ : ∃ z, strOfNums (pb conn 2 2) = z := ⟨_, rfl⟩
  have hz2 : N2.size = 2 := by rw [← hN2, strOfNums_size, pb_len]
  obtain ⟨N3, hN3⟩ : ∃ z, strOfNums (pb seq 2 2) = z := ⟨_, rfl⟩
  have hz3 : N3.size = 2 := by rw [← hN3, strOfNums_size, pb_len]
  obtain ⟨N4, hN4⟩ : ∃ z, strOfNums (pb ack 2 2) = z := ⟨_, rfl⟩
  have hz4 : N4.size = 2 := by rw [← hN4, strOfNums_size, pb_len]
  obtain ⟨N5, hN5⟩ : ∃ z, strOfNums (pb time 4 4) = z := ⟨_, rfl⟩
  have hz5 : N5.size = 4 := by rw [← hN5, strOfNums_size, pb_len]
  obtain ⟨N6, hN6⟩ : ∃ z, strOfNums (pb late 4 4) = z := ⟨_, rfl⟩
  have hz6 : N6.size = 4 := by rw [← hN6, strOfNums_size, pb_len]
  obtain ⟨N7, hN7⟩ : ∃ z, strOfNums (pb win 4 4) = z := ⟨_, rfl⟩
  have hz7 : N7.size = 4 := by rw [← hN7, strOfNums_size, pb_len]
  simp only [hN0, hN1, hN2, hN3, hN4, hN5, hN6, hN7] at hrs
  simp only [hN0] at hn0
  have HN0 := Lib.hid hn0
  simp only [hN1] at hn1
  have HN1 := Lib.hid hn1
  simp only [hN2] at hn2
  have HN2 := Lib.hid hn2
  simp only [hN3] at hn3
  have HN3 := Lib.hid hn3
  simp only [hN4] at hn4
  have HN4 := Lib.hid hn4
  simp only [hN5] at hn5
  have HN5 := Lib.hid hn5
  simp only [hN6] at hn6
  have HN6 := Lib.hid hn6
  simp only [hN7] at hn7
  have HN7 := Lib.hid hn7
  have HE := Lib.hid he
  have HD := Lib.hid hdec
  have HSUM := Lib.hid hsum
  have HRS := Lib.hid hrs
  have HES := Lib.hid hes
  have hE1 : E.size ≤ 1428 := by omega
  have hE2 : 24 ≤ E.size := by omega
  have hR1 : R.size ≤ 1424 := by omega
  clear h he hdec hsz hes hrz hrs hsum hE hR hSM hcl hn0 hN0 hn1 hN1 hn2 hN2 hn3 hN3 hn4 hN4 hn5 hN5 hn6 hN6 hn7 hN7
  go_enter Try.func3, Try.ntmps3
  go_wp2_with fail
  refine (HE.out _).mono ?_
  rintro e w1 ⟨rfl, hb1⟩
  have hS1 : w1.cell? ⟨w.heap.size, 0, none⟩ = some (.int .i64 kind) ∧ w1.cell? ⟨w.heap.size, 1, none⟩ = some (.int .i64 conn) ∧ w1.cell? ⟨w.heap.size, 2, none⟩ = some (.int .i64 seq) ∧ w1.cell? ⟨w.heap.size, 3, none⟩ = some (.int .i64 ack) ∧ w1.cell? ⟨w.heap.size, 4, none⟩ = some (.int .i64 win) ∧ w1.cell? ⟨w.heap.size, 5, none⟩ = some (.string marks) ∧ w1.cell? ⟨w.heap.size, 6, none⟩ = some (.string body) ∧ w1.cell? ⟨w.heap.size, 7, none⟩ = some (.int .i64 time) ∧ w1.cell? ⟨w.heap.size, 8, none⟩ = some (.int .i64 late) ∧ Below w.heap.size w w1 := by
    go_split_ands
    exact ⟨kcell hb1 (by assumption), kcell hb1 (by assumption), kcell hb1 (by assumption), kcell hb1 (by assumption), kcell hb1 (by assumption), kcell hb1 (by assumption), kcell hb1 (by assumption), kcell hb1 (by assumption), kcell hb1 (by assumption), blw (by assumption) hb1⟩
  clear hS0
  have HS1 := Lib.hid hS1
  go_split_ands
  go_wp2_with fail
  have hSd : w1.drew.cell? ⟨w.heap.size, 0, none⟩ = some (.int .i64 kind) ∧ w1.drew.cell? ⟨w.heap.size, 1, none⟩ = some (.int .i64 conn) ∧ w1.drew.cell? ⟨w.heap.size, 2, none⟩ = some (.int .i64 seq) ∧ w1.drew.cell? ⟨w.heap.size, 3, none⟩ = some (.int .i64 ack) ∧ w1.drew.cell? ⟨w.heap.size, 4, none⟩ = some (.int .i64 win) ∧ w1.drew.cell? ⟨w.heap.size, 5, none⟩ = some (.string marks) ∧ w1.drew.cell? ⟨w.heap.size, 6, none⟩ = some (.string body) ∧ w1.drew.cell? ⟨w.heap.size, 7, none⟩ = some (.int .i64 time) ∧ w1.drew.cell? ⟨w.heap.size, 8, none⟩ = some (.int .i64 late) ∧ Below w.heap.size w w1.drew := by
    obtain ⟨q0, q1, q2, q3, q4, q5, q6, q7, q8, q9⟩ := HS1.out
    exact ⟨q0, q1, q2, q3, q4, q5, q6, q7, q8, q9.drew⟩
  go_region_held3 (fun w' => w'.cell? ⟨w.heap.size, 0, none⟩ = some (.int .i64 kind) ∧ w'.cell? ⟨w.heap.size, 1, none⟩ = some (.int .i64 conn) ∧ w'.cell? ⟨w.heap.size, 2, none⟩ = some (.int .i64 seq) ∧ w'.cell? ⟨w.heap.size, 3, none⟩ = some (.int .i64 ack) ∧ w'.cell? ⟨w.heap.size, 4, none⟩ = some (.int .i64 win) ∧ w'.cell? ⟨w.heap.size, 5, none⟩ = some (.string marks) ∧ w'.cell? ⟨w.heap.size, 6, none⟩ = some (.string body) ∧ w'.cell? ⟨w.heap.size, 7, none⟩ = some (.int .i64 time) ∧ w'.cell? ⟨w.heap.size, 8, none⟩ = some (.int .i64 late) ∧ Below w.heap.size w w')
    (first
      | exact hSd
      | ((go_split_ands; refine ⟨?_, ?_, ?_, ?_, ?_, ?_, ?_, ?_, ?_, ?_⟩ <;> assumption))
      | (go_split_ands; exact ⟨kcell hbx (by assumption), kcell hbx (by assumption), kcell hbx (by assumption), kcell hbx (by assumption), kcell hbx (by assumption), kcell hbx (by assumption), kcell hbx (by assumption), kcell hbx (by assumption), kcell hbx (by assumption), blw (by assumption) hbx⟩))
    (first
      | (go_at_call 8; refine (HV.out _).mono ?_; rintro e w2 ⟨rfl, hbx⟩)
      | (go_at_call 9; refine (HR.out _).mono ?_; rintro e w2 ⟨rfl, hbx⟩))
  go_split_ands
  go_wp2_with fail
  refine (HR.out _).mono ?_
  rintro e w3 ⟨rfl, hb3⟩
  go_wp2_with fail

  have hSd : w3.drew.cell? ⟨w.heap.size, 0, none⟩ = some (.int .i64 kind) ∧ w3.drew.cell? ⟨w.heap.size, 1, none⟩ = some (.int .i64 conn) ∧ w3.drew.cell? ⟨w.heap.size, 2, none⟩ = some (.int .i64 seq) ∧ w3.drew.cell? ⟨w.heap.size, 3, none⟩ = some (.int .i64 ack) ∧ w3.drew.cell? ⟨w.heap.size, 4, none⟩ = some (.int .i64 win) ∧ w3.drew.cell? ⟨w.heap.size, 5, none⟩ = some (.string marks) ∧ w3.drew.cell? ⟨w.heap.size, 6, none⟩ = some (.string body) ∧ w3.drew.cell? ⟨w.heap.size, 7, none⟩ = some (.int .i64 time) ∧ w3.drew.cell? ⟨w.heap.size, 8, none⟩ = some (.int .i64 late) ∧ Below w.heap.size w w3.drew :=
    ⟨(show w3.cell? _ = _ from kcell hb3 (by assumption)), (show w3.cell? _ = _ from kcell hb3 (by assumption)), (show w3.cell? _ = _ from kcell hb3 (by assumption)), (show w3.cell? _ = _ from kcell hb3 (by assumption)), (show w3.cell? _ = _ from kcell hb3 (by assumption)), (show w3.cell? _ = _ from kcell hb3 (by assumption)), (show w3.cell? _ = _ from kcell hb3 (by assumption)), (show w3.cell? _ = _ from kcell hb3 (by assumption)), (show w3.cell? _ = _ from kcell hb3 (by assumption)), (blw (by assumption) hb3).drew⟩
  have hn1 : ¬ (9223372036854775807 < 20 + marks.size) := by omega
  have hn2 : ¬ (9223372036854775807 < 20 + marks.size + body.size) := by omega
  go_region_held3 (fun w' => w'.cell? ⟨w.heap.size, 0, none⟩ = some (.int .i64 kind) ∧ w'.cell? ⟨w.heap.size, 1, none⟩ = some (.int .i64 conn) ∧ w'.cell? ⟨w.heap.size, 2, none⟩ = some (.int .i64 seq) ∧ w'.cell? ⟨w.heap.size, 3, none⟩ = some (.int .i64 ack) ∧ w'.cell? ⟨w.heap.size, 4, none⟩ = some (.int .i64 win) ∧ w'.cell? ⟨w.heap.size, 5, none⟩ = some (.string marks) ∧ w'.cell? ⟨w.heap.size, 6, none⟩ = some (.string body) ∧ w'.cell? ⟨w.heap.size, 7, none⟩ = some (.int .i64 time) ∧ w'.cell? ⟨w.heap.size, 8, none⟩ = some (.int .i64 late) ∧ Below w.heap.size w w')
    (first
      | exact hSd
      | ((go_split_ands; refine ⟨?_, ?_, ?_, ?_, ?_, ?_, ?_, ?_, ?_, ?_⟩ <;> assumption))
      | (go_split_ands; exact ⟨kcell hbx (by assumption), kcell hbx (by assumption), kcell hbx (by assumption), kcell hbx (by assumption), kcell hbx (by assumption), kcell hbx (by assumption), kcell hbx (by assumption), kcell hbx (by assumption), kcell hbx (by assumption), blw (by assumption) hbx⟩))
    (first
      | (go_at_call_of 10 (Value.int IntKind.i64 kind); refine (HN0.out _).mono ?_; rintro e w2 ⟨rfl, hbx⟩)
      | (go_at_call_of 10 (Value.int IntKind.i64 (marks.size : Int)); refine (HN1.out _).mono ?_; rintro e w2 ⟨rfl, hbx⟩)
      | (go_at_call_of 10 (Value.int IntKind.i64 conn); refine (HN2.out _).mono ?_; rintro e w2 ⟨rfl, hbx⟩)
      | (go_at_call_of 10 (Value.int IntKind.i64 seq); refine (HN3.out _).mono ?_; rintro e w2 ⟨rfl, hbx⟩)
      | (go_at_call_of 10 (Value.int IntKind.i64 ack); refine (HN4.out _).mono ?_; rintro e w2 ⟨rfl, hbx⟩)
      | (go_at_call_of 10 (Value.int IntKind.i64 time); refine (HN5.out _).mono ?_; rintro e w2 ⟨rfl, hbx⟩)
      | (go_at_call_of 10 (Value.int IntKind.i64 late); refine (HN6.out _).mono ?_; rintro e w2 ⟨rfl, hbx⟩)
      | (go_at_call_of 10 (Value.int IntKind.i64 win); refine (HN7.out _).mono ?_; rintro e w2 ⟨rfl, hbx⟩))
  go_split_ands
  rw [HRS.out]
  go_wp2_with fail
  refine (HSUM.out _).mono ?_
  rintro e w4 ⟨rfl, hb4⟩
  have hq1 : (E.toList == (SM.extract 0 4 ++ R).toList) = true := by rw [← HES.out]; simp
  have hq2 : (E.toList != (SM.extract 0 4 ++ R).toList) = false := by rw [← HES.out]; simp
  obtain ⟨q0, q1, q2, q3, q4, q5, q6, q7, q8, q9⟩ : w4.cell? ⟨w.heap.size, 0, none⟩ = some (.int .i64 kind) ∧ w4.cell? ⟨w.heap.size, 1, none⟩ = some (.int .i64 conn) ∧ w4.cell? ⟨w.heap.size, 2, none⟩ = some (.int .i64 seq) ∧ w4.cell? ⟨w.heap.size, 3, none⟩ = some (.int .i64 ack) ∧ w4.cell? ⟨w.heap.size, 4, none⟩ = some (.int .i64 win) ∧ w4.cell? ⟨w.heap.size, 5, none⟩ = some (.string marks) ∧ w4.cell? ⟨w.heap.size, 6, none⟩ = some (.string body) ∧ w4.cell? ⟨w.heap.size, 7, none⟩ = some (.int .i64 time) ∧ w4.cell? ⟨w.heap.size, 8, none⟩ = some (.int .i64 late) ∧ Below w.heap.size w w4 :=
    ⟨kcell hb4 (by assumption), kcell hb4 (by assumption), kcell hb4 (by assumption), kcell hb4 (by assumption), kcell hb4 (by assumption), kcell hb4 (by assumption), kcell hb4 (by assumption), kcell hb4 (by assumption), kcell hb4 (by assumption), blw (by assumption) hb4⟩
  go_wp2_with fail
  refine (HD.out _).mono ?_
  rintro e w5 ⟨rfl, hb5⟩
  obtain ⟨r0, r1, r2, r3, r4, r5, r6, r7, r8, r9⟩ : w5.cell? ⟨w.heap.size, 0, none⟩ = some (.int .i64 kind) ∧ w5.cell? ⟨w.heap.size, 1, none⟩ = some (.int .i64 conn) ∧ w5.cell? ⟨w.heap.size, 2, none⟩ = some (.int .i64 seq) ∧ w5.cell? ⟨w.heap.size, 3, none⟩ = some (.int .i64 ack) ∧ w5.cell? ⟨w.heap.size, 4, none⟩ = some (.int .i64 win) ∧ w5.cell? ⟨w.heap.size, 5, none⟩ = some (.string marks) ∧ w5.cell? ⟨w.heap.size, 6, none⟩ = some (.string body) ∧ w5.cell? ⟨w.heap.size, 7, none⟩ = some (.int .i64 time) ∧ w5.cell? ⟨w.heap.size, 8, none⟩ = some (.int .i64 late) ∧ Below w.heap.size w w5 :=
    ⟨kcell hb5 q0, kcell hb5 q1, kcell hb5 q2, kcell hb5 q3, kcell hb5 q4, kcell hb5 q5, kcell hb5 q6, kcell hb5 q7, kcell hb5 q8, blw q9 hb5⟩
  clear q0 q1 q2 q3 q4 q5 q6 q7 q8 hb4 hb5
  have r10 : w.heap.size < w5.heap.size := World.block_lt_of_cell? w5 _ r0
  go_wp2_with fail
  obtain ⟨w6, cap, hrun, hb6, hsz6, hcap, hcell, hfree⟩ := Hh.conv_bytes (w5.alloc (.cells #[.int .i64 kind, .int .i64 conn, .int .i64 seq, .int .i64 ack, .int .i64 win, .string marks, .string body, .int .i64 time, .int .i64 late] 23)) E
  rw [hrun]
  simp only [World.size_alloc] at hcell hfree
  have hB6 : Below w.heap.size w w6 := blw (r9.alloc (Nat.le_of_lt r10) _) hb6
  have hT : Tx w6 (w5.heap.size + 1) E := fun i hi => by rw [hcell i hi, by_at E i hi]
  obtain ⟨u, q, hu1, hu2, hu3, hu4, hq⟩ := place at_ E.size (by omega) (by omega)
  obtain ⟨v, t, hv1, hv2, hv3, hv4, ht⟩ := place bit 8 (by omega) (by omega)
  obtain ⟨y, hy, hxy⟩ := xor_shl (by_ E q) t (by_lt E q) ht
  have hcq := hT q hq
  have hfq := hfree q hq
  have hP := hT.put q y hq hy
  have hPz := Hh.put_size E q (y : Int)
  have hB7 := hB6.setCell (p := ⟨w5.heap.size + 1, q, none⟩) (show w.heap.size ≤ w5.heap.size + 1 by omega) (.int .u8 (y : Int))
  obtain ⟨x, hx⟩ : ∃ x, by_ E q = x := ⟨_, rfl⟩
  obtain ⟨E', hE'⟩ : ∃ z, Hh.put E q (y : Int) = z := ⟨_, rfl⟩
  rw [hx] at hxy hcq
  rw [hE'] at hP hPz
  have hq' : (q : Int) < (E.size : Int) := by omega
  have ht' : (t : Int) < 8 := by omega
  have hw1 : IntKind.i64.wrap (u + (E.size : Int)) = u + (E.size : Int) := by rw [IntKind.wrap_i64]; omega
  have hw2 : IntKind.i64.wrap (v + 8) = v + 8 := by rw [IntKind.wrap_i64]; omega
  have hv5 : bit.tmod 8 = v := hv1
  have hv6 : (v + 8).tmod 8 = (t : Int) := hv4
  have hL0 : (E.size : Int) ≠ 0 := by omega
  have HT := Lib.hid hP
  have HB7 := Lib.hid hB7
  have HPZ := Lib.hid hPz
  clear r0 r1 r2 r3 r4 r5 r6 r7 r8 hcell hfree hrun hb6 hT hP hPz hB7 hx hE' hv1 hv4 q9 r9 hB6
  go_wp2_with fail
  go_region
  obtain ⟨w7, hw7⟩ : ∃ w7, (w6.setCell ⟨w5.heap.size + 1, q, none⟩ (.int .u8 (y : Int))).drew = w7 := ⟨_, rfl⟩
  have hT7 : Tx w7 (w5.heap.size + 1) E' := by rw [← hw7]; exact HT.out.drewN 1
  have hB7 : Below w.heap.size w w7 := by rw [← hw7]; exact HB7.out.drew
  rw [hw7]
  clear hw7 HT HB7 hcq hfq hxy hu1 hu2 hu3 hu4 hv2 hv3 hv5 hv6 hw1 hw2 hq' ht'
  have hpz := HPZ.out
  have hsx : (E'.extract 4 (4 + (E.size - 4))).size ≤ maxLen := by unfold maxLen; rw [ByteArray.size_extract]; omega
  have hs1 := fun w => Hh.RSum_any (E'.extract 4 (4 + (E.size - 4))) w hsx
  have hs2 : (Dg.sum (E'.extract 4 (4 + (E.size - 4))).data.toList).size = 32 := Dg.sum_size _
  have hdg : dgOk E' ↔ ((Dg.sum (E'.extract 4 (4 + (E.size - 4))).data.toList).extract 0 4).toList = (E'.extract 0 (0 + 4)).toList := by
    unfold dgOk
    rw [hpz, show 4 + (E.size - 4) = E.size by omega]
    exact ⟨fun h => by rw [h], fun h => by rwa [ByteArray.toList_eq, ByteArray.toList_eq, Array.toList_inj, ← ByteArray.ext_iff] at h⟩
  have c1 := (hT7.drewN 1).conv 4 (E.size - 4) (cap - 4) (by omega)
  have c2 := (hT7.drewN 1).conv 0 4 cap (by omega)
  have c1 : (convert 33 9 (.slice (some ⟨w5.heap.size + 1, 4, none⟩) (E.size - 4) (cap - 4))).run Try.prog w7.drew = .ok (.string (E'.extract 4 (4 + (E.size - 4)))) w7.drew := c1
  have c2 : (convert 33 9 (.slice (some ⟨w5.heap.size + 1, 0, none⟩) 4 cap)).run Try.prog w7.drew = .ok (.string (E'.extract 0 (0 + 4))) w7.drew := c2
  have HW := Lib.hid (show E'.extract 0 (0 + E.size) = E' by rw [← hpz]; exact whole E')
  have HT7 := Lib.hid (fun (w8 : World) (hb : Below w7.drew.heap.size w7.drew w8) => (hT7.drewN 1).below (by omega) hb)
  have HD2 := Lib.hid (fun hd w => Decode_bad E' w (by omega) hd)
  obtain ⟨S1, hS1⟩ : ∃ z, E'.extract 4 (4 + (E.size - 4)) = z := ⟨_, rfl⟩
  obtain ⟨S2, hS2⟩ : ∃ z, E'.extract 0 (0 + 4) = z := ⟨_, rfl⟩
  simp only [hS1] at hs1 hs2 hdg c1
  rw [hS2] at hdg c2
  obtain ⟨SM2, hSM2⟩ : ∃ z, Dg.sum S1.data.toList = z := ⟨_, rfl⟩
  simp only [hSM2] at hs1 hs2 hdg
  have HS2 := Lib.hid hs1
  have HX2 := Lib.hid hS2
  have hpz2 : E.size ≤ E'.size := by omega
  have h4E : (4 : Int) ≤ (E.size : Int) := by omega
  have h4c : 4 ≤ cap := by omega
  clear hs1 hS1 hS2 hSM2 hpz HPZ hT7 hsx
  by_cases hd : dgOk E'
  · have hd1 : ((SM2.extract 0 4).toList == S2.toList) = true := by rw [beq_iff_eq]; exact hdg.1 hd
    clear hd hdg HD2
    go_wp2_with fail
    go_region_with (go_at_call 11; refine (HS2.out _).mono ?_; rintro e w8 ⟨rfl, hb8⟩; have c28 := (HT7.out w8 hb8).conv 0 4 cap (by omega); rw [HX2.out] at c28)
    all_goals
      go_wp2_with fail
      refine (HA.out _).mono ?_
      rintro e w9 ⟨rfl, hb9⟩
      go_wp2
      go_ret
      exact ⟨rfl, blw (blw hB7.drew hb8) hb9⟩
  · have hd1 : ((SM2.extract 0 4).toList == S2.toList) = false := by rw [beq_eq_false_iff_ne]; exact fun q => hd (hdg.2 q)
    have HBAD := Lib.hid (HD2.out hd)
    clear hd hdg HD2
    go_wp2_with fail
    go_region_with (go_at_call 11; refine (HS2.out _).mono ?_; rintro e w8 ⟨rfl, hb8⟩; have c28 := (HT7.out w8 hb8).conv 0 4 cap (by omega); rw [HX2.out] at c28)
    all_goals
      have c38 := (HT7.out w8 hb8).conv 0 E.size cap (by omega)
      rw [HW.out] at c38
      go_wp2_with fail
      refine (HBAD.out _).mono ?_
      rintro e w9 ⟨aa, rfl, hb9⟩
      unfold zseg
      go_wp2_with fail
      refine (HA.out _).mono ?_
      rintro e w10 ⟨rfl, hb10⟩
      go_wp2
      go_ret
      exact ⟨rfl, blw (blw (blw hB7.drew hb8) hb9) hb10⟩
end Go.Proofs.Ytdkfniijoamaoac.Ga
