/-
  A packet that is not valid: what the program and the law say.
-/
import Derived.Test.YtdkfniijoamaoacGc
namespace Go.Proofs.Ytdkfniijoamaoac.Ga
open Go Go.RowKit Go.Proofs.Ytdkfniijoamaoac.Hz Go.Proofs.Ytdkfniijoamaoac.Ob

set_option maxHeartbeats 400000 in
theorem withinX (n a b : Int) (w : World) (h : ¬ (a ≤ n ∧ n ≤ b)) : Calls Try.prog 23 #[.int .i64 n, .int .i64 a, .int .i64 b] w fun e w' => e = .returned (.bool false) ∧ w = w' := by
  by_cases h1 : a ≤ n
  · have h2 : ¬ n ≤ b := fun h2 => h ⟨h1, h2⟩
    clear h
    go_enter Try.func23, Try.ntmps23
    go_wp2
    go_ret
    exact ⟨by simp [h2], rfl⟩
  · clear h
    go_enter Try.func23, Try.ntmps23
    go_wp2
    go_ret
    exact ⟨by simp, rfl⟩
set_option maxHeartbeats 400000 in
theorem isNumberX (n : Int) (w : World) (h : ¬ (0 ≤ n ∧ n ≤ 65535)) : Calls Try.prog 24 #[.int .i64 n] w fun e w' => e = .returned (.bool false) ∧ w = w' := by
  have HX := Lib.hid (withinX n 0 65535 w h)
  clear h
  go_enter Try.func24, Try.ntmps24
  go_wp2_with fail
  refine HX.out.mono ?_
  rintro e w1 ⟨rfl, rfl⟩
  go_wp2
  go_ret
  exact ⟨rfl, rfl⟩
set_option maxHeartbeats 400000 in
theorem lwithin_y (n a b : Int) (w : World) (h1 : a ≤ n) (h2 : n ≤ b) : Calls Try.prog 14 #[.int .i64 n, .int .i64 a, .int .i64 b] w fun e w' => e = .returned (.bool true) ∧ w = w' := by
  go_enter Try.func14, Try.ntmps14
  go_wp2
  go_ret
  exact ⟨by simp [h1, h2], rfl⟩
set_option maxHeartbeats 400000 in
theorem lwithinX (n a b : Int) (w : World) (h : ¬ (a ≤ n ∧ n ≤ b)) : Calls Try.prog 14 #[.int .i64 n, .int .i64 a, .int .i64 b] w fun e w' => e = .returned (.bool false) ∧ w = w' := by
  by_cases h1 : a ≤ n
  · have h2 : ¬ n ≤ b := fun h2 => h ⟨h1, h2⟩
    clear h
    go_enter Try.func14, Try.ntmps14
    go_wp2
    go_ret
    exact ⟨by simp [h2], rfl⟩
  · clear h
    go_enter Try.func14, Try.ntmps14
    go_wp2
    go_ret
    exact ⟨by simp, rfl⟩

set_option maxRecDepth 100000 in
set_option maxHeartbeats 1600000 in
theorem Valid_k (kind conn seq ack win : Int) (marks body : ByteArray) (time late : Int) (w : World) (hk : ¬ (1 ≤ kind ∧ kind ≤ 5)) : Calls Try.prog 8 #[.agg #[.int .i64 kind, .int .i64 conn, .int .i64 seq, .int .i64 ack, .int .i64 win, .string marks, .string body, .int .i64 time, .int .i64 late]] w fun e w' => e = .returned (.bool false) ∧ Below w.heap.size w w' := by
  have Hk := Lib.hid (fun w => withinX kind 1 5 w hk)
  clear hk
  go_enter Try.func8, Try.ntmps8
  go_wp2_with fail
  refine (Hk.out _).mono ?_
  rintro e wq ⟨rfl, rfl⟩
  go_wp2
  go_ret
  exact ⟨rfl, (Below.refl _ _).alloc (Nat.le_refl _) _⟩

set_option maxRecDepth 100000 in
set_option maxHeartbeats 1600000 in
theorem Valid_c (kind conn seq ack win : Int) (marks body : ByteArray) (time late : Int) (w : World) (hk : 1 ≤ kind ∧ kind ≤ 5) (hc : ¬ (0 ≤ conn ∧ conn ≤ 65535)) : Calls Try.prog 8 #[.agg #[.int .i64 kind, .int .i64 conn, .int .i64 seq, .int .i64 ack, .int .i64 win, .string marks, .string body, .int .i64 time, .int .i64 late]] w fun e w' => e = .returned (.bool false) ∧ Below w.heap.size w w' := by
  have Hk := Lib.hid (fun w => within_y kind 1 5 w hk.1 hk.2)
  clear hk
  have Hc := Lib.hid (fun w => isNumberX conn w hc)
  clear hc
  go_enter Try.func8, Try.ntmps8
  go_wp2_with fail
  refine (Hk.out _).mono ?_
  rintro e wq ⟨rfl, rfl⟩
  go_wp2_with fail
  refine (Hc.out _).mono ?_
  rintro e wq ⟨rfl, rfl⟩
  go_wp2
  go_ret
  exact ⟨rfl, (Below.refl _ _).alloc (Nat.le_refl _) _⟩

set_option maxRecDepth 100000 in
set_option maxHeartbeats 1600000 in
theorem Valid_s (kind conn seq ack win : Int) (marks body : ByteArray) (time late : Int) (w : World) (hk : 1 ≤ kind ∧ kind ≤ 5) (hc : 0 ≤ conn ∧ conn ≤ 65535) (hs : ¬ (0 ≤ seq ∧ seq ≤ 65535)) : Calls Try.prog 8 #[.agg #[.int .i64 kind, .int .i64 conn, .int .i64 seq, .int .i64 ack, .int .i64 win, .string marks, .string body, .int .i64 time, .int .i64 late]] w fun e w' => e = .returned (.bool false) ∧ Below w.heap.size w w' := by
  have Hk := Lib.hid (fun w => within_y kind 1 5 w hk.1 hk.2)
  clear hk
  have Hc := Lib.hid (fun w => isNumber_y conn w hc.1 hc.2)
  clear hc
  have Hs := Lib.hid (fun w => isNumberX seq w hs)
  clear hs
  go_enter Try.func8, Try.ntmps8
  go_wp2_with fail
  refine (Hk.out _).mono ?_
  rintro e wq ⟨rfl, rfl⟩
  go_wp2_with fail
  refine (Hc.out _).mono ?_
  rintro e wq ⟨rfl, rfl⟩
  go_wp2_with fail
  refine (Hs.out _).mono ?_
  rintro e wq ⟨rfl, rfl⟩
  go_wp2
  go_ret
  exact ⟨rfl, (Below.refl _ _).alloc (Nat.le_refl _) _⟩

set_option maxRecDepth 100000 in
set_option maxHeartbeats 1600000 in
theorem Valid_a (kind conn seq ack win : Int) (marks body : ByteArray) (time late : Int) (w : World) (hk : 1 ≤ kind ∧ kind ≤ 5) (hc : 0 ≤ conn ∧ conn ≤ 65535) (hs : 0 ≤ seq ∧ seq ≤ 65535) (ha : ¬ (0 ≤ ack ∧ ack ≤ 65535)) : Calls Try.prog 8 #[.agg #[.int .i64 kind, .int .i64 conn, .int .i64 seq, .int .i64 ack, .int .i64 win, .string marks, .string body, .int .i64 time, .int .i64 late]] w fun e w' => e = .returned (.bool false) ∧ Below w.heap.size w w' := by
  have Hk := Lib.hid (fun w => within_y kind 1 5 w hk.1 hk.2)
  clear hk
  have Hc := Lib.hid (fun w => isNumber_y conn w hc.1 hc.2)
  clear hc
  have Hs := Lib.hid (fun w => isNumber_y seq w hs.1 hs.2)
  clear hs
  have Ha := Lib.hid (fun w => isNumberX ack w ha)
  clear ha
  go_enter Try.func8, Try.ntmps8
  go_wp2_with fail
  refine (Hk.out _).mono ?_
  rintro e wq ⟨rfl, rfl⟩
  go_wp2_with fail
  refine (Hc.out _).mono ?_
  rintro e wq ⟨rfl, rfl⟩
  go_wp2_with fail
  refine (Hs.out _).mono ?_
  rintro e wq ⟨rfl, rfl⟩
  go_wp2_with fail
  refine (Ha.out _).mono ?_
  rintro e wq ⟨rfl, rfl⟩
  go_wp2
  go_ret
  exact ⟨rfl, (Below.refl _ _).alloc (Nat.le_refl _) _⟩

set_option maxRecDepth 100000 in
set_option maxHeartbeats 1600000 in
theorem Valid_w (kind conn seq ack win : Int) (marks body : ByteArray) (time late : Int) (w : World) (hk : 1 ≤ kind ∧ kind ≤ 5) (hc : 0 ≤ conn ∧ conn ≤ 65535) (hs : 0 ≤ seq ∧ seq ≤ 65535) (ha : 0 ≤ ack ∧ ack ≤ 65535) (hw : ¬ (0 ≤ win ∧ win ≤ 1000000)) : Calls Try.prog 8 #[.agg #[.int .i64 kind, .int .i64 conn, .int .i64 seq, .int .i64 ack, .int .i64 win, .string marks, .string body, .int .i64 time, .int .i64 late]] w fun e w' => e = .returned (.bool false) ∧ Below w.heap.size w w' := by
  have Hk := Lib.hid (fun w => within_y kind 1 5 w hk.1 hk.2)
  clear hk
  have Hc := Lib.hid (fun w => isNumber_y conn w hc.1 hc.2)
  clear hc
  have Hs := Lib.hid (fun w => isNumber_y seq w hs.1 hs.2)
  clear hs
  have Ha := Lib.hid (fun w => isNumber_y ack w ha.1 ha.2)
  clear ha
  have Hw := Lib.hid (fun w => withinX win 0 1000000 w hw)
  clear hw
  go_enter Try.func8, Try.ntmps8
  go_wp2_with fail
  refine (Hk.out _).mono ?_
  rintro e wq ⟨rfl, rfl⟩
  go_wp2_with fail
  refine (Hc.out _).mono ?_
  rintro e wq ⟨rfl, rfl⟩
  go_wp2_with fail
  refine (Hs.out _).mono ?_
  rintro e wq ⟨rfl, rfl⟩
  go_wp2_with fail
  refine (Ha.out _).mono ?_
  rintro e wq ⟨rfl, rfl⟩
  go_wp2_with fail
  refine (Hw.out _).mono ?_
  rintro e wq ⟨rfl, rfl⟩
  go_wp2
  go_ret
  exact ⟨rfl, (Below.refl _ _).alloc (Nat.le_refl _) _⟩

set_option maxRecDepth 100000 in
set_option maxHeartbeats 1600000 in
theorem Valid_t (kind conn seq ack win : Int) (marks body : ByteArray) (time late : Int) (w : World) (hk : 1 ≤ kind ∧ kind ≤ 5) (hc : 0 ≤ conn ∧ conn ≤ 65535) (hs : 0 ≤ seq ∧ seq ≤ 65535) (ha : 0 ≤ ack ∧ ack ≤ 65535) (hw : 0 ≤ win ∧ win ≤ 1000000) (ht : ¬ (0 ≤ time ∧ time ≤ 4294967295)) : Calls Try.prog 8 #[.agg #[.int .i64 kind, .int .i64 conn, .int .i64 seq, .int .i64 ack, .int .i64 win, .string marks, .string body, .int .i64 time, .int .i64 late]] w fun e w' => e = .returned (.bool false) ∧ Below w.heap.size w w' := by
  have Hk := Lib.hid (fun w => within_y kind 1 5 w hk.1 hk.2)
  clear hk
  have Hc := Lib.hid (fun w => isNumber_y conn w hc.1 hc.2)
  clear hc
  have Hs := Lib.hid (fun w => isNumber_y seq w hs.1 hs.2)
  clear hs
  have Ha := Lib.hid (fun w => isNumber_y ack w ha.1 ha.2)
  clear ha
  have Hw := Lib.hid (fun w => within_y win 0 1000000 w hw.1 hw.2)
  clear hw
  have Ht := Lib.hid (fun w => withinX time 0 4294967295 w ht)
  clear ht
  go_enter Try.func8, Try.ntmps8
  go_wp2_with fail
  refine (Hk.out _).mono ?_
  rintro e wq ⟨rfl, rfl⟩
  go_wp2_with fail
  refine (Hc.out _).mono ?_
  rintro e wq ⟨rfl, rfl⟩
  go_wp2_with fail
  refine (Hs.out _).mono ?_
  rintro e wq ⟨rfl, rfl⟩
  go_wp2_with fail
  refine (Ha.out _).mono ?_
  rintro e wq ⟨rfl, rfl⟩
  go_wp2_with fail
  refine (Hw.out _).mono ?_
  rintro e wq ⟨rfl, rfl⟩
  go_wp2_with fail
  refine (Ht.out _).mono ?_
  rintro e wq ⟨rfl, rfl⟩
  go_wp2
  go_ret
  exact ⟨rfl, (Below.refl _ _).alloc (Nat.le_refl _) _⟩

set_option maxRecDepth 100000 in
set_option maxHeartbeats 1600000 in
theorem Valid_l (kind conn seq ack win : Int) (marks body : ByteArray) (time late : Int) (w : World) (hk : 1 ≤ kind ∧ kind ≤ 5) (hc : 0 ≤ conn ∧ conn ≤ 65535) (hs : 0 ≤ seq ∧ seq ≤ 65535) (ha : 0 ≤ ack ∧ ack ≤ 65535) (hw : 0 ≤ win ∧ win ≤ 1000000) (ht : 0 ≤ time ∧ time ≤ 4294967295) (hl : ¬ (0 ≤ late ∧ late ≤ 4294967295)) : Calls Try.prog 8 #[.agg #[.int .i64 kind, .int .i64 conn, .int .i64 seq, .int .i64 ack, .int .i64 win, .string marks, .string body, .int .i64 time, .int .i64 late]] w fun e w' => e = .returned (.bool false) ∧ Below w.heap.size w w' := by
  have Hk := Lib.hid (fun w => within_y kind 1 5 w hk.1 hk.2)
  clear hk
  have Hc := Lib.hid (fun w => isNumber_y conn w hc.1 hc.2)
  clear hc
  have Hs := Lib.hid (fun w => isNumber_y seq w hs.1 hs.2)
  clear hs
  have Ha := Lib.hid (fun w => isNumber_y ack w ha.1 ha.2)
  clear ha
  have Hw := Lib.hid (fun w => within_y win 0 1000000 w hw.1 hw.2)
  clear hw
  have Ht := Lib.hid (fun w => within_y time 0 4294967295 w ht.1 ht.2)
  clear ht
  have Hl := Lib.hid (fun w => withinX late 0 4294967295 w hl)
  clear hl
  go_enter Try.func8, Try.ntmps8
  go_wp2_with fail
  refine (Hk.out _).mono ?_
  rintro e wq ⟨rfl, rfl⟩
  go_wp2_with fail
  refine (Hc.out _).mono ?_
  rintro e wq ⟨rfl, rfl⟩
  go_wp2_with fail
  refine (Hs.out _).mono ?_
  rintro e wq ⟨rfl, rfl⟩
  go_wp2_with fail
  refine (Ha.out _).mono ?_
  rintro e wq ⟨rfl, rfl⟩
  go_wp2_with fail
  refine (Hw.out _).mono ?_
  rintro e wq ⟨rfl, rfl⟩
  go_wp2_with fail
  refine (Ht.out _).mono ?_
  rintro e wq ⟨rfl, rfl⟩
  go_wp2_with fail
  refine (Hl.out _).mono ?_
  rintro e wq ⟨rfl, rfl⟩
  go_wp2
  go_ret
  exact ⟨rfl, (Below.refl _ _).alloc (Nat.le_refl _) _⟩

set_option maxRecDepth 100000 in
set_option maxHeartbeats 1600000 in
theorem Valid_m (kind conn seq ack win : Int) (marks body : ByteArray) (time late : Int) (w : World) (hk : 1 ≤ kind ∧ kind ≤ 5) (hc : 0 ≤ conn ∧ conn ≤ 65535) (hs : 0 ≤ seq ∧ seq ≤ 65535) (ha : 0 ≤ ack ∧ ack ≤ 65535) (hw : 0 ≤ win ∧ win ≤ 1000000) (ht : 0 ≤ time ∧ time ≤ 4294967295) (hl : 0 ≤ late ∧ late ≤ 4294967295) (hm : ¬ ((marks.size : Int) ≤ 4)) : Calls Try.prog 8 #[.agg #[.int .i64 kind, .int .i64 conn, .int .i64 seq, .int .i64 ack, .int .i64 win, .string marks, .string body, .int .i64 time, .int .i64 late]] w fun e w' => e = .returned (.bool false) ∧ Below w.heap.size w w' := by
  have Hk := Lib.hid (fun w => within_y kind 1 5 w hk.1 hk.2)
  clear hk
  have Hc := Lib.hid (fun w => isNumber_y conn w hc.1 hc.2)
  clear hc
  have Hs := Lib.hid (fun w => isNumber_y seq w hs.1 hs.2)
  clear hs
  have Ha := Lib.hid (fun w => isNumber_y ack w ha.1 ha.2)
  clear ha
  have Hw := Lib.hid (fun w => within_y win 0 1000000 w hw.1 hw.2)
  clear hw
  have Ht := Lib.hid (fun w => within_y time 0 4294967295 w ht.1 ht.2)
  clear ht
  have Hl := Lib.hid (fun w => within_y late 0 4294967295 w hl.1 hl.2)
  clear hl
  have hmm : (4 : Int) < (marks.size : Int) := by omega
  clear hm
  go_enter Try.func8, Try.ntmps8
  go_wp2_with fail
  refine (Hk.out _).mono ?_
  rintro e wq ⟨rfl, rfl⟩
  go_wp2_with fail
  refine (Hc.out _).mono ?_
  rintro e wq ⟨rfl, rfl⟩
  go_wp2_with fail
  refine (Hs.out _).mono ?_
  rintro e wq ⟨rfl, rfl⟩
  go_wp2_with fail
  refine (Ha.out _).mono ?_
  rintro e wq ⟨rfl, rfl⟩
  go_wp2_with fail
  refine (Hw.out _).mono ?_
  rintro e wq ⟨rfl, rfl⟩
  go_wp2_with fail
  refine (Ht.out _).mono ?_
  rintro e wq ⟨rfl, rfl⟩
  go_wp2_with fail
  refine (Hl.out _).mono ?_
  rintro e wq ⟨rfl, rfl⟩
  go_wp2
  go_ret
  exact ⟨rfl, (Below.refl _ _).alloc (Nat.le_refl _) _⟩

set_option maxRecDepth 100000 in
set_option maxHeartbeats 1600000 in
theorem Valid_b (kind conn seq ack win : Int) (marks body : ByteArray) (time late : Int) (w : World) (hk : 1 ≤ kind ∧ kind ≤ 5) (hc : 0 ≤ conn ∧ conn ≤ 65535) (hs : 0 ≤ seq ∧ seq ≤ 65535) (ha : 0 ≤ ack ∧ ack ≤ 65535) (hw : 0 ≤ win ∧ win ≤ 1000000) (ht : 0 ≤ time ∧ time ≤ 4294967295) (hl : 0 ≤ late ∧ late ≤ 4294967295) (hm : (marks.size : Int) ≤ 4) (hb : ¬ ((body.size : Int) ≤ 1400)) : Calls Try.prog 8 #[.agg #[.int .i64 kind, .int .i64 conn, .int .i64 seq, .int .i64 ack, .int .i64 win, .string marks, .string body, .int .i64 time, .int .i64 late]] w fun e w' => e = .returned (.bool false) ∧ Below w.heap.size w w' := by
  have Hk := Lib.hid (fun w => within_y kind 1 5 w hk.1 hk.2)
  clear hk
  have Hc := Lib.hid (fun w => isNumber_y conn w hc.1 hc.2)
  clear hc
  have Hs := Lib.hid (fun w => isNumber_y seq w hs.1 hs.2)
  clear hs
  have Ha := Lib.hid (fun w => isNumber_y ack w ha.1 ha.2)
  clear ha
  have Hw := Lib.hid (fun w => within_y win 0 1000000 w hw.1 hw.2)
  clear hw
  have Ht := Lib.hid (fun w => within_y time 0 4294967295 w ht.1 ht.2)
  clear ht
  have Hl := Lib.hid (fun w => within_y late 0 4294967295 w hl.1 hl.2)
  clear hl
  have hmb : (1400 : Int) < (body.size : Int) := by omega
  clear hb
  go_enter Try.func8, Try.ntmps8
  go_wp2_with fail
  refine (Hk.out _).mono ?_
  rintro e wq ⟨rfl, rfl⟩
  go_wp2_with fail
  refine (Hc.out _).mono ?_
  rintro e wq ⟨rfl, rfl⟩
  go_wp2_with fail
  refine (Hs.out _).mono ?_
  rintro e wq ⟨rfl, rfl⟩
  go_wp2_with fail
  refine (Ha.out _).mono ?_
  rintro e wq ⟨rfl, rfl⟩
  go_wp2_with fail
  refine (Hw.out _).mono ?_
  rintro e wq ⟨rfl, rfl⟩
  go_wp2_with fail
  refine (Ht.out _).mono ?_
  rintro e wq ⟨rfl, rfl⟩
  go_wp2_with fail
  refine (Hl.out _).mono ?_
  rintro e wq ⟨rfl, rfl⟩
  go_wp2
  go_ret
  exact ⟨rfl, (Below.refl _ _).alloc (Nat.le_refl _) _⟩

set_option maxRecDepth 100000 in
set_option maxHeartbeats 1600000 in
theorem Valid_e (kind conn seq ack win : Int) (marks body : ByteArray) (time late : Int) (w : World) (hk : 1 ≤ kind ∧ kind ≤ 5) (hc : 0 ≤ conn ∧ conn ≤ 65535) (hs : 0 ≤ seq ∧ seq ≤ 65535) (ha : 0 ≤ ack ∧ ack ≤ 65535) (hw : 0 ≤ win ∧ win ≤ 1000000) (ht : 0 ≤ time ∧ time ≤ 4294967295) (hl : 0 ≤ late ∧ late ≤ 4294967295) (hm : (marks.size : Int) ≤ 4) (hb : (body.size : Int) ≤ 1400) (he : (!body.toList.isEmpty) ≠ (kind == 2)) : Calls Try.prog 8 #[.agg #[.int .i64 kind, .int .i64 conn, .int .i64 seq, .int .i64 ack, .int .i64 win, .string marks, .string body, .int .i64 time, .int .i64 late]] w fun e w' => e = .returned (.bool false) ∧ Below w.heap.size w w' := by
  have Hk := Lib.hid (fun w => within_y kind 1 5 w hk.1 hk.2)
  clear hk
  have Hc := Lib.hid (fun w => isNumber_y conn w hc.1 hc.2)
  clear hc
  have Hs := Lib.hid (fun w => isNumber_y seq w hs.1 hs.2)
  clear hs
  have Ha := Lib.hid (fun w => isNumber_y ack w ha.1 ha.2)
  clear ha
  have Hw := Lib.hid (fun w => within_y win 0 1000000 w hw.1 hw.2)
  clear hw
  have Ht := Lib.hid (fun w => within_y time 0 4294967295 w ht.1 ht.2)
  clear ht
  have Hl := Lib.hid (fun w => within_y late 0 4294967295 w hl.1 hl.2)
  clear hl
  have he2 : ((!body.toList.isEmpty) == (kind == 2)) = false := by rw [beq_eq_false_iff_ne]; exact he
  have he3 : ((kind == 2) == (!body.toList.isEmpty)) = false := by rw [beq_eq_false_iff_ne]; exact fun q => he q.symm
  clear he
  go_enter Try.func8, Try.ntmps8
  go_wp2_with fail
  refine (Hk.out _).mono ?_
  rintro e wq ⟨rfl, rfl⟩
  go_wp2_with fail
  refine (Hc.out _).mono ?_
  rintro e wq ⟨rfl, rfl⟩
  go_wp2_with fail
  refine (Hs.out _).mono ?_
  rintro e wq ⟨rfl, rfl⟩
  go_wp2_with fail
  refine (Ha.out _).mono ?_
  rintro e wq ⟨rfl, rfl⟩
  go_wp2_with fail
  refine (Hw.out _).mono ?_
  rintro e wq ⟨rfl, rfl⟩
  go_wp2_with fail
  refine (Ht.out _).mono ?_
  rintro e wq ⟨rfl, rfl⟩
  go_wp2_with fail
  refine (Hl.out _).mono ?_
  rintro e wq ⟨rfl, rfl⟩
  go_wp2
  go_ret
  exact ⟨rfl, (Below.refl _ _).alloc (Nat.le_refl _) _⟩

set_option maxRecDepth 100000 in
set_option maxHeartbeats 1600000 in
theorem right_k (kind conn seq ack win : Int) (marks body : ByteArray) (time late : Int) (w : World) (hk : ¬ (1 ≤ kind ∧ kind ≤ 5)) : Calls Try.prog 9 #[.agg #[.int .i64 kind, .int .i64 conn, .int .i64 seq, .int .i64 ack, .int .i64 win, .string marks, .string body, .int .i64 time, .int .i64 late]] w fun e w' => e = .returned (.bool false) ∧ Below w.heap.size w w' := by
  have Hk := Lib.hid (fun w => lwithinX kind 1 5 w hk)
  clear hk
  go_enter Try.func9, Try.ntmps9
  go_wp2_with fail
  refine (Hk.out _).mono ?_
  rintro e wq ⟨rfl, rfl⟩
  go_wp2
  go_ret
  exact ⟨rfl, (Below.refl _ _).alloc (Nat.le_refl _) _⟩

set_option maxRecDepth 100000 in
set_option maxHeartbeats 1600000 in
theorem right_c (kind conn seq ack win : Int) (marks body : ByteArray) (time late : Int) (w : World) (hk : 1 ≤ kind ∧ kind ≤ 5) (hc : ¬ (0 ≤ conn ∧ conn ≤ 65535)) : Calls Try.prog 9 #[.agg #[.int .i64 kind, .int .i64 conn, .int .i64 seq, .int .i64 ack, .int .i64 win, .string marks, .string body, .int .i64 time, .int .i64 late]] w fun e w' => e = .returned (.bool false) ∧ Below w.heap.size w w' := by
  have Hk := Lib.hid (fun w => lwithin_y kind 1 5 w hk.1 hk.2)
  clear hk
  have Hc := Lib.hid (fun w => lwithinX conn 0 65535 w hc)
  clear hc
  go_enter Try.func9, Try.ntmps9
  go_wp2_with fail
  refine (Hk.out _).mono ?_
  rintro e wq ⟨rfl, rfl⟩
  go_wp2_with fail
  refine (Hc.out _).mono ?_
  rintro e wq ⟨rfl, rfl⟩
  go_wp2
  go_ret
  exact ⟨rfl, (Below.refl _ _).alloc (Nat.le_refl _) _⟩

set_option maxRecDepth 100000 in
set_option maxHeartbeats 1600000 in
theorem right_s (kind conn seq ack win : Int) (marks body : ByteArray) (time late : Int) (w : World) (hk : 1 ≤ kind ∧ kind ≤ 5) (hc : 0 ≤ conn ∧ conn ≤ 65535) (hs : ¬ (0 ≤ seq ∧ seq ≤ 65535)) : Calls Try.prog 9 #[.agg #[.int .i64 kind, .int .i64 conn, .int .i64 seq, .int .i64 ack, .int .i64 win, .string marks, .string body, .int .i64 time, .int .i64 late]] w fun e w' => e = .returned (.bool false) ∧ Below w.heap.size w w' := by
  have Hk := Lib.hid (fun w => lwithin_y kind 1 5 w hk.1 hk.2)
  clear hk
  have Hc := Lib.hid (fun w => lwithin_y conn 0 65535 w hc.1 hc.2)
  clear hc
  have Hs := Lib.hid (fun w => lwithinX seq 0 65535 w hs)
  clear hs
  go_enter Try.func9, Try.ntmps9
  go_wp2_with fail
  refine (Hk.out _).mono ?_
  rintro e wq ⟨rfl, rfl⟩
  go_wp2_with fail
  refine (Hc.out _).mono ?_
  rintro e wq ⟨rfl, rfl⟩
  go_wp2_with fail
  refine (Hs.out _).mono ?_
  rintro e wq ⟨rfl, rfl⟩
  go_wp2
  go_ret
  exact ⟨rfl, (Below.refl _ _).alloc (Nat.le_refl _) _⟩

set_option maxRecDepth 100000 in
set_option maxHeartbeats 1600000 in
theorem right_a (kind conn seq ack win : Int) (marks body : ByteArray) (time late : Int) (w : World) (hk : 1 ≤ kind ∧ kind ≤ 5) (hc : 0 ≤ conn ∧ conn ≤ 65535) (hs : 0 ≤ seq ∧ seq ≤ 65535) (ha : ¬ (0 ≤ ack ∧ ack ≤ 65535)) : Calls Try.prog 9 #[.agg #[.int .i64 kind, .int .i64 conn, .int .i64 seq, .int .i64 ack, .int .i64 win, .string marks, .string body, .int .i64 time, .int .i64 late]] w fun e w' => e = .returned (.bool false) ∧ Below w.heap.size w w' := by
  have Hk := Lib.hid (fun w => lwithin_y kind 1 5 w hk.1 hk.2)
  clear hk
  have Hc := Lib.hid (fun w => lwithin_y conn 0 65535 w hc.1 hc.2)
  clear hc
  have Hs := Lib.hid (fun w => lwithin_y seq 0 65535 w hs.1 hs.2)
  clear hs
  have Ha := Lib.hid (fun w => lwithinX ack 0 65535 w ha)
  clear ha
  go_enter Try.func9, Try.ntmps9
  go_wp2_with fail
  refine (Hk.out _).mono ?_
  rintro e wq ⟨rfl, rfl⟩
  go_wp2_with fail
  refine (Hc.out _).mono ?_
  rintro e wq ⟨rfl, rfl⟩
  go_wp2_with fail
  refine (Hs.out _).mono ?_
  rintro e wq ⟨rfl, rfl⟩
  go_wp2_with fail
  refine (Ha.out _).mono ?_
  rintro e wq ⟨rfl, rfl⟩
  go_wp2
  go_ret
  exact ⟨rfl, (Below.refl _ _).alloc (Nat.le_refl _) _⟩

set_option maxRecDepth 100000 in
set_option maxHeartbeats 1600000 in
theorem right_w (kind conn seq ack win : Int) (marks body : ByteArray) (time late : Int) (w : World) (hk : 1 ≤ kind ∧ kind ≤ 5) (hc : 0 ≤ conn ∧ conn ≤ 65535) (hs : 0 ≤ seq ∧ seq ≤ 65535) (ha : 0 ≤ ack ∧ ack ≤ 65535) (hw : ¬ (0 ≤ win ∧ win ≤ 1000000)) : Calls Try.prog 9 #[.agg #[.int .i64 kind, .int .i64 conn, .int .i64 seq, .int .i64 ack, .int .i64 win, .string marks, .string body, .int .i64 time, .int .i64 late]] w fun e w' => e = .returned (.bool false) ∧ Below w.heap.size w w' := by
  have Hk := Lib.hid (fun w => lwithin_y kind 1 5 w hk.1 hk.2)
  clear hk
  have Hc := Lib.hid (fun w => lwithin_y conn 0 65535 w hc.1 hc.2)
  clear hc
  have Hs := Lib.hid (fun w => lwithin_y seq 0 65535 w hs.1 hs.2)
  clear hs
  have Ha := Lib.hid (fun w => lwithin_y ack 0 65535 w ha.1 ha.2)
  clear ha
  have Hw := Lib.hid (fun w => lwithinX win 0 1000000 w hw)
  clear hw
  go_enter Try.func9, Try.ntmps9
  go_wp2_with fail
  refine (Hk.out _).mono ?_
  rintro e wq ⟨rfl, rfl⟩
  go_wp2_with fail
  refine (Hc.out _).mono ?_
  rintro e wq ⟨rfl, rfl⟩
  go_wp2_with fail
  refine (Hs.out _).mono ?_
  rintro e wq ⟨rfl, rfl⟩
  go_wp2_with fail
  refine (Ha.out _).mono ?_
  rintro e wq ⟨rfl, rfl⟩
  go_wp2_with fail
  refine (Hw.out _).mono ?_
  rintro e wq ⟨rfl, rfl⟩
  go_wp2
  go_ret
  exact ⟨rfl, (Below.refl _ _).alloc (Nat.le_refl _) _⟩

set_option maxRecDepth 100000 in
set_option maxHeartbeats 1600000 in
theorem right_m (kind conn seq ack win : Int) (marks body : ByteArray) (time late : Int) (w : World) (hk : 1 ≤ kind ∧ kind ≤ 5) (hc : 0 ≤ conn ∧ conn ≤ 65535) (hs : 0 ≤ seq ∧ seq ≤ 65535) (ha : 0 ≤ ack ∧ ack ≤ 65535) (hw : 0 ≤ win ∧ win ≤ 1000000) (hm : ¬ ((marks.size : Int) ≤ 4)) : Calls Try.prog 9 #[.agg #[.int .i64 kind, .int .i64 conn, .int .i64 seq, .int .i64 ack, .int .i64 win, .string marks, .string body, .int .i64 time, .int .i64 late]] w fun e w' => e = .returned (.bool false) ∧ Below w.heap.size w w' := by
  have Hk := Lib.hid (fun w => lwithin_y kind 1 5 w hk.1 hk.2)
  clear hk
  have Hc := Lib.hid (fun w => lwithin_y conn 0 65535 w hc.1 hc.2)
  clear hc
  have Hs := Lib.hid (fun w => lwithin_y seq 0 65535 w hs.1 hs.2)
  clear hs
  have Ha := Lib.hid (fun w => lwithin_y ack 0 65535 w ha.1 ha.2)
  clear ha
  have Hw := Lib.hid (fun w => lwithin_y win 0 1000000 w hw.1 hw.2)
  clear hw
  have hmm : (4 : Int) < (marks.size : Int) := by omega
  clear hm
  go_enter Try.func9, Try.ntmps9
  go_wp2_with fail
  refine (Hk.out _).mono ?_
  rintro e wq ⟨rfl, rfl⟩
  go_wp2_with fail
  refine (Hc.out _).mono ?_
  rintro e wq ⟨rfl, rfl⟩
  go_wp2_with fail
  refine (Hs.out _).mono ?_
  rintro e wq ⟨rfl, rfl⟩
  go_wp2_with fail
  refine (Ha.out _).mono ?_
  rintro e wq ⟨rfl, rfl⟩
  go_wp2_with fail
  refine (Hw.out _).mono ?_
  rintro e wq ⟨rfl, rfl⟩
  go_wp2
  go_ret
  exact ⟨rfl, (Below.refl _ _).alloc (Nat.le_refl _) _⟩

set_option maxRecDepth 100000 in
set_option maxHeartbeats 1600000 in
theorem right_b (kind conn seq ack win : Int) (marks body : ByteArray) (time late : Int) (w : World) (hk : 1 ≤ kind ∧ kind ≤ 5) (hc : 0 ≤ conn ∧ conn ≤ 65535) (hs : 0 ≤ seq ∧ seq ≤ 65535) (ha : 0 ≤ ack ∧ ack ≤ 65535) (hw : 0 ≤ win ∧ win ≤ 1000000) (hm : (marks.size : Int) ≤ 4) (hb : ¬ ((body.size : Int) ≤ 1400)) : Calls Try.prog 9 #[.agg #[.int .i64 kind, .int .i64 conn, .int .i64 seq, .int .i64 ack, .int .i64 win, .string marks, .string body, .int .i64 time, .int .i64 late]] w fun e w' => e = .returned (.bool false) ∧ Below w.heap.size w w' := by
  have Hk := Lib.hid (fun w => lwithin_y kind 1 5 w hk.1 hk.2)
  clear hk
  have Hc := Lib.hid (fun w => lwithin_y conn 0 65535 w hc.1 hc.2)
  clear hc
  have Hs := Lib.hid (fun w => lwithin_y seq 0 65535 w hs.1 hs.2)
  clear hs
  have Ha := Lib.hid (fun w => lwithin_y ack 0 65535 w ha.1 ha.2)
  clear ha
  have Hw := Lib.hid (fun w => lwithin_y win 0 1000000 w hw.1 hw.2)
  clear hw
  have hmb : (1400 : Int) < (body.size : Int) := by omega
  clear hb
  go_enter Try.func9, Try.ntmps9
  go_wp2_with fail
  refine (Hk.out _).mono ?_
  rintro e wq ⟨rfl, rfl⟩
  go_wp2_with fail
  refine (Hc.out _).mono ?_
  rintro e wq ⟨rfl, rfl⟩
  go_wp2_with fail
  refine (Hs.out _).mono ?_
  rintro e wq ⟨rfl, rfl⟩
  go_wp2_with fail
  refine (Ha.out _).mono ?_
  rintro e wq ⟨rfl, rfl⟩
  go_wp2_with fail
  refine (Hw.out _).mono ?_
  rintro e wq ⟨rfl, rfl⟩
  go_wp2
  go_ret
  exact ⟨rfl, (Below.refl _ _).alloc (Nat.le_refl _) _⟩

set_option maxRecDepth 100000 in
set_option maxHeartbeats 1600000 in
theorem right_e (kind conn seq ack win : Int) (marks body : ByteArray) (time late : Int) (w : World) (hk : 1 ≤ kind ∧ kind ≤ 5) (hc : 0 ≤ conn ∧ conn ≤ 65535) (hs : 0 ≤ seq ∧ seq ≤ 65535) (ha : 0 ≤ ack ∧ ack ≤ 65535) (hw : 0 ≤ win ∧ win ≤ 1000000) (hm : (marks.size : Int) ≤ 4) (hb : (body.size : Int) ≤ 1400) (he : (!body.toList.isEmpty) ≠ (kind == 2)) : Calls Try.prog 9 #[.agg #[.int .i64 kind, .int .i64 conn, .int .i64 seq, .int .i64 ack, .int .i64 win, .string marks, .string body, .int .i64 time, .int .i64 late]] w fun e w' => e = .returned (.bool false) ∧ Below w.heap.size w w' := by
  have Hk := Lib.hid (fun w => lwithin_y kind 1 5 w hk.1 hk.2)
  clear hk
  have Hc := Lib.hid (fun w => lwithin_y conn 0 65535 w hc.1 hc.2)
  clear hc
  have Hs := Lib.hid (fun w => lwithin_y seq 0 65535 w hs.1 hs.2)
  clear hs
  have Ha := Lib.hid (fun w => lwithin_y ack 0 65535 w ha.1 ha.2)
  clear ha
  have Hw := Lib.hid (fun w => lwithin_y win 0 1000000 w hw.1 hw.2)
  clear hw
  have he2 : ((!body.toList.isEmpty) == (kind == 2)) = false := by rw [beq_eq_false_iff_ne]; exact he
  have he3 : ((kind == 2) == (!body.toList.isEmpty)) = false := by rw [beq_eq_false_iff_ne]; exact fun q => he q.symm
  clear he
  go_enter Try.func9, Try.ntmps9
  go_wp2_with fail
  refine (Hk.out _).mono ?_
  rintro e wq ⟨rfl, rfl⟩
  go_wp2_with fail
  refine (Hc.out _).mono ?_
  rintro e wq ⟨rfl, rfl⟩
  go_wp2_with fail
  refine (Hs.out _).mono ?_
  rintro e wq ⟨rfl, rfl⟩
  go_wp2_with fail
  refine (Ha.out _).mono ?_
  rintro e wq ⟨rfl, rfl⟩
  go_wp2_with fail
  refine (Hw.out _).mono ?_
  rintro e wq ⟨rfl, rfl⟩
  go_wp2
  go_ret
  exact ⟨rfl, (Below.refl _ _).alloc (Nat.le_refl _) _⟩

set_option maxRecDepth 100000 in
set_option maxHeartbeats 1600000 in
theorem right_t (kind conn seq ack win : Int) (marks body : ByteArray) (time late : Int) (w : World) (hk : 1 ≤ kind ∧ kind ≤ 5) (hc : 0 ≤ conn ∧ conn ≤ 65535) (hs : 0 ≤ seq ∧ seq ≤ 65535) (ha : 0 ≤ ack ∧ ack ≤ 65535) (hw : 0 ≤ win ∧ win ≤ 1000000) (hm : (marks.size : Int) ≤ 4) (hb : (body.size : Int) ≤ 1400) (he : (!body.toList.isEmpty) = (kind == 2)) (ht : ¬ (0 ≤ time ∧ time ≤ 4294967295)) : Calls Try.prog 9 #[.agg #[.int .i64 kind, .int .i64 conn, .int .i64 seq, .int .i64 ack, .int .i64 win, .string marks, .string body, .int .i64 time, .int .i64 late]] w fun e w' => e = .returned (.bool false) ∧ Below w.heap.size w w' := by
  have Hk := Lib.hid (fun w => lwithin_y kind 1 5 w hk.1 hk.2)
  clear hk
  have Hc := Lib.hid (fun w => lwithin_y conn 0 65535 w hc.1 hc.2)
  clear hc
  have Hs := Lib.hid (fun w => lwithin_y seq 0 65535 w hs.1 hs.2)
  clear hs
  have Ha := Lib.hid (fun w => lwithin_y ack 0 65535 w ha.1 ha.2)
  clear ha
  have Hw := Lib.hid (fun w => lwithin_y win 0 1000000 w hw.1 hw.2)
  clear hw
  have he2 : ((!body.toList.isEmpty) == (kind == 2)) = true := by rw [beq_iff_eq]; exact he
  have he3 : ((kind == 2) == (!body.toList.isEmpty)) = true := by rw [beq_iff_eq]; exact he.symm
  clear he
  have Ht := Lib.hid (fun w => lwithinX time 0 4294967295 w ht)
  clear ht
  go_enter Try.func9, Try.ntmps9
  go_wp2_with fail
  refine (Hk.out _).mono ?_
  rintro e wq ⟨rfl, rfl⟩
  go_wp2_with fail
  refine (Hc.out _).mono ?_
  rintro e wq ⟨rfl, rfl⟩
  go_wp2_with fail
  refine (Hs.out _).mono ?_
  rintro e wq ⟨rfl, rfl⟩
  go_wp2_with fail
  refine (Ha.out _).mono ?_
  rintro e wq ⟨rfl, rfl⟩
  go_wp2_with fail
  refine (Hw.out _).mono ?_
  rintro e wq ⟨rfl, rfl⟩
  go_wp2_with fail
  refine (Ht.out _).mono ?_
  rintro e wq ⟨rfl, rfl⟩
  go_wp2
  go_ret
  exact ⟨rfl, (Below.refl _ _).alloc (Nat.le_refl _) _⟩

set_option maxRecDepth 100000 in
set_option maxHeartbeats 1600000 in
theorem right_l (kind conn seq ack win : Int) (marks body : ByteArray) (time late : Int) (w : World) (hk : 1 ≤ kind ∧ kind ≤ 5) (hc : 0 ≤ conn ∧ conn ≤ 65535) (hs : 0 ≤ seq ∧ seq ≤ 65535) (ha : 0 ≤ ack ∧ ack ≤ 65535) (hw : 0 ≤ win ∧ win ≤ 1000000) (hm : (marks.size : Int) ≤ 4) (hb : (body.size : Int) ≤ 1400) (he : (!body.toList.isEmpty) = (kind == 2)) (ht : 0 ≤ time ∧ time ≤ 4294967295) (hl : ¬ (0 ≤ late ∧ late ≤ 4294967295)) : Calls Try.prog 9 #[.agg #[.int .i64 kind, .int .i64 conn, .int .i64 seq, .int .i64 ack, .int .i64 win, .string marks, .string body, .int .i64 time, .int .i64 late]] w fun e w' => e = .returned (.bool false) ∧ Below w.heap.size w w' := by
  have Hk := Lib.hid (fun w => lwithin_y kind 1 5 w hk.1 hk.2)
  clear hk
  have Hc := Lib.hid (fun w => lwithin_y conn 0 65535 w hc.1 hc.2)
  clear hc
  have Hs := Lib.hid (fun w => lwithin_y seq 0 65535 w hs.1 hs.2)
  clear hs
  have Ha := Lib.hid (fun w => lwithin_y ack 0 65535 w ha.1 ha.2)
  clear ha
  have Hw := Lib.hid (fun w => lwithin_y win 0 1000000 w hw.1 hw.2)
  clear hw
  have he2 : ((!body.toList.isEmpty) == (kind == 2)) = true := by rw [beq_iff_eq]; exact he
  have he3 : ((kind == 2) == (!body.toList.isEmpty)) = true := by rw [beq_iff_eq]; exact he.symm
  clear he
  have Ht := Lib.hid (fun w => lwithin_y time 0 4294967295 w ht.1 ht.2)
  clear ht
  have Hl := Lib.hid (fun w => lwithinX late 0 4294967295 w hl)
  clear hl
  go_enter Try.func9, Try.ntmps9
  go_wp2_with fail
  refine (Hk.out _).mono ?_
  rintro e wq ⟨rfl, rfl⟩
  go_wp2_with fail
  refine (Hc.out _).mono ?_
  rintro e wq ⟨rfl, rfl⟩
  go_wp2_with fail
  refine (Hs.out _).mono ?_
  rintro e wq ⟨rfl, rfl⟩
  go_wp2_with fail
  refine (Ha.out _).mono ?_
  rintro e wq ⟨rfl, rfl⟩
  go_wp2_with fail
  refine (Hw.out _).mono ?_
  rintro e wq ⟨rfl, rfl⟩
  go_wp2_with fail
  refine (Ht.out _).mono ?_
  rintro e wq ⟨rfl, rfl⟩
  go_wp2_with fail
  refine (Hl.out _).mono ?_
  rintro e wq ⟨rfl, rfl⟩
  go_wp2
  go_ret
  exact ⟨rfl, (Below.refl _ _).alloc (Nat.le_refl _) _⟩

set_option maxRecDepth 100000 in
set_option maxHeartbeats 1600000 in
theorem right_yes (kind conn seq ack win : Int) (marks body : ByteArray) (time late : Int) (w : World) (hk : 1 ≤ kind ∧ kind ≤ 5) (hc : 0 ≤ conn ∧ conn ≤ 65535) (hs : 0 ≤ seq ∧ seq ≤ 65535) (ha : 0 ≤ ack ∧ ack ≤ 65535) (hw : 0 ≤ win ∧ win ≤ 1000000) (hm : (marks.size : Int) ≤ 4) (hb : (body.size : Int) ≤ 1400) (he : (!body.toList.isEmpty) = (kind == 2)) (ht : 0 ≤ time ∧ time ≤ 4294967295) (hl : 0 ≤ late ∧ late ≤ 4294967295) : Calls Try.prog 9 #[.agg #[.int .i64 kind, .int .i64 conn, .int .i64 seq, .int .i64 ack, .int .i64 win, .string marks, .string body, .int .i64 time, .int .i64 late]] w fun e w' => e = .returned (.bool true) ∧ Below w.heap.size w w' := by
  have Hk := Lib.hid (fun w => lwithin_y kind 1 5 w hk.1 hk.2)
  clear hk
  have Hc := Lib.hid (fun w => lwithin_y conn 0 65535 w hc.1 hc.2)
  clear hc
  have Hs := Lib.hid (fun w => lwithin_y seq 0 65535 w hs.1 hs.2)
  clear hs
  have Ha := Lib.hid (fun w => lwithin_y ack 0 65535 w ha.1 ha.2)
  clear ha
  have Hw := Lib.hid (fun w => lwithin_y win 0 1000000 w hw.1 hw.2)
  clear hw
  have he2 : ((!body.toList.isEmpty) == (kind == 2)) = true := by rw [beq_iff_eq]; exact he
  have he3 : ((kind == 2) == (!body.toList.isEmpty)) = true := by rw [beq_iff_eq]; exact he.symm
  clear he
  have Ht := Lib.hid (fun w => lwithin_y time 0 4294967295 w ht.1 ht.2)
  clear ht
  have Hl := Lib.hid (fun w => lwithin_y late 0 4294967295 w hl.1 hl.2)
  clear hl
  go_enter Try.func9, Try.ntmps9
  go_wp2_with fail
  refine (Hk.out _).mono ?_
  rintro e wq ⟨rfl, rfl⟩
  go_wp2_with fail
  refine (Hc.out _).mono ?_
  rintro e wq ⟨rfl, rfl⟩
  go_wp2_with fail
  refine (Hs.out _).mono ?_
  rintro e wq ⟨rfl, rfl⟩
  go_wp2_with fail
  refine (Ha.out _).mono ?_
  rintro e wq ⟨rfl, rfl⟩
  go_wp2_with fail
  refine (Hw.out _).mono ?_
  rintro e wq ⟨rfl, rfl⟩
  go_wp2_with fail
  refine (Ht.out _).mono ?_
  rintro e wq ⟨rfl, rfl⟩
  go_wp2_with fail
  refine (Hl.out _).mono ?_
  rintro e wq ⟨rfl, rfl⟩
  go_wp2
  go_ret
  exact ⟨rfl, (Below.refl _ _).alloc (Nat.le_refl _) _⟩

/-- one first thing that is wrong, in either order -/
theorem Valid_no (kind conn seq ack win : Int) (marks body : ByteArray) (time late : Int) (h : ¬ Seg.ok ⟨kind, conn, seq, ack, win, marks, body, time, late⟩) (w : World) : Calls Try.prog 8 #[.agg #[.int .i64 kind, .int .i64 conn, .int .i64 seq, .int .i64 ack, .int .i64 win, .string marks, .string body, .int .i64 time, .int .i64 late]] w fun e w' => e = .returned (.bool false) ∧ Below w.heap.size w w' := by
  by_cases hk : 1 ≤ kind ∧ kind ≤ 5
  rotate_left
  · exact Valid_k kind conn seq ack win marks body time late w hk
  by_cases hc : 0 ≤ conn ∧ conn ≤ 65535
  rotate_left
  · exact Valid_c kind conn seq ack win marks body time late w hk hc
  by_cases hs : 0 ≤ seq ∧ seq ≤ 65535
  rotate_left
  · exact Valid_s kind conn seq ack win marks body time late w hk hc hs
  by_cases ha : 0 ≤ ack ∧ ack ≤ 65535
  rotate_left
  · exact Valid_a kind conn seq ack win marks body time late w hk hc hs ha
  by_cases hw : 0 ≤ win ∧ win ≤ 1000000
  rotate_left
  · exact Valid_w kind conn seq ack win marks body time late w hk hc hs ha hw
  by_cases ht : 0 ≤ time ∧ time ≤ 4294967295
  rotate_left
  · exact Valid_t kind conn seq ack win marks body time late w hk hc hs ha hw ht
  by_cases hl : 0 ≤ late ∧ late ≤ 4294967295
  rotate_left
  · exact Valid_l kind conn seq ack win marks body time late w hk hc hs ha hw ht hl
  by_cases hm : (marks.size : Int) ≤ 4
  rotate_left
  · exact Valid_m kind conn seq ack win marks body time late w hk hc hs ha hw ht hl hm
  by_cases hb : (body.size : Int) ≤ 1400
  rotate_left
  · exact Valid_b kind conn seq ack win marks body time late w hk hc hs ha hw ht hl hm hb
  by_cases he : (!body.toList.isEmpty) = (kind == 2)
  rotate_left
  · exact Valid_e kind conn seq ack win marks body time late w hk hc hs ha hw ht hl hm hb he
  exact absurd (⟨hk.1, hk.2, hc.1, hc.2, hs.1, hs.2, ha.1, ha.2, hw.1, hw.2, ht.1, ht.2, hl.1, hl.2, by show marks.size ≤ 4; omega, by show body.size ≤ 1400; omega, he⟩ : Seg.ok ⟨kind, conn, seq, ack, win, marks, body, time, late⟩) h
theorem right_no (kind conn seq ack win : Int) (marks body : ByteArray) (time late : Int) (h : ¬ Seg.ok ⟨kind, conn, seq, ack, win, marks, body, time, late⟩) (w : World) : Calls Try.prog 9 #[.agg #[.int .i64 kind, .int .i64 conn, .int .i64 seq, .int .i64 ack, .int .i64 win, .string marks, .string body, .int .i64 time, .int .i64 late]] w fun e w' => e = .returned (.bool false) ∧ Below w.heap.size w w' := by
  by_cases hk : 1 ≤ kind ∧ kind ≤ 5
  rotate_left
  · exact right_k kind conn seq ack win marks body time late w hk
  by_cases hc : 0 ≤ conn ∧ conn ≤ 65535
  rotate_left
  · exact right_c kind conn seq ack win marks body time late w hk hc
  by_cases hs : 0 ≤ seq ∧ seq ≤ 65535
  rotate_left
  · exact right_s kind conn seq ack win marks body time late w hk hc hs
  by_cases ha : 0 ≤ ack ∧ ack ≤ 65535
  rotate_left
  · exact right_a kind conn seq ack win marks body time late w hk hc hs ha
  by_cases hw : 0 ≤ win ∧ win ≤ 1000000
  rotate_left
  · exact right_w kind conn seq ack win marks body time late w hk hc hs ha hw
  by_cases hm : (marks.size : Int) ≤ 4
  rotate_left
  · exact right_m kind conn seq ack win marks body time late w hk hc hs ha hw hm
  by_cases hb : (body.size : Int) ≤ 1400
  rotate_left
  · exact right_b kind conn seq ack win marks body time late w hk hc hs ha hw hm hb
  by_cases he : (!body.toList.isEmpty) = (kind == 2)
  rotate_left
  · exact right_e kind conn seq ack win marks body time late w hk hc hs ha hw hm hb he
  by_cases ht : 0 ≤ time ∧ time ≤ 4294967295
  rotate_left
  · exact right_t kind conn seq ack win marks body time late w hk hc hs ha hw hm hb he ht
  by_cases hl : 0 ≤ late ∧ late ≤ 4294967295
  rotate_left
  · exact right_l kind conn seq ack win marks body time late w hk hc hs ha hw hm hb he ht hl
  exact absurd (⟨hk.1, hk.2, hc.1, hc.2, hs.1, hs.2, ha.1, ha.2, hw.1, hw.2, ht.1, ht.2, hl.1, hl.2, by show marks.size ≤ 4; omega, by show body.size ≤ 1400; omega, he⟩ : Seg.ok ⟨kind, conn, seq, ack, win, marks, body, time, late⟩) h
theorem right_ok (kind conn seq ack win : Int) (marks body : ByteArray) (time late : Int) (h : Seg.ok ⟨kind, conn, seq, ack, win, marks, body, time, late⟩) (w : World) : Calls Try.prog 9 #[.agg #[.int .i64 kind, .int .i64 conn, .int .i64 seq, .int .i64 ack, .int .i64 win, .string marks, .string body, .int .i64 time, .int .i64 late]] w fun e w' => e = .returned (.bool true) ∧ Below w.heap.size w w' :=
  right_yes kind conn seq ack win marks body time late w ⟨h.k1, h.k2⟩ ⟨h.c1, h.c2⟩ ⟨h.s1, h.s2⟩ ⟨h.a1, h.a2⟩ ⟨h.w1, h.w2⟩ (by have := h.m; simp only at this; omega) (by have := h.b; simp only at this; omega) h.bk ⟨h.t1, h.t2⟩ ⟨h.l1, h.l2⟩
end Go.Proofs.Ytdkfniijoamaoac.Ga
