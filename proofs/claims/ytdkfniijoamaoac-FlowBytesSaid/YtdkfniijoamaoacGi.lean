/-
  decode: the digest is right.
-/
import Derived.Test.YtdkfniijoamaoacGh
namespace Go.Proofs.Ytdkfniijoamaoac.Ga
open Go Go.RowKit Go.Proofs.Ytdkfniijoamaoac.Hz Go.Proofs.Ytdkfniijoamaoac.Ob

theorem dec_cell {w w2 : World} {cs : Array Value} {t : TypeId} {n : Nat} (hb : Below ((w.alloc (.cells cs t)).drewN n).heap.size ((w.alloc (.cells cs t)).drewN n) w2) (i : Nat) (v : Value) (h : cs[i]? = some v) : w2.cell? ⟨w.heap.size, i, none⟩ = some v :=
  kcell hb (show (w.alloc (.cells cs t)).cell? ⟨w.heap.size, i, none⟩ = some v by rw [cell_of_row _ _ _ _ _ _ (heap_alloc_new w _)]; exact h)
theorem dec_free {w w2 : World} {cs : Array Value} {t : TypeId} {n : Nat} (hb : Below ((w.alloc (.cells cs t)).drewN n).heap.size ((w.alloc (.cells cs t)).drewN n) w2) (i : Nat) : w2.frozen? ⟨w.heap.size, i, none⟩ = false :=
  (hb.frozen (p := ⟨w.heap.size, i, none⟩) (show w.heap.size < (w.alloc (.cells cs t)).heap.size by simp)).trans (show (w.alloc (.cells cs t)).frozen? ⟨w.heap.size, i, none⟩ = false by simp [go_sem])
theorem set9 {B p : Nat} {w w2 : World} {v0 v1 v2 v3 v4 v5 v6 v7 v8 : Value} (h : B ≤ p) (hb : Below B w w2) :
    Below B w (((((((((w2.setCell ⟨p, 0, none⟩ v0).setCell ⟨p, 1, none⟩ v1).setCell ⟨p, 2, none⟩ v2).setCell ⟨p, 3, none⟩ v3).setCell ⟨p, 4, none⟩ v4).setCell ⟨p, 5, none⟩ v5).setCell ⟨p, 6, none⟩ v6).setCell ⟨p, 7, none⟩ v7).setCell ⟨p, 8, none⟩ v8) :=
  ((((((((hb.setCell h _).setCell h _).setCell h _).setCell h _).setCell h _).setCell h _).setCell h _).setCell h _).setCell h _
theorem ext_sz (s : ByteArray) (m : Nat) : (s.extract (24 + m) s.size).toList.length = s.size - (24 + m) := by
  rw [ByteArray.toList_eq, Array.length_toList]
  show (s.extract (24 + m) s.size).size = _
  rw [ByteArray.size_extract]; omega
theorem ext_ne (s : ByteArray) (m : Nat) (h : 24 + m < s.size) : ¬ (s.extract (24 + m) s.size).toList = [] := by
  intro e
  have := ext_sz s m
  rw [e] at this
  simp at this
  omega
theorem ext_eq (s : ByteArray) (m : Nat) (h : s.size ≤ 24 + m) : (s.extract (24 + m) s.size).toList = [] := by
  apply List.eq_nil_of_length_eq_zero
  rw [ext_sz]; omega
theorem DecR.ret {s : ByteArray} {w w' : World} {m k r0 r1 r2 r3 r4 r5 : Nat} (e0 : rd s 6 2 = r0) (e1 : rd s 8 2 = r1) (e2 : rd s 10 2 = r2) (e3 : rd s 12 4 = r3) (e4 : rd s 16 4 = r4) (e5 : rd s 20 4 = r5)
    (hk : by_ s 4 = k) (hm : by_ s 5 = m) (h4 : m ≤ 4) (h24 : 24 + m ≤ s.size) (k1 : 1 ≤ k) (k5 : k ≤ 5) (hw : r5 ≤ 1000000) (hb : s.size ≤ 1424 + m) (bk : 24 + m < s.size ↔ k = 2) (hd : dgOk s) (hbl : Below w.heap.size w w') :
    DecR s w (.returned (.agg #[.int .i64 k, .int .i64 r0, .int .i64 r1, .int .i64 r2, .int .i64 r5, .string (s.extract 24 (24 + m)), .string (s.extract (24 + m) s.size), .int .i64 r3, .int .i64 r4])) w' := by
  subst e0 e1 e2 e3 e4 e5 hk
  have l2 := fun p => rd_lt s p 2
  have l4 := fun p => rd_lt s p 4
  have q2 : (256 : Nat) ^ 2 = 65536 := by decide
  have q4 : (256 : Nat) ^ 4 = 4294967296 := by decide
  rw [q2] at l2
  rw [q4] at l4
  refine ⟨.inr ⟨m, rfl, ⟨?_, ?_, ?_, ?_, ?_, ?_, ?_, ?_, ?_, ?_, ?_, ?_, ?_, ?_, ?_, ?_, ?_⟩, h24, hm, hd⟩, hbl⟩
  all_goals simp only [pk]
  · omega
  · omega
  · omega
  · have := l2 6; omega
  · omega
  · have := l2 8; omega
  · omega
  · have := l2 10; omega
  · omega
  · omega
  · omega
  · have := l4 12; omega
  · omega
  · have := l4 16; omega
  · rw [ByteArray.size_extract]; omega
  · rw [ByteArray.size_extract]; omega
  · rw [Bool.eq_iff_iff]
    have hz := ext_sz s m
    simp only [Bool.not_eq_true', List.isEmpty_eq_false_iff, beq_iff_eq]
    constructor
    · intro h
      by_cases hlt : 24 + m < s.size
      · have := bk.1 hlt; omega
      · exact absurd (ext_eq s m (by omega)) h
    · intro h
      exact ext_ne s m (bk.2 (by omega))

set_option maxRecDepth 100000 in
set_option maxHeartbeats 1600000 in
theorem decode_y1 (s : ByteArray) (w : World) (h : (24 : Int) ≤ (s.size : Int)) (hz : s.size ≤ 100000) (H1 : by_ s 4 = 2) (H2 : by_ s 5 ≤ 4) (hf : 24 + (by_ s 5 : Int) < (s.size : Int)) (hw : (rd s 20 4 : Int) ≤ 1000000) (hb : (s.size : Int) - (24 + (by_ s 5 : Int)) ≤ 1400) (hd : dgOk s) :
    Calls Try.prog 29 #[.string s] w (DecR s w) := by
  have HN := Lib.hid need_no
  have HY := Lib.hid need_yes
  have h4 : (4 : Int) ≤ (s.size : Int) := by omega
  have hsx : (s.extract 4 s.size).size ≤ maxLen := by unfold maxLen; simp; omega
  have hq1 := fun w => Hh.Sum_any (s.extract 4 s.size) w hsx
  have hq2 : (Dg.sum (s.extract 4 s.size).data.toList).size = 32 := Dg.sum_size _
  have hq3 : dgOk s ↔ ((Dg.sum (s.extract 4 s.size).data.toList).extract 0 4).toList = (s.extract 0 4).toList := by
    unfold dgOk
    exact ⟨fun h => by rw [h], fun h => by rwa [ByteArray.toList_eq, ByteArray.toList_eq, Array.toList_inj, ← ByteArray.ext_iff] at h⟩
  obtain ⟨SM, hSM⟩ : ∃ z, Dg.sum (s.extract 4 s.size).data.toList = z := ⟨_, rfl⟩
  rw [hSM] at hq2 hq3
  simp only [hSM] at hq1
  have HS := Lib.hid hq1
  have HQ := Lib.hid hq3
  clear hsx hq1 hq3 hSM
  have hr0 := fun w => read_any s 6 2 w (by omega) (by omega) (by omega)
  obtain ⟨r0, he0⟩ : ∃ r, rd s 6 2 = r := ⟨_, rfl⟩
  simp only [he0] at hr0
  have R0 := Lib.hid hr0
  have E0 := Lib.hid he0
  have hr1 := fun w => read_any s 8 2 w (by omega) (by omega) (by omega)
  obtain ⟨r1, he1⟩ : ∃ r, rd s 8 2 = r := ⟨_, rfl⟩
  simp only [he1] at hr1
  have R1 := Lib.hid hr1
  have E1 := Lib.hid he1
  have hr2 := fun w => read_any s 10 2 w (by omega) (by omega) (by omega)
  obtain ⟨r2, he2⟩ : ∃ r, rd s 10 2 = r := ⟨_, rfl⟩
  simp only [he2] at hr2
  have R2 := Lib.hid hr2
  have E2 := Lib.hid he2
  have hr3 := fun w => read_any s 12 4 w (by omega) (by omega) (by omega)
  obtain ⟨r3, he3⟩ : ∃ r, rd s 12 4 = r := ⟨_, rfl⟩
  simp only [he3] at hr3
  have R3 := Lib.hid hr3
  have E3 := Lib.hid he3
  have hr4 := fun w => read_any s 16 4 w (by omega) (by omega) (by omega)
  obtain ⟨r4, he4⟩ : ∃ r, rd s 16 4 = r := ⟨_, rfl⟩
  simp only [he4] at hr4
  have R4 := Lib.hid hr4
  have E4 := Lib.hid he4
  have hr5 := fun w => read_any s 20 4 w (by omega) (by omega) (by omega)
  obtain ⟨r5, he5⟩ : ∃ r, rd s 20 4 = r := ⟨_, rfl⟩
  simp only [he5] at hr5
  have R5 := Lib.hid hr5
  have E5 := Lib.hid he5
  rw [E5.out] at hw
  clear hr0 he0 hr1 he1 hr2 he2 hr3 he3 hr4 he4 hr5 he5
  have y4 := by_at s 4 (by omega)
  have y5 := by_at s 5 (by omega)
  have b4 := by_lt s 4
  have b5 := by_lt s 5
  obtain ⟨k, hk⟩ : ∃ k, by_ s 4 = k := ⟨_, rfl⟩
  obtain ⟨m, hm'⟩ : ∃ m, by_ s 5 = m := ⟨_, rfl⟩
  rw [hk] at y4 b4 H1
  rw [hm'] at y5 b5 H2
  have HK := Lib.hid hk
  have HM := Lib.hid hm'
  clear hk hm'
  have HH := Lib.hid H1
  clear H1
  have hd1 : ((SM.extract 0 4).toList == (s.extract 0 4).toList) = true := by rw [beq_iff_eq]; exact HQ.out.1 hd
  have HD := Lib.hid hd
  clear hd
  go_enter Try.func29, Try.ntmps29
  go_wp2_with fail
  refine (HY.out _ _).mono ?_
  rintro e w1 ⟨rfl, rfl⟩
  go_wp2_with fail
  go_quiet (fail)
  rw [HM.out] at hf hb
  obtain rfl : k = 2 := HH.out
  have hm4 : m ≤ 4 := H2
  go_wp2_with fail
  refine (HY.out _ _).mono ?_
  rintro e w1 ⟨rfl, rfl⟩
  go_wp2_with fail
  go_region_with (first | (go_at_call 22; refine (HS.out _).mono ?_; rintro e w2 ⟨rfl, hb2⟩) | (go_at_call 41; refine (HY.out _ _).mono ?_; rintro e w3 ⟨rfl, rfl⟩))
  all_goals
    go_wp2_with fail
    refine (within_y _ _ _ _ (by omega) (by omega)).mono ?_
    rintro e w3 ⟨rfl, rfl⟩
    go_wp2_with fail
    refine (HY.out _ _).mono ?_
    rintro e w3 ⟨rfl, rfl⟩
    go_wp2_with fail
    rw [show decide ((m : Int) ≤ 4) = true from decide_eq_true (by omega)]
    refine (HY.out _ _).mono ?_
    rintro e w3 ⟨rfl, rfl⟩
    go_wp2_with fail
    refine (R0.out _).mono ?_
    rintro e w3 ⟨rfl, rfl⟩
    go_wp2_with fail
    refine (R1.out _).mono ?_
    rintro e w3 ⟨rfl, rfl⟩
    go_wp2_with fail
    refine (R2.out _).mono ?_
    rintro e w3 ⟨rfl, rfl⟩
    go_wp2_with fail
    refine (R3.out _).mono ?_
    rintro e w3 ⟨rfl, rfl⟩
    go_wp2_with fail
    refine (R4.out _).mono ?_
    rintro e w3 ⟨rfl, rfl⟩
    go_wp2_with fail
    refine (R5.out _).mono ?_
    rintro e w3 ⟨rfl, rfl⟩
    go_wp2_with fail
    refine (HY.out _ _).mono ?_
    rintro e w3 ⟨rfl, rfl⟩
    go_wp2_with fail
    have hbe := ext_ne s m (by omega)
    go_region
    all_goals
      go_wp2_with fail
      refine (HY.out _ _).mono ?_
      rintro e w3 ⟨rfl, rfl⟩
      go_wp2_with fail
      rw [show decide (((s.size - (24 + m) : Nat) : Int) ≤ 1400) = true from decide_eq_true (by omega)]
      refine (HY.out _ _).mono ?_
      rintro e w3 ⟨rfl, rfl⟩
      have c0 := dec_cell hb2 0 _ rfl
      have f0 := dec_free hb2 0
      have c1 := dec_cell hb2 1 _ rfl
      have f1 := dec_free hb2 1
      have c2 := dec_cell hb2 2 _ rfl
      have f2 := dec_free hb2 2
      have c3 := dec_cell hb2 3 _ rfl
      have f3 := dec_free hb2 3
      have c4 := dec_cell hb2 4 _ rfl
      have f4 := dec_free hb2 4
      have c5 := dec_cell hb2 5 _ rfl
      have f5 := dec_free hb2 5
      have c6 := dec_cell hb2 6 _ rfl
      have f6 := dec_free hb2 6
      have c7 := dec_cell hb2 7 _ rfl
      have f7 := dec_free hb2 7
      have c8 := dec_cell hb2 8 _ rfl
      have f8 := dec_free hb2 8
      have hlt2 : w.heap.size < w2.heap.size := Nat.lt_of_lt_of_le (by show w.heap.size < (w.alloc _).heap.size; simp) hb2.size
      go_wp2
      refine bodyPost_ret (v := .agg #[.int .i64 2, .int .i64 r0, .int .i64 r1, .int .i64 r2, .int .i64 r5, .string (s.extract 24 (24 + m)), .string (s.extract (24 + m) s.size), .int .i64 r3, .int .i64 r4]) (by simp [results, Try.results29, go_sem, c0, c1, c2, c3, c4, c5, c6, c7, c8, hlt2]) rfl (DecR.ret (k := 2) E0.out E1.out E2.out E3.out E4.out E5.out HK.out HM.out hm4 (by omega) (by omega) (by omega) (by omega) (by omega) (by omega) HD.out ?_)
      exact blw_drewN ((set9 (Nat.le_refl _) (dec_below hb2)).alloc (by simp; omega) _) 1

set_option maxRecDepth 100000 in
set_option maxHeartbeats 1600000 in
theorem decode_y1w (s : ByteArray) (w : World) (h : (24 : Int) ≤ (s.size : Int)) (hz : s.size ≤ 100000) (H1 : by_ s 4 = 2) (H2 : by_ s 5 ≤ 4) (hf : 24 + (by_ s 5 : Int) < (s.size : Int)) (hw : 1000000 < (rd s 20 4 : Int)) (hd : dgOk s) :
    Calls Try.prog 29 #[.string s] w (DecR s w) := by
  have HG := Lib.hid (show ¬ Good s by rintro ⟨g1, g2, g3, g4, g5, g6, g7, g8, g9⟩; first | omega | exact absurd g9 hd | (have := g7 (by omega); omega) | (have := g8 (by omega); omega))
  have HN := Lib.hid need_no
  have HY := Lib.hid need_yes
  have h4 : (4 : Int) ≤ (s.size : Int) := by omega
  have hsx : (s.extract 4 s.size).size ≤ maxLen := by unfold maxLen; simp; omega
  have hq1 := fun w => Hh.Sum_any (s.extract 4 s.size) w hsx
  have hq2 : (Dg.sum (s.extract 4 s.size).data.toList).size = 32 := Dg.sum_size _
  have hq3 : dgOk s ↔ ((Dg.sum (s.extract 4 s.size).data.toList).extract 0 4).toList = (s.extract 0 4).toList := by
    unfold dgOk
    exact ⟨fun h => by rw [h], fun h => by rwa [ByteArray.toList_eq, ByteArray.toList_eq, Array.toList_inj, ← ByteArray.ext_iff] at h⟩
  obtain ⟨SM, hSM⟩ : ∃ z, Dg.sum (s.extract 4 s.size).data.toList = z := ⟨_, rfl⟩
  rw [hSM] at hq2 hq3
  simp only [hSM] at hq1
  have HS := Lib.hid hq1
  have HQ := Lib.hid hq3
  clear hsx hq1 hq3 hSM
  have hr0 := fun w => read_any s 6 2 w (by omega) (by omega) (by omega)
  obtain ⟨r0, he0⟩ : ∃ r, rd s 6 2 = r := ⟨_, rfl⟩
  simp only [he0] at hr0
  have R0 := Lib.hid hr0
  have E0 := Lib.hid he0
  have hr1 := fun w => read_any s 8 2 w (by omega) (by omega) (by omega)
  obtain ⟨r1, he1⟩ : ∃ r, rd s 8 2 = r := ⟨_, rfl⟩
  simp only [he1] at hr1
  have R1 := Lib.hid hr1
  have E1 := Lib.hid he1
  have hr2 := fun w => read_any s 10 2 w (by omega) (by omega) (by omega)
  obtain ⟨r2, he2⟩ : ∃ r, rd s 10 2 = r := ⟨_, rfl⟩
  simp only [he2] at hr2
  have R2 := Lib.hid hr2
  have E2 := Lib.hid he2
  have hr3 := fun w => read_any s 12 4 w (by omega) (by omega) (by omega)
  obtain ⟨r3, he3⟩ : ∃ r, rd s 12 4 = r := ⟨_, rfl⟩
  simp only [he3] at hr3
  have R3 := Lib.hid hr3
  have E3 := Lib.hid he3
  have hr4 := fun w => read_any s 16 4 w (by omega) (by omega) (by omega)
  obtain ⟨r4, he4⟩ : ∃ r, rd s 16 4 = r := ⟨_, rfl⟩
  simp only [he4] at hr4
  have R4 := Lib.hid hr4
  have E4 := Lib.hid he4
  have hr5 := fun w => read_any s 20 4 w (by omega) (by omega) (by omega)
  obtain ⟨r5, he5⟩ : ∃ r, rd s 20 4 = r := ⟨_, rfl⟩
  simp only [he5] at hr5
  have R5 := Lib.hid hr5
  have E5 := Lib.hid he5
  rw [E5.out] at hw
  clear hr0 he0 hr1 he1 hr2 he2 hr3 he3 hr4 he4 hr5 he5
  have y4 := by_at s 4 (by omega)
  have y5 := by_at s 5 (by omega)
  have b4 := by_lt s 4
  have b5 := by_lt s 5
  obtain ⟨k, hk⟩ : ∃ k, by_ s 4 = k := ⟨_, rfl⟩
  obtain ⟨m, hm'⟩ : ∃ m, by_ s 5 = m := ⟨_, rfl⟩
  rw [hk] at y4 b4 H1
  rw [hm'] at y5 b5 H2
  have HK := Lib.hid hk
  have HM := Lib.hid hm'
  clear hk hm'
  have HH := Lib.hid H1
  clear H1
  have hd1 : ((SM.extract 0 4).toList == (s.extract 0 4).toList) = true := by rw [beq_iff_eq]; exact HQ.out.1 hd
  have HD := Lib.hid hd
  clear hd
  go_enter Try.func29, Try.ntmps29
  go_wp2_with fail
  refine (HY.out _ _).mono ?_
  rintro e w1 ⟨rfl, rfl⟩
  go_wp2_with fail
  go_quiet (fail)
  rw [HM.out] at hf
  obtain rfl : k = 2 := HH.out
  have hm4 : m ≤ 4 := H2
  go_wp2_with fail
  refine (HY.out _ _).mono ?_
  rintro e w1 ⟨rfl, rfl⟩
  go_wp2_with fail
  go_region_with (first | (go_at_call 22; refine (HS.out _).mono ?_; rintro e w2 ⟨rfl, hb2⟩) | (go_at_call 41; refine (HY.out _ _).mono ?_; rintro e w3 ⟨rfl, rfl⟩))
  all_goals
    go_wp2_with fail
    refine (within_y _ _ _ _ (by omega) (by omega)).mono ?_
    rintro e w3 ⟨rfl, rfl⟩
    go_wp2_with fail
    refine (HY.out _ _).mono ?_
    rintro e w3 ⟨rfl, rfl⟩
    go_wp2_with fail
    rw [show decide ((m : Int) ≤ 4) = true from decide_eq_true (by omega)]
    refine (HY.out _ _).mono ?_
    rintro e w3 ⟨rfl, rfl⟩
    go_wp2_with fail
    refine (R0.out _).mono ?_
    rintro e w3 ⟨rfl, rfl⟩
    go_wp2_with fail
    refine (R1.out _).mono ?_
    rintro e w3 ⟨rfl, rfl⟩
    go_wp2_with fail
    refine (R2.out _).mono ?_
    rintro e w3 ⟨rfl, rfl⟩
    go_wp2_with fail
    refine (R3.out _).mono ?_
    rintro e w3 ⟨rfl, rfl⟩
    go_wp2_with fail
    refine (R4.out _).mono ?_
    rintro e w3 ⟨rfl, rfl⟩
    go_wp2_with fail
    refine (R5.out _).mono ?_
    rintro e w3 ⟨rfl, rfl⟩
    go_wp2_with fail
    rw [show decide ((r5 : Int) ≤ 1000000) = false from decide_eq_false (by omega)]
    refine (HN.out _ _).mono ?_
    rintro e w3 ⟨rfl, rfl⟩
    simp only [bodyPost]
    exact ⟨trivial, DecR.stop (stop_at (by omega) (by omega) HD.out HG.out) ((dec_below hb2).alloc (Nat.le_trans (by show w.heap.size ≤ (w.alloc _).heap.size; simp) hb2.size) _)⟩

set_option maxRecDepth 100000 in
set_option maxHeartbeats 1600000 in
theorem decode_y1b (s : ByteArray) (w : World) (h : (24 : Int) ≤ (s.size : Int)) (hz : s.size ≤ 100000) (H1 : by_ s 4 = 2) (H2 : by_ s 5 ≤ 4) (hf : 24 + (by_ s 5 : Int) < (s.size : Int)) (hw : (rd s 20 4 : Int) ≤ 1000000) (hb : 1400 < (s.size : Int) - (24 + (by_ s 5 : Int))) (hd : dgOk s) :
    Calls Try.prog 29 #[.string s] w (DecR s w) := by
  have HG := Lib.hid (show ¬ Good s by rintro ⟨g1, g2, g3, g4, g5, g6, g7, g8, g9⟩; first | omega | exact absurd g9 hd | (have := g7 (by omega); omega) | (have := g8 (by omega); omega))
  have HN := Lib.hid need_no
  have HY := Lib.hid need_yes
  have h4 : (4 : Int) ≤ (s.size : Int) := by omega
  have hsx : (s.extract 4 s.size).size ≤ maxLen := by unfold maxLen; simp; omega
  have hq1 := fun w => Hh.Sum_any (s.extract 4 s.size) w hsx
  have hq2 : (Dg.sum (s.extract 4 s.size).data.toList).size = 32 := Dg.sum_size _
  have hq3 : dgOk s ↔ ((Dg.sum (s.extract 4 s.size).data.toList).extract 0 4).toList = (s.extract 0 4).toList := by
    unfold dgOk
    exact ⟨fun h => by rw [h], fun h => by rwa [ByteArray.toList_eq, ByteArray.toList_eq, Array.toList_inj, ← ByteArray.ext_iff] at h⟩
  obtain ⟨SM, hSM⟩ : ∃ z, Dg.sum (s.extract 4 s.size).data.toList = z := ⟨_, rfl⟩
  rw [hSM] at hq2 hq3
  simp only [hSM] at hq1
  have HS := Lib.hid hq1
  have HQ := Lib.hid hq3
  clear hsx hq1 hq3 hSM
  have hr0 := fun w => read_any s 6 2 w (by omega) (by omega) (by omega)
  obtain ⟨r0, he0⟩ : ∃ r, rd s 6 2 = r := ⟨_, rfl⟩
  simp only [he0] at hr0
  have R0 := Lib.hid hr0
  have E0 := Lib.hid he0
  have hr1 := fun w => read_any s 8 2 w (by omega) (by omega) (by omega)
  obtain ⟨r1, he1⟩ : ∃ r, rd s 8 2 = r := ⟨_, rfl⟩
  simp only [he1] at hr1
  have R1 := Lib.hid hr1
  have E1 := Lib.hid he1
  have hr2 := fun w => read_any s 10 2 w (by omega) (by omega) (by omega)
  obtain ⟨r2, he2⟩ : ∃ r, rd s 10 2 = r := ⟨_, rfl⟩
  simp only [he2] at hr2
  have R2 := Lib.hid hr2
  have E2 := Lib.hid he2
  have hr3 := fun w => read_any s 12 4 w (by omega) (by omega) (by omega)
  obtain ⟨r3, he3⟩ : ∃ r, rd s 12 4 = r := ⟨_, rfl⟩
  simp only [he3] at hr3
  have R3 := Lib.hid hr3
  have E3 := Lib.hid he3
  have hr4 := fun w => read_any s 16 4 w (by omega) (by omega) (by omega)
  obtain ⟨r4, he4⟩ : ∃ r, rd s 16 4 = r := ⟨_, rfl⟩
  simp only [he4] at hr4
  have R4 := Lib.hid hr4
  have E4 := Lib.hid he4
  have hr5 := fun w => read_any s 20 4 w (by omega) (by omega) (by omega)
  obtain ⟨r5, he5⟩ : ∃ r, rd s 20 4 = r := ⟨_, rfl⟩
  simp only [he5] at hr5
  have R5 := Lib.hid hr5
  have E5 := Lib.hid he5
  rw [E5.out] at hw
  clear hr0 he0 hr1 he1 hr2 he2 hr3 he3 hr4 he4 hr5 he5
  have y4 := by_at s 4 (by omega)
  have y5 := by_at s 5 (by omega)
  have b4 := by_lt s 4
  have b5 := by_lt s 5
  obtain ⟨k, hk⟩ : ∃ k, by_ s 4 = k := ⟨_, rfl⟩
  obtain ⟨m, hm'⟩ : ∃ m, by_ s 5 = m := ⟨_, rfl⟩
  rw [hk] at y4 b4 H1
  rw [hm'] at y5 b5 H2
  have HK := Lib.hid hk
  have HM := Lib.hid hm'
  clear hk hm'
  have HH := Lib.hid H1
  clear H1
  have hd1 : ((SM.extract 0 4).toList == (s.extract 0 4).toList) = true := by rw [beq_iff_eq]; exact HQ.out.1 hd
  have HD := Lib.hid hd
  clear hd
  go_enter Try.func29, Try.ntmps29
  go_wp2_with fail
  refine (HY.out _ _).mono ?_
  rintro e w1 ⟨rfl, rfl⟩
  go_wp2_with fail
  go_quiet (fail)
  rw [HM.out] at hf hb
  obtain rfl : k = 2 := HH.out
  have hm4 : m ≤ 4 := H2
  go_wp2_with fail
  refine (HY.out _ _).mono ?_
  rintro e w1 ⟨rfl, rfl⟩
  go_wp2_with fail
  go_region_with (first | (go_at_call 22; refine (HS.out _).mono ?_; rintro e w2 ⟨rfl, hb2⟩) | (go_at_call 41; refine (HY.out _ _).mono ?_; rintro e w3 ⟨rfl, rfl⟩))
  all_goals
    go_wp2_with fail
    refine (within_y _ _ _ _ (by omega) (by omega)).mono ?_
    rintro e w3 ⟨rfl, rfl⟩
    go_wp2_with fail
    refine (HY.out _ _).mono ?_
    rintro e w3 ⟨rfl, rfl⟩
    go_wp2_with fail
    rw [show decide ((m : Int) ≤ 4) = true from decide_eq_true (by omega)]
    refine (HY.out _ _).mono ?_
    rintro e w3 ⟨rfl, rfl⟩
    go_wp2_with fail
    refine (R0.out _).mono ?_
    rintro e w3 ⟨rfl, rfl⟩
    go_wp2_with fail
    refine (R1.out _).mono ?_
    rintro e w3 ⟨rfl, rfl⟩
    go_wp2_with fail
    refine (R2.out _).mono ?_
    rintro e w3 ⟨rfl, rfl⟩
    go_wp2_with fail
    refine (R3.out _).mono ?_
    rintro e w3 ⟨rfl, rfl⟩
    go_wp2_with fail
    refine (R4.out _).mono ?_
    rintro e w3 ⟨rfl, rfl⟩
    go_wp2_with fail
    refine (R5.out _).mono ?_
    rintro e w3 ⟨rfl, rfl⟩
    go_wp2_with fail
    refine (HY.out _ _).mono ?_
    rintro e w3 ⟨rfl, rfl⟩
    go_wp2_with fail
    have hbe := ext_ne s m (by omega)
    go_region
    all_goals
      go_wp2_with fail
      refine (HY.out _ _).mono ?_
      rintro e w3 ⟨rfl, rfl⟩
      go_wp2_with fail
      rw [show decide (((s.size - (24 + m) : Nat) : Int) ≤ 1400) = false from decide_eq_false (by omega)]
      refine (HN.out _ _).mono ?_
      rintro e w3 ⟨rfl, rfl⟩
      simp only [bodyPost]
      exact ⟨trivial, DecR.stop (stop_at (by omega) (by omega) HD.out HG.out) (blw_drewN ((dec_below hb2).alloc (Nat.le_trans (by show w.heap.size ≤ (w.alloc _).heap.size; simp) hb2.size) _) 1)⟩

set_option maxRecDepth 100000 in
set_option maxHeartbeats 1600000 in
theorem decode_y2 (s : ByteArray) (w : World) (h : (24 : Int) ≤ (s.size : Int)) (hz : s.size ≤ 100000) (H1 : by_ s 4 ≠ 2) (H2 : by_ s 5 ≤ 4) (hf : 24 + (by_ s 5 : Int) ≤ (s.size : Int)) (hg : (s.size : Int) ≤ 24 + (by_ s 5 : Int)) (Hk1 : 1 ≤ by_ s 4) (Hk2 : by_ s 4 ≤ 5) (hw : (rd s 20 4 : Int) ≤ 1000000) (hd : dgOk s) :
    Calls Try.prog 29 #[.string s] w (DecR s w) := by
  have HN := Lib.hid need_no
  have HY := Lib.hid need_yes
  have h4 : (4 : Int) ≤ (s.size : Int) := by omega
  have hsx : (s.extract 4 s.size).size ≤ maxLen := by unfold maxLen; simp; omega
  have hq1 := fun w => Hh.Sum_any (s.extract 4 s.size) w hsx
  have hq2 : (Dg.sum (s.extract 4 s.size).data.toList).size = 32 := Dg.sum_size _
  have hq3 : dgOk s ↔ ((Dg.sum (s.extract 4 s.size).data.toList).extract 0 4).toList = (s.extract 0 4).toList := by
    unfold dgOk
    exact ⟨fun h => by rw [h], fun h => by rwa [ByteArray.toList_eq, ByteArray.toList_eq, Array.toList_inj, ← ByteArray.ext_iff] at h⟩
  obtain ⟨SM, hSM⟩ : ∃ z, Dg.sum (s.extract 4 s.size).data.toList = z := ⟨_, rfl⟩
  rw [hSM] at hq2 hq3
  simp only [hSM] at hq1
  have HS := Lib.hid hq1
  have HQ := Lib.hid hq3
  clear hsx hq1 hq3 hSM
  have hr0 := fun w => read_any s 6 2 w (by omega) (by omega) (by omega)
  obtain ⟨r0, he0⟩ : ∃ r, rd s 6 2 = r := ⟨_, rfl⟩
  simp only [he0] at hr0
  have R0 := Lib.hid hr0
  have E0 := Lib.hid he0
  have hr1 := fun w => read_any s 8 2 w (by omega) (by omega) (by omega)
  obtain ⟨r1, he1⟩ : ∃ r, rd s 8 2 = r := ⟨_, rfl⟩
  simp only [he1] at hr1
  have R1 := Lib.hid hr1
  have E1 := Lib.hid he1
  have hr2 := fun w => read_any s 10 2 w (by omega) (by omega) (by omega)
  obtain ⟨r2, he2⟩ : ∃ r, rd s 10 2 = r := ⟨_, rfl⟩
  simp only [he2] at hr2
  have R2 := Lib.hid hr2
  have E2 := Lib.hid he2
  have hr3 := fun w => read_any s 12 4 w (by omega) (by omega) (by omega)
  obtain ⟨r3, he3⟩ : ∃ r, rd s 12 4 = r := ⟨_, rfl⟩
  simp only [he3] at hr3
  have R3 := Lib.hid hr3
  have E3 := Lib.hid he3
  have hr4 := fun w => read_any s 16 4 w (by omega) (by omega) (by omega)
  obtain ⟨r4, he4⟩ : ∃ r, rd s 16 4 = r := ⟨_, rfl⟩
  simp only [he4] at hr4
  have R4 := Lib.hid hr4
  have E4 := Lib.hid he4
  have hr5 := fun w => read_any s 20 4 w (by omega) (by omega) (by omega)
  obtain ⟨r5, he5⟩ : ∃ r, rd s 20 4 = r := ⟨_, rfl⟩
  simp only [he5] at hr5
  have R5 := Lib.hid hr5
  have E5 := Lib.hid he5
  rw [E5.out] at hw
  clear hr0 he0 hr1 he1 hr2 he2 hr3 he3 hr4 he4 hr5 he5
  have y4 := by_at s 4 (by omega)
  have y5 := by_at s 5 (by omega)
  have b4 := by_lt s 4
  have b5 := by_lt s 5
  obtain ⟨k, hk⟩ : ∃ k, by_ s 4 = k := ⟨_, rfl⟩
  obtain ⟨m, hm'⟩ : ∃ m, by_ s 5 = m := ⟨_, rfl⟩
  rw [hk] at y4 b4 H1
  rw [hm'] at y5 b5 H2
  have HK := Lib.hid hk
  have HM := Lib.hid hm'
  clear hk hm'
  have HH := Lib.hid H1
  clear H1
  have hd1 : ((SM.extract 0 4).toList == (s.extract 0 4).toList) = true := by rw [beq_iff_eq]; exact HQ.out.1 hd
  have HD := Lib.hid hd
  clear hd
  go_enter Try.func29, Try.ntmps29
  go_wp2_with fail
  refine (HY.out _ _).mono ?_
  rintro e w1 ⟨rfl, rfl⟩
  go_wp2_with fail
  go_quiet (fail)
  rw [HM.out] at hf hg
  rw [HK.out] at Hk1 Hk2
  have hk3 : ¬ ((k : Int) = 2) := by have := HH.out; omega
  have hm4 : m ≤ 4 := H2
  go_wp2_with fail
  refine (HY.out _ _).mono ?_
  rintro e w1 ⟨rfl, rfl⟩
  go_wp2_with fail
  go_region_with (first | (go_at_call 22; refine (HS.out _).mono ?_; rintro e w2 ⟨rfl, hb2⟩) | (go_at_call 41; refine (HY.out _ _).mono ?_; rintro e w3 ⟨rfl, rfl⟩))
  all_goals
    go_wp2_with fail
    refine (within_y _ _ _ _ (by omega) (by omega)).mono ?_
    rintro e w3 ⟨rfl, rfl⟩
    go_wp2_with fail
    refine (HY.out _ _).mono ?_
    rintro e w3 ⟨rfl, rfl⟩
    go_wp2_with fail
    rw [show decide ((m : Int) ≤ 4) = true from decide_eq_true (by omega)]
    refine (HY.out _ _).mono ?_
    rintro e w3 ⟨rfl, rfl⟩
    go_wp2_with fail
    refine (R0.out _).mono ?_
    rintro e w3 ⟨rfl, rfl⟩
    go_wp2_with fail
    refine (R1.out _).mono ?_
    rintro e w3 ⟨rfl, rfl⟩
    go_wp2_with fail
    refine (R2.out _).mono ?_
    rintro e w3 ⟨rfl, rfl⟩
    go_wp2_with fail
    refine (R3.out _).mono ?_
    rintro e w3 ⟨rfl, rfl⟩
    go_wp2_with fail
    refine (R4.out _).mono ?_
    rintro e w3 ⟨rfl, rfl⟩
    go_wp2_with fail
    refine (R5.out _).mono ?_
    rintro e w3 ⟨rfl, rfl⟩
    go_wp2_with fail
    refine (HY.out _ _).mono ?_
    rintro e w3 ⟨rfl, rfl⟩
    go_wp2_with fail
    have hbe := ext_eq s m (by omega)
    go_region
    all_goals
      go_wp2_with fail
      refine (HY.out _ _).mono ?_
      rintro e w3 ⟨rfl, rfl⟩
      go_wp2_with fail
      rw [show decide (((s.size - (24 + m) : Nat) : Int) ≤ 1400) = true from decide_eq_true (by omega)]
      refine (HY.out _ _).mono ?_
      rintro e w3 ⟨rfl, rfl⟩
      have c0 := dec_cell hb2 0 _ rfl
      have f0 := dec_free hb2 0
      have c1 := dec_cell hb2 1 _ rfl
      have f1 := dec_free hb2 1
      have c2 := dec_cell hb2 2 _ rfl
      have f2 := dec_free hb2 2
      have c3 := dec_cell hb2 3 _ rfl
      have f3 := dec_free hb2 3
      have c4 := dec_cell hb2 4 _ rfl
      have f4 := dec_free hb2 4
      have c5 := dec_cell hb2 5 _ rfl
      have f5 := dec_free hb2 5
      have c6 := dec_cell hb2 6 _ rfl
      have f6 := dec_free hb2 6
      have c7 := dec_cell hb2 7 _ rfl
      have f7 := dec_free hb2 7
      have c8 := dec_cell hb2 8 _ rfl
      have f8 := dec_free hb2 8
      have hlt2 : w.heap.size < w2.heap.size := Nat.lt_of_lt_of_le (by show w.heap.size < (w.alloc _).heap.size; simp) hb2.size
      go_wp2
      refine bodyPost_ret (v := .agg #[.int .i64 k, .int .i64 r0, .int .i64 r1, .int .i64 r2, .int .i64 r5, .string (s.extract 24 (24 + m)), .string (s.extract (24 + m) s.size), .int .i64 r3, .int .i64 r4]) (by simp [results, Try.results29, go_sem, c0, c1, c2, c3, c4, c5, c6, c7, c8, hlt2]) rfl (DecR.ret (k := k) E0.out E1.out E2.out E3.out E4.out E5.out HK.out HM.out hm4 (by omega) (by omega) (by omega) (by omega) (by omega) (by omega) HD.out ?_)
      exact blw_drewN ((set9 (Nat.le_refl _) (dec_below hb2)).alloc (by simp; omega) _) 1

set_option maxRecDepth 100000 in
set_option maxHeartbeats 1600000 in
theorem decode_y2w (s : ByteArray) (w : World) (h : (24 : Int) ≤ (s.size : Int)) (hz : s.size ≤ 100000) (H1 : by_ s 4 ≠ 2) (H2 : by_ s 5 ≤ 4) (hf : 24 + (by_ s 5 : Int) ≤ (s.size : Int)) (Hk1 : 1 ≤ by_ s 4) (Hk2 : by_ s 4 ≤ 5) (hw : 1000000 < (rd s 20 4 : Int)) (hd : dgOk s) :
    Calls Try.prog 29 #[.string s] w (DecR s w) := by
  have HG := Lib.hid (show ¬ Good s by rintro ⟨g1, g2, g3, g4, g5, g6, g7, g8, g9⟩; first | omega | exact absurd g9 hd | (have := g7 (by omega); omega) | (have := g8 (by omega); omega))
  have HN := Lib.hid need_no
  have HY := Lib.hid need_yes
  have h4 : (4 : Int) ≤ (s.size : Int) := by omega
  have hsx : (s.extract 4 s.size).size ≤ maxLen := by unfold maxLen; simp; omega
  have hq1 := fun w => Hh.Sum_any (s.extract 4 s.size) w hsx
  have hq2 : (Dg.sum (s.extract 4 s.size).data.toList).size = 32 := Dg.sum_size _
  have hq3 : dgOk s ↔ ((Dg.sum (s.extract 4 s.size).data.toList).extract 0 4).toList = (s.extract 0 4).toList := by
    unfold dgOk
    exact ⟨fun h => by rw [h], fun h => by rwa [ByteArray.toList_eq, ByteArray.toList_eq, Array.toList_inj, ← ByteArray.ext_iff] at h⟩
  obtain ⟨SM, hSM⟩ : ∃ z, Dg.sum (s.extract 4 s.size).data.toList = z := ⟨_, rfl⟩
  rw [hSM] at hq2 hq3
  simp only [hSM] at hq1
  have HS := Lib.hid hq1
  have HQ := Lib.hid hq3
  clear hsx hq1 hq3 hSM
  have hr0 := fun w => read_any s 6 2 w (by omega) (by omega) (by omega)
  obtain ⟨r0, he0⟩ : ∃ r, rd s 6 2 = r := ⟨_, rfl⟩
  simp only [he0] at hr0
  have R0 := Lib.hid hr0
  have E0 := Lib.hid he0
  have hr1 := fun w => read_any s 8 2 w (by omega) (by omega) (by omega)
  obtain ⟨r1, he1⟩ : ∃ r, rd s 8 2 = r := ⟨_, rfl⟩
  simp only [he1] at hr1
  have R1 := Lib.hid hr1
  have E1 := Lib.hid he1
  have hr2 := fun w => read_any s 10 2 w (by omega) (by omega) (by omega)
  obtain ⟨r2, he2⟩ : ∃ r, rd s 10 2 = r := ⟨_, rfl⟩
  simp only [he2] at hr2
  have R2 := Lib.hid hr2
  have E2 := Lib.hid he2
  have hr3 := fun w => read_any s 12 4 w (by omega) (by omega) (by omega)
  obtain ⟨r3, he3⟩ : ∃ r, rd s 12 4 = r := ⟨_, rfl⟩
  simp only [he3] at hr3
  have R3 := Lib.hid hr3
  have E3 := Lib.hid he3
  have hr4 := fun w => read_any s 16 4 w (by omega) (by omega) (by omega)
  obtain ⟨r4, he4⟩ : ∃ r, rd s 16 4 = r := ⟨_, rfl⟩
  simp only [he4] at hr4
  have R4 := Lib.hid hr4
  have E4 := Lib.hid he4
  have hr5 := fun w => read_any s 20 4 w (by omega) (by omega) (by omega)
  obtain ⟨r5, he5⟩ : ∃ r, rd s 20 4 = r := ⟨_, rfl⟩
  simp only [he5] at hr5
  have R5 := Lib.hid hr5
  have E5 := Lib.hid he5
  rw [E5.out] at hw
  clear hr0 he0 hr1 he1 hr2 he2 hr3 he3 hr4 he4 hr5 he5
  have y4 := by_at s 4 (by omega)
  have y5 := by_at s 5 (by omega)
  have b4 := by_lt s 4
  have b5 := by_lt s 5
  obtain ⟨k, hk⟩ : ∃ k, by_ s 4 = k := ⟨_, rfl⟩
  obtain ⟨m, hm'⟩ : ∃ m, by_ s 5 = m := ⟨_, rfl⟩
  rw [hk] at y4 b4 H1
  rw [hm'] at y5 b5 H2
  have HK := Lib.hid hk
  have HM := Lib.hid hm'
  clear hk hm'
  have HH := Lib.hid H1
  clear H1
  have hd1 : ((SM.extract 0 4).toList == (s.extract 0 4).toList) = true := by rw [beq_iff_eq]; exact HQ.out.1 hd
  have HD := Lib.hid hd
  clear hd
  go_enter Try.func29, Try.ntmps29
  go_wp2_with fail
  refine (HY.out _ _).mono ?_
  rintro e w1 ⟨rfl, rfl⟩
  go_wp2_with fail
  go_quiet (fail)
  rw [HM.out] at hf
  rw [HK.out] at Hk1 Hk2
  have hk3 : ¬ ((k : Int) = 2) := by have := HH.out; omega
  have hm4 : m ≤ 4 := H2
  go_wp2_with fail
  refine (HY.out _ _).mono ?_
  rintro e w1 ⟨rfl, rfl⟩
  go_wp2_with fail
  go_region_with (first | (go_at_call 22; refine (HS.out _).mono ?_; rintro e w2 ⟨rfl, hb2⟩) | (go_at_call 41; refine (HY.out _ _).mono ?_; rintro e w3 ⟨rfl, rfl⟩))
  all_goals
    go_wp2_with fail
    refine (within_y _ _ _ _ (by omega) (by omega)).mono ?_
    rintro e w3 ⟨rfl, rfl⟩
    go_wp2_with fail
    refine (HY.out _ _).mono ?_
    rintro e w3 ⟨rfl, rfl⟩
    go_wp2_with fail
    rw [show decide ((m : Int) ≤ 4) = true from decide_eq_true (by omega)]
    refine (HY.out _ _).mono ?_
    rintro e w3 ⟨rfl, rfl⟩
    go_wp2_with fail
    refine (R0.out _).mono ?_
    rintro e w3 ⟨rfl, rfl⟩
    go_wp2_with fail
    refine (R1.out _).mono ?_
    rintro e w3 ⟨rfl, rfl⟩
    go_wp2_with fail
    refine (R2.out _).mono ?_
    rintro e w3 ⟨rfl, rfl⟩
    go_wp2_with fail
    refine (R3.out _).mono ?_
    rintro e w3 ⟨rfl, rfl⟩
    go_wp2_with fail
    refine (R4.out _).mono ?_
    rintro e w3 ⟨rfl, rfl⟩
    go_wp2_with fail
    refine (R5.out _).mono ?_
    rintro e w3 ⟨rfl, rfl⟩
    go_wp2_with fail
    rw [show decide ((r5 : Int) ≤ 1000000) = false from decide_eq_false (by omega)]
    refine (HN.out _ _).mono ?_
    rintro e w3 ⟨rfl, rfl⟩
    simp only [bodyPost]
    exact ⟨trivial, DecR.stop (stop_at (by omega) (by omega) HD.out HG.out) ((dec_below hb2).alloc (Nat.le_trans (by show w.heap.size ≤ (w.alloc _).heap.size; simp) hb2.size) _)⟩

set_option maxRecDepth 100000 in
set_option maxHeartbeats 1600000 in
theorem decode_k (s : ByteArray) (w : World) (h : (24 : Int) ≤ (s.size : Int)) (hz : s.size ≤ 100000) (H1 : by_ s 4 ≠ 2) (H2 : by_ s 5 ≤ 4) (hf : 24 + (by_ s 5 : Int) ≤ (s.size : Int)) (Hk : by_ s 4 < 1 ∨ 5 < by_ s 4) (hd : dgOk s) :
    Calls Try.prog 29 #[.string s] w (DecR s w) := by
  have HG := Lib.hid (show ¬ Good s by rintro ⟨g1, g2, g3, g4, g5, g6, g7, g8, g9⟩; first | omega | exact absurd g9 hd | (have := g7 (by omega); omega) | (have := g8 (by omega); omega))
  have HN := Lib.hid need_no
  have HY := Lib.hid need_yes
  have h4 : (4 : Int) ≤ (s.size : Int) := by omega
  have hsx : (s.extract 4 s.size).size ≤ maxLen := by unfold maxLen; simp; omega
  have hq1 := fun w => Hh.Sum_any (s.extract 4 s.size) w hsx
  have hq2 : (Dg.sum (s.extract 4 s.size).data.toList).size = 32 := Dg.sum_size _
  have hq3 : dgOk s ↔ ((Dg.sum (s.extract 4 s.size).data.toList).extract 0 4).toList = (s.extract 0 4).toList := by
    unfold dgOk
    exact ⟨fun h => by rw [h], fun h => by rwa [ByteArray.toList_eq, ByteArray.toList_eq, Array.toList_inj, ← ByteArray.ext_iff] at h⟩
  obtain ⟨SM, hSM⟩ : ∃ z, Dg.sum (s.extract 4 s.size).data.toList = z := ⟨_, rfl⟩
  rw [hSM] at hq2 hq3
  simp only [hSM] at hq1
  have HS := Lib.hid hq1
  have HQ := Lib.hid hq3
  clear hsx hq1 hq3 hSM
  have y4 := by_at s 4 (by omega)
  have y5 := by_at s 5 (by omega)
  have b4 := by_lt s 4
  have b5 := by_lt s 5
  obtain ⟨k, hk⟩ : ∃ k, by_ s 4 = k := ⟨_, rfl⟩
  obtain ⟨m, hm'⟩ : ∃ m, by_ s 5 = m := ⟨_, rfl⟩
  rw [hk] at y4 b4 H1
  rw [hm'] at y5 b5 H2
  have HK := Lib.hid hk
  have HM := Lib.hid hm'
  clear hk hm'
  have HH := Lib.hid H1
  clear H1
  have hd1 : ((SM.extract 0 4).toList == (s.extract 0 4).toList) = true := by rw [beq_iff_eq]; exact HQ.out.1 hd
  have HD := Lib.hid hd
  clear hd
  go_enter Try.func29, Try.ntmps29
  go_wp2_with fail
  refine (HY.out _ _).mono ?_
  rintro e w1 ⟨rfl, rfl⟩
  go_wp2_with fail
  go_quiet (fail)
  rw [HM.out] at hf
  rw [HK.out] at Hk
  have hk3 : ¬ ((k : Int) = 2) := by have := HH.out; omega
  have hm4 : m ≤ 4 := H2
  go_wp2_with fail
  refine (HY.out _ _).mono ?_
  rintro e w1 ⟨rfl, rfl⟩
  go_wp2_with fail
  go_region_with (first | (go_at_call 22; refine (HS.out _).mono ?_; rintro e w2 ⟨rfl, hb2⟩) | (go_at_call 41; refine (HY.out _ _).mono ?_; rintro e w3 ⟨rfl, rfl⟩))
  all_goals
    go_wp2_with fail
    refine (within_n _ _ _ _ (by omega)).mono ?_
    rintro e w3 ⟨rfl, rfl⟩
    go_wp2_with fail
    refine (HN.out _ _).mono ?_
    rintro e w3 ⟨rfl, rfl⟩
    simp only [bodyPost]
    exact ⟨trivial, DecR.stop (stop_at (by omega) (by omega) HD.out HG.out) (dec_below hb2)⟩

set_option maxRecDepth 100000 in
set_option maxHeartbeats 1600000 in
theorem decode_kf (s : ByteArray) (w : World) (h : (24 : Int) ≤ (s.size : Int)) (hz : s.size ≤ 100000) (H1 : by_ s 4 ≠ 2) (H2 : 4 < by_ s 5) (hf : 28 ≤ (s.size : Int)) (Hk : by_ s 4 < 1 ∨ 5 < by_ s 4) (hd : dgOk s) :
    Calls Try.prog 29 #[.string s] w (DecR s w) := by
  have HG := Lib.hid (show ¬ Good s by rintro ⟨g1, g2, g3, g4, g5, g6, g7, g8, g9⟩; first | omega | exact absurd g9 hd | (have := g7 (by omega); omega) | (have := g8 (by omega); omega))
  have HN := Lib.hid need_no
  have HY := Lib.hid need_yes
  have h4 : (4 : Int) ≤ (s.size : Int) := by omega
  have hsx : (s.extract 4 s.size).size ≤ maxLen := by unfold maxLen; simp; omega
  have hq1 := fun w => Hh.Sum_any (s.extract 4 s.size) w hsx
  have hq2 : (Dg.sum (s.extract 4 s.size).data.toList).size = 32 := Dg.sum_size _
  have hq3 : dgOk s ↔ ((Dg.sum (s.extract 4 s.size).data.toList).extract 0 4).toList = (s.extract 0 4).toList := by
    unfold dgOk
    exact ⟨fun h => by rw [h], fun h => by rwa [ByteArray.toList_eq, ByteArray.toList_eq, Array.toList_inj, ← ByteArray.ext_iff] at h⟩
  obtain ⟨SM, hSM⟩ : ∃ z, Dg.sum (s.extract 4 s.size).data.toList = z := ⟨_, rfl⟩
  rw [hSM] at hq2 hq3
  simp only [hSM] at hq1
  have HS := Lib.hid hq1
  have HQ := Lib.hid hq3
  clear hsx hq1 hq3 hSM
  have y4 := by_at s 4 (by omega)
  have y5 := by_at s 5 (by omega)
  have b4 := by_lt s 4
  have b5 := by_lt s 5
  obtain ⟨k, hk⟩ : ∃ k, by_ s 4 = k := ⟨_, rfl⟩
  obtain ⟨m, hm'⟩ : ∃ m, by_ s 5 = m := ⟨_, rfl⟩
  rw [hk] at y4 b4 H1
  rw [hm'] at y5 b5 H2
  have HK := Lib.hid hk
  have HM := Lib.hid hm'
  clear hk hm'
  have HH := Lib.hid H1
  clear H1
  have hd1 : ((SM.extract 0 4).toList == (s.extract 0 4).toList) = true := by rw [beq_iff_eq]; exact HQ.out.1 hd
  have HD := Lib.hid hd
  clear hd
  go_enter Try.func29, Try.ntmps29
  go_wp2_with fail
  refine (HY.out _ _).mono ?_
  rintro e w1 ⟨rfl, rfl⟩
  go_wp2_with fail
  go_quiet (fail)
  rw [HK.out] at Hk
  have hk3 : ¬ ((k : Int) = 2) := by have := HH.out; omega
  have hm4 : (4 : Int) < (m : Int) := by omega
  go_wp2_with fail
  refine (HY.out _ _).mono ?_
  rintro e w1 ⟨rfl, rfl⟩
  go_wp2_with fail
  go_region_with (first | (go_at_call 22; refine (HS.out _).mono ?_; rintro e w2 ⟨rfl, hb2⟩) | (go_at_call 41; refine (HY.out _ _).mono ?_; rintro e w3 ⟨rfl, rfl⟩))
  all_goals
    go_wp2_with fail
    refine (within_n _ _ _ _ (by omega)).mono ?_
    rintro e w3 ⟨rfl, rfl⟩
    go_wp2_with fail
    refine (HN.out _ _).mono ?_
    rintro e w3 ⟨rfl, rfl⟩
    simp only [bodyPost]
    exact ⟨trivial, DecR.stop (stop_at (by omega) (by omega) HD.out HG.out) (dec_below hb2)⟩

set_option maxRecDepth 100000 in
set_option maxHeartbeats 1600000 in
theorem decode_m1 (s : ByteArray) (w : World) (h : (24 : Int) ≤ (s.size : Int)) (hz : s.size ≤ 100000) (H1 : by_ s 4 = 2) (H2 : 4 < by_ s 5) (hf : 28 < (s.size : Int)) (hd : dgOk s) :
    Calls Try.prog 29 #[.string s] w (DecR s w) := by
  have HG := Lib.hid (show ¬ Good s by rintro ⟨g1, g2, g3, g4, g5, g6, g7, g8, g9⟩; first | omega | exact absurd g9 hd | (have := g7 (by omega); omega) | (have := g8 (by omega); omega))
  have HN := Lib.hid need_no
  have HY := Lib.hid need_yes
  have h4 : (4 : Int) ≤ (s.size : Int) := by omega
  have hsx : (s.extract 4 s.size).size ≤ maxLen := by unfold maxLen; simp; omega
  have hq1 := fun w => Hh.Sum_any (s.extract 4 s.size) w hsx
  have hq2 : (Dg.sum (s.extract 4 s.size).data.toList).size = 32 := Dg.sum_size _
  have hq3 : dgOk s ↔ ((Dg.sum (s.extract 4 s.size).data.toList).extract 0 4).toList = (s.extract 0 4).toList := by
    unfold dgOk
    exact ⟨fun h => by rw [h], fun h => by rwa [ByteArray.toList_eq, ByteArray.toList_eq, Array.toList_inj, ← ByteArray.ext_iff] at h⟩
  obtain ⟨SM, hSM⟩ : ∃ z, Dg.sum (s.extract 4 s.size).data.toList = z := ⟨_, rfl⟩
  rw [hSM] at hq2 hq3
  simp only [hSM] at hq1
  have HS := Lib.hid hq1
  have HQ := Lib.hid hq3
  clear hsx hq1 hq3 hSM
  have y4 := by_at s 4 (by omega)
  have y5 := by_at s 5 (by omega)
  have b4 := by_lt s 4
  have b5 := by_lt s 5
  obtain ⟨k, hk⟩ : ∃ k, by_ s 4 = k := ⟨_, rfl⟩
  obtain ⟨m, hm'⟩ : ∃ m, by_ s 5 = m := ⟨_, rfl⟩
  rw [hk] at y4 b4 H1
  rw [hm'] at y5 b5 H2
  have HK := Lib.hid hk
  have HM := Lib.hid hm'
  clear hk hm'
  have HH := Lib.hid H1
  clear H1
  have hd1 : ((SM.extract 0 4).toList == (s.extract 0 4).toList) = true := by rw [beq_iff_eq]; exact HQ.out.1 hd
  have HD := Lib.hid hd
  clear hd
  go_enter Try.func29, Try.ntmps29
  go_wp2_with fail
  refine (HY.out _ _).mono ?_
  rintro e w1 ⟨rfl, rfl⟩
  go_wp2_with fail
  go_quiet (fail)
  obtain rfl : k = 2 := HH.out
  have hm4 : (4 : Int) < (m : Int) := by omega
  go_wp2_with fail
  refine (HY.out _ _).mono ?_
  rintro e w1 ⟨rfl, rfl⟩
  go_wp2_with fail
  go_region_with (first | (go_at_call 22; refine (HS.out _).mono ?_; rintro e w2 ⟨rfl, hb2⟩) | (go_at_call 41; refine (HY.out _ _).mono ?_; rintro e w3 ⟨rfl, rfl⟩))
  all_goals
    go_wp2_with fail
    refine (within_y _ _ _ _ (by omega) (by omega)).mono ?_
    rintro e w3 ⟨rfl, rfl⟩
    go_wp2_with fail
    refine (HY.out _ _).mono ?_
    rintro e w3 ⟨rfl, rfl⟩
    go_wp2_with fail
    rw [show decide ((m : Int) ≤ 4) = false from decide_eq_false (by omega)]
    refine (HN.out _ _).mono ?_
    rintro e w3 ⟨rfl, rfl⟩
    simp only [bodyPost]
    exact ⟨trivial, DecR.stop (stop_at (by omega) (by omega) HD.out HG.out) (dec_below hb2)⟩

set_option maxRecDepth 100000 in
set_option maxHeartbeats 1600000 in
theorem decode_m2 (s : ByteArray) (w : World) (h : (24 : Int) ≤ (s.size : Int)) (hz : s.size ≤ 100000) (H1 : by_ s 4 ≠ 2) (H2 : 4 < by_ s 5) (hf : 28 ≤ (s.size : Int)) (Hk1 : 1 ≤ by_ s 4) (Hk2 : by_ s 4 ≤ 5) (hd : dgOk s) :
    Calls Try.prog 29 #[.string s] w (DecR s w) := by
  have HG := Lib.hid (show ¬ Good s by rintro ⟨g1, g2, g3, g4, g5, g6, g7, g8, g9⟩; first | omega | exact absurd g9 hd | (have := g7 (by omega); omega) | (have := g8 (by omega); omega))
  have HN := Lib.hid need_no
  have HY := Lib.hid need_yes
  have h4 : (4 : Int) ≤ (s.size : Int) := by omega
  have hsx : (s.extract 4 s.size).size ≤ maxLen := by unfold maxLen; simp; omega
  have hq1 := fun w => Hh.Sum_any (s.extract 4 s.size) w hsx
  have hq2 : (Dg.sum (s.extract 4 s.size).data.toList).size = 32 := Dg.sum_size _
  have hq3 : dgOk s ↔ ((Dg.sum (s.extract 4 s.size).data.toList).extract 0 4).toList = (s.extract 0 4).toList := by
    unfold dgOk
    exact ⟨fun h => by rw [h], fun h => by rwa [ByteArray.toList_eq, ByteArray.toList_eq, Array.toList_inj, ← ByteArray.ext_iff] at h⟩
  obtain ⟨SM, hSM⟩ : ∃ z, Dg.sum (s.extract 4 s.size).data.toList = z := ⟨_, rfl⟩
  rw [hSM] at hq2 hq3
  simp only [hSM] at hq1
  have HS := Lib.hid hq1
  have HQ := Lib.hid hq3
  clear hsx hq1 hq3 hSM
  have y4 := by_at s 4 (by omega)
  have y5 := by_at s 5 (by omega)
  have b4 := by_lt s 4
  have b5 := by_lt s 5
  obtain ⟨k, hk⟩ : ∃ k, by_ s 4 = k := ⟨_, rfl⟩
  obtain ⟨m, hm'⟩ : ∃ m, by_ s 5 = m := ⟨_, rfl⟩
  rw [hk] at y4 b4 H1
  rw [hm'] at y5 b5 H2
  have HK := Lib.hid hk
  have HM := Lib.hid hm'
  clear hk hm'
  have HH := Lib.hid H1
  clear H1
  have hd1 : ((SM.extract 0 4).toList == (s.extract 0 4).toList) = true := by rw [beq_iff_eq]; exact HQ.out.1 hd
  have HD := Lib.hid hd
  clear hd
  go_enter Try.func29, Try.ntmps29
  go_wp2_with fail
  refine (HY.out _ _).mono ?_
  rintro e w1 ⟨rfl, rfl⟩
  go_wp2_with fail
  go_quiet (fail)
  rw [HK.out] at Hk1 Hk2
  have hk3 : ¬ ((k : Int) = 2) := by have := HH.out; omega
  have hm4 : (4 : Int) < (m : Int) := by omega
  go_wp2_with fail
  refine (HY.out _ _).mono ?_
  rintro e w1 ⟨rfl, rfl⟩
  go_wp2_with fail
  go_region_with (first | (go_at_call 22; refine (HS.out _).mono ?_; rintro e w2 ⟨rfl, hb2⟩) | (go_at_call 41; refine (HY.out _ _).mono ?_; rintro e w3 ⟨rfl, rfl⟩))
  all_goals
    go_wp2_with fail
    refine (within_y _ _ _ _ (by omega) (by omega)).mono ?_
    rintro e w3 ⟨rfl, rfl⟩
    go_wp2_with fail
    refine (HY.out _ _).mono ?_
    rintro e w3 ⟨rfl, rfl⟩
    go_wp2_with fail
    rw [show decide ((m : Int) ≤ 4) = false from decide_eq_false (by omega)]
    refine (HN.out _ _).mono ?_
    rintro e w3 ⟨rfl, rfl⟩
    simp only [bodyPost]
    exact ⟨trivial, DecR.stop (stop_at (by omega) (by omega) HD.out HG.out) (dec_below hb2)⟩
end Go.Proofs.Ytdkfniijoamaoac.Ga
