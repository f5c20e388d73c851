/-
  decode: bytes enough, marks few.
-/
import Derived.Test.YtdkfniijoamaoacGf
import Derived.RegionDies
import Derived.BigQuiet
import Derived.Deep.RegionWith
namespace Go.Proofs.Ytdkfniijoamaoac.Ga
open Go Go.RowKit Go.Proofs.Ytdkfniijoamaoac.Hz Go.Proofs.Ytdkfniijoamaoac.Ob

/-- is the digest of bytes right? -/
def dgOk (s : ByteArray) : Prop := (Dg.sum (s.extract 4 s.size).data.toList).extract 0 4 = s.extract 0 4
/-- bytes of a packet -/
def Good (s : ByteArray) : Prop := 24 + by_ s 5 ≤ s.size ∧ by_ s 5 ≤ 4 ∧ 1 ≤ by_ s 4 ∧ by_ s 4 ≤ 5 ∧ rd s 20 4 ≤ 1000000 ∧ s.size ≤ 1424 + by_ s 5 ∧ (24 + by_ s 5 < s.size → by_ s 4 = 2) ∧ (by_ s 4 = 2 → 24 + by_ s 5 < s.size) ∧ dgOk s
/-- a wrong byte that may be told -/
def StopAt (s : ByteArray) (at_ : Int) : Prop := 0 ≤ at_ ∧ at_ ≤ s.size ∧ (29 ≤ s.size → ¬ dgOk s → at_ = 0) ∧ ¬ Good s
/-- what decode may do -/
def DecR (s : ByteArray) (w : World) (e : Ending) (w' : World) : Prop :=
  ((∃ a, e = .panicked [{ v := .iface 56 (.agg #[.int .i64 a]), recovered := false }] ∧ StopAt s a) ∨ (∃ m, e = .returned (.agg (pk s m).cells) ∧ (pk s m).ok ∧ 24 + m ≤ s.size ∧ by_ s 5 = m ∧ dgOk s)) ∧ Below w.heap.size w w'
theorem DecR.stop {s : ByteArray} {w w' : World} {a : Int} (h : StopAt s a) (hb : Below w.heap.size w w') : DecR s w (.panicked [{ v := .iface 56 (.agg #[.int .i64 a]), recovered := false }]) w' := ⟨.inl ⟨a, rfl, h⟩, hb⟩
theorem dec_below {w w2 : World} {o : Obj} {n : Nat} (h : Below ((w.alloc o).drewN n).heap.size ((w.alloc o).drewN n) w2) : Below w.heap.size w w2 :=
  (blw_drewN ((Below.refl w.heap.size w).alloc (Nat.le_refl _) o) n).trans (h.mono (by show w.heap.size ≤ (w.alloc o).heap.size; simp))
theorem stop_at {s : ByteArray} {a : Int} (h0 : 0 ≤ a) (h1 : a ≤ s.size) (hd : dgOk s) (hG : ¬ Good s) : StopAt s a := ⟨h0, h1, fun _ h => absurd hd h, hG⟩
theorem stop_few {s : ByteArray} (h : s.size ≤ 28) (hG : ¬ Good s) : StopAt s (s.size : Int) := ⟨by omega, by omega, fun h2 => by omega, hG⟩
theorem stop_zero (s : ByteArray) (hG : ¬ Good s) : StopAt s 0 := ⟨by omega, by omega, fun _ _ => rfl, hG⟩

set_option maxHeartbeats 400000 in
theorem within_n (n a b : Int) (w : World) (h : ¬ (a ≤ n ∧ n ≤ b)) : Calls Try.prog 23 #[.int .i64 n, .int .i64 a, .int .i64 b] w fun e w' => e = .returned (.bool false) ∧ w = w' := by
  by_cases h1 : a ≤ n
  · have h2 : ¬ n ≤ b := fun h2 => h ⟨h1, h2⟩
    clear h
    go_enter Try.func23, Try.ntmps23
    go_wp2
    go_ret
    exact ⟨by simp [h2], rfl⟩
  · clear h
    go_enter Try.func23, Try.ntmps23
    go_wp2
    go_ret
    exact ⟨by simp, rfl⟩

set_option maxRecDepth 100000 in
set_option maxHeartbeats 1600000 in
theorem decode_few1 (s : ByteArray) (w : World) (h : (24 : Int) ≤ (s.size : Int)) (hz : s.size ≤ 100000) (H1 : by_ s 4 = by_ s 4) (H2 : by_ s 5 ≤ 4) (hf : (s.size : Int) < 24 + (by_ s 5 : Int)) :
    Calls Try.prog 29 #[.string s] w (DecR s w) := by
  have HG := Lib.hid (show ¬ Good s by rintro ⟨g1, g2, g3, g4, g5, g6, g7, g8, g9⟩; first | omega | exact absurd g9 hd | (have := g7 (by omega); omega) | (have := g8 (by omega); omega))
  have HN := Lib.hid need_no
  have HY := Lib.hid need_yes
  have h4 : (4 : Int) ≤ (s.size : Int) := by omega
  have hsx : (s.extract 4 s.size).size ≤ maxLen := by unfold maxLen; simp; omega
  have hq1 := fun w => Hh.Sum_any (s.extract 4 s.size) w hsx
  have hq2 : (Dg.sum (s.extract 4 s.size).data.toList).size = 32 := Dg.sum_size _
  have hq3 : dgOk s ↔ ((Dg.sum (s.extract 4 s.size).data.toList).extract 0 4).toList = (s.extract 0 4).toList := by
    unfold dgOk
    exact ⟨fun h => by rw [h], fun h => by rwa [ByteArray.toList_eq, ByteArray.toList_eq, Array.toList_inj, ← ByteArray.ext_iff] at h⟩
  obtain ⟨SM, hSM⟩ : ∃ z, Dg.sum (s.extract 4 s.size).data.toList = z := ⟨_, rfl⟩
  rw [hSM] at hq2 hq3
  simp only [hSM] at hq1
  have HS := Lib.hid hq1
  have HQ := Lib.hid hq3
  clear hsx hq1 hq3 hSM
  have y4 := by_at s 4 (by omega)
  have y5 := by_at s 5 (by omega)
  have b4 := by_lt s 4
  have b5 := by_lt s 5
  obtain ⟨k, hk⟩ : ∃ k, by_ s 4 = k := ⟨_, rfl⟩
  obtain ⟨m, hm'⟩ : ∃ m, by_ s 5 = m := ⟨_, rfl⟩
  rw [hk] at y4 b4 H1
  rw [hm'] at y5 b5 H2
  have HK := Lib.hid hk
  have HM := Lib.hid hm'
  clear hk hm'
  have HH := Lib.hid H1
  clear H1
  go_enter Try.func29, Try.ntmps29
  go_wp2_with fail
  refine (HY.out _ _).mono ?_
  rintro e w1 ⟨rfl, rfl⟩
  go_wp2_with fail
  go_quiet (fail)
  rw [HM.out] at hf
  have hm4 : m ≤ 4 := H2
  go_wp2_with fail
  refine (HN.out _ _).mono ?_
  rintro e w1 ⟨rfl, rfl⟩
  simp only [bodyPost]
  exact ⟨trivial, DecR.stop (stop_few (s := s) (by omega) HG.out) (dec_below (Below.refl _ _))⟩

set_option maxRecDepth 100000 in
set_option maxHeartbeats 1600000 in
theorem decode_few2 (s : ByteArray) (w : World) (h : (24 : Int) ≤ (s.size : Int)) (hz : s.size ≤ 100000) (H1 : by_ s 4 = 2) (H2 : by_ s 5 ≤ 4) (hf : (s.size : Int) ≤ 24 + (by_ s 5 : Int)) (hf1 : 24 + (by_ s 5 : Int) ≤ (s.size : Int)) :
    Calls Try.prog 29 #[.string s] w (DecR s w) := by
  have HG := Lib.hid (show ¬ Good s by rintro ⟨g1, g2, g3, g4, g5, g6, g7, g8, g9⟩; first | omega | exact absurd g9 hd | (have := g7 (by omega); omega) | (have := g8 (by omega); omega))
  have HN := Lib.hid need_no
  have HY := Lib.hid need_yes
  have h4 : (4 : Int) ≤ (s.size : Int) := by omega
  have hsx : (s.extract 4 s.size).size ≤ maxLen := by unfold maxLen; simp; omega
  have hq1 := fun w => Hh.Sum_any (s.extract 4 s.size) w hsx
  have hq2 : (Dg.sum (s.extract 4 s.size).data.toList).size = 32 := Dg.sum_size _
  have hq3 : dgOk s ↔ ((Dg.sum (s.extract 4 s.size).data.toList).extract 0 4).toList = (s.extract 0 4).toList := by
    unfold dgOk
    exact ⟨fun h => by rw [h], fun h => by rwa [ByteArray.toList_eq, ByteArray.toList_eq, Array.toList_inj, ← ByteArray.ext_iff] at h⟩
  obtain ⟨SM, hSM⟩ : ∃ z, Dg.sum (s.extract 4 s.size).data.toList = z := ⟨_, rfl⟩
  rw [hSM] at hq2 hq3
  simp only [hSM] at hq1
  have HS := Lib.hid hq1
  have HQ := Lib.hid hq3
  clear hsx hq1 hq3 hSM
  have y4 := by_at s 4 (by omega)
  have y5 := by_at s 5 (by omega)
  have b4 := by_lt s 4
  have b5 := by_lt s 5
  obtain ⟨k, hk⟩ : ∃ k, by_ s 4 = k := ⟨_, rfl⟩
  obtain ⟨m, hm'⟩ : ∃ m, by_ s 5 = m := ⟨_, rfl⟩
  rw [hk] at y4 b4 H1
  rw [hm'] at y5 b5 H2
  have HK := Lib.hid hk
  have HM := Lib.hid hm'
  clear hk hm'
  have HH := Lib.hid H1
  clear H1
  go_enter Try.func29, Try.ntmps29
  go_wp2_with fail
  refine (HY.out _ _).mono ?_
  rintro e w1 ⟨rfl, rfl⟩
  go_wp2_with fail
  go_quiet (fail)
  rw [HM.out] at hf hf1
  obtain rfl : k = 2 := HH.out
  have hm4 : m ≤ 4 := H2
  go_wp2_with fail
  rw [show decide ((24 : Int) + (m : Int) < (s.size : Int)) = false from decide_eq_false (by omega)]
  refine (HN.out _ _).mono ?_
  rintro e w1 ⟨rfl, rfl⟩
  simp only [bodyPost]
  exact ⟨trivial, DecR.stop (stop_few (s := s) (by omega) HG.out) (dec_below (Below.refl _ _))⟩

set_option maxRecDepth 100000 in
set_option maxHeartbeats 1600000 in
theorem decode_few3 (s : ByteArray) (w : World) (h : (24 : Int) ≤ (s.size : Int)) (hz : s.size ≤ 100000) (H1 : by_ s 4 = by_ s 4) (H2 : 4 < by_ s 5) (hf : (s.size : Int) < 28) :
    Calls Try.prog 29 #[.string s] w (DecR s w) := by
  have HG := Lib.hid (show ¬ Good s by rintro ⟨g1, g2, g3, g4, g5, g6, g7, g8, g9⟩; first | omega | exact absurd g9 hd | (have := g7 (by omega); omega) | (have := g8 (by omega); omega))
  have HN := Lib.hid need_no
  have HY := Lib.hid need_yes
  have h4 : (4 : Int) ≤ (s.size : Int) := by omega
  have hsx : (s.extract 4 s.size).size ≤ maxLen := by unfold maxLen; simp; omega
  have hq1 := fun w => Hh.Sum_any (s.extract 4 s.size) w hsx
  have hq2 : (Dg.sum (s.extract 4 s.size).data.toList).size = 32 := Dg.sum_size _
  have hq3 : dgOk s ↔ ((Dg.sum (s.extract 4 s.size).data.toList).extract 0 4).toList = (s.extract 0 4).toList := by
    unfold dgOk
    exact ⟨fun h => by rw [h], fun h => by rwa [ByteArray.toList_eq, ByteArray.toList_eq, Array.toList_inj, ← ByteArray.ext_iff] at h⟩
  obtain ⟨SM, hSM⟩ : ∃ z, Dg.sum (s.extract 4 s.size).data.toList = z := ⟨_, rfl⟩
  rw [hSM] at hq2 hq3
  simp only [hSM] at hq1
  have HS := Lib.hid hq1
  have HQ := Lib.hid hq3
  clear hsx hq1 hq3 hSM
  have y4 := by_at s 4 (by omega)
  have y5 := by_at s 5 (by omega)
  have b4 := by_lt s 4
  have b5 := by_lt s 5
  obtain ⟨k, hk⟩ : ∃ k, by_ s 4 = k := ⟨_, rfl⟩
  obtain ⟨m, hm'⟩ : ∃ m, by_ s 5 = m := ⟨_, rfl⟩
  rw [hk] at y4 b4 H1
  rw [hm'] at y5 b5 H2
  have HK := Lib.hid hk
  have HM := Lib.hid hm'
  clear hk hm'
  have HH := Lib.hid H1
  clear H1
  go_enter Try.func29, Try.ntmps29
  go_wp2_with fail
  refine (HY.out _ _).mono ?_
  rintro e w1 ⟨rfl, rfl⟩
  go_wp2_with fail
  go_quiet (fail)
  have hm4 : (4 : Int) < (m : Int) := by omega
  go_wp2_with fail
  refine (HN.out _ _).mono ?_
  rintro e w1 ⟨rfl, rfl⟩
  simp only [bodyPost]
  exact ⟨trivial, DecR.stop (stop_few (s := s) (by omega) HG.out) (dec_below (Below.refl _ _))⟩

set_option maxRecDepth 100000 in
set_option maxHeartbeats 1600000 in
theorem decode_few4 (s : ByteArray) (w : World) (h : (24 : Int) ≤ (s.size : Int)) (hz : s.size ≤ 100000) (H1 : by_ s 4 = 2) (H2 : 4 < by_ s 5) (hf : (s.size : Int) ≤ 28) (hf1 : 28 ≤ (s.size : Int)) :
    Calls Try.prog 29 #[.string s] w (DecR s w) := by
  have HG := Lib.hid (show ¬ Good s by rintro ⟨g1, g2, g3, g4, g5, g6, g7, g8, g9⟩; first | omega | exact absurd g9 hd | (have := g7 (by omega); omega) | (have := g8 (by omega); omega))
  have HN := Lib.hid need_no
  have HY := Lib.hid need_yes
  have h4 : (4 : Int) ≤ (s.size : Int) := by omega
  have hsx : (s.extract 4 s.size).size ≤ maxLen := by unfold maxLen; simp; omega
  have hq1 := fun w => Hh.Sum_any (s.extract 4 s.size) w hsx
  have hq2 : (Dg.sum (s.extract 4 s.size).data.toList).size = 32 := Dg.sum_size _
  have hq3 : dgOk s ↔ ((Dg.sum (s.extract 4 s.size).data.toList).extract 0 4).toList = (s.extract 0 4).toList := by
    unfold dgOk
    exact ⟨fun h => by rw [h], fun h => by rwa [ByteArray.toList_eq, ByteArray.toList_eq, Array.toList_inj, ← ByteArray.ext_iff] at h⟩
  obtain ⟨SM, hSM⟩ : ∃ z, Dg.sum (s.extract 4 s.size).data.toList = z := ⟨_, rfl⟩
  rw [hSM] at hq2 hq3
  simp only [hSM] at hq1
  have HS := Lib.hid hq1
  have HQ := Lib.hid hq3
  clear hsx hq1 hq3 hSM
  have y4 := by_at s 4 (by omega)
  have y5 := by_at s 5 (by omega)
  have b4 := by_lt s 4
  have b5 := by_lt s 5
  obtain ⟨k, hk⟩ : ∃ k, by_ s 4 = k := ⟨_, rfl⟩
  obtain ⟨m, hm'⟩ : ∃ m, by_ s 5 = m := ⟨_, rfl⟩
  rw [hk] at y4 b4 H1
  rw [hm'] at y5 b5 H2
  have HK := Lib.hid hk
  have HM := Lib.hid hm'
  clear hk hm'
  have HH := Lib.hid H1
  clear H1
  go_enter Try.func29, Try.ntmps29
  go_wp2_with fail
  refine (HY.out _ _).mono ?_
  rintro e w1 ⟨rfl, rfl⟩
  go_wp2_with fail
  go_quiet (fail)
  obtain rfl : k = 2 := HH.out
  have hm4 : (4 : Int) < (m : Int) := by omega
  go_wp2_with fail
  rw [show decide ((28 : Int) < (s.size : Int)) = false from decide_eq_false (by omega)]
  refine (HN.out _ _).mono ?_
  rintro e w1 ⟨rfl, rfl⟩
  simp only [bodyPost]
  exact ⟨trivial, DecR.stop (stop_few (s := s) (by omega) HG.out) (dec_below (Below.refl _ _))⟩

set_option maxRecDepth 100000 in
set_option maxHeartbeats 1600000 in
theorem decode_dg1 (s : ByteArray) (w : World) (h : (24 : Int) ≤ (s.size : Int)) (hz : s.size ≤ 100000) (H1 : by_ s 4 = 2) (H2 : by_ s 5 ≤ 4) (hf : 24 + (by_ s 5 : Int) < (s.size : Int)) (hd : ¬ dgOk s) :
    Calls Try.prog 29 #[.string s] w (DecR s w) := by
  have HG := Lib.hid (show ¬ Good s by rintro ⟨g1, g2, g3, g4, g5, g6, g7, g8, g9⟩; first | omega | exact absurd g9 hd | (have := g7 (by omega); omega) | (have := g8 (by omega); omega))
  have HN := Lib.hid need_no
  have HY := Lib.hid need_yes
  have h4 : (4 : Int) ≤ (s.size : Int) := by omega
  have hsx : (s.extract 4 s.size).size ≤ maxLen := by unfold maxLen; simp; omega
  have hq1 := fun w => Hh.Sum_any (s.extract 4 s.size) w hsx
  have hq2 : (Dg.sum (s.extract 4 s.size).data.toList).size = 32 := Dg.sum_size _
  have hq3 : dgOk s ↔ ((Dg.sum (s.extract 4 s.size).data.toList).extract 0 4).toList = (s.extract 0 4).toList := by
    unfold dgOk
    exact ⟨fun h => by rw [h], fun h => by rwa [ByteArray.toList_eq, ByteArray.toList_eq, Array.toList_inj, ← ByteArray.ext_iff] at h⟩
  obtain ⟨SM, hSM⟩ : ∃ z, Dg.sum (s.extract 4 s.size).data.toList = z := ⟨_, rfl⟩
  rw [hSM] at hq2 hq3
  simp only [hSM] at hq1
  have HS := Lib.hid hq1
  have HQ := Lib.hid hq3
  clear hsx hq1 hq3 hSM
  have y4 := by_at s 4 (by omega)
  have y5 := by_at s 5 (by omega)
  have b4 := by_lt s 4
  have b5 := by_lt s 5
  obtain ⟨k, hk⟩ : ∃ k, by_ s 4 = k := ⟨_, rfl⟩
  obtain ⟨m, hm'⟩ : ∃ m, by_ s 5 = m := ⟨_, rfl⟩
  rw [hk] at y4 b4 H1
  rw [hm'] at y5 b5 H2
  have HK := Lib.hid hk
  have HM := Lib.hid hm'
  clear hk hm'
  have HH := Lib.hid H1
  clear H1
  have hd1 : ((SM.extract 0 4).toList == (s.extract 0 4).toList) = false := by rw [← Bool.not_eq_true, beq_iff_eq]; exact fun h => hd (HQ.out.2 h)
  clear hd
  go_enter Try.func29, Try.ntmps29
  go_wp2_with fail
  refine (HY.out _ _).mono ?_
  rintro e w1 ⟨rfl, rfl⟩
  go_wp2_with fail
  go_quiet (fail)
  rw [HM.out] at hf
  obtain rfl : k = 2 := HH.out
  have hm4 : m ≤ 4 := H2
  go_wp2_with fail
  refine (HY.out _ _).mono ?_
  rintro e w1 ⟨rfl, rfl⟩
  go_wp2_with fail
  go_region_dies
  all_goals
    rename_i K0 K1 hK1
    refine (HS.out _).mono ?_
    rintro e w2 ⟨rfl, hb2⟩
    refine hK1 _ _ ?_
    clear hK1
    refine wpAny_ready (rs := [3]) (by kernel_rfl) (by simp) ?_
    refine AllReady.cons rfl (fun K hK => ?_) AllReady.nil
    go_simp
    refine hK _ _ ?_
    clear hK K
    refine wpAny_ready (rs := [6]) (by kernel_rfl) (by simp) ?_
    refine AllReady.cons rfl (fun K hK => ?_) AllReady.nil
    go_simp
    refine hK _ _ ?_
    clear hK K
    refine wpAny_ready (rs := [7]) (by kernel_rfl) (by simp) ?_
    refine AllReady.cons rfl (fun K hK => ?_) AllReady.nil
    go_simp
    refine (HN.out _ _).mono ?_
    rintro e w3 ⟨rfl, rfl⟩
    simp only [bodyPost]
    exact ⟨trivial, DecR.stop (stop_zero s HG.out) (dec_below hb2)⟩

set_option maxRecDepth 100000 in
set_option maxHeartbeats 1600000 in
theorem decode_dg2 (s : ByteArray) (w : World) (h : (24 : Int) ≤ (s.size : Int)) (hz : s.size ≤ 100000) (H1 : by_ s 4 ≠ 2) (H2 : by_ s 5 ≤ 4) (hf : 24 + (by_ s 5 : Int) ≤ (s.size : Int)) (hd : ¬ dgOk s) :
    Calls Try.prog 29 #[.string s] w (DecR s w) := by
  have HG := Lib.hid (show ¬ Good s by rintro ⟨g1, g2, g3, g4, g5, g6, g7, g8, g9⟩; first | omega | exact absurd g9 hd | (have := g7 (by omega); omega) | (have := g8 (by omega); omega))
  have HN := Lib.hid need_no
  have HY := Lib.hid need_yes
  have h4 : (4 : Int) ≤ (s.size : Int) := by omega
  have hsx : (s.extract 4 s.size).size ≤ maxLen := by unfold maxLen; simp; omega
  have hq1 := fun w => Hh.Sum_any (s.extract 4 s.size) w hsx
  have hq2 : (Dg.sum (s.extract 4 s.size).data.toList).size = 32 := Dg.sum_size _
  have hq3 : dgOk s ↔ ((Dg.sum (s.extract 4 s.size).data.toList).extract 0 4).toList = (s.extract 0 4).toList := by
    unfold dgOk
    exact ⟨fun h => by rw [h], fun h => by rwa [ByteArray.toList_eq, ByteArray.toList_eq, Array.toList_inj, ← ByteArray.ext_iff] at h⟩
  obtain ⟨SM, hSM⟩ : ∃ z, Dg.sum (s.extract 4 s.size).data.toList = z := ⟨_, rfl⟩
  rw [hSM] at hq2 hq3
  simp only [hSM] at hq1
  have HS := Lib.hid hq1
  have HQ := Lib.hid hq3
  clear hsx hq1 hq3 hSM
  have y4 := by_at s 4 (by omega)
  have y5 := by_at s 5 (by omega)
  have b4 := by_lt s 4
  have b5 := by_lt s 5
  obtain ⟨k, hk⟩ : ∃ k, by_ s 4 = k := ⟨_, rfl⟩
  obtain ⟨m, hm'⟩ : ∃ m, by_ s 5 = m := ⟨_, rfl⟩
  rw [hk] at y4 b4 H1
  rw [hm'] at y5 b5 H2
  have HK := Lib.hid hk
  have HM := Lib.hid hm'
  clear hk hm'
  have HH := Lib.hid H1
  clear H1
  have hd1 : ((SM.extract 0 4).toList == (s.extract 0 4).toList) = false := by rw [← Bool.not_eq_true, beq_iff_eq]; exact fun h => hd (HQ.out.2 h)
  clear hd
  go_enter Try.func29, Try.ntmps29
  go_wp2_with fail
  refine (HY.out _ _).mono ?_
  rintro e w1 ⟨rfl, rfl⟩
  go_wp2_with fail
  go_quiet (fail)
  rw [HM.out] at hf
  have hk3 : ¬ ((k : Int) = 2) := by have := HH.out; omega
  have hm4 : m ≤ 4 := H2
  go_wp2_with fail
  refine (HY.out _ _).mono ?_
  rintro e w1 ⟨rfl, rfl⟩
  go_wp2_with fail
  go_region_dies
  all_goals
    rename_i K0 K1 hK1
    refine (HS.out _).mono ?_
    rintro e w2 ⟨rfl, hb2⟩
    refine hK1 _ _ ?_
    clear hK1
    refine wpAny_ready (rs := [3]) (by kernel_rfl) (by simp) ?_
    refine AllReady.cons rfl (fun K hK => ?_) AllReady.nil
    go_simp
    refine hK _ _ ?_
    clear hK K
    refine wpAny_ready (rs := [6]) (by kernel_rfl) (by simp) ?_
    refine AllReady.cons rfl (fun K hK => ?_) AllReady.nil
    go_simp
    refine hK _ _ ?_
    clear hK K
    refine wpAny_ready (rs := [7]) (by kernel_rfl) (by simp) ?_
    refine AllReady.cons rfl (fun K hK => ?_) AllReady.nil
    go_simp
    refine (HN.out _ _).mono ?_
    rintro e w3 ⟨rfl, rfl⟩
    simp only [bodyPost]
    exact ⟨trivial, DecR.stop (stop_zero s HG.out) (dec_below hb2)⟩

set_option maxRecDepth 100000 in
set_option maxHeartbeats 1600000 in
theorem decode_dg3 (s : ByteArray) (w : World) (h : (24 : Int) ≤ (s.size : Int)) (hz : s.size ≤ 100000) (H1 : by_ s 4 = 2) (H2 : 4 < by_ s 5) (hf : 28 < (s.size : Int)) (hd : ¬ dgOk s) :
    Calls Try.prog 29 #[.string s] w (DecR s w) := by
  have HG := Lib.hid (show ¬ Good s by rintro ⟨g1, g2, g3, g4, g5, g6, g7, g8, g9⟩; first | omega | exact absurd g9 hd | (have := g7 (by omega); omega) | (have := g8 (by omega); omega))
  have HN := Lib.hid need_no
  have HY := Lib.hid need_yes
  have h4 : (4 : Int) ≤ (s.size : Int) := by omega
  have hsx : (s.extract 4 s.size).size ≤ maxLen := by unfold maxLen; simp; omega
  have hq1 := fun w => Hh.Sum_any (s.extract 4 s.size) w hsx
  have hq2 : (Dg.sum (s.extract 4 s.size).data.toList).size = 32 := Dg.sum_size _
  have hq3 : dgOk s ↔ ((Dg.sum (s.extract 4 s.size).data.toList).extract 0 4).toList = (s.extract 0 4).toList := by
    unfold dgOk
    exact ⟨fun h => by rw [h], fun h => by rwa [ByteArray.toList_eq, ByteArray.toList_eq, Array.toList_inj, ← ByteArray.ext_iff] at h⟩
  obtain ⟨SM, hSM⟩ : ∃ z, Dg.sum (s.extract 4 s.size).data.toList = z := ⟨_, rfl⟩
  rw [hSM] at hq2 hq3
  simp only [hSM] at hq1
  have HS := Lib.hid hq1
  have HQ := Lib.hid hq3
  clear hsx hq1 hq3 hSM
  have y4 := by_at s 4 (by omega)
  have y5 := by_at s 5 (by omega)
  have b4 := by_lt s 4
  have b5 := by_lt s 5
  obtain ⟨k, hk⟩ : ∃ k, by_ s 4 = k := ⟨_, rfl⟩
  obtain ⟨m, hm'⟩ : ∃ m, by_ s 5 = m := ⟨_, rfl⟩
  rw [hk] at y4 b4 H1
  rw [hm'] at y5 b5 H2
  have HK := Lib.hid hk
  have HM := Lib.hid hm'
  clear hk hm'
  have HH := Lib.hid H1
  clear H1
  have hd1 : ((SM.extract 0 4).toList == (s.extract 0 4).toList) = false := by rw [← Bool.not_eq_true, beq_iff_eq]; exact fun h => hd (HQ.out.2 h)
  clear hd
  go_enter Try.func29, Try.ntmps29
  go_wp2_with fail
  refine (HY.out _ _).mono ?_
  rintro e w1 ⟨rfl, rfl⟩
  go_wp2_with fail
  go_quiet (fail)
  obtain rfl : k = 2 := HH.out
  have hm4 : (4 : Int) < (m : Int) := by omega
  go_wp2_with fail
  refine (HY.out _ _).mono ?_
  rintro e w1 ⟨rfl, rfl⟩
  go_wp2_with fail
  go_region_dies
  all_goals
    rename_i K0 K1 hK1
    refine (HS.out _).mono ?_
    rintro e w2 ⟨rfl, hb2⟩
    refine hK1 _ _ ?_
    clear hK1
    refine wpAny_ready (rs := [3]) (by kernel_rfl) (by simp) ?_
    refine AllReady.cons rfl (fun K hK => ?_) AllReady.nil
    go_simp
    refine hK _ _ ?_
    clear hK K
    refine wpAny_ready (rs := [6]) (by kernel_rfl) (by simp) ?_
    refine AllReady.cons rfl (fun K hK => ?_) AllReady.nil
    go_simp
    refine hK _ _ ?_
    clear hK K
    refine wpAny_ready (rs := [7]) (by kernel_rfl) (by simp) ?_
    refine AllReady.cons rfl (fun K hK => ?_) AllReady.nil
    go_simp
    refine (HN.out _ _).mono ?_
    rintro e w3 ⟨rfl, rfl⟩
    simp only [bodyPost]
    exact ⟨trivial, DecR.stop (stop_zero s HG.out) (dec_below hb2)⟩

set_option maxRecDepth 100000 in
set_option maxHeartbeats 1600000 in
theorem decode_dg4 (s : ByteArray) (w : World) (h : (24 : Int) ≤ (s.size : Int)) (hz : s.size ≤ 100000) (H1 : by_ s 4 ≠ 2) (H2 : 4 < by_ s 5) (hf : 28 ≤ (s.size : Int)) (hd : ¬ dgOk s) :
    Calls Try.prog 29 #[.string s] w (DecR s w) := by
  have HG := Lib.hid (show ¬ Good s by rintro ⟨g1, g2, g3, g4, g5, g6, g7, g8, g9⟩; first | omega | exact absurd g9 hd | (have := g7 (by omega); omega) | (have := g8 (by omega); omega))
  have HN := Lib.hid need_no
  have HY := Lib.hid need_yes
  have h4 : (4 : Int) ≤ (s.size : Int) := by omega
  have hsx : (s.extract 4 s.size).size ≤ maxLen := by unfold maxLen; simp; omega
  have hq1 := fun w => Hh.Sum_any (s.extract 4 s.size) w hsx
  have hq2 : (Dg.sum (s.extract 4 s.size).data.toList).size = 32 := Dg.sum_size _
  have hq3 : dgOk s ↔ ((Dg.sum (s.extract 4 s.size).data.toList).extract 0 4).toList = (s.extract 0 4).toList := by
    unfold dgOk
    exact ⟨fun h => by rw [h], fun h => by rwa [ByteArray.toList_eq, ByteArray.toList_eq, Array.toList_inj, ← ByteArray.ext_iff] at h⟩
  obtain ⟨SM, hSM⟩ : ∃ z, Dg.sum (s.extract 4 s.size).data.toList = z := ⟨_, rfl⟩
  rw [hSM] at hq2 hq3
  simp only [hSM] at hq1
  have HS := Lib.hid hq1
  have HQ := Lib.hid hq3
  clear hsx hq1 hq3 hSM
  have y4 := by_at s 4 (by omega)
  have y5 := by_at s 5 (by omega)
  have b4 := by_lt s 4
  have b5 := by_lt s 5
  obtain ⟨k, hk⟩ : ∃ k, by_ s 4 = k := ⟨_, rfl⟩
  obtain ⟨m, hm'⟩ : ∃ m, by_ s 5 = m := ⟨_, rfl⟩
  rw [hk] at y4 b4 H1
  rw [hm'] at y5 b5 H2
  have HK := Lib.hid hk
  have HM := Lib.hid hm'
  clear hk hm'
  have HH := Lib.hid H1
  clear H1
  have hd1 : ((SM.extract 0 4).toList == (s.extract 0 4).toList) = false := by rw [← Bool.not_eq_true, beq_iff_eq]; exact fun h => hd (HQ.out.2 h)
  clear hd
  go_enter Try.func29, Try.ntmps29
  go_wp2_with fail
  refine (HY.out _ _).mono ?_
  rintro e w1 ⟨rfl, rfl⟩
  go_wp2_with fail
  go_quiet (fail)
  have hk3 : ¬ ((k : Int) = 2) := by have := HH.out; omega
  have hm4 : (4 : Int) < (m : Int) := by omega
  go_wp2_with fail
  refine (HY.out _ _).mono ?_
  rintro e w1 ⟨rfl, rfl⟩
  go_wp2_with fail
  go_region_dies
  all_goals
    rename_i K0 K1 hK1
    refine (HS.out _).mono ?_
    rintro e w2 ⟨rfl, hb2⟩
    refine hK1 _ _ ?_
    clear hK1
    refine wpAny_ready (rs := [3]) (by kernel_rfl) (by simp) ?_
    refine AllReady.cons rfl (fun K hK => ?_) AllReady.nil
    go_simp
    refine hK _ _ ?_
    clear hK K
    refine wpAny_ready (rs := [6]) (by kernel_rfl) (by simp) ?_
    refine AllReady.cons rfl (fun K hK => ?_) AllReady.nil
    go_simp
    refine hK _ _ ?_
    clear hK K
    refine wpAny_ready (rs := [7]) (by kernel_rfl) (by simp) ?_
    refine AllReady.cons rfl (fun K hK => ?_) AllReady.nil
    go_simp
    refine (HN.out _ _).mono ?_
    rintro e w3 ⟨rfl, rfl⟩
    simp only [bodyPost]
    exact ⟨trivial, DecR.stop (stop_zero s HG.out) (dec_below hb2)⟩
end Go.Proofs.Ytdkfniijoamaoac.Ga
