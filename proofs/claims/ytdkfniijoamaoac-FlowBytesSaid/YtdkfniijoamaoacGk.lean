/-
  decode of any bytes; Decode.
-/
import Derived.Test.YtdkfniijoamaoacGj
import Derived.Test.YtdkfniijoamaoacGg
import Derived.WalkLawsBesides
import Derived.Outline
import Derived.Defers
import Derived.Recover
import Derived.Laws.Pointers
namespace Go.Proofs.Ytdkfniijoamaoac.Ga
open Go Go.RowKit Go.Proofs.Ytdkfniijoamaoac.Hz Go.Proofs.Ytdkfniijoamaoac.Ob

theorem short_R (s : ByteArray) (w : World) (h : (s.size : Int) < 24) : Calls Try.prog 29 #[.string s] w (DecR s w) :=
  (decode_short s w h).mono fun e w' ⟨he, hb⟩ => by subst he; exact DecR.stop ⟨by omega, by omega, fun h2 => by omega, fun g => by have := g.1; omega⟩ hb

theorem decode_any (s : ByteArray) (w : World) (hz : s.size ≤ 100000) : Calls Try.prog 29 #[.string s] w (DecR s w) := by
  by_cases h : (s.size : Int) < 24
  · exact short_R s w h
  have h24 : (24 : Int) ≤ (s.size : Int) := by omega
  by_cases hm : by_ s 5 ≤ 4
  · by_cases hf : (s.size : Int) < 24 + (by_ s 5 : Int)
    · exact decode_few1 s w h24 hz rfl hm hf
    by_cases hk : by_ s 4 = 2
    · by_cases hg : (s.size : Int) ≤ 24 + (by_ s 5 : Int)
      · exact decode_few2 s w h24 hz hk hm hg (by omega)
      by_cases hd : dgOk s
      · by_cases hw : (rd s 20 4 : Int) ≤ 1000000
        · by_cases hb : (s.size : Int) - (24 + (by_ s 5 : Int)) ≤ 1400
          · exact decode_y1 s w h24 hz hk hm (by omega) hw hb hd
          · exact decode_y1b s w h24 hz hk hm (by omega) hw (by omega) hd
        · exact decode_y1w s w h24 hz hk hm (by omega) (by omega) hd
      · exact decode_dg1 s w h24 hz hk hm (by omega) hd
    · by_cases hd : dgOk s
      · by_cases hk1 : 1 ≤ by_ s 4 ∧ by_ s 4 ≤ 5
        · by_cases hw : (rd s 20 4 : Int) ≤ 1000000
          · by_cases hg : (s.size : Int) ≤ 24 + (by_ s 5 : Int)
            · exact decode_y2 s w h24 hz hk hm (by omega) hg hk1.1 hk1.2 hw hd
            · exact decode_y2o s w h24 hz hk hm (by omega) hk1.1 hk1.2 hw hd
          · exact decode_y2w s w h24 hz hk hm (by omega) hk1.1 hk1.2 (by omega) hd
        · exact decode_k s w h24 hz hk hm (by omega) (by omega) hd
      · exact decode_dg2 s w h24 hz hk hm (by omega) hd
  · have hm4 : 4 < by_ s 5 := by omega
    by_cases hf : (s.size : Int) < 28
    · exact decode_few3 s w h24 hz rfl hm4 hf
    by_cases hk : by_ s 4 = 2
    · by_cases hg : (s.size : Int) ≤ 28
      · exact decode_few4 s w h24 hz hk hm4 hg (by omega)
      by_cases hd : dgOk s
      · exact decode_m1 s w h24 hz hk hm4 (by omega) hd
      · exact decode_dg3 s w h24 hz hk hm4 (by omega) hd
    · by_cases hd : dgOk s
      · by_cases hk1 : 1 ≤ by_ s 4 ∧ by_ s 4 ≤ 5
        · exact decode_m2 s w h24 hz hk hm4 (by omega) hk1.1 hk1.2 hd
        · exact decode_kf s w h24 hz hk hm4 (by omega) (by omega) hd
      · exact decode_dg4 s w h24 hz hk hm4 (by omega) hd

def zseg : Array Value := #[.int .i64 0, .int .i64 0, .int .i64 0, .int .i64 0, .int .i64 0, .string ⟨#[]⟩, .string ⟨#[]⟩, .int .i64 0, .int .i64 0]

theorem catchD_idle (p q r : Addr) (w : World) :
    CallsD Try.prog 28 #[.pointer (some p), .pointer (some q), .pointer (some r)] .returning w fun e u' w' => e = .returned (.tuple #[]) ∧ u' = .returning ∧ w' = w := by
  refine callsD_of_wpS Try.func28 rfl fun c₀ cs hu => ?_
  apply wpS_seq
  apply wpS_region
  simp [wpOpsS, go_sem, recoverD, hu, Try.ntmps28, Exit.thenS]
  refine wpS_of_wp ?_
  have e : (#[Value.pointer (some p), Value.pointer (some q), Value.pointer (some r)] ++ ((Array.replicate 15 undef).setIfInBounds 3 Value.nilIface).setIfInBounds 0 Value.nilIface) = #[.pointer (some p), .pointer (some q), .pointer (some r), .nilIface, undef, undef, .nilIface, undef, undef, undef, undef, undef, undef, undef, undef, undef, undef, undef] := rfl
  rw [e]
  clear e
  go_wp2
  cases c₀
  simp_all [bodyPostS, results, Try.results28]

set_option maxHeartbeats 1600000 in
theorem catchD_panicking (p q r : Nat) (k : Int) (older : List PanicEntry) (w : World) (vs : Array Value) (y z : Int) (hvs : vs.size = 9)
    (hp : ∀ i, i < 9 → w.cell? ⟨p, i, none⟩ = vs[i]?) (hq : w.cell? ⟨q, 0, none⟩ = some (.int .i64 y)) (hr : w.cell? ⟨r, 0, none⟩ = some (.int .i64 z))
    (fp : ∀ i, w.frozen? ⟨p, i, none⟩ = false) (fq : w.frozen? ⟨q, 0, none⟩ = false) (fr : w.frozen? ⟨r, 0, none⟩ = false) (h1 : p < q) (h2 : q < r) (h3 : r < w.heap.size) :
    CallsD Try.prog 28 #[.pointer (some ⟨p, 0, none⟩), .pointer (some ⟨q, 0, none⟩), .pointer (some ⟨r, 0, none⟩)] (.panicking ({ v := .iface 56 (.agg #[.int .i64 k]), recovered := false } :: older)) w fun e u' w' =>
      e = .returned (.tuple #[]) ∧ u' = .panicking ({ v := .iface 56 (.agg #[.int .i64 k]), recovered := true } :: older) ∧ Below p w w' ∧ (∀ i, i < 9 → w'.cell? ⟨p, i, none⟩ = zseg[i]?) ∧ w'.cell? ⟨q, 0, none⟩ = some (.int .i64 k) ∧ w'.cell? ⟨r, 0, none⟩ = some (.int .i64 12) := by
  have hta : ∀ w, (Instr.typeAssert (.iface 56 (.agg #[.int .i64 k])) 20 56 true).run Try.prog w = .ok (.tuple #[.agg #[.int .i64 k], .bool true]) w := fun _ => by kernel_rfl
  have cc : ∀ i, i < 9 → ∃ v, w.cell? ⟨p, i, none⟩ = some v := fun i hi => ⟨vs[i]'(by omega), by rw [hp i hi]; simp [hvs, hi]⟩
  obtain ⟨v0, c0⟩ := cc 0 (by omega)
  obtain ⟨v1, c1⟩ := cc 1 (by omega)
  obtain ⟨v2, c2⟩ := cc 2 (by omega)
  obtain ⟨v3, c3⟩ := cc 3 (by omega)
  obtain ⟨v4, c4⟩ := cc 4 (by omega)
  obtain ⟨v5, c5⟩ := cc 5 (by omega)
  obtain ⟨v6, c6⟩ := cc 6 (by omega)
  obtain ⟨v7, c7⟩ := cc 7 (by omega)
  obtain ⟨v8, c8⟩ := cc 8 (by omega)
  have f0 := fp 0
  have f1 := fp 1
  have f2 := fp 2
  have f3 := fp 3
  have f4 := fp 4
  have f5 := fp 5
  have f6 := fp 6
  have f7 := fp 7
  have f8 := fp 8
  clear fp hp cc
  have n1 : p ≠ q := by omega
  have n2 : q ≠ r := by omega
  have n3 : p ≠ r := by omega
  have n4 : q ≠ p := by omega
  have n5 : r ≠ q := by omega
  have n6 : r ≠ p := by omega
  have n7 : q < w.heap.size := by omega
  have n8 : p < w.heap.size := by omega
  refine callsD_of_wpS Try.func28 rfl fun c₀ cs hu => ?_
  apply wpS_seq
  apply wpS_region
  simp [wpOpsS, go_sem, recoverD, hu, Try.ntmps28, Exit.thenS]
  refine wpS_of_wp ?_
  have e : (#[Value.pointer (some ⟨p, 0, none⟩), Value.pointer (some ⟨q, 0, none⟩), Value.pointer (some ⟨r, 0, none⟩)] ++ ((Array.replicate 15 undef).setIfInBounds 3 (Value.iface 56 (Value.agg #[Value.int IntKind.i64 k]))).setIfInBounds 0 (Value.iface 56 (Value.agg #[Value.int IntKind.i64 k]))) = #[.pointer (some ⟨p, 0, none⟩), .pointer (some ⟨q, 0, none⟩), .pointer (some ⟨r, 0, none⟩), .iface 56 (.agg #[.int .i64 k]), undef, undef, .iface 56 (.agg #[.int .i64 k]), undef, undef, undef, undef, undef, undef, undef, undef, undef, undef, undef] := rfl
  rw [e]
  clear e
  go_wp2
  simp [bodyPostS, results, Try.results28]
  refine ⟨?_, ?_, ?_, ?_⟩
  · exact ((((set9 (Nat.le_refl _) (Below.refl p w)).setCell (Nat.le_of_lt h1) _).setCell (by show p ≤ r; omega) _).setCell (Nat.le_of_lt h1) _).alloc (by simp; omega) _
  · intro i hi
    obtain rfl | rfl | rfl | rfl | rfl | rfl | rfl | rfl | rfl : i = 0 ∨ i = 1 ∨ i = 2 ∨ i = 3 ∨ i = 4 ∨ i = 5 ∨ i = 6 ∨ i = 7 ∨ i = 8 := by omega
    all_goals simp [go_sem, zseg, c0, c1, c2, c3, c4, c5, c6, c7, c8, n4, n6, n8]
  · simp [go_sem, n7]
    refine World.cell?_setCell_same _ _ _ (u := .int .i64 0) ?_
    simp [go_sem, n2]
    exact World.cell?_setCell_same _ _ _ (u := .int .i64 y) (by simp [go_sem, n1, hq])
  · simp [go_sem, hr, n2, n3, h3]

def DecZ (s : ByteArray) (w : World) (e : Ending) (w' : World) : Prop :=
  ((∃ a, e = .returned (.tuple #[.agg zseg, .int .i64 a, .int .i64 12]) ∧ StopAt s a) ∨ (∃ m, e = .returned (.tuple #[.agg (pk s m).cells, .int .i64 0, .int .i64 0]) ∧ (pk s m).ok ∧ 24 + m ≤ s.size ∧ by_ s 5 = m ∧ dgOk s)) ∧ Below w.heap.size w w'

set_option maxHeartbeats 1600000 in
theorem Decode_any (s : ByteArray) (w : World) (hz : s.size ≤ 50000) : Calls Try.prog 12 #[.string s] w (DecZ s w) := by
  have hmf : ∀ (fn : Fn) (first cap : Array Value) (w : World), (Instr.makeFunc fn first cap).run Try.prog w = .ok (.func fn first cap) w := fun _ _ _ _ => rfl
  have HD := Lib.hid (fun w => decode_any s w (by omega))
  go_enter_defers Try.func12, Try.ntmps12
  go_wp2_with fail
  refine (HD.out _).mono ?_
  rintro e w1 ⟨h, hb⟩
  have cz : ∀ i, i < 9 → w1.cell? ⟨w.heap.size, i, none⟩ = zseg[i]? := by
    intro i hi
    rw [hb.cell (by simp; omega)]
    obtain rfl | rfl | rfl | rfl | rfl | rfl | rfl | rfl | rfl : i = 0 ∨ i = 1 ∨ i = 2 ∨ i = 3 ∨ i = 4 ∨ i = 5 ∨ i = 6 ∨ i = 7 ∨ i = 8 := by omega
    all_goals simp [go_sem, zseg]
  have fz : ∀ i, w1.frozen? ⟨w.heap.size, i, none⟩ = false := by
    intro i
    rw [hb.frozen (by simp; omega)]
    simp [go_sem]
  have cq : w1.cell? ⟨w.heap.size + 1, 0, none⟩ = some (.int .i64 0) := by rw [hb.cell (by simp)]; simp [go_sem]
  have fq : w1.frozen? ⟨w.heap.size + 1, 0, none⟩ = false := by rw [hb.frozen (by simp)]; simp [go_sem]
  have cr : w1.cell? ⟨w.heap.size + 1 + 1, 0, none⟩ = some (.int .i64 0) := by rw [hb.cell (by simp)]; simp [go_sem]
  have fr : w1.frozen? ⟨w.heap.size + 1 + 1, 0, none⟩ = false := by rw [hb.frozen (by simp)]; simp [go_sem]
  have hs3 : w.heap.size + 3 ≤ w1.heap.size := by have := hb.size; simp at this; omega
  have hbw : Below w.heap.size w w1 := ((((Below.refl w.heap.size w).alloc (Nat.le_refl _) _).alloc (by simp) _).alloc (by simp; omega) _).trans (hb.mono (by simp; omega))
  rcases h with ⟨a, rfl, hst⟩ | ⟨m, rfl, hok⟩
  · refine leaves_cons (f := 28) (args := #[.pointer (some ⟨w.heap.size, 0, none⟩), .pointer (some ⟨w.heap.size + 1, 0, none⟩), .pointer (some ⟨w.heap.size + 1 + 1, 0, none⟩)]) (by simp) (by simp [go_sem]) ?_
    refine (catchD_panicking _ _ _ a [] _ zseg 0 0 rfl cz cq cr fz fq fr (by omega) (by omega) (by omega)).mono ?_
    rintro e u' w2 ⟨rfl, rfl, hb2, hz2, hq2, hr2⟩
    have z0 := hz2 0 (by omega)
    have z1 := hz2 1 (by omega)
    have z2 := hz2 2 (by omega)
    have z3 := hz2 3 (by omega)
    have z4 := hz2 4 (by omega)
    have z5 := hz2 5 (by omega)
    have z6 := hz2 6 (by omega)
    have z7 := hz2 7 (by omega)
    have z8 := hz2 8 (by omega)
    simp only [zseg] at z0 z1 z2 z3 z4 z5 z6 z7 z8
    simp [Leaves, settle, results, Try.results12, go_sem, z0, z1, z2, z3, z4, z5, z6, z7, z8, hq2, hr2]
    exact ⟨.inl ⟨a, rfl, hst⟩, hbw.trans (hb2.mono (Nat.le_refl _))⟩
  · obtain ⟨c0, c1, c2, c3, c4, c5, c6, c7, c8⟩ : _ ∧ _ ∧ _ ∧ _ ∧ _ ∧ _ ∧ _ ∧ _ ∧ _ := ⟨cz 0 (by omega), cz 1 (by omega), cz 2 (by omega), cz 3 (by omega), cz 4 (by omega), cz 5 (by omega), cz 6 (by omega), cz 7 (by omega), cz 8 (by omega)⟩
    simp only [zseg] at c0 c1 c2 c3 c4 c5 c6 c7 c8
    have f0 := fz 0
    have f1 := fz 1
    have f2 := fz 2
    have f3 := fz 3
    have f4 := fz 4
    have f5 := fz 5
    have f6 := fz 6
    have f7 := fz 7
    have f8 := fz 8
    clear cz fz
    have g1 : w.heap.size < w1.heap.size := by omega
    have g2 : w.heap.size + 1 < w1.heap.size := by omega
    have g3 : w.heap.size + 1 + 1 < w1.heap.size := by omega
    have HO := Lib.hid hok
    clear hok
    obtain ⟨P, hP⟩ : ∃ P, pk s m = P := ⟨_, rfl⟩
    have HP := Lib.hid hP
    rw [hP]
    clear hP
    obtain ⟨kind, conn, seq, ack, win, marks, body, time, late⟩ := P
    unfold Seg.cells
    go_wp2
    refine leaves_cons (f := 28) (args := #[.pointer (some ⟨w.heap.size, 0, none⟩), .pointer (some ⟨w.heap.size + 1, 0, none⟩), .pointer (some ⟨w.heap.size + 1 + 1, 0, none⟩)]) (by simp) (by simp [go_sem]) ?_
    refine (catchD_idle _ _ _ _).mono ?_
    rintro e u' w2 ⟨rfl, rfl, rfl⟩
    simp [Leaves, settle, results, Try.results12, go_sem, c0, c1, c2, c3, c4, c5, c6, c7, c8, cq, cr]
    refine ⟨.inr ⟨m, ?_, HO.out⟩, ?_⟩
    · rw [HP.out]; rfl
    · exact ((set9 (Nat.le_refl _) hbw).setCell (by show w.heap.size ≤ w.heap.size + 1; omega) _).setCell (by show w.heap.size ≤ w.heap.size + 1 + 1; omega) _
end Go.Proofs.Ytdkfniijoamaoac.Ga
