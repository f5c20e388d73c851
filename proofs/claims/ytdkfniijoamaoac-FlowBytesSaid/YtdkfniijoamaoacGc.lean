/-
  A packet: its cells, when it is valid.
-/
import Derived.Test.YtdkfniijoamaoacGb
import Derived.Test.YtdkfniijoamaoacFe
import Derived.Test.YtdkfniijoamaoacHe
namespace Go.Proofs.Ytdkfniijoamaoac.Ga
open Go Go.RowKit Go.Proofs.Ytdkfniijoamaoac.Hz Go.Proofs.Ytdkfniijoamaoac.Ob

/-- a packet -/
structure Seg where
  kind : Int
  conn : Int
  seq : Int
  ack : Int
  win : Int
  marks : ByteArray
  body : ByteArray
  time : Int
  late : Int
def Seg.cells (p : Seg) : Array Value := #[.int .i64 p.kind, .int .i64 p.conn, .int .i64 p.seq, .int .i64 p.ack, .int .i64 p.win, .string p.marks, .string p.body, .int .i64 p.time, .int .i64 p.late]
/-- a valid one -/
structure Seg.ok (p : Seg) : Prop where
  k1 : 1 ≤ p.kind
  k2 : p.kind ≤ 5
  c1 : 0 ≤ p.conn
  c2 : p.conn ≤ 65535
  s1 : 0 ≤ p.seq
  s2 : p.seq ≤ 65535
  a1 : 0 ≤ p.ack
  a2 : p.ack ≤ 65535
  w1 : 0 ≤ p.win
  w2 : p.win ≤ 1000000
  t1 : 0 ≤ p.time
  t2 : p.time ≤ 4294967295
  l1 : 0 ≤ p.late
  l2 : p.late ≤ 4294967295
  m : p.marks.size ≤ 4
  b : p.body.size ≤ 1400
  bk : (!p.body.toList.isEmpty) = (p.kind == 2)

set_option maxHeartbeats 400000 in
theorem within_y (n a b : Int) (w : World) (h1 : a ≤ n) (h2 : n ≤ b) : Calls Try.prog 23 #[.int .i64 n, .int .i64 a, .int .i64 b] w fun e w' => e = .returned (.bool true) ∧ w = w' := by
  go_enter Try.func23, Try.ntmps23
  go_wp2
  go_ret
  exact ⟨by simp [h1, h2], rfl⟩
set_option maxHeartbeats 400000 in
theorem isNumber_y (n : Int) (w : World) (h1 : 0 ≤ n) (h2 : n ≤ 65535) : Calls Try.prog 24 #[.int .i64 n] w fun e w' => e = .returned (.bool true) ∧ w = w' := by
  go_enter Try.func24, Try.ntmps24
  go_wp2_with fail
  refine (within_y _ _ _ _ h1 h2).mono ?_
  rintro e w1 ⟨rfl, rfl⟩
  go_wp2
  go_ret
  exact ⟨rfl, rfl⟩

set_option maxHeartbeats 1600000 in
theorem Valid_yes (p : Seg) (w : World) (h : p.ok) : Calls Try.prog 8 #[.agg p.cells] w fun e w' => e = .returned (.bool true) ∧ Below w.heap.size w w' := by
  obtain ⟨k1, k2, c1, c2, s1, s2, a1, a2, w1, w2, t1, t2, l1, l2, m, b, bk⟩ := h
  obtain ⟨kind, conn, seq, ack, win, marks, body, time, late⟩ := p
  simp only at k1 k2 c1 c2 s1 s2 a1 a2 w1 w2 t1 t2 l1 l2 m b bk
  unfold Seg.cells
  go_enter Try.func8, Try.ntmps8
  go_wp2_with fail
  refine (within_y _ _ _ _ k1 k2).mono ?_
  rintro e w1 ⟨rfl, rfl⟩
  go_wp2_with fail
  refine (isNumber_y _ _ c1 c2).mono ?_
  rintro e w1 ⟨rfl, rfl⟩
  go_wp2_with fail
  refine (isNumber_y _ _ s1 s2).mono ?_
  rintro e w1 ⟨rfl, rfl⟩
  go_wp2_with fail
  refine (isNumber_y _ _ a1 a2).mono ?_
  rintro e w1 ⟨rfl, rfl⟩
  go_wp2_with fail
  refine (within_y _ _ _ _ w1 w2).mono ?_
  rintro e w1 ⟨rfl, rfl⟩
  go_wp2_with fail
  refine (within_y _ _ _ _ t1 t2).mono ?_
  rintro e w1 ⟨rfl, rfl⟩
  go_wp2_with fail
  refine (within_y _ _ _ _ l1 l2).mono ?_
  rintro e w1 ⟨rfl, rfl⟩
  go_wp2
  go_ret
  exact ⟨rfl, (Below.refl _ _).alloc (Nat.le_refl _) _⟩
end Go.Proofs.Ytdkfniijoamaoac.Ga
