/-
  Encode: a valid packet is written.
-/
import Derived.Test.YtdkfniijoamaoacGc
import Derived.Test.YtdkfniijoamaoacFb
import Derived.Laws.BytesArg
namespace Go.Proofs.Ytdkfniijoamaoac.Ga
open Go Go.RowKit Go.Proofs.Ytdkfniijoamaoac.Hz Go.Proofs.Ytdkfniijoamaoac.Ob

/-- the first bytes of a packet behind its digest -/
def Seg.head (p : Seg) : List Int := [p.kind % 256, (p.marks.size : Int)] ++ pb p.conn 2 2 ++ pb p.seq 2 2 ++ pb p.ack 2 2 ++ pb p.time 4 4 ++ pb p.late 4 4 ++ pb p.win 4 4

/-- what a packet is written as, behind its digest, and whole -/
def Seg.rest (p : Seg) : ByteArray := strOfNums p.head ++ p.marks ++ p.body
def Seg.enc (p : Seg) : ByteArray := (Dg.sum p.rest.data.toList).extract 0 4 ++ p.rest

theorem OB_new (W : World) (base n : Nat) (xs : List Int) (c : Array Value) (hc : c = (cB xs).toArray) (hn : xs.length = n) (hb : base ≤ W.heap.size) (hm : n ≤ 1000) :
    OB (W.alloc (.cells c 5)) base (.slice (some ⟨W.heap.size, 0, none⟩) n n) xs := by
  subst hn
  refine ⟨by simp [cB_len], .inr ⟨W.heap.size, xs.length, c, rfl, hb, heap_alloc_new _ _, Nat.le_refl _, by unfold maxLen; omega, by rw [hc]; simp [cB_len], ?_⟩⟩
  rw [hc, Nat.mul_one, ← cB_len xs]
  simp

theorem conv_OB {W : World} {base : Nat} {v : Value} {xs : List Int} (h : OB W base v xs) (h0 : 0 < xs.length) :
    (convert 33 9 v).run Try.prog W = .ok (.string (strOfNums xs)) W := by
  obtain ⟨h1, ⟨rfl, h2⟩ | ⟨g, cap, cur, rfl, hb, hh, hn, hc, hz, ht⟩⟩ := h
  · omega
  · refine run_convert_bytes_arg (P := Try.prog) _ 33 5 Try.underlying33 Try.underlying5 g 0 xs.length cap xs rfl (fun i hi => ?_) 9 Try.underlying9
    rw [Nat.zero_add, cell_of_row _ _ _ _ _ _ hh]
    have e : cur.toList[i]? = (cB xs)[i]? := by rw [← ht, List.getElem?_take_of_lt (by omega)]
    rw [← Array.getElem?_toList, e]
    simp [cB, List.getD, hi]

theorem Kp.cell {W W' : World} {v v' : Value} (h : Kp W W' v v') (k i : Nat) (hk : k < W.heap.size) (hne : v.ownBlock ≠ some k) : W'.cell? ⟨k, i, none⟩ = W.cell? ⟨k, i, none⟩ :=
  World.cell?_of_block (a := ⟨k, i, none⟩) (h.2.1 k hk hne)

set_option maxRecDepth 100000 in
set_option maxHeartbeats 3200000 in
theorem EncodeF_yes (pp : Nat) (p : Seg) (w : World) (h : p.ok) (t : TypeId) (hp : w.heap[pp]? = some (.cells p.cells t (0, 0))) :
    Calls Try.prog 19 #[.pointer (some ⟨pp, 0, none⟩)] w fun e w' => ∃ s, e = .returned (.string s) ∧ s = p.enc ∧ Below w.heap.size w w' := by
  have HV := Lib.hid (fun w => Valid_yes p w h)
  obtain ⟨kind, conn, seq, ack, win, marks, body, time, late⟩ := p
  unfold Seg.cells at hp
  have d0 : w.cell? ⟨pp, 0, none⟩ = some (.int .i64 kind) := by simp [World.cell?, hp]
  have d1 : w.cell? ⟨pp, 1, none⟩ = some (.int .i64 conn) := by simp [World.cell?, hp]
  have d2 : w.cell? ⟨pp, 2, none⟩ = some (.int .i64 seq) := by simp [World.cell?, hp]
  have d3 : w.cell? ⟨pp, 3, none⟩ = some (.int .i64 ack) := by simp [World.cell?, hp]
  have d4 : w.cell? ⟨pp, 4, none⟩ = some (.int .i64 win) := by simp [World.cell?, hp]
  have d5 : w.cell? ⟨pp, 5, none⟩ = some (.string marks) := by simp [World.cell?, hp]
  have d6 : w.cell? ⟨pp, 6, none⟩ = some (.string body) := by simp [World.cell?, hp]
  have d7 : w.cell? ⟨pp, 7, none⟩ = some (.int .i64 time) := by simp [World.cell?, hp]
  have d8 : w.cell? ⟨pp, 8, none⟩ = some (.int .i64 late) := by simp [World.cell?, hp]
  have hm := h.m
  have hbd := h.b
  unfold Seg.cells at HV
  simp only at hm hbd HV
  go_enter Try.func19, Try.ntmps19
  go_wp2_with fail
  refine (HV.out _).mono ?_
  rintro e w1 ⟨rfl, hb1⟩
  have r0 := kcell hb1 d0
  have r5 := kcell hb1 d5
  have a1 := acell (.cells #[.int .u8 (kind % 256), .int .u8 marks.size] 5) (kcell hb1 d1)
  have a2 := acell (.cells #[.int .u8 (kind % 256), .int .u8 marks.size] 5) (kcell hb1 d2)
  have a3 := acell (.cells #[.int .u8 (kind % 256), .int .u8 marks.size] 5) (kcell hb1 d3)
  have a4 := acell (.cells #[.int .u8 (kind % 256), .int .u8 marks.size] 5) (kcell hb1 d4)
  have a5 := acell (.cells #[.int .u8 (kind % 256), .int .u8 marks.size] 5) (kcell hb1 d5)
  have a6 := acell (.cells #[.int .u8 (kind % 256), .int .u8 marks.size] 5) (kcell hb1 d6)
  have a7 := acell (.cells #[.int .u8 (kind % 256), .int .u8 marks.size] 5) (kcell hb1 d7)
  have a8 := acell (.cells #[.int .u8 (kind % 256), .int .u8 marks.size] 5) (kcell hb1 d8)
  go_wp2_with fail
  refine (Fb.refuse_no _ _).mono ?_
  rintro e w2 ⟨rfl, rfl⟩
  go_wp2_with fail
  refine wp_loop_rounds 4 ?_
  rw [rounds_succ]
  go_wp2_with fail
  have hpp : Below w.heap.size w ((w1.alloc (.cells #[.int .u8 (kind % 256), .int .u8 marks.size] 5)).alloc (.cells #[.int .i64 conn, .int .i64 seq, .int .i64 ack] 3)) := (hb1.alloc hb1.size _).alloc (by have := hb1.size; simp; omega) _
  have ho3 : OB ((w1.alloc (.cells #[.int .u8 (kind % 256), .int .u8 marks.size] 5)).alloc (.cells #[.int .i64 conn, .int .i64 seq, .int .i64 ack] 3)) w.heap.size (.slice (some ⟨w1.heap.size, 0, none⟩) 2 2) [kind % 256, (marks.size : Int)] := OB.alloc_ (OB_new w1 w.heap.size 2 _ _ rfl rfl hb1.size (by omega)) _
  have hi0 : ((w1.alloc (.cells #[.int .u8 (kind % 256), .int .u8 marks.size] 5)).alloc (.cells #[.int .i64 conn, .int .i64 seq, .int .i64 ack] 3)).cell? ⟨w1.heap.size + 1, 0, none⟩ = some (.int .i64 conn) := by simp [go_sem]
  have hi1 : ((w1.alloc (.cells #[.int .u8 (kind % 256), .int .u8 marks.size] 5)).alloc (.cells #[.int .i64 conn, .int .i64 seq, .int .i64 ack] 3)).cell? ⟨w1.heap.size + 1, 1, none⟩ = some (.int .i64 seq) := by simp [go_sem]
  have hi2 : ((w1.alloc (.cells #[.int .u8 (kind % 256), .int .u8 marks.size] 5)).alloc (.cells #[.int .i64 conn, .int .i64 seq, .int .i64 ack] 3)).cell? ⟨w1.heap.size + 1, 2, none⟩ = some (.int .i64 ack) := by simp [go_sem]
  have hbs3 : w.heap.size ≤ ((w1.alloc (.cells #[.int .u8 (kind % 256), .int .u8 marks.size] 5)).alloc (.cells #[.int .i64 conn, .int .i64 seq, .int .i64 ack] 3)).heap.size := hpp.size
  have hg2 : w1.heap.size + 1 < ((w1.alloc (.cells #[.int .u8 (kind % 256), .int .u8 marks.size] 5)).alloc (.cells #[.int .i64 conn, .int .i64 seq, .int .i64 ack] 3)).heap.size := by simp
  have hne2 : (Value.slice (some ⟨w1.heap.size, 0, none⟩) 2 2).ownBlock ≠ some (w1.heap.size + 1) := by simp [Value.ownBlock]
  refine (put_any conn 2 _ _ w.heap.size w _ (by omega) (by simp) ho3 hpp hbs3).mono ?_
  rintro e w4 ⟨v1, rfl, ho4, hb4, hs4, hk4⟩
  have j1 := (hk4.cell _ 1 hg2 hne2).trans hi1
  have HK4 := Lib.hid hk4
  clear hk4 ho3 a1 a2 a3 a4 a5 a6 a7 a8 hpp hbs3
  go_wp2_with fail
  rw [rounds_succ]
  go_wp2_with fail
  refine (put_any seq 2 _ _ w.heap.size w _ (by omega) (by simp [pb_len]) ho4 hb4 hs4).mono ?_
  rintro e w5 ⟨v2, rfl, ho5, hb5, hs5, hk5⟩
  have j2 := ((HK4.out.trans hk5).cell _ 2 hg2 hne2).trans hi2
  have HK5 := Lib.hid (HK4.out.trans hk5)
  clear hk5 ho4 hb4 hs4 HK4 j1
  go_wp2_with fail
  rw [rounds_succ]
  go_wp2_with fail
  refine (put_any ack 2 _ _ w.heap.size w _ (by omega) (by simp [pb_len]) ho5 hb5 hs5).mono ?_
  rintro e w6 ⟨v3, rfl, ho6, hb6, hs6, _⟩
  clear ho5 hb5 hs5 HK5 j2 hi0 hi1 hi2 hg2 hne2
  have r7 := kcell hb6 d7
  have r8 := kcell hb6 d8
  have r4 := kcell hb6 d4
  have r5 := kcell hb6 d5
  have r6 := kcell hb6 d6
  have hne3 : v3.ownBlock ≠ some w6.heap.size := fun e => by have := (World.ownsRow.lt (n := _) ho6 _ e).2; omega
  have hb7 : Below w.heap.size w (w6.alloc (.cells #[.int .i64 time, .int .i64 late, .int .i64 win] 3)) := hb6.alloc hs6 _
  have ho7 := OB.alloc_ ho6 (.cells #[.int .i64 time, .int .i64 late, .int .i64 win] 3)
  have hi0 : (w6.alloc (.cells #[.int .i64 time, .int .i64 late, .int .i64 win] 3)).cell? ⟨w6.heap.size, 0, none⟩ = some (.int .i64 time) := by simp [go_sem]
  have hi1 : (w6.alloc (.cells #[.int .i64 time, .int .i64 late, .int .i64 win] 3)).cell? ⟨w6.heap.size, 1, none⟩ = some (.int .i64 late) := by simp [go_sem]
  have hi2 : (w6.alloc (.cells #[.int .i64 time, .int .i64 late, .int .i64 win] 3)).cell? ⟨w6.heap.size, 2, none⟩ = some (.int .i64 win) := by simp [go_sem]
  have hg3 : w6.heap.size < (w6.alloc (.cells #[.int .i64 time, .int .i64 late, .int .i64 win] 3)).heap.size := by simp
  have hs7 : w.heap.size ≤ (w6.alloc (.cells #[.int .i64 time, .int .i64 late, .int .i64 win] 3)).heap.size := by simp; omega
  clear ho6 hb6 hs6
  go_wp2_with fail
  rw [rounds_succ]
  go_wp2_with fail
  refine wp_loop_rounds 4 ?_
  rw [rounds_succ]
  go_wp2_with fail
  refine (put_any time 4 _ _ w.heap.size w _ (by omega) (by simp [pb_len]) ho7 hb7 hs7).mono ?_
  rintro e w8 ⟨v4, rfl, ho8, hb8, hs8, hk8⟩
  have j1 := (hk8.cell _ 1 hg3 hne3).trans hi1
  have HK8 := Lib.hid hk8
  clear hk8 ho7 hb7 hs7 r4 r5 r6 r7 r8
  go_wp2_with fail
  rw [rounds_succ]
  go_wp2_with fail
  refine (put_any late 4 _ _ w.heap.size w _ (by omega) (by simp [pb_len]) ho8 hb8 hs8).mono ?_
  rintro e w9 ⟨v5, rfl, ho9, hb9, hs9, hk9⟩
  have j2 := ((HK8.out.trans hk9).cell _ 2 hg3 hne3).trans hi2
  clear hk9 ho8 hb8 hs8 HK8 j1
  go_wp2_with fail
  rw [rounds_succ]
  go_wp2_with fail
  refine (put_any win 4 _ _ w.heap.size w _ (by omega) (by simp [pb_len]) ho9 hb9 hs9).mono ?_
  rintro e w10 ⟨v6, rfl, ho, hb, hs, _⟩
  clear ho9 hb9 hs9 j2 hi0 hi1 hi2 hg3 hne3
  have r5 := kcell hb d5
  have r6 := kcell hb d6
  go_wp2_with fail
  rw [rounds_succ]
  go_wp2_with fail
  have hcv := conv_OB ho (by simp [pb_len])
  obtain ⟨HD, hHD⟩ : ∃ z, strOfNums ([kind % 256, (marks.size : Int)] ++ pb conn 2 2 ++ pb seq 2 2 ++ pb ack 2 2 ++ pb time 4 4 ++ pb late 4 4 ++ pb win 4 4) = z := ⟨_, rfl⟩
  have hsz : HD.size = 20 := by rw [← hHD, strOfNums_size]; simp [pb_len]
  rw [hHD] at hcv
  rw [hcv]
  clear ho hcv
  have he : Seg.enc ⟨kind, conn, seq, ack, win, marks, body, time, late⟩ = (Dg.sum (HD ++ marks ++ body).data.toList).extract 0 4 ++ (HD ++ marks ++ body) := by rw [← hHD]; rfl
  have HE := Lib.hid he
  clear hHD he
  go_wp2_with fail
  refine (Hh.Sum_any (HD ++ marks ++ body) _ (by unfold maxLen; simp; omega)).mono ?_
  rintro e w11 ⟨rfl, hb11⟩
  have hs32 : (Dg.sum (HD ++ marks ++ body).data.toList).size = 32 := Dg.sum_size _
  obtain ⟨SM, hSM⟩ : ∃ z, Dg.sum (HD ++ marks ++ body).data.toList = z := ⟨_, rfl⟩
  rw [hSM] at hs32 ⊢
  have HE2 := Lib.hid (HE.out.trans (by rw [hSM]))
  clear HE hSM
  go_wp2
  go_ret
  exact ⟨_, rfl, HE2.out.symm, hb.trans (hb11.mono hs)⟩
end Go.Proofs.Ytdkfniijoamaoac.Ga
