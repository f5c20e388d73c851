/-
  The reference's search in memory, and its methods where nothing is found yet, at the time 0.
-/
import Derived.Test.YtjoejaclnijacaaPu
namespace Go.Proofs.Ytjoejaclnijacaa.Ps
open Go Go.RowKit Go.Proofs.Ytjoejaclnijacaa.Sx Go.Proofs.Ytjoejaclnijacaa.Pm

/-- block c is the reference's search -/
def Rb (W : World) (c : Nat) (l h f : Int) (b : Bool) (s t z q k m : Int) : Prop := W.heap[c]? = some (.cells #[.int .i64 l, .int .i64 h, .int .i64 f, .bool b, .int .i64 s, .int .i64 t, .int .i64 z, .int .i64 q, .int .i64 k, .int .i64 m] 62 (0, 0))
section
variable {W : World} {c : Nat} {l h f : Int} {b : Bool} {s t z q k m : Int}
theorem Rb.lt (H : Rb W c l h f b s t z q k m) : c < W.heap.size := (Array.getElem?_eq_some_iff.1 H).1
theorem Rb.c0 (H : Rb W c l h f b s t z q k m) : W.cell? ⟨c, 0, none⟩ = some (.int .i64 l) := cell_at H rfl
theorem Rb.c1 (H : Rb W c l h f b s t z q k m) : W.cell? ⟨c, 1, none⟩ = some (.int .i64 h) := cell_at H rfl
theorem Rb.c2 (H : Rb W c l h f b s t z q k m) : W.cell? ⟨c, 2, none⟩ = some (.int .i64 f) := cell_at H rfl
theorem Rb.c3 (H : Rb W c l h f b s t z q k m) : W.cell? ⟨c, 3, none⟩ = some (.bool b) := cell_at H rfl
theorem Rb.c4 (H : Rb W c l h f b s t z q k m) : W.cell? ⟨c, 4, none⟩ = some (.int .i64 s) := cell_at H rfl
theorem Rb.c5 (H : Rb W c l h f b s t z q k m) : W.cell? ⟨c, 5, none⟩ = some (.int .i64 t) := cell_at H rfl
theorem Rb.c6 (H : Rb W c l h f b s t z q k m) : W.cell? ⟨c, 6, none⟩ = some (.int .i64 z) := cell_at H rfl
theorem Rb.c7 (H : Rb W c l h f b s t z q k m) : W.cell? ⟨c, 7, none⟩ = some (.int .i64 q) := cell_at H rfl
theorem Rb.c8 (H : Rb W c l h f b s t z q k m) : W.cell? ⟨c, 8, none⟩ = some (.int .i64 k) := cell_at H rfl
theorem Rb.c9 (H : Rb W c l h f b s t z q k m) : W.cell? ⟨c, 9, none⟩ = some (.int .i64 m) := cell_at H rfl
theorem Rb.fz (H : Rb W c l h f b s t z q k m) (i : Nat) : W.frozen? ⟨c, i, none⟩ = false := frozen_at i H
theorem Rb.kept {W' : World} {row : Option Nat} (H : Rb W c l h f b s t z q k m) (hg : W.grownBy W' row) (hne : some c ≠ row) : Rb W' c l h f b s t z q k m := (hg.block c H.lt hne).trans H
theorem Rb.set0 (H : Rb W c l h f b s t z q k m) (x : Int) : Rb (W.setCell ⟨c, 0, none⟩ (.int .i64 x)) c x h f b s t z q k m := heap_setCell_same W c 0 _ _ (.int .i64 x) H
theorem Rb.set1 (H : Rb W c l h f b s t z q k m) (x : Int) : Rb (W.setCell ⟨c, 1, none⟩ (.int .i64 x)) c l x f b s t z q k m := heap_setCell_same W c 1 _ _ (.int .i64 x) H
theorem Rb.set2 (H : Rb W c l h f b s t z q k m) (x : Int) : Rb (W.setCell ⟨c, 2, none⟩ (.int .i64 x)) c l h x b s t z q k m := heap_setCell_same W c 2 _ _ (.int .i64 x) H
theorem Rb.set3 (H : Rb W c l h f b s t z q k m) (x : Bool) : Rb (W.setCell ⟨c, 3, none⟩ (.bool x)) c l h f x s t z q k m := heap_setCell_same W c 3 _ _ (.bool x) H
theorem Rb.set4 (H : Rb W c l h f b s t z q k m) (x : Int) : Rb (W.setCell ⟨c, 4, none⟩ (.int .i64 x)) c l h f b x t z q k m := heap_setCell_same W c 4 _ _ (.int .i64 x) H
theorem Rb.set5 (H : Rb W c l h f b s t z q k m) (x : Int) : Rb (W.setCell ⟨c, 5, none⟩ (.int .i64 x)) c l h f b s x z q k m := heap_setCell_same W c 5 _ _ (.int .i64 x) H
theorem Rb.set6 (H : Rb W c l h f b s t z q k m) (x : Int) : Rb (W.setCell ⟨c, 6, none⟩ (.int .i64 x)) c l h f b s t x q k m := heap_setCell_same W c 6 _ _ (.int .i64 x) H
theorem Rb.set7 (H : Rb W c l h f b s t z q k m) (x : Int) : Rb (W.setCell ⟨c, 7, none⟩ (.int .i64 x)) c l h f b s t z x k m := heap_setCell_same W c 7 _ _ (.int .i64 x) H
theorem Rb.set8 (H : Rb W c l h f b s t z q k m) (x : Int) : Rb (W.setCell ⟨c, 8, none⟩ (.int .i64 x)) c l h f b s t z q x m := heap_setCell_same W c 8 _ _ (.int .i64 x) H
theorem Rb.set9 (H : Rb W c l h f b s t z q k m) (x : Int) : Rb (W.setCell ⟨c, 9, none⟩ (.int .i64 x)) c l h f b s t z q k x := heap_setCell_same W c 9 _ _ (.int .i64 x) H
end

set_option maxHeartbeats 800000 in
theorem settle_f (c : Nat) (l h f : Int) (b : Bool) (s t z q k m : Int) (now : Int) (w : World) (H : Rb w c l h f b s t z q k m) (b1 : 0 ≤ l) (b2 : h ≤ 9000) (hc : 16 ≤ h - l) :
    Calls Try.prog 48 #[.pointer (some ⟨c, 0, none⟩), .int .i64 now] w fun e w' => e = .returned (.tuple #[]) ∧ Rb w' c l h f b s t z q k m ∧ w.grownBy w' none := by
  have c0 := H.c0
  have c1 := H.c1
  have ew := IntWalk.i64_in (h - l) (by omega)
  have d : decide (h - l < 16) = false := by simp; omega
  have HE := Lib.hid (fun i => show Rb (w.drewN i) c l h f b s t z q k m from H)
  clear H
  go_enter Try.func48, Try.ntmps48
  go_wp2_with fail
  go_quiet (fail)
  clear ew
  go_wp2
  go_end0
  exact ⟨rfl, HE.out _, gb_drew _ _ _⟩
set_option maxHeartbeats 800000 in
theorem settle_t (c : Nat) (l h f : Int) (b : Bool) (s t z q k m : Int) (now : Int) (w : World) (H : Rb w c l h f b s t z q k m) (b1 : 0 ≤ l) (b2 : h ≤ 9000) (b3 : -9000 ≤ h - l) (hc : h - l < 16) :
    Calls Try.prog 48 #[.pointer (some ⟨c, 0, none⟩), .int .i64 now] w fun e w' => e = .returned (.tuple #[]) ∧ Rb w' c l h f true now t z q k m ∧ w.grownBy w' (some c) := by
  have c0 := H.c0
  have c1 := H.c1
  have c3 := H.c3
  have c4 := H.c4
  have f3 := H.fz 3
  have f4 := H.fz 4
  have ew := IntWalk.i64_in (h - l) (by omega)
  have d : decide (h - l < 16) = true := by simpa using hc
  have HE := Lib.hid (fun i => show Rb (((w.drewN i).setCell ⟨c, 3, none⟩ (.bool true)).setCell ⟨c, 4, none⟩ (.int .i64 now)) c l h f true now t z q k m from (Rb.set3 (W := w.drewN i) H true).set4 now)
  have HG := Lib.hid (fun i => gb_trans (gb_trans (gb_drew w i (some c)) (gb_set (w.drewN i) c 3 (.bool true))) (gb_set ((w.drewN i).setCell ⟨c, 3, none⟩ (.bool true)) c 4 (.int .i64 now)))
  clear H
  go_enter Try.func48, Try.ntmps48
  go_wp2_with fail
  go_quiet (fail)
  clear ew
  go_wp2
  go_end0
  exact ⟨rfl, HE.out _, HG.out _⟩
/-- whether it is found -/
def fB (l h : Int) : Bool := decide (h - l < 16)
theorem settle_any (c : Nat) (l h f t z q k m : Int) (w : World) (H : Rb w c l h f false 0 t z q k m) (b1 : 0 ≤ l) (b2 : h ≤ 9000) (b3 : -9000 ≤ h - l) :
    Calls Try.prog 48 #[.pointer (some ⟨c, 0, none⟩), .int .i64 0] w fun e w' => e = .returned (.tuple #[]) ∧ Rb w' c l h f (fB l h) 0 t z q k m ∧ w.grownBy w' (some c) := by
  by_cases hc : h - l < 16
  · rw [show fB l h = true from by simpa [fB] using hc]; exact settle_t c l h f false 0 t z q k m 0 w H b1 b2 b3 hc
  · rw [show fB l h = false from by simpa [fB] using hc]; exact (settle_f c l h f false 0 t z q k m 0 w H b1 b2 (by omega)).mono fun e w' h => ⟨h.1, h.2.1, gb_none h.2.2 _⟩

set_option maxHeartbeats 800000 in
theorem RState_0 (c : Nat) (l h f s t z q k m : Int) (w : World) (H : Rb w c l h f false s t z q k m) :
    Calls Try.prog 31 #[.pointer (some ⟨c, 0, none⟩)] w fun e w' => e = .returned (.int .i64 0) ∧ w.grownBy w' none := by
  have c3 := H.c3
  clear H
  go_enter Try.func31, Try.ntmps31
  go_wp2
  go_ret
  exact ⟨rfl, gb_refl _ _⟩
set_option maxHeartbeats 800000 in
theorem RState_2 (c : Nat) (l h f z q k m : Int) (w : World) (H : Rb w c l h f true 0 0 z q k m) :
    Calls Try.prog 31 #[.pointer (some ⟨c, 0, none⟩)] w fun e w' => e = .returned (.int .i64 2) ∧ w.grownBy w' none := by
  have c3 := H.c3
  have c4 := H.c4
  have c5 := H.c5
  have ew : IntKind.i64.wrap (0 + 600000) = 600000 := by decide
  clear H
  go_enter Try.func31, Try.ntmps31
  go_wp2_with fail
  go_quiet (fail)
  clear ew
  go_wp2
  go_ret
  exact ⟨rfl, gb_drew _ _ _⟩

set_option maxRecDepth 100000 in
set_option maxHeartbeats 3200000 in
theorem RNext_go (c : Nat) (l h f q k m : Int) (w : World) (H : Rb w c l h f false 0 0 0 q k m) (b1 : 0 ≤ l) (b2 : h ≤ 9000) (hc : 16 ≤ h - l) (q1 : 0 ≤ q) (q2 : q ≤ 1000) :
    Calls Try.prog 32 #[.pointer (some ⟨c, 0, none⟩), .int .i64 0] w fun e w' => e = .returned (.tuple #[.int .i64 (mid l h), .int .i64 (q + 1), .int .i64 0]) ∧ Rb w' c l h f false 0 0 (mid l h) (q + 1) (nk (mid l h) m k) (mid l h) ∧ w.grownBy w' (some c) := by
  have c0 := H.c0
  have c1 := H.c1
  have c3 := H.c3
  have c5 := H.c5
  have c6 := H.c6
  have c7 := H.c7
  have c8 := H.c8
  have c9 := H.c9
  have f5 := H.fz 5
  have f6 := H.fz 6
  have f7 := H.fz 7
  have f8 := H.fz 8
  have f9 := H.fz 9
  obtain ⟨p, hp⟩ : ∃ p, mid l h = p := ⟨_, rfl⟩
  have hp1 : p ≤ 9000 := by rw [← hp]; exact Int.le_trans (mid_in (by omega)).2.1 (by omega)
  have hp0 : 0 ≤ p := by rw [← hp]; have := (mid_in (l := l) (h := h) (by omega)).1; omega
  have e0 := Lib.hid (show ((l + h + 1) / 2 : Int) = p from hp)
  rw [hp]
  have ew1 := Lib.hid (IntWalk.i64_in (l + h) (by omega))
  have ew2 := Lib.hid (IntWalk.i64_in (l + h + 1) (by omega))
  have ew3 := Lib.hid (show IntKind.i64.wrap ((l + h + 1).tdiv 2) = p from by rw [Int.tdiv_eq_ediv_of_nonneg (by omega), hp.symm]; exact IntWalk.i64_in _ (by have := (mid_in (l := l) (h := h) (by omega)); unfold mid at this; omega))
  have HH := Lib.hid H
  clear H hp
  have H5 := HH.out.set5 0
  have a0 := H5.c0
  have a1 := H5.c1
  have a6 := H5.c6
  have g6 := H5.fz 6
  have HE6 := Lib.hid (show Rb ((w.setCell ⟨c, 5, none⟩ (.int .i64 0)).setCell ⟨c, 6, none⟩ (.int .i64 p)).drew c l h f false 0 0 p q k m from H5.set6 p)
  have HG6 := Lib.hid (gb_trans (gb_trans (gb_set w c 5 (.int .i64 0)) (gb_set (w.setCell ⟨c, 5, none⟩ (.int .i64 0)) c 6 (.int .i64 p))) (gb_drew1 _ _))
  clear H5
  go_enter Try.func32, Try.ntmps32
  go_wp2_with fail
  have ew1 := ew1.out
  have ew2 := ew2.out
  have ew3 := ew3.out
  have e0 := e0.out
  go_region
  clear ew1 ew2 ew3 e0
  have H6 := HE6.out
  have G6 := HG6.out
  generalize ((w.setCell ⟨c, 5, none⟩ (.int .i64 0)).setCell ⟨c, 6, none⟩ (.int .i64 p)).drew = w6 at H6 G6 ⊢
  clear a0 a1 a6 g6 HE6 HG6 c0 c1 c3 c5 c6 c7 c8 c9 f5 f6 f7 f8 f9
  have c6 := H6.c6
  have c7 := H6.c7
  have c8 := H6.c8
  have c9 := H6.c9
  have f7 := H6.fz 7
  have f8 := H6.fz 8
  have f9 := H6.fz 9
  have H6H := Lib.hid H6
  have G6H := Lib.hid G6
  clear H6 G6
  by_cases hpm : p = m
  · subst hpm
    go_wp2_with fail
    go_quiet (fail)
    rename_i nq
    go_wp2_with fail
    have H7 : Rb ((w6.drewN nq).setCell ⟨c, 7, none⟩ (.int .i64 (q + 1))) c l h f false 0 0 p (q + 1) (nk p p k) p := by
      rw [show nk p p k = k from if_pos rfl]; exact Rb.set7 (W := w6.drewN nq) H6H.out (q + 1)
    have G7 := gb_trans (gb_trans G6H.out (gb_drew w6 nq (some c))) (gb_set (w6.drewN nq) c 7 (.int .i64 (q + 1)))
    generalize (w6.drewN nq).setCell ⟨c, 7, none⟩ (.int .i64 (q + 1)) = w7 at H7 G7 ⊢
    clear c6 c7 c8 c9
    have c6 := H7.c6
    have c7 := H7.c7
    have H7H := Lib.hid H7
    have G7H := Lib.hid G7
    clear H7 G7
    go_quiet (fail)
    go_wp2
    exact bodyPost_ret (v := .tuple #[.int .i64 p, .int .i64 (q + 1), .int .i64 0]) (by simp [results, Try.results32, go_sem]) rfl ⟨rfl, H7H.out, gb_trans G7H.out (gb_drew w7 _ _)⟩
  · have hb1 : (p == m) = false := by simpa using hpm
    have hb2 : (p != m) = true := by simpa using hpm
    go_wp2_with fail
    go_quiet (fail)
    rename_i nq
    go_wp2_with fail
    have H7 : Rb ((((w6.drewN nq).setCell ⟨c, 9, none⟩ (.int .i64 p)).setCell ⟨c, 8, none⟩ (.int .i64 0)).setCell ⟨c, 7, none⟩ (.int .i64 (q + 1))) c l h f false 0 0 p (q + 1) (nk p m k) p := by
      rw [show nk p m k = 0 from if_neg hpm]; exact ((Rb.set9 (W := w6.drewN nq) H6H.out p).set8 0).set7 (q + 1)
    have G7 := gb_trans (gb_trans (gb_trans (gb_trans G6H.out (gb_drew w6 nq (some c))) (gb_set (w6.drewN nq) c 9 (.int .i64 p))) (gb_set ((w6.drewN nq).setCell ⟨c, 9, none⟩ (.int .i64 p)) c 8 (.int .i64 0))) (gb_set (((w6.drewN nq).setCell ⟨c, 9, none⟩ (.int .i64 p)).setCell ⟨c, 8, none⟩ (.int .i64 0)) c 7 (.int .i64 (q + 1)))
    generalize (((w6.drewN nq).setCell ⟨c, 9, none⟩ (.int .i64 p)).setCell ⟨c, 8, none⟩ (.int .i64 0)).setCell ⟨c, 7, none⟩ (.int .i64 (q + 1)) = w7 at H7 G7 ⊢
    clear c6 c7 c8 c9 hb1 hb2
    have c6 := H7.c6
    have c7 := H7.c7
    have H7H := Lib.hid H7
    have G7H := Lib.hid G7
    clear H7 G7
    go_quiet (fail)
    go_wp2
    exact bodyPost_ret (v := .tuple #[.int .i64 p, .int .i64 (q + 1), .int .i64 0]) (by simp [results, Try.results32, go_sem]) rfl ⟨rfl, H7H.out, gb_trans G7H.out (gb_drew w7 _ _)⟩

set_option maxHeartbeats 1600000 in
theorem told_ok (c : Nat) (l h f q k m z : Int) (w : World) (H : Rb w c l h f false 0 0 z q k m) (q1 : 1 ≤ q) (z1 : 0 < z) :
    Calls Try.prog 49 #[.pointer (some ⟨c, 0, none⟩), .int .i64 0, .int .i64 q, .bool false] w fun e w' => e = .returned (.tuple #[.int .i64 z, .int .i64 0]) ∧ Rb w' c l h f false 0 0 0 q k m ∧ w.grownBy w' (some c) := by
  have c5 := H.c5
  have c6 := H.c6
  have c7 := H.c7
  have f5 := H.fz 5
  have f6 := H.fz 6
  have d1 : decide (q < 1) = false := by simp; omega
  have d2 : (z == 0) = false := by simp; omega
  have d3 : (q != q) = false := by simp
  have HE := Lib.hid ((H.set5 0).set6 0)
  have HG := Lib.hid (gb_trans (gb_set w c 5 (.int .i64 0)) (gb_set (w.setCell ⟨c, 5, none⟩ (.int .i64 0)) c 6 (.int .i64 0)))
  clear H
  go_enter Try.func49, Try.ntmps49
  go_wp2
  go_ret2
  exact ⟨rfl, HE.out, HG.out⟩

set_option maxHeartbeats 1600000 in
theorem RAcked_ok (c : Nat) (l h f q k m z : Int) (w : World) (H : Rb w c l h f false 0 0 z q k m) (q1 : 1 ≤ q) (z1 : 0 < z) (b2 : h ≤ 9000) (b3 : -9000 ≤ h - z) :
    Calls Try.prog 34 #[.pointer (some ⟨c, 0, none⟩), .int .i64 0, .int .i64 q] w fun e w' => e = .returned (.int .i64 0) ∧ Rb w' c z h f (fB z h) 0 0 0 q 0 m ∧ w.grownBy w' (some c) := by
  have HT := Lib.hid (told_ok c l h f q k m z w H q1 z1)
  clear H
  go_enter Try.func34, Try.ntmps34
  go_wp2_with fail
  refine HT.out.mono ?_
  rintro e w1 ⟨rfl, H1, g1⟩
  have c0 := H1.c0
  have c8 := H1.c8
  have f0 := H1.fz 0
  have f8 := H1.fz 8
  have H2 := Lib.hid ((H1.set0 z).set8 0)
  have G2 := Lib.hid (gb_trans (gb_trans g1 (gb_set w1 c 0 (.int .i64 z))) (gb_set (w1.setCell ⟨c, 0, none⟩ (.int .i64 z)) c 8 (.int .i64 0)))
  clear H1 g1
  go_wp2_with fail
  refine (settle_any c z h f 0 0 q 0 m _ H2.out (by omega) b2 b3).mono ?_
  rintro e w3 ⟨rfl, H3, g3⟩
  have H3H := Lib.hid H3
  have G3 := Lib.hid (gb_trans G2.out g3)
  clear H3 g3
  go_wp2
  go_ret
  exact ⟨rfl, H3H.out, G3.out⟩

set_option maxHeartbeats 1600000 in
theorem RLost_less (c : Nat) (l h f q m z : Int) (w : World) (H : Rb w c l h f false 0 0 z q 2 m) (q1 : 1 ≤ q) (z1 : 0 < z) (z2 : z ≤ 9000) (b1 : 0 ≤ l) (b3 : -9000 ≤ z - 1 - l) :
    Calls Try.prog 33 #[.pointer (some ⟨c, 0, none⟩), .int .i64 0, .int .i64 q, .bool false] w fun e w' => e = .returned (.int .i64 0) ∧ Rb w' c l (z - 1) f (fB l (z - 1)) 0 0 0 q 0 m ∧ w.grownBy w' (some c) := by
  have HT := Lib.hid (told_ok c l h f q 2 m z w H q1 z1)
  clear H
  go_enter Try.func33, Try.ntmps33
  go_wp2_with fail
  refine HT.out.mono ?_
  rintro e w1 ⟨rfl, H1, g1⟩
  have c1 := H1.c1
  have c8 := H1.c8
  have f1 := H1.fz 1
  have f8 := H1.fz 8
  have H2 := Lib.hid (((H1.set8 3).set1 (z - 1)).set8 0)
  have G2 := Lib.hid (gb_trans (gb_trans (gb_trans g1 (gb_set w1 c 8 (.int .i64 3))) (gb_set (w1.setCell ⟨c, 8, none⟩ (.int .i64 3)) c 1 (.int .i64 (z - 1)))) (gb_set ((w1.setCell ⟨c, 8, none⟩ (.int .i64 3)).setCell ⟨c, 1, none⟩ (.int .i64 (z - 1))) c 8 (.int .i64 0)))
  clear H1 g1
  go_wp2_with fail
  refine (settle_any c l (z - 1) f 0 0 q 0 m _ H2.out b1 (by omega) b3).mono ?_
  rintro e w3 ⟨rfl, H3, g3⟩
  have H3H := Lib.hid H3
  have G3 := Lib.hid (gb_trans G2.out g3)
  clear H3 g3
  go_wp2
  go_ret
  exact ⟨rfl, H3H.out, G3.out⟩
set_option maxHeartbeats 1600000 in
theorem RLost_lost (c : Nat) (l h f q m z k : Int) (w : World) (H : Rb w c l h f false 0 0 z q k m) (q1 : 1 ≤ q) (z1 : 0 < z) (k1 : 0 ≤ k) (k2 : k < 2) :
    Calls Try.prog 33 #[.pointer (some ⟨c, 0, none⟩), .int .i64 0, .int .i64 q, .bool false] w fun e w' => e = .returned (.int .i64 0) ∧ Rb w' c l h f false 0 0 0 q (k + 1) m ∧ w.grownBy w' (some c) := by
  have HT := Lib.hid (told_ok c l h f q k m z w H q1 z1)
  have d : (k + 1 == 3) = false := by simp; omega
  clear H
  go_enter Try.func33, Try.ntmps33
  go_wp2_with fail
  refine HT.out.mono ?_
  rintro e w1 ⟨rfl, H1, g1⟩
  have c8 := H1.c8
  have f8 := H1.fz 8
  have H2 := Lib.hid (H1.set8 (k + 1))
  have G2 := Lib.hid (gb_trans g1 (gb_set w1 c 8 (.int .i64 (k + 1))))
  clear H1 g1
  go_wp2
  go_ret
  exact ⟨rfl, H2.out, G2.out⟩

set_option maxHeartbeats 1600000 in
theorem RNew_ok (l h : Int) (w : World) (H : rightB l h = true) :
    Calls Try.prog 30 #[.int .i64 l, .int .i64 h] w fun e w' => e = .returned (.tuple #[.pointer (some ⟨w.heap.size, 0, none⟩), .int .i64 0]) ∧ Rb w' w.heap.size l h h (fB l h) 0 0 0 0 0 0 ∧ w.grownBy w' none := by
  have HR := Lib.hid (Right_t l h H)
  obtain ⟨l1, l2, l3⟩ := rightB_t H
  have HB : Rb (w.alloc (.cells #[.int .i64 l, .int .i64 h, .int .i64 h, .bool false, .int .i64 0, .int .i64 0, .int .i64 0, .int .i64 0, .int .i64 0, .int .i64 0] 62)) w.heap.size l h h false 0 0 0 0 0 0 := World.alloc_heap_new _ _
  have HS := Lib.hid (settle_any _ _ _ _ _ _ _ _ _ _ HB (by omega) l2 (by omega))
  clear H HB
  go_enter Try.func30, Try.ntmps30
  go_wp2_with fail
  refine (HR.out _).mono ?_
  rintro e w1 ⟨rfl, rfl⟩
  go_wp2_with fail
  refine HS.out.mono ?_
  rintro e w2 ⟨rfl, H2, g2⟩
  have HE := Lib.hid H2
  have HG := Lib.hid (gb_mark (gb_alloc w (.cells #[.int .i64 l, .int .i64 h, .int .i64 h, .bool false, .int .i64 0, .int .i64 0, .int .i64 0, .int .i64 0, .int .i64 0, .int .i64 0] 62) none) g2 (Nat.le_refl _))
  clear H2 g2
  go_wp2
  go_ret2
  exact ⟨rfl, HE.out, HG.out⟩

end Go.Proofs.Ytjoejaclnijacaa.Ps