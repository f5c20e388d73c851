/-
  A search in memory; close, middle, askSizes, ask, tell.
-/
import Derived.Test.YtjoejaclnijacaaPb
import Derived.Test.YtjoejaclnijacaaPm
import Derived.Deep.RegionWith
import Derived.RegionTactic
import Derived.BigRegion
import Derived.Deep.QuietTactic
import Derived.BigQuiet
import Derived.RegionDies
namespace Go.Proofs.Ytjoejaclnijacaa.Ps
open Go Go.RowKit Go.Proofs.Ytjoejaclnijacaa.Sx Go.Proofs.Ytjoejaclnijacaa.Pm

/-- block c is a search: low, high, first, now, since, sent, under, asked, lost -/
def Sb (W : World) (c : Nat) (l h f n s t u a k : Int) : Prop :=
  W.heap[c]? = some (.cells #[.int .i64 l, .int .i64 h, .int .i64 f, .int .i64 n, .int .i64 s, .int .i64 t, .int .i64 u, .int .i64 a, .int .i64 k] 49 (0, 0))
section
variable {W : World} {c : Nat} {l h f n s t u a k : Int}
theorem Sb.lt (H : Sb W c l h f n s t u a k) : c < W.heap.size := (Array.getElem?_eq_some_iff.1 H).1
theorem Sb.c0 (H : Sb W c l h f n s t u a k) : W.cell? ⟨c, 0, none⟩ = some (.int .i64 l) := by simp [World.cell?, show W.heap[c]? = _ from H]
theorem Sb.c1 (H : Sb W c l h f n s t u a k) : W.cell? ⟨c, 1, none⟩ = some (.int .i64 h) := by simp [World.cell?, show W.heap[c]? = _ from H]
theorem Sb.c2 (H : Sb W c l h f n s t u a k) : W.cell? ⟨c, 2, none⟩ = some (.int .i64 f) := by simp [World.cell?, show W.heap[c]? = _ from H]
theorem Sb.c3 (H : Sb W c l h f n s t u a k) : W.cell? ⟨c, 3, none⟩ = some (.int .i64 n) := by simp [World.cell?, show W.heap[c]? = _ from H]
theorem Sb.c4 (H : Sb W c l h f n s t u a k) : W.cell? ⟨c, 4, none⟩ = some (.int .i64 s) := by simp [World.cell?, show W.heap[c]? = _ from H]
theorem Sb.c5 (H : Sb W c l h f n s t u a k) : W.cell? ⟨c, 5, none⟩ = some (.int .i64 t) := by simp [World.cell?, show W.heap[c]? = _ from H]
theorem Sb.c6 (H : Sb W c l h f n s t u a k) : W.cell? ⟨c, 6, none⟩ = some (.int .i64 u) := by simp [World.cell?, show W.heap[c]? = _ from H]
theorem Sb.c7 (H : Sb W c l h f n s t u a k) : W.cell? ⟨c, 7, none⟩ = some (.int .i64 a) := by simp [World.cell?, show W.heap[c]? = _ from H]
theorem Sb.c8 (H : Sb W c l h f n s t u a k) : W.cell? ⟨c, 8, none⟩ = some (.int .i64 k) := by simp [World.cell?, show W.heap[c]? = _ from H]
theorem Sb.fz (H : Sb W c l h f n s t u a k) (i : Nat) : W.frozen? ⟨c, i, none⟩ = false := by simp [World.frozen?, show W.heap[c]? = _ from H]
theorem Sb.kept {W' : World} {row : Option Nat} (H : Sb W c l h f n s t u a k) (hg : W.grownBy W' row) (hne : some c ≠ row) : Sb W' c l h f n s t u a k := (hg.block c H.lt hne).trans H
theorem Sb.set0 (H : Sb W c l h f n s t u a k) (x : Int) : Sb (W.setCell ⟨c, 0, none⟩ (.int .i64 x)) c x h f n s t u a k := heap_setCell_same W c 0 _ _ (.int .i64 x) H
theorem Sb.set1 (H : Sb W c l h f n s t u a k) (x : Int) : Sb (W.setCell ⟨c, 1, none⟩ (.int .i64 x)) c l x f n s t u a k := heap_setCell_same W c 1 _ _ (.int .i64 x) H
theorem Sb.set2 (H : Sb W c l h f n s t u a k) (x : Int) : Sb (W.setCell ⟨c, 2, none⟩ (.int .i64 x)) c l h x n s t u a k := heap_setCell_same W c 2 _ _ (.int .i64 x) H
theorem Sb.set3 (H : Sb W c l h f n s t u a k) (x : Int) : Sb (W.setCell ⟨c, 3, none⟩ (.int .i64 x)) c l h f x s t u a k := heap_setCell_same W c 3 _ _ (.int .i64 x) H
theorem Sb.set4 (H : Sb W c l h f n s t u a k) (x : Int) : Sb (W.setCell ⟨c, 4, none⟩ (.int .i64 x)) c l h f n x t u a k := heap_setCell_same W c 4 _ _ (.int .i64 x) H
theorem Sb.set5 (H : Sb W c l h f n s t u a k) (x : Int) : Sb (W.setCell ⟨c, 5, none⟩ (.int .i64 x)) c l h f n s x u a k := heap_setCell_same W c 5 _ _ (.int .i64 x) H
theorem Sb.set6 (H : Sb W c l h f n s t u a k) (x : Int) : Sb (W.setCell ⟨c, 6, none⟩ (.int .i64 x)) c l h f n s t x a k := heap_setCell_same W c 6 _ _ (.int .i64 x) H
theorem Sb.set7 (H : Sb W c l h f n s t u a k) (x : Int) : Sb (W.setCell ⟨c, 7, none⟩ (.int .i64 x)) c l h f n s t u x k := heap_setCell_same W c 7 _ _ (.int .i64 x) H
theorem Sb.set8 (H : Sb W c l h f n s t u a k) (x : Int) : Sb (W.setCell ⟨c, 8, none⟩ (.int .i64 x)) c l h f n s t u a x := heap_setCell_same W c 8 _ _ (.int .i64 x) H
theorem Sb.eq {l' h' f' n' s' t' u' a' k' : Int} (H : Sb W c l h f n s t u a k) (e0 : l = l') (e1 : h = h') (e2 : f = f') (e3 : n = n') (e4 : s = s') (e5 : t = t') (e6 : u = u') (e7 : a = a') (e8 : k = k') : Sb W c l' h' f' n' s' t' u' a' k' := by subst e0 e1 e2 e3 e4 e5 e6 e7 e8; exact H
end

set_option maxHeartbeats 400000 in
theorem close_t (l h : Int) (w : World) (b1 : 0 ≤ l) (b2 : h ≤ 9000) (b3 : -9000 ≤ h - l) (hc : h - l < 16) : Calls Try.prog 28 #[.agg #[.int .i64 l, .int .i64 h]] w fun e w' => e = .returned (.bool true) ∧ w.grownBy w' none := by
  go_enter Try.func28, Try.ntmps28
  go_wp2
  go_ret
  exact ⟨rfl, gb_alloc _ _ _⟩
set_option maxHeartbeats 400000 in
theorem close_f (l h : Int) (w : World) (b1 : 0 ≤ l) (b2 : h ≤ 9000) (hc : 16 ≤ h - l) : Calls Try.prog 28 #[.agg #[.int .i64 l, .int .i64 h]] w fun e w' => e = .returned (.bool false) ∧ w.grownBy w' none := by
  have d : decide (h - l < 16) = false := by simp; omega
  go_enter Try.func28, Try.ntmps28
  go_wp2
  go_ret
  exact ⟨rfl, gb_alloc _ _ _⟩
set_option maxHeartbeats 400000 in
theorem middle_any (l h : Int) (w : World) (b1 : 0 ≤ l) (b2 : h ≤ 9000) (b3 : 0 ≤ h) (b4 : l ≤ 9000) : Calls Try.prog 29 #[.agg #[.int .i64 l, .int .i64 h]] w fun e w' => e = .returned (.int .i64 (mid l h)) ∧ w.grownBy w' none := by
  go_enter Try.func29, Try.ntmps29
  go_wp2
  go_ret
  exact ⟨rfl, gb_alloc _ _ _⟩

/-- sizes that a search may be over -/
def rightB (l h : Int) : Bool := decide (576 ≤ l) && decide (h ≤ 9000) && decide (l ≤ h)
theorem rightB_t {l h : Int} (H : rightB l h = true) : 576 ≤ l ∧ h ≤ 9000 ∧ l ≤ h := by unfold rightB at H; simpa [and_assoc] using H
theorem rightB_f {l h : Int} (H : rightB l h = false) : l < 576 ∨ 9000 < h ∨ h < l := by
  unfold rightB at H; simp at H; omega
set_option maxHeartbeats 400000 in
theorem askSizes_t (l h : Int) (w : World) (H : rightB l h = true) : Calls Try.prog 20 #[.int .i64 l, .int .i64 h] w fun e w' => e = .returned (.tuple #[]) ∧ w = w' := by
  obtain ⟨h1, h2, h3⟩ := rightB_t H
  have d1 : decide (l < 576) = false := by simp; omega
  have d2 : decide (9000 < h) = false := by simp; omega
  have d3 : decide (h < l) = false := by simp; omega
  clear H
  go_enter Try.func20, Try.ntmps20
  go_wp2_with fail
  refine (Pb.refuse_no _ _).mono ?_
  rintro e w1 ⟨rfl, rfl⟩
  go_wp2
  go_end0
  exact ⟨rfl, rfl⟩
set_option maxHeartbeats 400000 in
theorem askSizes_f (l h : Int) (w : World) (H : rightB l h = false) : Calls Try.prog 20 #[.int .i64 l, .int .i64 h] w fun e w' => e = .panicked [{ v := .iface 24 (.int .i64 7), recovered := false }] ∧ w = w' := by
  have hr := rightB_f H
  clear H
  by_cases h1 : l < 576
  · clear hr
    have d1 : decide (l < 576) = true := by simpa using h1
    go_enter Try.func20, Try.ntmps20
    go_wp2_with fail
    refine (Pb.refuse_yes _ _).mono ?_
    rintro e w1 ⟨rfl, rfl⟩
    go_wp2_with fail
    simp [bodyPost]
  · by_cases h2 : 9000 < h
    · clear hr
      have d1 : decide (l < 576) = false := by simpa using h1
      have d2 : decide (9000 < h) = true := by simpa using h2
      go_enter Try.func20, Try.ntmps20
      go_wp2_with fail
      refine (Pb.refuse_yes _ _).mono ?_
      rintro e w1 ⟨rfl, rfl⟩
      go_wp2_with fail
      simp [bodyPost]
    · have h3 : h < l := by omega
      clear hr
      have d1 : decide (l < 576) = false := by simpa using h1
      have d2 : decide (9000 < h) = false := by simpa using h2
      have d3 : decide (h < l) = true := by simpa using h3
      go_enter Try.func20, Try.ntmps20
      go_wp2_with fail
      refine (Pb.refuse_yes _ _).mono ?_
      rintro e w1 ⟨rfl, rfl⟩
      go_wp2_with fail
      simp [bodyPost]

set_option maxHeartbeats 400000 in
theorem ask_t (c : Nat) (l h f n s t u a k : Int) (now : Int) (w : World) (H : Sb w c l h f n s t u a k) (h0 : f ≠ 0) (h1 : 0 ≤ now) (h2 : now ≤ 1000000000) (h3 : n ≤ now) :
    Calls Try.prog 39 #[.pointer (some ⟨c, 0, none⟩), .int .i64 now] w fun e w' => e = .returned (.tuple #[]) ∧ w = w' := by
  have c2 := H.c2
  have c3 := H.c3
  have hz : (f == 0) = false := by simpa using h0
  have e1 : decide (now < 0) = false := by simp; omega
  have e2 : decide (1000000000 < now) = false := by simp; omega
  have e3 : decide (now < n) = false := by simp; omega
  clear H h0
  go_enter Try.func39, Try.ntmps39
  go_wp2_with fail
  refine (Pb.refuse_no _ _).mono ?_
  rintro e w1 ⟨rfl, rfl⟩
  go_wp2_with fail
  refine (Pb.refuse_no _ _).mono ?_
  rintro e w1 ⟨rfl, rfl⟩
  go_wp2
  go_end0
  exact ⟨rfl, rfl⟩

set_option maxHeartbeats 800000 in
theorem tell_t (c : Nat) (l h f n s t u a k : Int) (now : Int) (w : World) (H : Sb w c l h f n s t u a k) (b1 : 0 ≤ l) (b2 : h ≤ 9000) (b3 : -9000 ≤ h - l) (hc : h - l < 16) :
    Calls Try.prog 40 #[.pointer (some ⟨c, 0, none⟩), .int .i64 now] w fun e w' => e = .returned (.tuple #[]) ∧ Sb w' c l h f now now t u a k ∧ w.grownBy w' (some c) := by
  have c0 := H.c0
  have c1 := H.c1
  have c3 := H.c3
  have f3 := H.fz 3
  have H1 := H.set3 now
  have d0 := H1.c0
  have d1 := H1.c1
  have HG := Lib.hid (gb_set w c 3 (.int .i64 now))
  have HH := Lib.hid H1
  clear H H1
  go_enter Try.func40, Try.ntmps40
  go_wp2_with fail
  refine (close_t l h _ b1 b2 b3 hc).mono ?_
  rintro e w1 ⟨rfl, g1⟩
  have H2 := HH.out.kept g1 (by simp)
  have c4 := H2.c4
  have f4 := H2.fz 4
  have H3 := Lib.hid (H2.set4 now)
  have HG3 := Lib.hid (gb_trans (gb_trans HG.out (gb_none g1 _)) (gb_set w1 c 4 (.int .i64 now)))
  clear H2 g1 d0 d1 c0 c1
  go_wp2
  go_end0
  exact ⟨rfl, H3.out, HG3.out⟩
set_option maxHeartbeats 800000 in
theorem tell_f (c : Nat) (l h f n s t u a k : Int) (now : Int) (w : World) (H : Sb w c l h f n s t u a k) (b1 : 0 ≤ l) (b2 : h ≤ 9000) (hc : 16 ≤ h - l) :
    Calls Try.prog 40 #[.pointer (some ⟨c, 0, none⟩), .int .i64 now] w fun e w' => e = .returned (.tuple #[]) ∧ Sb w' c l h f now s t u a k ∧ w.grownBy w' (some c) := by
  have c0 := H.c0
  have c1 := H.c1
  have c3 := H.c3
  have f3 := H.fz 3
  have H1 := H.set3 now
  have d0 := H1.c0
  have d1 := H1.c1
  have HG := Lib.hid (gb_set w c 3 (.int .i64 now))
  have HH := Lib.hid H1
  clear H H1
  go_enter Try.func40, Try.ntmps40
  go_wp2_with fail
  refine (close_f l h _ b1 b2 hc).mono ?_
  rintro e w1 ⟨rfl, g1⟩
  have H2 := Lib.hid (HH.out.kept g1 (by simp))
  have HG3 := Lib.hid (gb_trans HG.out (gb_none g1 _))
  clear g1 d0 d1 c0 c1
  go_wp2
  go_end0
  exact ⟨rfl, H2.out, HG3.out⟩
end Go.Proofs.Ytjoejaclnijacaa.Ps
