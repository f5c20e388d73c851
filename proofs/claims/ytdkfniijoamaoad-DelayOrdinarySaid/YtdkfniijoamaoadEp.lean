/-
  An ordinary control in memory: the program's and the reference's.
-/
import Derived.Test.YtdkfniijoamaoadEj
import Derived.Test.YtdkfniijoamaoadHz
import Derived.Laws.Bits128
namespace Go.Proofs.Ytdkfniijoamaoad.Ew
open Go Go.RowKit Go.Proofs.Ytdkfniijoamaoad.Ee

/-- block c is the program's ordinary control -/
def Ob (W : World) (c : Nat) (n : Int) (hv : Bool) (a l th : Int) : Prop :=
  W.heap[c]? = some (.cells #[.int .i64 n, .bool hv, .int .i64 a, .int .i64 l, .int .i64 th] 66 (0, 0))
/-- block c is the reference's -/
def Rb (W : World) (c : Nat) (n : Int) (hv : Bool) (a l th : Int) : Prop :=
  W.heap[c]? = some (.cells #[.int .i64 a, .bool hv, .int .i64 l, .int .i64 th, .int .i64 n] 70 (0, 0))
section
variable {W : World} {c : Nat} {n a l th : Int} {hv : Bool}
theorem Ob.lt (h : Ob W c n hv a l th) : c < W.heap.size := (Array.getElem?_eq_some_iff.1 h).1
theorem Ob.c0 (h : Ob W c n hv a l th) : W.cell? ⟨c, 0, none⟩ = some (.int .i64 n) := by simp [World.cell?, show W.heap[c]? = _ from h]
theorem Ob.c1 (h : Ob W c n hv a l th) : W.cell? ⟨c, 1, none⟩ = some (.bool hv) := by simp [World.cell?, show W.heap[c]? = _ from h]
theorem Ob.c2 (h : Ob W c n hv a l th) : W.cell? ⟨c, 2, none⟩ = some (.int .i64 a) := by simp [World.cell?, show W.heap[c]? = _ from h]
theorem Ob.c3 (h : Ob W c n hv a l th) : W.cell? ⟨c, 3, none⟩ = some (.int .i64 l) := by simp [World.cell?, show W.heap[c]? = _ from h]
theorem Ob.c4 (h : Ob W c n hv a l th) : W.cell? ⟨c, 4, none⟩ = some (.int .i64 th) := by simp [World.cell?, show W.heap[c]? = _ from h]
theorem Ob.fz (h : Ob W c n hv a l th) (i : Nat) : W.frozen? ⟨c, i, none⟩ = false := by simp [World.frozen?, show W.heap[c]? = _ from h]
theorem Ob.kept {W' : World} {row : Option Nat} (h : Ob W c n hv a l th) (hg : W.grownBy W' row) (hne : some c ≠ row) : Ob W' c n hv a l th := (hg.block c h.lt hne).trans h
theorem Ob.set0 (h : Ob W c n hv a l th) (x : Int) : Ob (W.setCell ⟨c, 0, none⟩ (.int .i64 x)) c x hv a l th := heap_setCell_same W c 0 _ _ (.int .i64 x) h
theorem Ob.set1 (h : Ob W c n hv a l th) (x : Bool) : Ob (W.setCell ⟨c, 1, none⟩ (.bool x)) c n x a l th := heap_setCell_same W c 1 _ _ (.bool x) h
theorem Ob.set2 (h : Ob W c n hv a l th) (x : Int) : Ob (W.setCell ⟨c, 2, none⟩ (.int .i64 x)) c n hv x l th := heap_setCell_same W c 2 _ _ (.int .i64 x) h
theorem Ob.set3 (h : Ob W c n hv a l th) (x : Int) : Ob (W.setCell ⟨c, 3, none⟩ (.int .i64 x)) c n hv a x th := heap_setCell_same W c 3 _ _ (.int .i64 x) h
theorem Ob.set4 (h : Ob W c n hv a l th) (x : Int) : Ob (W.setCell ⟨c, 4, none⟩ (.int .i64 x)) c n hv a l x := heap_setCell_same W c 4 _ _ (.int .i64 x) h
theorem Rb.lt (h : Rb W c n hv a l th) : c < W.heap.size := (Array.getElem?_eq_some_iff.1 h).1
theorem Rb.c0 (h : Rb W c n hv a l th) : W.cell? ⟨c, 0, none⟩ = some (.int .i64 a) := by simp [World.cell?, show W.heap[c]? = _ from h]
theorem Rb.c1 (h : Rb W c n hv a l th) : W.cell? ⟨c, 1, none⟩ = some (.bool hv) := by simp [World.cell?, show W.heap[c]? = _ from h]
theorem Rb.c2 (h : Rb W c n hv a l th) : W.cell? ⟨c, 2, none⟩ = some (.int .i64 l) := by simp [World.cell?, show W.heap[c]? = _ from h]
theorem Rb.c3 (h : Rb W c n hv a l th) : W.cell? ⟨c, 3, none⟩ = some (.int .i64 th) := by simp [World.cell?, show W.heap[c]? = _ from h]
theorem Rb.c4 (h : Rb W c n hv a l th) : W.cell? ⟨c, 4, none⟩ = some (.int .i64 n) := by simp [World.cell?, show W.heap[c]? = _ from h]
theorem Rb.fz (h : Rb W c n hv a l th) (i : Nat) : W.frozen? ⟨c, i, none⟩ = false := by simp [World.frozen?, show W.heap[c]? = _ from h]
theorem Rb.kept {W' : World} {row : Option Nat} (h : Rb W c n hv a l th) (hg : W.grownBy W' row) (hne : some c ≠ row) : Rb W' c n hv a l th := (hg.block c h.lt hne).trans h
theorem Rb.set0 (h : Rb W c n hv a l th) (x : Int) : Rb (W.setCell ⟨c, 0, none⟩ (.int .i64 x)) c n hv x l th := heap_setCell_same W c 0 _ _ (.int .i64 x) h
theorem Rb.set1 (h : Rb W c n hv a l th) (x : Bool) : Rb (W.setCell ⟨c, 1, none⟩ (.bool x)) c n x a l th := heap_setCell_same W c 1 _ _ (.bool x) h
theorem Rb.set2 (h : Rb W c n hv a l th) (x : Int) : Rb (W.setCell ⟨c, 2, none⟩ (.int .i64 x)) c n hv a x th := heap_setCell_same W c 2 _ _ (.int .i64 x) h
theorem Rb.set3 (h : Rb W c n hv a l th) (x : Int) : Rb (W.setCell ⟨c, 3, none⟩ (.int .i64 x)) c n hv a l x := heap_setCell_same W c 3 _ _ (.int .i64 x) h
theorem Rb.set4 (h : Rb W c n hv a l th) (x : Int) : Rb (W.setCell ⟨c, 4, none⟩ (.int .i64 x)) c x hv a l th := heap_setCell_same W c 4 _ _ (.int .i64 x) h
end

/-- what an ordinary control's numbers keep to -/
def In (n a l th : Int) : Prop := 0 ≤ n ∧ n ≤ 1000000000 ∧ 0 ≤ a ∧ a ≤ 1000000000 ∧ 1500 ≤ l ∧ l ≤ 1000000 ∧ 3000 ≤ th ∧ th ≤ 1000000

set_option maxHeartbeats 400000 in
theorem within_any (n a b : Int) (w : World) : Calls Try.prog 27 #[.int .i64 n, .int .i64 a, .int .i64 b] w fun e w' => e = .returned (.bool (decide (a ≤ n) && decide (n ≤ b))) ∧ w = w' := by
  by_cases h1 : a ≤ n
  · go_enter Try.func27, Try.ntmps27
    go_wp2
    all_goals
      go_ret
      exact ⟨by simp [h1], rfl⟩
  · go_enter Try.func27, Try.ntmps27
    go_wp2
    go_ret
    exact ⟨by simp; omega, rfl⟩
set_option maxHeartbeats 400000 in
theorem right_any (n a b : Int) (w : World) : Calls Try.prog 48 #[.int .i64 n, .int .i64 a, .int .i64 b] w fun e w' => e = .returned (.bool (decide (a ≤ n) && decide (n ≤ b))) ∧ w = w' := by
  by_cases h1 : a ≤ n
  · go_enter Try.func48, Try.ntmps48
    go_wp2
    all_goals
      go_ret
      exact ⟨by simp [h1], rfl⟩
  · go_enter Try.func48, Try.ntmps48
    go_wp2
    go_ret
    exact ⟨by simp; omega, rfl⟩
def wn (n a b : Int) : Bool := decide (a ≤ n) && decide (n ≤ b)
theorem within_t (n a b : Int) (h : wn n a b = true) (w : World) : Calls Try.prog 27 #[.int .i64 n, .int .i64 a, .int .i64 b] w fun e w' => e = .returned (.bool true) ∧ w = w' := by
  have := within_any n a b w; rwa [show (decide (a ≤ n) && decide (n ≤ b)) = true from h] at this
theorem within_f (n a b : Int) (h : wn n a b = false) (w : World) : Calls Try.prog 27 #[.int .i64 n, .int .i64 a, .int .i64 b] w fun e w' => e = .returned (.bool false) ∧ w = w' := by
  have := within_any n a b w; rwa [show (decide (a ≤ n) && decide (n ≤ b)) = false from h] at this
theorem right_t (n a b : Int) (h : wn n a b = true) (w : World) : Calls Try.prog 48 #[.int .i64 n, .int .i64 a, .int .i64 b] w fun e w' => e = .returned (.bool true) ∧ w = w' := by
  have := right_any n a b w; rwa [show (decide (a ≤ n) && decide (n ≤ b)) = true from h] at this
theorem right_f (n a b : Int) (h : wn n a b = false) (w : World) : Calls Try.prog 48 #[.int .i64 n, .int .i64 a, .int .i64 b] w fun e w' => e = .returned (.bool false) ∧ w = w' := by
  have := right_any n a b w; rwa [show (decide (a ≤ n) && decide (n ≤ b)) = false from h] at this

set_option maxHeartbeats 400000 in
theorem ask_any (c : Nat) (n a l th : Int) (hv : Bool) (w : World) (h : Ob w c n hv a l th) (hl : 1500 ≤ l) :
    Calls Try.prog 47 #[.pointer (some ⟨c, 0, none⟩)] w fun e w' => e = .returned (.tuple #[]) ∧ w = w' := by
  have c3 := h.c3
  have hz : (l == 0) = false := by simp; omega
  go_enter Try.func47, Try.ntmps47
  go_wp2_with fail
  refine (Eb.refuse_no _ _).mono ?_
  rintro e w1 ⟨rfl, rfl⟩
  go_wp2
  go_end0
  exact ⟨rfl, rfl⟩
set_option maxHeartbeats 400000 in
theorem askTime_yes (c : Nat) (n a l th now : Int) (hv : Bool) (w : World) (h : Ob w c n hv a l th) (hw : wn now n 1000000000 = true) :
    Calls Try.prog 34 #[.pointer (some ⟨c, 0, none⟩), .int .i64 now] w fun e w' => e = .returned (.tuple #[]) ∧ w = w' := by
  have c0 := h.c0
  have HW := Lib.hid (within_t _ _ _ hw)
  clear hw
  go_enter Try.func34, Try.ntmps34
  go_wp2_with fail
  refine (HW.out _).mono ?_
  rintro e w1 ⟨rfl, rfl⟩
  go_wp2_with fail
  refine (Eb.refuse_no _ _).mono ?_
  rintro e w1 ⟨rfl, rfl⟩
  go_wp2
  go_end0
  exact ⟨rfl, rfl⟩
set_option maxHeartbeats 400000 in
theorem askTime_no (c : Nat) (n a l th now : Int) (hv : Bool) (w : World) (h : Ob w c n hv a l th) (hw : wn now n 1000000000 = false) :
    Calls Try.prog 34 #[.pointer (some ⟨c, 0, none⟩), .int .i64 now] w fun e w' => e = .panicked [{ v := .iface 26 (.int .i64 7), recovered := false }] ∧ w = w' := by
  have c0 := h.c0
  have HW := Lib.hid (within_f _ _ _ hw)
  clear hw
  go_enter Try.func34, Try.ntmps34
  go_wp2_with fail
  refine (HW.out _).mono ?_
  rintro e w1 ⟨rfl, rfl⟩
  go_wp2_with fail
  refine (Eb.refuse_yes _ _).mono ?_
  rintro e w1 ⟨rfl, rfl⟩
  go_wp2_with fail
  simp [bodyPost]
set_option maxHeartbeats 400000 in
theorem askLoss_yes (c : Nat) (n a l th now tr : Int) (hv : Bool) (w : World) (h : Ob w c n hv a l th) (hw : wn now n 1000000000 = true) (ht : wn tr 0 60000 = true) :
    Calls Try.prog 31 #[.pointer (some ⟨c, 0, none⟩), .int .i64 now, .int .i64 tr] w fun e w' => e = .returned (.tuple #[]) ∧ w = w' := by
  have HA := Lib.hid (askTime_yes c n a l th now hv w h hw)
  have HT := Lib.hid (within_t _ _ _ ht)
  clear hw ht h
  go_enter Try.func31, Try.ntmps31
  go_wp2_with fail
  refine HA.out.mono ?_
  rintro e w1 ⟨rfl, rfl⟩
  go_wp2_with fail
  refine (HT.out _).mono ?_
  rintro e w1 ⟨rfl, rfl⟩
  go_wp2_with fail
  refine (Eb.refuse_no _ _).mono ?_
  rintro e w1 ⟨rfl, rfl⟩
  go_wp2
  go_end0
  exact ⟨rfl, rfl⟩
set_option maxHeartbeats 400000 in
theorem askLoss_no (c : Nat) (n a l th now tr : Int) (hv : Bool) (w : World) (h : Ob w c n hv a l th) (hw : (wn now n 1000000000 && wn tr 0 60000) = false) :
    Calls Try.prog 31 #[.pointer (some ⟨c, 0, none⟩), .int .i64 now, .int .i64 tr] w fun e w' => e = .panicked [{ v := .iface 26 (.int .i64 7), recovered := false }] ∧ w = w' := by
  cases h1 : wn now n 1000000000
  · have HA := Lib.hid (askTime_no c n a l th now hv w h h1)
    clear hw h h1
    go_enter Try.func31, Try.ntmps31
    go_wp2_with fail
    refine HA.out.mono ?_
    rintro e w1 ⟨rfl, rfl⟩
    go_wp2_with fail
    simp [bodyPost]
  · have ht : wn tr 0 60000 = false := by rw [h1] at hw; simpa using hw
    have HA := Lib.hid (askTime_yes c n a l th now hv w h h1)
    have HT := Lib.hid (within_f _ _ _ ht)
    clear hw ht h h1
    go_enter Try.func31, Try.ntmps31
    go_wp2_with fail
    refine HA.out.mono ?_
    rintro e w1 ⟨rfl, rfl⟩
    go_wp2_with fail
    refine (HT.out _).mono ?_
    rintro e w1 ⟨rfl, rfl⟩
    go_wp2_with fail
    refine (Eb.refuse_yes _ _).mono ?_
    rintro e w1 ⟨rfl, rfl⟩
    go_wp2_with fail
    simp [bodyPost]
end Go.Proofs.Ytdkfniijoamaoad.Ew
