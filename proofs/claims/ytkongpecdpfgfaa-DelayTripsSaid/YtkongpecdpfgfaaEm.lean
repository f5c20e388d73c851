/-
  Trips: both.
-/
import Derived.Test.YtkongpecdpfgfaaEk
import Derived.WalkSmall
namespace Go.Proofs.Ytkongpecdpfgfaa.Ee
open Go Go.RowKit Go.Proofs.Ytkongpecdpfgfaa.Ec

/-- block b is a Trip -/
def Tp (T : TypeId) (W : World) (b : Nat) (sm : Bool) (m s : Int) : Prop := W.heap[b]? = some (.cells #[.bool sm, .int .i64 m, .int .i64 s] T (0, 0))
section
variable {T : TypeId} {W : World} {b : Nat} {sm : Bool} {m s : Int}
theorem Tp.lt (h : Tp T W b sm m s) : b < W.heap.size := (Array.getElem?_eq_some_iff.1 h).1
theorem Tp.c0 (h : Tp T W b sm m s) : W.cell? ⟨b, 0, none⟩ = some (.bool sm) := by simp [World.cell?, show W.heap[b]? = _ from h]
theorem Tp.c1 (h : Tp T W b sm m s) : W.cell? ⟨b, 1, none⟩ = some (.int .i64 m) := by simp [World.cell?, show W.heap[b]? = _ from h]
theorem Tp.c2 (h : Tp T W b sm m s) : W.cell? ⟨b, 2, none⟩ = some (.int .i64 s) := by simp [World.cell?, show W.heap[b]? = _ from h]
theorem Tp.fz (h : Tp T W b sm m s) (i : Nat) : W.frozen? ⟨b, i, none⟩ = false := by simp [World.frozen?, show W.heap[b]? = _ from h]
theorem Tp.kept {W' : World} {row : Option Nat} (h : Tp T W b sm m s) (hg : W.grownBy W' row) (hne : some b ≠ row) : Tp T W' b sm m s := (hg.block b h.lt hne).trans h
theorem Tp.set3 (h : Tp T W b sm m s) (sm' : Bool) (m' s' : Int) : Tp T (((W.setCell ⟨b, 0, none⟩ (.bool sm')).setCell ⟨b, 1, none⟩ (.int .i64 m')).setCell ⟨b, 2, none⟩ (.int .i64 s')) b sm' m' s' :=
  heap_setCell_same _ b 2 _ _ _ (heap_setCell_same _ b 1 _ _ _ (heap_setCell_same W b 0 _ _ (.bool sm') h))
theorem Tp.set21 (h : Tp T W b sm m s) (m' s' : Int) : Tp T (((W.setCell ⟨b, 2, none⟩ (.int .i64 s'))).setCell ⟨b, 1, none⟩ (.int .i64 m')).drew b sm m' s' :=
  show Tp T (((W.setCell ⟨b, 2, none⟩ (.int .i64 s'))).setCell ⟨b, 1, none⟩ (.int .i64 m')) b sm m' s' from heap_setCell_same _ b 1 _ _ (.int .i64 m') (heap_setCell_same W b 2 _ _ (.int .i64 s') h)
end

set_option maxHeartbeats 400000 in
theorem right_t (n a b : Int) (h1 : a ≤ n) (h2 : n ≤ b) (w : World) : Calls Try.prog 88 #[.int .i64 n, .int .i64 a, .int .i64 b] w fun e w' => e = .returned (.bool true) ∧ w' = w := by
  go_enter Try.func88, Try.ntmps88
  go_wp2
  go_ret
  exact ⟨rfl, rfl⟩
set_option maxHeartbeats 400000 in
theorem right_any (n a b : Int) (w : World) : Calls Try.prog 88 #[.int .i64 n, .int .i64 a, .int .i64 b] w fun e w' => e = .returned (.bool (decide (a ≤ n) && decide (n ≤ b))) ∧ w' = w := by
  by_cases h1 : a ≤ n
  · by_cases h2 : n ≤ b
    · exact (right_t n a b h1 h2 w).mono fun e w' h => ⟨by simp [h.1, h1, h2], h.2⟩
    · go_enter Try.func88, Try.ntmps88
      go_wp2
      go_ret
      exact ⟨by simp [h2], rfl⟩
  · go_enter Try.func88, Try.ntmps88
    go_wp2
    go_ret
    exact ⟨by simp; omega, rfl⟩

set_option maxRecDepth 100000 in
set_option maxHeartbeats 1000000 in
theorem DAdd_no (b : Nat) (n : Int) (w : World) (h : ¬ (0 ≤ n ∧ n ≤ 60000)) :
    Calls Try.prog 23 #[.pointer (some ⟨b, 0, none⟩), .int .i64 n] w fun e w' => e = .returned (.int .i64 7) ∧ w' = w := by
  have hb : (decide (0 ≤ n) && decide (n ≤ 60000)) = false := by
    by_cases k1 : 0 ≤ n <;> by_cases k2 : n ≤ 60000 <;> simp_all
  have HW := Lib.hid (within_any n 0 60000)
  rw [hb] at HW
  clear hb h
  go_enter Try.func23, Try.ntmps23
  go_wp2_with fail
  refine (HW.out _).mono ?_
  rintro e w1 ⟨rfl, rfl⟩
  go_wp2_with fail
  go_ret
  exact ⟨rfl, rfl⟩

set_option maxRecDepth 100000 in
set_option maxHeartbeats 1000000 in
theorem DAdd_one (b : Nat) (m s n : Int) (w : World) (h0 : 0 ≤ n) (h1 : n ≤ 60000) (hT : Tp 98 w b false m s) :
    Calls Try.prog 23 #[.pointer (some ⟨b, 0, none⟩), .int .i64 n] w fun e w' => e = .returned (.int .i64 0) ∧ Tp 98 w' b true n (n / 2) ∧ w.grownBy w' (some b) := by
  have c0 := hT.c0
  have c1 := hT.c1
  have c2 := hT.c2
  have f0 := hT.fz 0
  have f1 := hT.fz 1
  have f2 := hT.fz 2
  have HT := Lib.hid hT
  clear hT
  go_enter Try.func23, Try.ntmps23
  go_wp2_with fail
  refine (within_t n 0 60000 h0 h1 _).mono ?_
  rintro e w1 ⟨rfl, rfl⟩
  go_wp2_with fail
  go_ret
  exact ⟨rfl, HT.out.set3 true n (n / 2), gb_trans (gb_trans (gb_set _ b 0 _) (gb_set _ b 1 _)) (gb_set _ b 2 _)⟩

set_option maxRecDepth 100000 in
set_option maxHeartbeats 4000000 in
theorem DAdd_more (b : Nat) (m s n : Int) (w : World) (h0 : 0 ≤ n) (h1 : n ≤ 60000) (m0 : 0 ≤ m) (m1 : m ≤ 60000) (s0 : 0 ≤ s) (s1 : s ≤ 60000) (hT : Tp 98 w b true m s) :
    Calls Try.prog 23 #[.pointer (some ⟨b, 0, none⟩), .int .i64 n] w fun e w' => e = .returned (.int .i64 0) ∧ Tp 98 w' b true ((7 * m + n) / 8) ((3 * s + max (m - n) (n - m)) / 4) ∧ w.grownBy w' (some b) := by
  have c0 := hT.c0
  have c1 := hT.c1
  have c2 := hT.c2
  have f0 := hT.fz 0
  have f1 := hT.fz 1
  have f2 := hT.fz 2
  have HT := Lib.hid hT
  clear hT
  have hw1 : IntKind.i64.wrap (3 * s) = 3 * s := by rw [IntKind.wrap_i64]; omega
  have hw2 : IntKind.i64.wrap (m - n) = m - n := by rw [IntKind.wrap_i64]; omega
  have hw3 : IntKind.i64.wrap (n - m) = n - m := by rw [IntKind.wrap_i64]; omega
  have hw4 : IntKind.i64.wrap (3 * s + (m - n)) = 3 * s + (m - n) := by rw [IntKind.wrap_i64]; omega
  have hw5 : IntKind.i64.wrap (3 * s + (n - m)) = 3 * s + (n - m) := by rw [IntKind.wrap_i64]; omega
  have hw6 : IntKind.i64.wrap (7 * m) = 7 * m := by rw [IntKind.wrap_i64]; omega
  have hw7 : IntKind.i64.wrap (7 * m + n) = 7 * m + n := by rw [IntKind.wrap_i64]; omega
  have ht2 : (7 * m + n).tdiv 8 = (7 * m + n) / 8 := Int.tdiv_eq_ediv_of_nonneg (by omega)
  by_cases hlt : m - n < n - m
  · have hmx : max (m - n) (n - m) = n - m := by omega
    have ht1 : (3 * s + (n - m)).tdiv 4 = (3 * s + (n - m)) / 4 := Int.tdiv_eq_ediv_of_nonneg (by omega)
    have HM := Lib.hid hmx
    clear hmx
    go_enter Try.func23, Try.ntmps23
    go_wp2_with fail
    refine (within_t n 0 60000 h0 h1 _).mono ?_
    rintro e w1 ⟨rfl, rfl⟩
    go_wp2_with fail
    go_region
    all_goals
      go_wp2_with fail
      go_ret
      exact ⟨rfl, by rw [HM.out]; exact HT.out.set21 _ _, gb_trans (gb_trans (gb_set _ b 2 _) (gb_set _ b 1 _)) (gb_drew _ 1 _)⟩
  · have hmx : max (m - n) (n - m) = m - n := by omega
    have ht1 : (3 * s + (m - n)).tdiv 4 = (3 * s + (m - n)) / 4 := Int.tdiv_eq_ediv_of_nonneg (by omega)
    have HM := Lib.hid hmx
    clear hmx
    go_enter Try.func23, Try.ntmps23
    go_wp2_with fail
    refine (within_t n 0 60000 h0 h1 _).mono ?_
    rintro e w1 ⟨rfl, rfl⟩
    go_wp2_with fail
    go_region
    all_goals
      go_wp2_with fail
      go_ret
      exact ⟨rfl, by rw [HM.out]; exact HT.out.set21 _ _, gb_trans (gb_trans (gb_set _ b 2 _) (gb_set _ b 1 _)) (gb_drew _ 1 _)⟩

set_option maxRecDepth 100000 in
set_option maxHeartbeats 1000000 in
theorem DOut_no (b : Nat) (m s : Int) (w : World) (hT : Tp 98 w b false m s) :
    Calls Try.prog 27 #[.pointer (some ⟨b, 0, none⟩)] w fun e w' => e = .returned (.int .i64 1000) ∧ Below w.heap.size w w' := by
  have c0 := hT.c0
  go_enter Try.func27, Try.ntmps27
  go_wp2_with fail
  go_ret
  exact ⟨rfl, Below.refl _ _⟩

set_option maxRecDepth 100000 in
set_option maxHeartbeats 1000000 in
theorem DOut_yes (b : Nat) (m s : Int) (w : World) (m0 : 0 ≤ m) (m1 : m ≤ 60000) (s0 : 0 ≤ s) (s1 : s ≤ 60000) (hT : Tp 98 w b true m s) :
    Calls Try.prog 27 #[.pointer (some ⟨b, 0, none⟩)] w fun e w' => e = .returned (.int .i64 (min 60000 (max 500 (m + 4 * s)))) ∧ Below w.heap.size w w' := by
  have c0 := hT.c0
  have c1 := hT.c1
  have c2 := hT.c2
  have hw1 : IntKind.i64.wrap (4 * s) = 4 * s := by rw [IntKind.wrap_i64]; omega
  have hw2 : IntKind.i64.wrap (m + 4 * s) = m + 4 * s := by rw [IntKind.wrap_i64]; omega
  go_enter Try.func27, Try.ntmps27
  go_wp2_with fail
  go_quiet (fail)
  go_wp2_with fail
  all_goals
    go_ret
    refine ⟨congrArg (fun z => Ending.returned (Value.int IntKind.i64 z)) ?_, below_drewN (Below.refl _ _) _⟩
    omega

set_option maxRecDepth 100000 in
set_option maxHeartbeats 1000000 in
theorem DTime_any (b : Nat) (sm : Bool) (m s : Int) (w : World) (hT : Tp 98 w b sm m s) :
    Calls Try.prog 25 #[.pointer (some ⟨b, 0, none⟩)] w fun e w' => e = .returned (.tuple #[.int .i64 m, .int .i64 s]) ∧ Below w.heap.size w w' := by
  have c1 := hT.c1
  have c2 := hT.c2
  go_enter Try.func25, Try.ntmps25
  go_wp2_with fail
  go_quiet (fail)
  go_wp2_with fail
  go_ret2
  exact ⟨rfl, below_drewN (Below.refl _ _) _⟩

set_option maxRecDepth 100000 in
set_option maxHeartbeats 1000000 in
theorem RAdd_no (b : Nat) (n : Int) (w : World) (h : ¬ (0 ≤ n ∧ n ≤ 60000)) :
    Calls Try.prog 24 #[.pointer (some ⟨b, 0, none⟩), .int .i64 n] w fun e w' => e = .returned (.int .i64 7) ∧ w' = w := by
  have hb : (decide (0 ≤ n) && decide (n ≤ 60000)) = false := by
    by_cases k1 : 0 ≤ n <;> by_cases k2 : n ≤ 60000 <;> simp_all
  have HW := Lib.hid (right_any n 0 60000)
  rw [hb] at HW
  clear hb h
  go_enter Try.func24, Try.ntmps24
  go_wp2_with fail
  refine (HW.out _).mono ?_
  rintro e w1 ⟨rfl, rfl⟩
  go_wp2_with fail
  go_ret
  exact ⟨rfl, rfl⟩

set_option maxRecDepth 100000 in
set_option maxHeartbeats 1000000 in
theorem RAdd_one (b : Nat) (m s n : Int) (w : World) (h0 : 0 ≤ n) (h1 : n ≤ 60000) (hT : Tp 50 w b false m s) :
    Calls Try.prog 24 #[.pointer (some ⟨b, 0, none⟩), .int .i64 n] w fun e w' => e = .returned (.int .i64 0) ∧ Tp 50 w' b true n (n / 2) ∧ w.grownBy w' (some b) := by
  have c0 := hT.c0
  have c1 := hT.c1
  have c2 := hT.c2
  have f0 := hT.fz 0
  have f1 := hT.fz 1
  have f2 := hT.fz 2
  have HT := Lib.hid hT
  clear hT
  go_enter Try.func24, Try.ntmps24
  go_wp2_with fail
  refine (right_t n 0 60000 h0 h1 _).mono ?_
  rintro e w1 ⟨rfl, rfl⟩
  go_wp2_with fail
  go_ret
  exact ⟨rfl, HT.out.set3 true n (n / 2), gb_trans (gb_trans (gb_set _ b 0 _) (gb_set _ b 1 _)) (gb_set _ b 2 _)⟩

set_option maxRecDepth 100000 in
set_option maxHeartbeats 4000000 in
theorem RAdd_more (b : Nat) (m s n : Int) (w : World) (h0 : 0 ≤ n) (h1 : n ≤ 60000) (m0 : 0 ≤ m) (m1 : m ≤ 60000) (s0 : 0 ≤ s) (s1 : s ≤ 60000) (hT : Tp 50 w b true m s) :
    Calls Try.prog 24 #[.pointer (some ⟨b, 0, none⟩), .int .i64 n] w fun e w' => e = .returned (.int .i64 0) ∧ Tp 50 w' b true ((7 * m + n) / 8) ((3 * s + max (m - n) (n - m)) / 4) ∧ w.grownBy w' (some b) := by
  have c0 := hT.c0
  have c1 := hT.c1
  have c2 := hT.c2
  have f0 := hT.fz 0
  have f1 := hT.fz 1
  have f2 := hT.fz 2
  have HT := Lib.hid hT
  clear hT
  have hw1 : IntKind.i64.wrap (3 * s) = 3 * s := by rw [IntKind.wrap_i64]; omega
  have hw2 : IntKind.i64.wrap (m - n) = m - n := by rw [IntKind.wrap_i64]; omega
  have hw3 : IntKind.i64.wrap (n - m) = n - m := by rw [IntKind.wrap_i64]; omega
  have hw4 : IntKind.i64.wrap (3 * s + (m - n)) = 3 * s + (m - n) := by rw [IntKind.wrap_i64]; omega
  have hw5 : IntKind.i64.wrap (3 * s + (n - m)) = 3 * s + (n - m) := by rw [IntKind.wrap_i64]; omega
  have hw6 : IntKind.i64.wrap (7 * m) = 7 * m := by rw [IntKind.wrap_i64]; omega
  have hw7 : IntKind.i64.wrap (7 * m + n) = 7 * m + n := by rw [IntKind.wrap_i64]; omega
  have ht2 : (7 * m + n).tdiv 8 = (7 * m + n) / 8 := Int.tdiv_eq_ediv_of_nonneg (by omega)
  by_cases hlt : m - n < n - m
  · have hmx : max (m - n) (n - m) = n - m := by omega
    have ht1 : (3 * s + (n - m)).tdiv 4 = (3 * s + (n - m)) / 4 := Int.tdiv_eq_ediv_of_nonneg (by omega)
    have HM := Lib.hid hmx
    clear hmx
    go_enter Try.func24, Try.ntmps24
    go_wp2_with fail
    refine (right_t n 0 60000 h0 h1 _).mono ?_
    rintro e w1 ⟨rfl, rfl⟩
    go_wp2_with fail
    go_region
    all_goals
      go_wp2_with fail
      go_ret
      exact ⟨rfl, by rw [HM.out]; exact HT.out.set21 _ _, gb_trans (gb_trans (gb_set _ b 2 _) (gb_set _ b 1 _)) (gb_drew _ 1 _)⟩
  · have hmx : max (m - n) (n - m) = m - n := by omega
    have ht1 : (3 * s + (m - n)).tdiv 4 = (3 * s + (m - n)) / 4 := Int.tdiv_eq_ediv_of_nonneg (by omega)
    have HM := Lib.hid hmx
    clear hmx
    go_enter Try.func24, Try.ntmps24
    go_wp2_with fail
    refine (right_t n 0 60000 h0 h1 _).mono ?_
    rintro e w1 ⟨rfl, rfl⟩
    go_wp2_with fail
    go_region
    all_goals
      go_wp2_with fail
      go_ret
      exact ⟨rfl, by rw [HM.out]; exact HT.out.set21 _ _, gb_trans (gb_trans (gb_set _ b 2 _) (gb_set _ b 1 _)) (gb_drew _ 1 _)⟩

set_option maxRecDepth 100000 in
set_option maxHeartbeats 1000000 in
theorem ROut_no (b : Nat) (m s : Int) (w : World) (hT : Tp 50 w b false m s) :
    Calls Try.prog 28 #[.pointer (some ⟨b, 0, none⟩)] w fun e w' => e = .returned (.int .i64 1000) ∧ Below w.heap.size w w' := by
  have c0 := hT.c0
  go_enter Try.func28, Try.ntmps28
  go_wp2_with fail
  go_ret
  exact ⟨rfl, Below.refl _ _⟩

set_option maxRecDepth 100000 in
set_option maxHeartbeats 1000000 in
theorem ROut_yes (b : Nat) (m s : Int) (w : World) (m0 : 0 ≤ m) (m1 : m ≤ 60000) (s0 : 0 ≤ s) (s1 : s ≤ 60000) (hT : Tp 50 w b true m s) :
    Calls Try.prog 28 #[.pointer (some ⟨b, 0, none⟩)] w fun e w' => e = .returned (.int .i64 (min 60000 (max 500 (m + 4 * s)))) ∧ Below w.heap.size w w' := by
  have c0 := hT.c0
  have c1 := hT.c1
  have c2 := hT.c2
  have hw1 : IntKind.i64.wrap (4 * s) = 4 * s := by rw [IntKind.wrap_i64]; omega
  have hw2 : IntKind.i64.wrap (m + 4 * s) = m + 4 * s := by rw [IntKind.wrap_i64]; omega
  go_enter Try.func28, Try.ntmps28
  go_wp2_with fail
  go_quiet (fail)
  go_wp2_with fail
  all_goals
    go_ret
    refine ⟨congrArg (fun z => Ending.returned (Value.int IntKind.i64 z)) ?_, below_drewN (Below.refl _ _) _⟩
    omega

set_option maxRecDepth 100000 in
set_option maxHeartbeats 1000000 in
theorem RTime_any (b : Nat) (sm : Bool) (m s : Int) (w : World) (hT : Tp 50 w b sm m s) :
    Calls Try.prog 26 #[.pointer (some ⟨b, 0, none⟩)] w fun e w' => e = .returned (.tuple #[.int .i64 m, .int .i64 s]) ∧ Below w.heap.size w w' := by
  have c1 := hT.c1
  have c2 := hT.c2
  go_enter Try.func26, Try.ntmps26
  go_wp2_with fail
  go_quiet (fail)
  go_wp2_with fail
  go_ret2
  exact ⟨rfl, below_drewN (Below.refl _ _) _⟩

end Go.Proofs.Ytkongpecdpfgfaa.Ee
