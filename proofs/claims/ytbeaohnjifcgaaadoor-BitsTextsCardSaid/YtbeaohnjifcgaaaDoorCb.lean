/-
  Fields of bits: the program's Has.
-/
import Derived.Test.YtbeaohnjifcgaaaDoorCa
import Derived.Test.YtbeaohnjifcgaaaDoorBd
namespace Go.Proofs.YtbeaohnjifcgaaaDoor.Bh
open Go Go.RowKit Go.Shelf Go.Proofs.YtbeaohnjifcgaaaDoor.Sx Go.Proofs.YtbeaohnjifcgaaaDoor.Na Go.Proofs.YtbeaohnjifcgaaaDoor.Ba

/-- the world in which three boxes lie: an int, a text, an int -/
def bx3 (w : World) (n : Int) (s : ByteArray) (i : Int) : World := (bxs w n s).alloc (.cells #[.int .i64 i] 3)
theorem bx3_gb (w : World) (n : Int) (s : ByteArray) (i : Int) : w.grownBy (bx3 w n s i) none := gb_trans (bxs_gb w n s) (gb_alloc _ _ _)
theorem bxs_sz (w : World) (n : Int) (p : ByteArray) : (bxs w n p).heap.size = w.heap.size + 1 + 1 := by simp [bxs, bx]
theorem bxs_k0 (w : World) (n : Int) (s : ByteArray) : (bxs w n s).cell? ⟨w.heap.size, 0, none⟩ = some (.int .i64 n) :=
  gb_cell (gb_alloc _ _ none) (by unfold bx; exact cell_one_new _ _ _ 0 _ rfl) (by simp)
theorem bxs_k1 (w : World) (n : Int) (s : ByteArray) : (bxs w n s).cell? ⟨w.heap.size + 1, 0, none⟩ = some (.string s) := by
  have hs : (bx w n).heap.size = w.heap.size + 1 := by simp [bx]
  unfold bxs; rw [← hs]; exact cell_one_new _ _ _ 0 _ rfl
theorem bx3_k0 (w : World) (n : Int) (s : ByteArray) (i : Int) : (bx3 w n s i).cell? ⟨w.heap.size, 0, none⟩ = some (.int .i64 n) := gb_cell (gb_alloc _ _ none) (bxs_k0 w n s) (by simp)
theorem bx3_k1 (w : World) (n : Int) (s : ByteArray) (i : Int) : (bx3 w n s i).cell? ⟨w.heap.size + 1, 0, none⟩ = some (.string s) := gb_cell (gb_alloc _ _ none) (bxs_k1 w n s) (by simp)
theorem bx3_k2 (w : World) (n : Int) (s : ByteArray) (i : Int) : (bx3 w n s i).cell? ⟨w.heap.size + 1 + 1, 0, none⟩ = some (.int .i64 i) := by
  unfold bx3; rw [← bxs_sz w n s]; exact cell_one_new _ _ _ 0 _ rfl

theorem enterHas0 (args : Array Value) (w : World) : (callFunc 66 args).run Tryd.prog w = .ok (.enter 66 args) w := by kernel_rfl

set_option maxRecDepth 100000 in
set_option maxHeartbeats 1600000 in
theorem Has0_any (n : Int) (s : ByteArray) (i : Int) (c cs ci : Nat) (w : World) (hs : s.size ≤ 140737488351232) (hc : w.cell? ⟨c, 0, none⟩ = some (.int .i64 n)) (hcs : w.cell? ⟨cs, 0, none⟩ = some (.string s)) (hci : w.cell? ⟨ci, 0, none⟩ = some (.int .i64 i)) (h : haE n s i = 0) :
    Calls Tryd.prog 66 #[.pointer (some ⟨c, 0, none⟩), .pointer (some ⟨cs, 0, none⟩), .pointer (some ⟨ci, 0, none⟩)] w fun e w' => e = .returned (.bool (haB n s i)) ∧ w.grownBy w' none := by
  have hcc := (haE_ok h).1
  have HA := Lib.hid (askField_ok n s w hs hcc)
  obtain ⟨_, N, I, rfl, rfl, h1, h2, h3⟩ := haE_ok h
  rw [show haB N s I = bt s I from by unfold haB; rw [if_pos h, Int.toNat_natCast]]
  have HI := Lib.hid (fun w => isSet_any s I w (by omega) hs)
  have HR := Lib.hid (fun w => Bc.refuse_no 7 w)
  obtain ⟨x, hx⟩ : ∃ x, bt s I = x := ⟨_, rfl⟩
  simp only [hx] at HI ⊢
  have d1 : decide ((I : Int) < 0) = false := by simp
  have d2 : decide (N ≤ I) = false := by simp; omega
  have HC := Lib.hid hc
  have HCS := Lib.hid hcs
  have HCI := Lib.hid hci
  clear hx h hcc
  go_enter Tryd.func66, Tryd.ntmps66
  go_wp2_with fail
  refine HA.out.mono ?_
  rintro e w1 ⟨rfl, hg⟩
  have k0 := gb_cell hg HC.out (by simp)
  have k1 := gb_cell hg HCS.out (by simp)
  have k2 := gb_cell hg HCI.out (by simp)
  have HG := Lib.hid hg
  clear hg hc hcs hci
  go_wp2_with fail
  refine (HR.out _).mono ?_
  rintro e w2 ⟨rfl, rfl⟩
  go_wp2_with fail
  refine (HI.out _).mono ?_
  rintro e w2 ⟨rfl, hg⟩
  have HG2 := Lib.hid (gb_trans HG.out hg)
  clear hg
  go_wp2
  go_ret
  exact ⟨rfl, HG2.out⟩

set_option maxRecDepth 100000 in
set_option maxHeartbeats 1600000 in
theorem Has0_no (n : Int) (s : ByteArray) (i : Int) (c cs ci : Nat) (w : World) (hs : s.size ≤ 140737488351232) (hc : w.cell? ⟨c, 0, none⟩ = some (.int .i64 n)) (hcs : w.cell? ⟨cs, 0, none⟩ = some (.string s)) (hci : w.cell? ⟨ci, 0, none⟩ = some (.int .i64 i)) (h : haE n s i ≠ 0) :
    Calls Tryd.prog 66 #[.pointer (some ⟨c, 0, none⟩), .pointer (some ⟨cs, 0, none⟩), .pointer (some ⟨ci, 0, none⟩)] w fun e w' => e = .panicked [{ v := .iface 24 (.int .i64 (haE n s i)), recovered := false }] ∧ w.grownBy w' none := by
  by_cases hcc : chk n s = 0
  · have hi : i < 0 ∨ n ≤ i := by
      unfold haE at h
      rw [if_pos hcc] at h
      by_cases e : i < 0 ∨ n ≤ i
      · exact e
      · rw [if_neg e] at h; exact absurd rfl h
    rw [show haE n s i = 7 from by unfold haE; rw [if_pos hcc, if_pos hi]]
    have HA := Lib.hid (askField_ok n s w hs hcc)
    have HR := Lib.hid (fun w => Bc.refuse_yes 7 w)
    have HC := Lib.hid hc
    have HCI := Lib.hid hci
    by_cases h1 : i < 0
    · have d1 : decide (i < 0) = true := by simpa using h1
      clear h hcc hi
      go_enter Tryd.func66, Tryd.ntmps66
      go_wp2_with fail
      refine HA.out.mono ?_
      rintro e w1 ⟨rfl, hg⟩
      have k0 := gb_cell hg HC.out (by simp)
      have k2 := gb_cell hg HCI.out (by simp)
      have HG := Lib.hid hg
      clear hg hc hcs hci
      go_wp2_with fail
      refine (HR.out _).mono ?_
      rintro e w2 ⟨rfl, rfl⟩
      exact ⟨rfl, rfl, HG.out⟩
    · have d1 : decide (i < 0) = false := by simpa using h1
      have d2 : decide (n ≤ i) = true := by simp; omega
      clear h hcc hi
      go_enter Tryd.func66, Tryd.ntmps66
      go_wp2_with fail
      refine HA.out.mono ?_
      rintro e w1 ⟨rfl, hg⟩
      have k0 := gb_cell hg HC.out (by simp)
      have k2 := gb_cell hg HCI.out (by simp)
      have HG := Lib.hid hg
      clear hg hc hcs hci
      go_wp2_with fail
      refine (HR.out _).mono ?_
      rintro e w2 ⟨rfl, rfl⟩
      exact ⟨rfl, rfl, HG.out⟩
  · rw [show haE n s i = chk n s from if_neg hcc]
    have HA := Lib.hid (askField_no n s w hs hcc)
    obtain ⟨z, hz⟩ : ∃ z, chk n s = z := ⟨_, rfl⟩
    rw [hz] at HA ⊢
    clear hz h hcc
    go_enter Tryd.func66, Tryd.ntmps66
    go_wp2_with fail
    refine HA.out.mono ?_
    rintro e w1 ⟨rfl, hg⟩
    exact ⟨rfl, rfl, hg⟩

set_option maxRecDepth 100000 in
set_option maxHeartbeats 800000 in
theorem Has_any (n : Int) (s : ByteArray) (i : Int) (w : World) (hs : s.size ≤ 140737488351232) :
    Calls Tryd.prog 20 #[.int .i64 n, .string s, .int .i64 i] w fun e w' => e = .returned (.tuple #[.bool (haB n s i), .int .i64 (haE n s i)]) ∧ w.grownBy w' none := by
  have hmf : ∀ (fn : Fn) (first cap : Array Value) (w : World), (Instr.makeFunc fn first cap).run Tryd.prog w = .ok (.func fn first cap) w := fun _ _ _ _ => rfl
  have g := Bd.aw_gb (bx3 w n s i)
  have H : Hid (Calls Tryd.prog 65 #[.func (Fn.func 66) #[] #[.pointer (some ⟨w.heap.size, 0, none⟩), .pointer (some ⟨w.heap.size + 1, 0, none⟩), .pointer (some ⟨w.heap.size + 1 + 1, 0, none⟩)]] (bx3 w n s i) fun e w' => e = .returned (.tuple #[.bool (haB n s i), .int .i64 (haE n s i)]) ∧ (bx3 w n s i).grownBy w' none) := by
    refine Lib.hid ?_
    by_cases h : haE n s i = 0
    · rw [h]
      refine (Bd.att_ok 66 _ _ (bx3 w n s i) none (fun _ => True) (sta_true _) (fun _ h => by cases h) enterHas0 ((Has0_any n s i _ _ _ _ hs (gb_cell g (bx3_k0 w n s i) (by simp)) (gb_cell g (bx3_k1 w n s i) (by simp)) (gb_cell g (bx3_k2 w n s i) (by simp)) h).mono fun e w' hh => ⟨hh.1, trivial, hh.2⟩)).mono fun e w' hh => ⟨hh.1, hh.2.2⟩
    · rw [show haB n s i = false from if_neg h]
      refine (Bd.att_no 66 _ (haE n s i) (bx3 w n s i) none (fun _ => True) (sta_true _) (fun _ h => by cases h) enterHas0 ((Has0_no n s i _ _ _ _ hs (gb_cell g (bx3_k0 w n s i) (by simp)) (gb_cell g (bx3_k1 w n s i) (by simp)) (gb_cell g (bx3_k2 w n s i) (by simp)) h).mono fun e w' hh => ⟨hh.1, trivial, hh.2⟩)).mono fun e w' hh => ⟨hh.1, hh.2.2⟩
  obtain ⟨x, hx⟩ : ∃ x, haB n s i = x := ⟨_, rfl⟩
  obtain ⟨y, hy⟩ : ∃ y, haE n s i = y := ⟨_, rfl⟩
  rw [hx, hy] at H ⊢
  have HW := Lib.hid (bx3_gb w n s i)
  clear hx hy g
  unfold bx3 bxs bx at H HW
  go_enter Tryd.func20, Tryd.ntmps20
  go_wp2_with fail
  refine H.out.mono ?_
  rintro e w1 ⟨rfl, hg⟩
  have HG := Lib.hid (gb_trans HW.out hg)
  clear hg
  go_wp2
  go_ret2
  exact ⟨rfl, HG.out⟩
end Go.Proofs.YtbeaohnjifcgaaaDoor.Bh
