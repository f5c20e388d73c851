/-
  Fields of bits: the program's Text; the law's check.
-/
import Derived.Test.YtbeaohnjifcgaaaDoorBx
namespace Go.Proofs.YtbeaohnjifcgaaaDoor.Bh
open Go Go.RowKit Go.Shelf Go.Proofs.YtbeaohnjifcgaaaDoor.Sx Go.Proofs.YtbeaohnjifcgaaaDoor.Na Go.Proofs.YtbeaohnjifcgaaaDoor.Ba

def teS (n : Int) (s : ByteArray) : ByteArray := if chk n s = 0 then txt n.toNat s else ⟨#[]⟩
theorem enterText0 (args : Array Value) (w : World) : (callFunc 92 args).run Tryd.prog w = .ok (.enter 92 args) w := by kernel_rfl
theorem below_of {w w' : World} (hg : w.grownBy w' none) : Below w.heap.size w w' := (Below.refl _ w).grown hg (Nat.le_refl _) (fun _ e => by cases e)

set_option maxRecDepth 100000 in
set_option maxHeartbeats 1600000 in
theorem Text0_any (n : Int) (s : ByteArray) (c cs : Nat) (w : World) (hs : s.size ≤ 140737488351232) (ht : Hh.Tab w) (hc : w.cell? ⟨c, 0, none⟩ = some (.int .i64 n)) (hcs : w.cell? ⟨cs, 0, none⟩ = some (.string s)) (h : chk n s = 0) :
    Calls Tryd.prog 92 #[.pointer (some ⟨c, 0, none⟩), .pointer (some ⟨cs, 0, none⟩)] w fun e w' => e = .returned (.string (teS n s)) ∧ w.grownBy w' none := by
  rw [show teS n s = txt n.toNat s from if_pos h]
  have HA := Lib.hid (askField_ok n s w hs h)
  obtain ⟨N, rfl, h1, h2, h3⟩ := vd_t (chk_t h)
  rw [Int.toNat_natCast]
  have HX := Lib.hid (fun w ht => text_any N s w h1 (by omega) (by omega) ht)
  have HT := Lib.hid ht
  have HC := Lib.hid hc
  have HS := Lib.hid hcs
  obtain ⟨z, hz⟩ : ∃ z, txt N s = z := ⟨_, rfl⟩
  simp only [hz] at HX ⊢
  clear hz h h1 h2 h3 ht
  go_enter Tryd.func92, Tryd.ntmps92
  go_wp2_with fail
  refine HA.out.mono ?_
  rintro e w1 ⟨rfl, hg⟩
  have hc1 := gb_cell hg HC.out (by simp)
  have hs1 := gb_cell hg HS.out (by simp)
  have HG := Lib.hid hg
  clear hg hc hcs
  go_wp2_with fail
  refine (HX.out _ (HT.out.below (below_of HG.out))).mono ?_
  rintro e w2 ⟨rfl, hb⟩
  have HB := Lib.hid (gb_trans HG.out (gb_below hb none))
  clear hb
  go_wp2
  go_ret
  exact ⟨rfl, HB.out⟩
set_option maxRecDepth 100000 in
set_option maxHeartbeats 1600000 in
theorem Text0_no (n : Int) (s : ByteArray) (c cs : Nat) (w : World) (hs : s.size ≤ 140737488351232) (hc : w.cell? ⟨c, 0, none⟩ = some (.int .i64 n)) (hcs : w.cell? ⟨cs, 0, none⟩ = some (.string s)) (h : chk n s ≠ 0) :
    Calls Tryd.prog 92 #[.pointer (some ⟨c, 0, none⟩), .pointer (some ⟨cs, 0, none⟩)] w fun e w' => e = .panicked [{ v := .iface 24 (.int .i64 (chk n s)), recovered := false }] ∧ w.grownBy w' none := by
  have HA := Lib.hid (askField_no n s w hs h)
  obtain ⟨z, hz⟩ : ∃ z, chk n s = z := ⟨_, rfl⟩
  rw [hz] at HA ⊢
  clear hz h
  go_enter Tryd.func92, Tryd.ntmps92
  go_wp2_with fail
  refine HA.out.mono ?_
  rintro e w1 ⟨rfl, hg⟩
  exact ⟨rfl, rfl, hg⟩

/-- the world in which a boxed int and a boxed text lie -/
def bxs (w : World) (n : Int) (s : ByteArray) : World := (bx w n).alloc (.cells #[.string s] 9)
theorem bxs_gb (w : World) (n : Int) (s : ByteArray) : w.grownBy (bxs w n s) none := gb_trans (gb_alloc _ _ _) (gb_alloc _ _ _)
theorem bxs_c0 (w : World) (n : Int) (s : ByteArray) : (Bc.aw (bxs w n s)).cell? ⟨w.heap.size, 0, none⟩ = some (.int .i64 n) :=
  gb_cell (gb_trans (gb_alloc _ _ none) (Bc.aw_gb _)) (by unfold bx; exact cell_one_new _ _ _ 0 _ rfl) (by simp)
theorem bxs_c1 (w : World) (n : Int) (s : ByteArray) : (Bc.aw (bxs w n s)).cell? ⟨w.heap.size + 1, 0, none⟩ = some (.string s) :=
  gb_cell (Bc.aw_gb _) (by
    have hs : (bx w n).heap.size = w.heap.size + 1 := by simp [bx]
    unfold bxs; rw [← hs]; exact cell_one_new _ _ _ 0 _ rfl) (by simp)

set_option maxRecDepth 100000 in
set_option maxHeartbeats 800000 in
theorem Text_any (n : Int) (s : ByteArray) (w : World) (hs : s.size ≤ 140737488351232) (ht : Hh.Tab w) :
    Calls Tryd.prog 47 #[.int .i64 n, .string s] w fun e w' => e = .returned (.tuple #[.string (teS n s), .int .i64 (chk n s)]) ∧ w.grownBy w' none := by
  have hmf : ∀ (fn : Fn) (first cap : Array Value) (w : World), (Instr.makeFunc fn first cap).run Tryd.prog w = .ok (.func fn first cap) w := fun _ _ _ _ => rfl
  have ht2 : Hh.Tab (Bc.aw (bxs w n s)) := ht.below (below_of (gb_trans (bxs_gb w n s) (Bc.aw_gb _)))
  have H : Hid (Calls Tryd.prog 56 #[.func (Fn.func 92) #[] #[.pointer (some ⟨w.heap.size, 0, none⟩), .pointer (some ⟨w.heap.size + 1, 0, none⟩)]] (bxs w n s) fun e w' => e = .returned (.tuple #[.string (teS n s), .int .i64 (chk n s)]) ∧ (bxs w n s).grownBy w' none) := by
    refine Lib.hid ?_
    by_cases h : chk n s = 0
    · rw [h]
      refine (Bc.att_ok 92 _ _ (bxs w n s) none (fun _ => True) (sta_true _) (fun _ h => by cases h) enterText0 ((Text0_any n s _ _ _ hs ht2 (bxs_c0 w n s) (bxs_c1 w n s) h).mono fun e w' hh => ⟨hh.1, trivial, hh.2⟩)).mono fun e w' hh => ⟨hh.1, hh.2.2⟩
    · rw [show teS n s = ⟨#[]⟩ from if_neg h]
      refine (Bc.att_no 92 _ (chk n s) (bxs w n s) none (fun _ => True) (sta_true _) (fun _ h => by cases h) enterText0 ((Text0_no n s _ _ _ hs (bxs_c0 w n s) (bxs_c1 w n s) h).mono fun e w' hh => ⟨hh.1, trivial, hh.2⟩)).mono fun e w' hh => ⟨hh.1, hh.2.2⟩
  obtain ⟨x, hx⟩ : ∃ x, teS n s = x := ⟨_, rfl⟩
  obtain ⟨y, hy⟩ : ∃ y, chk n s = y := ⟨_, rfl⟩
  rw [hx, hy] at H ⊢
  have HW := Lib.hid (bxs_gb w n s)
  clear hx hy ht2 ht
  unfold bxs bx at H HW
  go_enter Tryd.func47, Tryd.ntmps47
  go_wp2_with fail
  refine H.out.mono ?_
  rintro e w1 ⟨rfl, hg⟩
  have HG := Lib.hid (gb_trans HW.out hg)
  clear hg
  go_wp2
  go_ret2
  exact ⟨rfl, HG.out⟩

/-! the page's example -/
def ex0 : ByteArray := ⟨#[184, 0]⟩
theorem ex_E : ofE 10 [0, 2, 3, 4] = 0 := by decide
theorem ex_S : ofS 10 [0, 2, 3, 4] = ex0 := by decide
theorem ex_chk : chk 10 ex0 = 0 := by decide
theorem ex_rnl : rnl (bt ex0) 10 = [(0, 1), (2, 3)] := by decide
theorem ex_T : teS 10 ex0 = ⟨#[48, 44, 50, 45, 52]⟩ := by
  rw [show teS 10 ex0 = txt 10 ex0 from if_pos ex_chk]
  unfold txt
  rw [ex_rnl]
  simp only [List.length_cons, List.length_nil, txk, item, List.getD]
  simp [Hh.dec_small]
  decide
end Go.Proofs.YtbeaohnjifcgaaaDoor.Bh
