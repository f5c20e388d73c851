/-
  Fields of bits: the program's build, New, Full.
-/
import Derived.Test.YtbeaohnjifcgaaaDoorBk
namespace Go.Proofs.YtbeaohnjifcgaaaDoor.Bh
open Go Go.RowKit Go.Proofs.YtbeaohnjifcgaaaDoor.Sx Go.Proofs.YtbeaohnjifcgaaaDoor.Na Go.Proofs.YtbeaohnjifcgaaaDoor.Ba

def bsOf (m : Nat) (γ : Nat → Nat) : ByteArray := strOfNums ((List.range m).map fun k => (γ k : Int))
theorem bsOf_bN (m : Nat) (β : Nat → Bool) : bsOf m (bN β) = fld m β := rfl

set_option maxRecDepth 100000 in
set_option maxHeartbeats 1600000 in
theorem build_ok (K : Nat) (caps : Array Value) (N m : Nat) (hm : (N + 7) / 8 = m) (hN : N ≤ 4096) (γ : Nat → Nat) (w : World) (r : Option Nat)
    (hK : ∀ (args : Array Value) (w : World), (callFunc K args).run Tryd.prog w = .ok (.enter K args) w)
    (hf : ∀ (w1 : World) (b : Nat), w.grownBy w1 none → w.heap.size ≤ b → BG w1 b m (fun _ => 0) → Calls Tryd.prog K (#[.slice (some ⟨b, 0, none⟩) m m] ++ caps) w1 fun e w2 => e = .returned (.tuple #[]) ∧ BG w2 b m γ ∧ w.grownBy w2 r) :
    Calls Tryd.prog 59 #[.int .i64 N, .func (Fn.func K) #[] caps] w fun e w' => e = .returned (.string (bsOf m γ)) ∧ w.grownBy w' r := by
  have HL := Lib.hid (fun w => size_any N w (by omega) (by omega))
  have hszl : sz N = (m : Int) := by unfold sz; omega
  simp only [hszl] at HL
  have hm5 : m ≤ 700 := by omega
  have hmk := mkBytes m (by omega)
  have HF := Lib.hid (hf (w.alloc (.cells (gC m fun _ => 0) 5)) w.heap.size (gb_alloc _ _ _) (Nat.le_refl _) (BG.new w m _ _))
  clear hf hm hszl
  obtain ⟨z, hz⟩ : ∃ z, bsOf m γ = z := ⟨_, rfl⟩
  have HZ := Lib.hid hz
  rw [hz]
  clear hz
  go_enter Tryd.func59, Tryd.ntmps59
  go_wp2_with fail
  refine (HL.out _).mono ?_
  rintro e w1 ⟨rfl, rfl⟩
  go_wp2_with fail
  refine HF.out.mono ?_
  rintro e w2 ⟨rfl, hb, hg⟩
  have hcv := hb.conv m
  have HG := Lib.hid hg
  rw [show strOfNums ((List.range m).map fun k => (γ k : Int)) = bsOf m γ from rfl, HZ.out] at hcv
  clear hg hb hmk
  go_wp2_with fail
  go_ret
  exact ⟨rfl, HG.out⟩

set_option maxRecDepth 100000 in
set_option maxHeartbeats 1600000 in
theorem build_no (K : Nat) (caps : Array Value) (N m : Nat) (hm : (N + 7) / 8 = m) (hN : N ≤ 4096) (k : Int) (w : World) (r : Option Nat)
    (hK : ∀ (args : Array Value) (w : World), (callFunc K args).run Tryd.prog w = .ok (.enter K args) w)
    (hf : ∀ (w1 : World) (b : Nat), w.grownBy w1 none → w.heap.size ≤ b → BG w1 b m (fun _ => 0) → Calls Tryd.prog K (#[.slice (some ⟨b, 0, none⟩) m m] ++ caps) w1 fun e w2 => e = .panicked [{ v := .iface 24 (.int .i64 k), recovered := false }] ∧ w.grownBy w2 r) :
    Calls Tryd.prog 59 #[.int .i64 N, .func (Fn.func K) #[] caps] w fun e w' => e = .panicked [{ v := .iface 24 (.int .i64 k), recovered := false }] ∧ w.grownBy w' r := by
  have HL := Lib.hid (fun w => size_any N w (by omega) (by omega))
  have hszl : sz N = (m : Int) := by unfold sz; omega
  simp only [hszl] at HL
  have hm5 : m ≤ 700 := by omega
  have hmk := mkBytes m (by omega)
  have HF := Lib.hid (hf (w.alloc (.cells (gC m fun _ => 0) 5)) w.heap.size (gb_alloc _ _ _) (Nat.le_refl _) (BG.new w m _ _))
  clear hf hm hszl
  go_enter Tryd.func59, Tryd.ntmps59
  go_wp2_with fail
  refine (HL.out _).mono ?_
  rintro e w1 ⟨rfl, rfl⟩
  go_wp2_with fail
  refine HF.out.mono ?_
  rintro e w2 ⟨rfl, hg⟩
  exact ⟨rfl, rfl, hg⟩

theorem enterNew0 (args : Array Value) (w : World) : (callFunc 57 args).run Tryd.prog w = .ok (.enter 57 args) w := by kernel_rfl
theorem enterNew1 (args : Array Value) (w : World) : (callFunc 60 args).run Tryd.prog w = .ok (.enter 60 args) w := by kernel_rfl
theorem enterFull0 (args : Array Value) (w : World) : (callFunc 62 args).run Tryd.prog w = .ok (.enter 62 args) w := by kernel_rfl
theorem enterFull1 (args : Array Value) (w : World) : (callFunc 63 args).run Tryd.prog w = .ok (.enter 63 args) w := by kernel_rfl

theorem tf_zero (N : Nat) : bsOf ((N + 7) / 8) (fun _ => 0) = tf N fun _ => false := by
  rw [tf, ← bsOf_bN]
  unfold bsOf
  congr 1
  apply List.map_congr_left
  intro k _
  rw [show lim N (fun _ => false) = fun _ => false from by funext i; simp [lim]]
  rfl

set_option maxRecDepth 100000 in
set_option maxHeartbeats 800000 in
theorem New0_any (n : Int) (c : Nat) (w : World) (hc : w.cell? ⟨c, 0, none⟩ = some (.int .i64 n)) (h : rgt n = true) :
    Calls Tryd.prog 57 #[.pointer (some ⟨c, 0, none⟩)] w fun e w' => e = .returned (.string (nwS n)) ∧ w.grownBy w' none := by
  rw [show nwS n = tf n.toNat (fun _ => false) from if_pos h]
  have HA := Lib.hid (fun w => askSize_ok n w h)
  obtain ⟨n0, n1⟩ := rgt_t h
  obtain ⟨N, rfl⟩ : ∃ N : Nat, n = N := ⟨n.toNat, by omega⟩
  rw [Int.toNat_natCast, ← tf_zero]
  have HB := Lib.hid (build_ok 60 #[] N _ rfl (by omega) (fun _ => 0) w none enterNew1 (fun w1 b hg hb H => by
    go_enter Tryd.func60, Tryd.ntmps60
    go_wp2
    go_end0
    exact ⟨rfl, H, hg⟩))
  obtain ⟨z, hz⟩ : ∃ z, bsOf ((N + 7) / 8) (fun _ => 0) = z := ⟨_, rfl⟩
  rw [hz] at HB ⊢
  clear hz h
  go_enter Tryd.func57, Tryd.ntmps57
  go_wp2_with fail
  refine (HA.out _).mono ?_
  rintro e w1 ⟨rfl, rfl⟩
  go_wp2_with fail
  refine HB.out.mono ?_
  rintro e w1 ⟨rfl, hg⟩
  go_wp2
  go_ret
  exact ⟨rfl, hg⟩
set_option maxRecDepth 100000 in
set_option maxHeartbeats 800000 in
theorem New0_no (n : Int) (c : Nat) (w : World) (hc : w.cell? ⟨c, 0, none⟩ = some (.int .i64 n)) (h : rgt n = false) :
    Calls Tryd.prog 57 #[.pointer (some ⟨c, 0, none⟩)] w fun e w' => e = .panicked [{ v := .iface 24 (.int .i64 7), recovered := false }] ∧ w.grownBy w' none := by
  have HA := Lib.hid (fun w => askSize_no n w h)
  clear h
  go_enter Tryd.func57, Tryd.ntmps57
  go_wp2_with fail
  refine (HA.out _).mono ?_
  rintro e w1 ⟨rfl, rfl⟩
  exact ⟨rfl, rfl, gb_refl _ _⟩

/-- the world in which a boxed int lies -/
def bx (w : World) (n : Int) : World := w.alloc (.cells #[.int .i64 n] 3)
theorem bx_cell (w : World) (n : Int) : (Bc.aw (bx w n)).cell? ⟨w.heap.size, 0, none⟩ = some (.int .i64 n) :=
  gb_cell (Bc.aw_gb _) (by unfold bx; exact cell_one_new _ _ _ 0 _ rfl) (by simp)

set_option maxRecDepth 100000 in
set_option maxHeartbeats 800000 in
theorem New_any (n : Int) (w : World) :
    Calls Tryd.prog 14 #[.int .i64 n] w fun e w' => e = .returned (.tuple #[.string (nwS n), .int .i64 (nwE n)]) ∧ w.grownBy w' none := by
  have hmf : ∀ (fn : Fn) (first cap : Array Value) (w : World), (Instr.makeFunc fn first cap).run Tryd.prog w = .ok (.func fn first cap) w := fun _ _ _ _ => rfl
  have H : Hid (Calls Tryd.prog 56 #[.func (Fn.func 57) #[] #[.pointer (some ⟨w.heap.size, 0, none⟩)]] (bx w n) fun e w' => e = .returned (.tuple #[.string (nwS n), .int .i64 (nwE n)]) ∧ (bx w n).grownBy w' none) := by
    refine Lib.hid ?_
    cases h : rgt n
    · rw [show nwS n = ⟨#[]⟩ from if_neg (by rw [h]; decide), show nwE n = 7 from if_neg (by rw [h]; decide)]
      refine (Bc.att_no 57 _ 7 (bx w n) none (fun _ => True) (sta_true _) (fun _ h => by cases h) enterNew0 ((New0_no n _ _ (bx_cell w n) h).mono fun e w' hh => ⟨hh.1, trivial, hh.2⟩)).mono fun e w' hh => ⟨hh.1, hh.2.2⟩
    · rw [show nwE n = 0 from if_pos h]
      refine (Bc.att_ok 57 _ _ (bx w n) none (fun _ => True) (sta_true _) (fun _ h => by cases h) enterNew0 ((New0_any n _ _ (bx_cell w n) h).mono fun e w' hh => ⟨hh.1, trivial, hh.2⟩)).mono fun e w' hh => ⟨hh.1, hh.2.2⟩
  obtain ⟨x, hx⟩ : ∃ x, nwS n = x := ⟨_, rfl⟩
  obtain ⟨y, hy⟩ : ∃ y, nwE n = y := ⟨_, rfl⟩
  rw [hx, hy] at H ⊢
  clear hx hy
  have HW := Lib.hid (show w.grownBy (bx w n) none from gb_alloc _ _ _)
  unfold bx at H HW
  go_enter Tryd.func14, Tryd.ntmps14
  go_wp2_with fail
  refine H.out.mono ?_
  rintro e w1 ⟨rfl, hg⟩
  have HG := Lib.hid (gb_trans HW.out hg)
  clear hg
  go_wp2
  go_ret2
  exact ⟨rfl, HG.out⟩
end Go.Proofs.YtbeaohnjifcgaaaDoor.Bh
