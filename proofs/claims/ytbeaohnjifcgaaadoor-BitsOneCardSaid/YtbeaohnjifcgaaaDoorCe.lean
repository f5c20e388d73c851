/-
  Fields of bits: the program's Set.
-/
import Derived.Test.YtbeaohnjifcgaaaDoorCb
import Derived.Laws.IdiomStrings
namespace Go.Proofs.YtbeaohnjifcgaaaDoor.Bh
open Go Go.RowKit Go.Shelf Go.Proofs.YtbeaohnjifcgaaaDoor.Sx Go.Proofs.YtbeaohnjifcgaaaDoor.Na Go.Proofs.YtbeaohnjifcgaaaDoor.Ba

/-- the first m cells of block b are bytes that may be written -/
def BW (w : World) (b m : Nat) (g : Nat → Nat) : Prop := ∀ k, k < m → w.cell? ⟨b, k, none⟩ = some (.int .u8 (g k)) ∧ w.frozen? ⟨b, k, none⟩ = false
section
variable {w w' : World} {b m : Nat} {g g' : Nat → Nat}
theorem BW.set (H : BW w b m g) (k x : Nat) (h : k < m) : BW (w.setCell ⟨b, k, none⟩ (.int .u8 x)) b m (updN g k x) := fun j hj => by
  refine ⟨?_, by rw [World.frozen?_setCell]; exact (H j hj).2⟩
  unfold updN
  by_cases e : j = k
  · subst e; rw [if_pos rfl]; exact World.cell?_setCell_same w _ _ (H j hj).1
  · rw [if_neg e, World.cell?_setCell_other w _ _ _ (fun h => e (by cases h; rfl))]; exact (H j hj).1
theorem BW.drew (H : BW w b m g) : BW w.drew b m g := H
theorem BW.congr (H : BW w b m g) (h : ∀ k, k < m → g k = g' k) : BW w b m g' := fun k hk => by rw [← h k hk]; exact H k hk
theorem BW.conv (H : BW w b m g) (cap : Nat) : (convert 57 9 (.slice (some ⟨b, 0, none⟩) m cap)).run Tryd.prog w = .ok (.string (strOfNums ((List.range m).map fun k => (g k : Int)))) w :=
  run_convert_bytes_arg (P := Tryd.prog) _ 57 5 Tryd.underlying57 Tryd.underlying5 b 0 m cap _ (by simp) (fun i hi => by rw [Nat.zero_add, (H i hi).1]; simp [List.getD, hi]) 9 Tryd.underlying9
end
theorem heap_new' (W : World) (o : Obj) : (W.drew.alloc o).heap[W.heap.size]? = some o := World.alloc_heap_new W.drew o
theorem conv_bw (W : World) (d : ByteArray) : ∃ W' cap, (convert 9 57 (.string d)).run Tryd.prog W = .ok (.slice (some ⟨W.heap.size, 0, none⟩) d.size cap) W' ∧
    W.grownBy W' none ∧ d.size ≤ cap ∧ BW W' W.heap.size d.size (by_ d) := by
  refine ⟨_, grownCap W d.size 0 5, run_bytes_of_string (P := Tryd.prog) W 9 57 5 d Tryd.underlying9 Tryd.underlying57 Tryd.underlying5, gb_trans (gb_drew1 W none) (gb_alloc _ _ _), grownCap_ge W d.size 0 _, fun i h => ?_⟩
  have hnew := heap_new' W (.cells (bytesRow d (grownCap W d.size 0 5)) 5 ((bytesRow d (grownCap W d.size 0 5)).size, (bytesRow d (grownCap W d.size 0 5)).size + 1))
  have hi : i < d.data.size := h
  constructor
  · rw [cell_of_row _ _ _ _ _ _ hnew]
    unfold bytesRow
    rw [Array.getElem?_append_left (by simpa using hi), Array.getElem?_map, Array.getElem?_eq_getElem hi]
    unfold by_
    simp [List.getD, Array.getElem?_eq_getElem hi]
  · have hsz : i < (bytesRow d (grownCap W d.size 0 5)).size := by
      unfold bytesRow
      rw [Array.size_append, Array.size_map]
      omega
    simp only [World.frozen?]
    rw [hnew]
    simp
    omega

theorem andnot8' (x y : Nat) (hx : x < 256) (hy : y < 256) : bits .andNot .u8 (x : Int) (y : Int) = ((x &&& (255 - y) : Nat) : Int) := by
  have h1 : (BitVec.ofInt 8 (x : Int)).toNat = x := by rw [BitVec.ofInt_natCast, BitVec.toNat_ofNat]; exact Nat.mod_eq_of_lt hx
  have h2 : (BitVec.ofInt 8 (y : Int)).toNat = y := by rw [BitVec.ofInt_natCast, BitVec.toNat_ofNat]; exact Nat.mod_eq_of_lt hy
  show IntKind.u8.wrap ((BitVec.ofInt 8 (x : Int) &&& ~~~ (BitVec.ofInt 8 (y : Int))).toNat : Int) = _
  rw [BitVec.toNat_and, BitVec.toNat_not, h1, h2, IntKind.wrap_u8, show 2 ^ 8 - 1 - y = 255 - y by omega]
  have : x &&& (255 - y) < 256 := Nat.lt_of_le_of_lt Nat.and_le_left hx
  omega
theorem not_bit' (y b : Nat) (hy : y < 256) (hb : b < 8) : (255 - y).testBit b = !y.testBit b := by
  have := Nat.testBit_two_pow_sub_succ (n := 8) hy b
  rw [show 2 ^ 8 - (y + 1) = 255 - y by omega] at this
  rw [this]; simp [hb]
/-- a byte of which one bit is cleared -/
theorem clr_bN (β : Nat → Bool) (i : Nat) : bN β (i / 8) &&& (255 - 2 ^ (7 - i % 8)) = bN (upd β i false) (i / 8) :=
  bN_clear _ _ _ (Nat.lt_of_le_of_lt Nat.and_le_left (bN_lt _ _)) fun b hb => by
    rw [Nat.testBit_and, not_bit' _ _ (two_lt _) hb, Nat.testBit_two_pow]
theorem updN_clr (β : Nat → Bool) (i : Nat) : updN (bN β) (i / 8) (bN β (i / 8) &&& (255 - 2 ^ (7 - i % 8))) = bN (upd β i false) := by
  funext k
  unfold updN
  by_cases e : k = i / 8
  · rw [if_pos e, e, clr_bN]
  · rw [if_neg e, bN_upd_other _ _ _ _ e]
theorem upd_upd (β : Nat → Bool) (i : Nat) (u v : Bool) : upd (upd β i u) i v = upd β i v := by
  funext j
  unfold upd
  by_cases e : j = i
  · rw [if_pos e, if_pos e]
  · rw [if_neg e, if_neg e, if_neg e]
/-- a field of which one bit is set is the field of its bits -/
theorem fld_upd {N I : Nat} {s : ByteArray} (to : Bool) (h : vd N s = true) (hI : I < N) : fld ((N + 7) / 8) (upd (bt s) I to) = tf N (upd (bt s) I to) := by
  obtain ⟨M, hM, h1, h2, h3⟩ := vd_t h
  obtain rfl : N = M := by omega
  refine fld_congr _ _ _ fun i hi => ?_
  unfold lim upd
  by_cases e : i < N
  · simp [e]
  · rw [if_neg (by omega)]; simp [e]; exact h3 i (by omega) (by omega)

set_option maxRecDepth 100000 in
set_option maxHeartbeats 3200000 in
theorem raise_wd (b m cap i : Nat) (β : Nat → Bool) (w : World) (hb : BW w b m (bN β)) (hi : i < 8 * m) (hm : m ≤ 600) :
    Calls Tryd.prog 71 #[.slice (some ⟨b, 0, none⟩) m cap, .int .i64 (i : Int)] w fun e w' => e = .returned (.tuple #[]) ∧ BW w' b m (bN (upd β i true)) ∧ w.grownBy w' (some b) := by
  have hw1 : IntKind.i64.wrap ((i : Int) / 8) = ((i / 8 : Nat) : Int) := by rw [IntKind.wrap_i64]; omega
  have hw2 : ((i : Int).tmod 8) = ((i % 8 : Nat) : Int) := by rw [Int.tmod_eq_emod_of_nonneg (by omega)]; omega
  have hq8 : i / 8 < m := by omega
  have ht8 : i % 8 < 8 := by omega
  have hor := or8 (bN β (i / 8)) (2 ^ (7 - i % 8)) (bN_lt _ _) (two_lt _)
  rw [← shr128 _ ht8] at hor
  have c0 := (hb (i / 8) hq8).1
  have f0 := (hb (i / 8) hq8).2
  have HS : Hid (∀ x : Nat, x = bN β (i / 8) ||| 2 ^ (7 - i % 8) → BW (w.setCell ⟨b, i / 8, none⟩ (.int .u8 x)) b m (bN (upd β i true))) := Lib.hid (fun x hx => by subst hx; rw [← updN_bN]; exact hb.set _ _ hq8)
  obtain ⟨y, hy⟩ : ∃ y, bN β (i / 8) ||| 2 ^ (7 - i % 8) = y := ⟨_, rfl⟩
  rw [hy] at hor
  simp only [hy] at HS
  clear hy
  obtain ⟨q, hq⟩ : ∃ q, i / 8 = q := ⟨_, rfl⟩
  obtain ⟨t, ht⟩ : ∃ t, i % 8 = t := ⟨_, rfl⟩
  rw [hq] at hw1 hq8 c0 f0 hor
  simp only [hq] at HS
  rw [ht] at hw2 ht8 hor
  have hw3 : (q : Int) < (m : Int) := by omega
  obtain ⟨x, hx⟩ : ∃ x, bN β q = x := ⟨_, rfl⟩
  rw [hx] at c0 hor
  clear hq ht hx hb
  go_enter Tryd.func71, Tryd.ntmps71
  go_region
  go_end0
  exact ⟨rfl, (HS.out y rfl).drew, gb_trans (gb_set w b q _) (gb_drew1 _ _)⟩

theorem enterSet0 (args : Array Value) (w : World) : (callFunc 70 args).run Tryd.prog w = .ok (.enter 70 args) w := by kernel_rfl

set_option maxRecDepth 100000 in
set_option maxHeartbeats 3200000 in
theorem Set0_any (n : Int) (s : ByteArray) (i : Int) (to : Bool) (c cs ci ct : Nat) (w : World) (hs : s.size ≤ 140737488351232) (hc : w.cell? ⟨c, 0, none⟩ = some (.int .i64 n)) (hcs : w.cell? ⟨cs, 0, none⟩ = some (.string s)) (hci : w.cell? ⟨ci, 0, none⟩ = some (.int .i64 i)) (hct : w.cell? ⟨ct, 0, none⟩ = some (.bool to)) (h : haE n s i = 0) :
    Calls Tryd.prog 70 #[.pointer (some ⟨c, 0, none⟩), .pointer (some ⟨cs, 0, none⟩), .pointer (some ⟨ci, 0, none⟩), .pointer (some ⟨ct, 0, none⟩)] w fun e w' => e = .returned (.string (seS n s i to)) ∧ w.grownBy w' none := by
  have hcc := (haE_ok h).1
  have HA := Lib.hid (askField_ok n s w hs hcc)
  obtain ⟨_, N, I, rfl, rfl, h1, h2, h3⟩ := haE_ok h
  rw [show seS N s I to = tf N (upd (bt s) I to) from by unfold seS; rw [if_pos h, Int.toNat_natCast, Int.toNat_natCast], ← fld_upd to (chk_t hcc) h1, ← h3]
  obtain ⟨m, hm⟩ : ∃ m, s.size = m := ⟨_, rfl⟩
  rw [hm]
  have hI8 : I < 8 * m := by omega
  have hm5 : m ≤ 600 := by omega
  have HCV : Hid (∀ W, ∃ W' cap, (convert 9 57 (.string s)).run Tryd.prog W = .ok (.slice (some ⟨W.heap.size, 0, none⟩) m cap) W' ∧ W.grownBy W' none ∧ m ≤ cap ∧ BW W' W.heap.size m (bN (bt s))) := Lib.hid (fun W => by
    obtain ⟨W', cap, q1, q2, q3, q4⟩ := conv_bw W s
    rw [hm] at q1 q3 q4
    exact ⟨W', cap, q1, q2, q3, q4.congr fun k _ => (bN_bt s k).symm⟩)
  have HRN := Lib.hid (fun w => Bc.refuse_no 7 w)
  have d1 : decide ((I : Int) < 0) = false := by simp
  have d2 : decide (N ≤ I) = false := by simp; omega
  have HC := Lib.hid hc
  have HCS := Lib.hid hcs
  have HCI := Lib.hid hci
  have HCT := Lib.hid hct
  obtain ⟨β, hβ⟩ : ∃ β, bt s = β := ⟨_, rfl⟩
  simp only [hβ] at HCV ⊢
  have hw1 : IntKind.i64.wrap ((I : Int) / 8) = ((I / 8 : Nat) : Int) := by rw [IntKind.wrap_i64]; omega
  have hw2 : ((I : Int).tmod 8) = ((I % 8 : Nat) : Int) := by rw [Int.tmod_eq_emod_of_nonneg (by omega)]; omega
  have hq8 : I / 8 < m := by omega
  have ht8 : I % 8 < 8 := by omega
  have hand := andnot8' (bN β (I / 8)) (2 ^ (7 - I % 8)) (bN_lt _ _) (two_lt _)
  rw [← shr128 _ ht8] at hand
  have HS0 : Hid (∀ (w : World) (b : Nat), BW w b m (bN β) → ∀ x : Nat, x = bN β (I / 8) &&& (255 - 2 ^ (7 - I % 8)) → BW (w.setCell ⟨b, I / 8, none⟩ (.int .u8 x)) b m (bN (upd β I false))) := Lib.hid (fun w b hb x hx => by subst hx; rw [← updN_clr]; exact hb.set _ _ hq8)
  obtain ⟨y, hy⟩ : ∃ y, bN β (I / 8) &&& (255 - 2 ^ (7 - I % 8)) = y := ⟨_, rfl⟩
  rw [hy] at hand
  simp only [hy] at HS0
  clear hy
  have HRA := Lib.hid (fun (w : World) (b cap : Nat) (hb : BW w b m (bN (upd β I false))) => raise_wd b m cap I (upd β I false) w hb hI8 hm5)
  rw [show upd (upd β I false) I true = upd β I true from upd_upd _ _ _ _] at HRA
  obtain ⟨q, hq⟩ : ∃ q, I / 8 = q := ⟨_, rfl⟩
  obtain ⟨t, ht⟩ : ∃ t, I % 8 = t := ⟨_, rfl⟩
  rw [hq] at hw1 hq8 hand
  simp only [hq] at HS0
  rw [ht] at hw2 ht8 hand
  have hw3 : (q : Int) < (m : Int) := by omega
  obtain ⟨x, hx⟩ : ∃ x, bN β q = x := ⟨_, rfl⟩
  rw [hx] at hand
  have HX := Lib.hid hx
  have HFL : Hid (∀ γ, strOfNums ((List.range m).map fun k => ((bN γ k : Nat) : Int)) = fld m γ) := Lib.hid (fun γ => rfl)
  clear hq ht hx hβ h hcc hm h3
  go_enter Tryd.func70, Tryd.ntmps70
  go_wp2_with fail
  refine HA.out.mono ?_
  rintro e w1 ⟨rfl, hg⟩
  have k0 := gb_cell hg HC.out (by simp)
  have k1 := gb_cell hg HCS.out (by simp)
  have k2 := gb_cell hg HCI.out (by simp)
  have k3 := gb_cell hg HCT.out (by simp)
  have HG := Lib.hid hg
  clear hg hc hcs hci hct
  go_wp2_with fail
  refine (HRN.out _).mono ?_
  rintro e w2 ⟨rfl, rfl⟩
  go_wp2_with fail
  obtain ⟨w3, cap, hrun, hg3, hcap, hbw⟩ := HCV.out w1
  rw [hrun]
  have k2' := gb_cell hg3 k2 (by simp)
  have k3' := gb_cell hg3 k3 (by simp)
  have c0 := (hbw q hq8).1
  have f0 := (hbw q hq8).2
  rw [HX.out] at c0
  have HBW := Lib.hid hbw
  have HG3 := Lib.hid hg3
  have lci : ci < w1.heap.size := World.block_lt_of_cell? _ _ k2
  have lct : ct < w1.heap.size := World.block_lt_of_cell? _ _ k3
  obtain ⟨b, hb⟩ : ∃ b, w1.heap.size = b := ⟨_, rfl⟩
  have HBE := Lib.hid hb
  simp only [hb] at HBW c0 f0 lci lct ⊢
  clear hbw hg3 hrun k0 k1 k2 k3 hb
  go_wp2_with fail
  go_region
  all_goals
    have hS := HS0.out _ _ HBW.out y rfl
    have kS := gb_cell (gb_trans (gb_set w3 b q (.int .u8 (y : Int))) (gb_drew1 _ _)) k2' (by simp; omega)
    have kT := gb_cell (gb_trans (gb_set w3 b q (.int .u8 (y : Int))) (gb_drew1 _ _)) k3' (by simp; omega)
    have HSS := Lib.hid hS.drew
    have HG4 := Lib.hid (gb_trans (gb_trans HG.out (gb_new HG3.out b q (.int .u8 (y : Int)) (by rw [HBE.out]; exact Nat.le_refl _))) (gb_drew1 _ none))
    clear hS
    generalize (w3.setCell ⟨b, q, none⟩ (.int .u8 (y : Int))).drew = w4 at kS kT HSS HG4 ⊢
    cases to
    · have hcv := HSS.out.conv cap
      rw [HFL.out] at hcv
      go_wp2_with fail
      go_ret
      exact ⟨rfl, HG4.out⟩
    · go_wp2_with fail
      refine (HRA.out _ _ _ HSS.out).mono ?_
      rintro e w5 ⟨rfl, hb5, hg5⟩
      have hcv := hb5.conv cap
      rw [HFL.out] at hcv
      have HG5 := Lib.hid (gb_part HG4.out hg5 (by have := HG.out.size; have := HBE.out; omega))
      clear hb5
      go_wp2_with fail
      go_ret
      exact ⟨rfl, HG5.out⟩

set_option maxRecDepth 100000 in
set_option maxHeartbeats 1600000 in
theorem Set0_no (n : Int) (s : ByteArray) (i : Int) (c cs ci ct : Nat) (w : World) (hs : s.size ≤ 140737488351232) (hc : w.cell? ⟨c, 0, none⟩ = some (.int .i64 n)) (hcs : w.cell? ⟨cs, 0, none⟩ = some (.string s)) (hci : w.cell? ⟨ci, 0, none⟩ = some (.int .i64 i)) (h : haE n s i ≠ 0) :
    Calls Tryd.prog 70 #[.pointer (some ⟨c, 0, none⟩), .pointer (some ⟨cs, 0, none⟩), .pointer (some ⟨ci, 0, none⟩), .pointer (some ⟨ct, 0, none⟩)] w fun e w' => e = .panicked [{ v := .iface 24 (.int .i64 (haE n s i)), recovered := false }] ∧ w.grownBy w' none := by
  by_cases hcc : chk n s = 0
  · have hi : i < 0 ∨ n ≤ i := by
      unfold haE at h
      rw [if_pos hcc] at h
      by_cases e : i < 0 ∨ n ≤ i
      · exact e
      · rw [if_neg e] at h; exact absurd rfl h
    rw [show haE n s i = 7 from by unfold haE; rw [if_pos hcc, if_pos hi]]
    have HA := Lib.hid (askField_ok n s w hs hcc)
    have HR := Lib.hid (fun w => Bc.refuse_yes 7 w)
    have HC := Lib.hid hc
    have HCI := Lib.hid hci
    by_cases h1 : i < 0
    · have d1 : decide (i < 0) = true := by simpa using h1
      clear h hcc hi
      go_enter Tryd.func70, Tryd.ntmps70
      go_wp2_with fail
      refine HA.out.mono ?_
      rintro e w1 ⟨rfl, hg⟩
      have k0 := gb_cell hg HC.out (by simp)
      have k2 := gb_cell hg HCI.out (by simp)
      have HG := Lib.hid hg
      clear hg hc hcs hci
      go_wp2_with fail
      refine (HR.out _).mono ?_
      rintro e w2 ⟨rfl, rfl⟩
      exact ⟨rfl, rfl, HG.out⟩
    · have d1 : decide (i < 0) = false := by simpa using h1
      have d2 : decide (n ≤ i) = true := by simp; omega
      clear h hcc hi
      go_enter Tryd.func70, Tryd.ntmps70
      go_wp2_with fail
      refine HA.out.mono ?_
      rintro e w1 ⟨rfl, hg⟩
      have k0 := gb_cell hg HC.out (by simp)
      have k2 := gb_cell hg HCI.out (by simp)
      have HG := Lib.hid hg
      clear hg hc hcs hci
      go_wp2_with fail
      refine (HR.out _).mono ?_
      rintro e w2 ⟨rfl, rfl⟩
      exact ⟨rfl, rfl, HG.out⟩
  · rw [show haE n s i = chk n s from if_neg hcc]
    have HA := Lib.hid (askField_no n s w hs hcc)
    obtain ⟨z, hz⟩ : ∃ z, chk n s = z := ⟨_, rfl⟩
    rw [hz] at HA ⊢
    clear hz h hcc
    go_enter Tryd.func70, Tryd.ntmps70
    go_wp2_with fail
    refine HA.out.mono ?_
    rintro e w1 ⟨rfl, hg⟩
    exact ⟨rfl, rfl, hg⟩

/-- the world in which four boxes lie -/
def bx4 (w : World) (n : Int) (s : ByteArray) (i : Int) (to : Bool) : World := (bx3 w n s i).alloc (.cells #[.bool to] 4)
theorem bx4_gb (w : World) (n : Int) (s : ByteArray) (i : Int) (to : Bool) : w.grownBy (bx4 w n s i to) none := gb_trans (bx3_gb w n s i) (gb_alloc _ _ _)
theorem bx3_sz (w : World) (n : Int) (s : ByteArray) (i : Int) : (bx3 w n s i).heap.size = w.heap.size + 1 + 1 + 1 := by unfold bx3; rw [World.size_alloc, bxs_sz]
theorem bx4_k3 (w : World) (n : Int) (s : ByteArray) (i : Int) (to : Bool) : (bx4 w n s i to).cell? ⟨w.heap.size + 1 + 1 + 1, 0, none⟩ = some (.bool to) := by
  unfold bx4; rw [← bx3_sz w n s i]; exact cell_one_new _ _ _ 0 _ rfl

set_option maxRecDepth 100000 in
set_option maxHeartbeats 800000 in
theorem Set_any (n : Int) (s : ByteArray) (i : Int) (to : Bool) (w : World) (hs : s.size ≤ 140737488351232) :
    Calls Tryd.prog 22 #[.int .i64 n, .string s, .int .i64 i, .bool to] w fun e w' => e = .returned (.tuple #[.string (seS n s i to), .int .i64 (haE n s i)]) ∧ w.grownBy w' none := by
  have hmf : ∀ (fn : Fn) (first cap : Array Value) (w : World), (Instr.makeFunc fn first cap).run Tryd.prog w = .ok (.func fn first cap) w := fun _ _ _ _ => rfl
  have g := Bc.aw_gb (bx4 w n s i to)
  have g4 : (bx3 w n s i).grownBy (bx4 w n s i to) none := gb_alloc _ _ _
  have gg := gb_trans g4 g
  have H : Hid (Calls Tryd.prog 56 #[.func (Fn.func 70) #[] #[.pointer (some ⟨w.heap.size, 0, none⟩), .pointer (some ⟨w.heap.size + 1, 0, none⟩), .pointer (some ⟨w.heap.size + 1 + 1, 0, none⟩), .pointer (some ⟨w.heap.size + 1 + 1 + 1, 0, none⟩)]] (bx4 w n s i to) fun e w' => e = .returned (.tuple #[.string (seS n s i to), .int .i64 (haE n s i)]) ∧ (bx4 w n s i to).grownBy w' none) := by
    refine Lib.hid ?_
    by_cases h : haE n s i = 0
    · rw [h]
      refine (Bc.att_ok 70 _ _ (bx4 w n s i to) none (fun _ => True) (sta_true _) (fun _ h => by cases h) enterSet0 ((Set0_any n s i to _ _ _ _ _ hs (gb_cell gg (bx3_k0 w n s i) (by simp)) (gb_cell gg (bx3_k1 w n s i) (by simp)) (gb_cell gg (bx3_k2 w n s i) (by simp)) (gb_cell g (bx4_k3 w n s i to) (by simp)) h).mono fun e w' hh => ⟨hh.1, trivial, hh.2⟩)).mono fun e w' hh => ⟨hh.1, hh.2.2⟩
    · rw [show seS n s i to = ⟨#[]⟩ from if_neg h]
      refine (Bc.att_no 70 _ (haE n s i) (bx4 w n s i to) none (fun _ => True) (sta_true _) (fun _ h => by cases h) enterSet0 ((Set0_no n s i _ _ _ _ _ hs (gb_cell gg (bx3_k0 w n s i) (by simp)) (gb_cell gg (bx3_k1 w n s i) (by simp)) (gb_cell gg (bx3_k2 w n s i) (by simp)) h).mono fun e w' hh => ⟨hh.1, trivial, hh.2⟩)).mono fun e w' hh => ⟨hh.1, hh.2.2⟩
  obtain ⟨x, hx⟩ : ∃ x, seS n s i to = x := ⟨_, rfl⟩
  obtain ⟨y, hy⟩ : ∃ y, haE n s i = y := ⟨_, rfl⟩
  rw [hx, hy] at H ⊢
  have HW := Lib.hid (bx4_gb w n s i to)
  clear hx hy g g4 gg
  unfold bx4 bx3 bxs bx at H HW
  go_enter Tryd.func22, Tryd.ntmps22
  go_wp2_with fail
  refine H.out.mono ?_
  rintro e w1 ⟨rfl, hg⟩
  have HG := Lib.hid (gb_trans HW.out hg)
  clear hg
  go_wp2
  go_ret2
  exact ⟨rfl, HG.out⟩
end Go.Proofs.YtbeaohnjifcgaaaDoor.Bh
