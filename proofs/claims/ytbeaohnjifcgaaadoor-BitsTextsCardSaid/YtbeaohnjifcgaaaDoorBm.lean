/-
  Fields of bits: the program's Full, raise.
-/
import Derived.Test.YtbeaohnjifcgaaaDoorBl
import Derived.BigRegionIn
namespace Go.Proofs.YtbeaohnjifcgaaaDoor.Bh
open Go Go.RowKit Go.Proofs.YtbeaohnjifcgaaaDoor.Sx Go.Proofs.YtbeaohnjifcgaaaDoor.Na Go.Proofs.YtbeaohnjifcgaaaDoor.Ba

theorem mk_lim (N : Nat) : mk N = bN (lim N fun _ => true) := by
  funext k
  exact bN_congr _ _ _ fun j _ => by simp [lim]
theorem tf_mk (N : Nat) : bsOf ((N + 7) / 8) (mk N) = tf N fun _ => true := by
  rw [mk_lim, bsOf_bN, tf]
theorem cell_lt {w : World} {c i : Nat} {v : Value} (h : w.cell? ⟨c, i, none⟩ = some v) : c < w.heap.size := by
  cases Nat.lt_or_ge c w.heap.size with
  | inl h' => exact h'
  | inr h' => simp [World.cell?, Array.getElem?_eq_none h'] at h
/-- how far Full has come -/
def mkTo (N k : Nat) : Nat → Nat := fun j => if j < k then mk N j else 0
theorem mkTo_zero (N : Nat) : mkTo N 0 = fun _ => 0 := by funext j; simp [mkTo]
theorem mkTo_succ (N k : Nat) : updN (mkTo N k) k (mk N k) = mkTo N (k + 1) := by
  funext j
  unfold updN mkTo
  by_cases e : j = k
  · subst e; simp
  · by_cases h : j < k
    · rw [if_neg e, if_pos h, if_pos (by omega)]
    · rw [if_neg e, if_neg h, if_neg (by omega)]

set_option maxRecDepth 100000 in
set_option maxHeartbeats 1600000 in
theorem Full1_any (N m : Nat) (hm : (N + 7) / 8 = m) (hN : N ≤ 4096) (b c : Nat) (w0 w : World) (hcb : c ≠ b) (hc : w.cell? ⟨c, 0, none⟩ = some (.int .i64 (N : Int))) (hb : BG w b m fun _ => 0) (hg : w0.grownBy w none) (hbz : w0.heap.size ≤ b) :
    Calls Tryd.prog 63 #[.slice (some ⟨b, 0, none⟩) m m, .pointer (some ⟨c, 0, none⟩)] w fun e w' => e = .returned (.tuple #[]) ∧ BG w' b m (mk N) ∧ w0.grownBy w' none := by
  have HM : Hid (∀ k, k < m → ∀ w, Calls Tryd.prog 64 #[.int .i64 N, .int .i64 k] w fun e w' => e = .returned (.int .u8 (mk N k)) ∧ w = w') := Lib.hid (fun k hk w => mask_any N k w (by omega) (by omega))
  have HB := Lib.hid hb
  have HG := Lib.hid hg
  have HC := Lib.hid hc
  have HZ := Lib.hid hbz
  have hm5 : m ≤ 512 := by omega
  have HE : Hid (∀ k, k = m → ∀ j, j < m → mkTo N k j = mk N j) := Lib.hid (fun k e j hj => by unfold mkTo; rw [if_pos (by omega)])
  clear hb hg hc hbz hm
  go_enter Tryd.func63, Tryd.ntmps63
  go_wp2_with fail
  go_loopw [3, 6] (fun _ i wr => ∃ k : Nat, k ≤ m ∧ i = .int .i64 k ∧ Hid (BG wr b m (mkTo N k)) ∧ Hid (w0.grownBy wr none) ∧ Hid (wr.cell? ⟨c, 0, none⟩ = some (.int .i64 (N : Int)))) (fun _ i _ => m - (intOf i).toNat)
  case atStart => exact ⟨0, Nat.zero_le _, rfl, Lib.hid (by rw [mkTo_zero]; exact HB.out), HG, HC⟩
  case round =>
    obtain ⟨k, hk, rfl, HBk, HGk, HCk⟩ := hrel
    by_cases hlt : k < m
    · have hlt' : (k : Int) < (m : Int) := by omega
      have cc := HCk.out
      have c0 := HBk.out.cell k hlt
      have f0 := HBk.out.free k
      have HS := Lib.hid (HBk.out.set k (mk N k) hlt)
      rw [mkTo_succ] at HS
      have HGS : Hid (∀ v, w0.grownBy (wr.setCell ⟨b, k, none⟩ v) none) := Lib.hid (fun v => gb_new HGk.out b k v HZ.out)
      have HCS : Hid (∀ v, (wr.setCell ⟨b, k, none⟩ v).cell? ⟨c, 0, none⟩ = some (.int .i64 (N : Int))) := Lib.hid (fun v => gb_cell (gb_set wr b k v) HCk.out (by simpa using hcb))
      have HMk := Lib.hid (HM.out k hlt)
      obtain ⟨x, hx⟩ : ∃ x, mk N k = x := ⟨_, rfl⟩
      simp only [hx] at HMk HS
      clear hx
      go_wp2_with fail
      refine (HMk.out _).mono ?_
      rintro e w2 ⟨rfl, rfl⟩
      go_wp2_with fail
      exact ⟨⟨k + 1, by omega, by go_num, HS, Lib.hid (HGS.out _), Lib.hid (HCS.out _)⟩, by simp [intOf]; omega⟩
    · obtain rfl : k = m := by omega
      have HBB : Hid (BG wr b k (mk N)) := Lib.hid (HBk.out.congr (HE.out k rfl))
      have HGG := Lib.hid HGk.out
      go_wp2_with fail
      go_end0
      exact ⟨rfl, HBB.out, HGG.out⟩

set_option maxRecDepth 100000 in
set_option maxHeartbeats 800000 in
theorem Full0_any (n : Int) (c : Nat) (w : World) (hc : w.cell? ⟨c, 0, none⟩ = some (.int .i64 n)) (h : rgt n = true) :
    Calls Tryd.prog 62 #[.pointer (some ⟨c, 0, none⟩)] w fun e w' => e = .returned (.string (fuS n)) ∧ w.grownBy w' none := by
  have hmf : ∀ (fn : Fn) (first cap : Array Value) (w : World), (Instr.makeFunc fn first cap).run Tryd.prog w = .ok (.func fn first cap) w := fun _ _ _ _ => rfl
  rw [show fuS n = tf n.toNat (fun _ => true) from if_pos h]
  have HA := Lib.hid (fun w => askSize_ok n w h)
  obtain ⟨n0, n1⟩ := rgt_t h
  obtain ⟨N, rfl⟩ : ∃ N : Nat, n = N := ⟨n.toNat, by omega⟩
  rw [Int.toNat_natCast, ← tf_mk]
  have hcl : c < w.heap.size := cell_lt hc
  have HB := Lib.hid (build_ok 63 #[.pointer (some ⟨c, 0, none⟩)] N _ rfl (by omega) (mk N) w none enterFull1 (fun w1 b hg hb H =>
    Full1_any N _ rfl (by omega) b c w w1 (by omega) (gb_cell hg hc (by simp)) H hg hb))
  obtain ⟨z, hz⟩ : ∃ z, bsOf ((N + 7) / 8) (mk N) = z := ⟨_, rfl⟩
  rw [hz] at HB ⊢
  clear hz h
  go_enter Tryd.func62, Tryd.ntmps62
  go_wp2_with fail
  refine (HA.out _).mono ?_
  rintro e w1 ⟨rfl, rfl⟩
  go_wp2_with fail
  refine HB.out.mono ?_
  rintro e w1 ⟨rfl, hg⟩
  go_wp2
  go_ret
  exact ⟨rfl, hg⟩
set_option maxRecDepth 100000 in
set_option maxHeartbeats 800000 in
theorem Full0_no (n : Int) (c : Nat) (w : World) (hc : w.cell? ⟨c, 0, none⟩ = some (.int .i64 n)) (h : rgt n = false) :
    Calls Tryd.prog 62 #[.pointer (some ⟨c, 0, none⟩)] w fun e w' => e = .panicked [{ v := .iface 24 (.int .i64 7), recovered := false }] ∧ w.grownBy w' none := by
  have HA := Lib.hid (fun w => askSize_no n w h)
  clear h
  go_enter Tryd.func62, Tryd.ntmps62
  go_wp2_with fail
  refine (HA.out _).mono ?_
  rintro e w1 ⟨rfl, rfl⟩
  exact ⟨rfl, rfl, gb_refl _ _⟩

set_option maxRecDepth 100000 in
set_option maxHeartbeats 800000 in
theorem Full_any (n : Int) (w : World) :
    Calls Tryd.prog 16 #[.int .i64 n] w fun e w' => e = .returned (.tuple #[.string (fuS n), .int .i64 (nwE n)]) ∧ w.grownBy w' none := by
  have hmf : ∀ (fn : Fn) (first cap : Array Value) (w : World), (Instr.makeFunc fn first cap).run Tryd.prog w = .ok (.func fn first cap) w := fun _ _ _ _ => rfl
  have H : Hid (Calls Tryd.prog 56 #[.func (Fn.func 62) #[] #[.pointer (some ⟨w.heap.size, 0, none⟩)]] (bx w n) fun e w' => e = .returned (.tuple #[.string (fuS n), .int .i64 (nwE n)]) ∧ (bx w n).grownBy w' none) := by
    refine Lib.hid ?_
    cases h : rgt n
    · rw [show fuS n = ⟨#[]⟩ from if_neg (by rw [h]; decide), show nwE n = 7 from if_neg (by rw [h]; decide)]
      refine (Bc.att_no 62 _ 7 (bx w n) none (fun _ => True) (sta_true _) (fun _ h => by cases h) enterFull0 ((Full0_no n _ _ (bx_cell w n) h).mono fun e w' hh => ⟨hh.1, trivial, hh.2⟩)).mono fun e w' hh => ⟨hh.1, hh.2.2⟩
    · rw [show nwE n = 0 from if_pos h]
      refine (Bc.att_ok 62 _ _ (bx w n) none (fun _ => True) (sta_true _) (fun _ h => by cases h) enterFull0 ((Full0_any n _ _ (bx_cell w n) h).mono fun e w' hh => ⟨hh.1, trivial, hh.2⟩)).mono fun e w' hh => ⟨hh.1, hh.2.2⟩
  obtain ⟨x, hx⟩ : ∃ x, fuS n = x := ⟨_, rfl⟩
  obtain ⟨y, hy⟩ : ∃ y, nwE n = y := ⟨_, rfl⟩
  rw [hx, hy] at H ⊢
  clear hx hy
  have HW := Lib.hid (show w.grownBy (bx w n) none from gb_alloc _ _ _)
  unfold bx at H HW
  go_enter Tryd.func16, Tryd.ntmps16
  go_wp2_with fail
  refine H.out.mono ?_
  rintro e w1 ⟨rfl, hg⟩
  have HG := Lib.hid (gb_trans HW.out hg)
  clear hg
  go_wp2
  go_ret2
  exact ⟨rfl, HG.out⟩

theorem updN_bN (β : Nat → Bool) (i : Nat) : updN (bN β) (i / 8) (bN β (i / 8) ||| 2 ^ (7 - i % 8)) = bN (upd β i true) := by
  funext k
  unfold updN
  by_cases e : k = i / 8
  · rw [if_pos e, e, bN_raise]
  · rw [if_neg e, bN_upd_other _ _ _ _ e]

set_option maxRecDepth 100000 in
set_option maxHeartbeats 3200000 in
theorem raise_any (b m i : Nat) (β : Nat → Bool) (w : World) (hb : BG w b m (bN β)) (hi : i < 8 * m) (hm : m ≤ 512) :
    Calls Tryd.prog 71 #[.slice (some ⟨b, 0, none⟩) m m, .int .i64 (i : Int)] w fun e w' => e = .returned (.tuple #[]) ∧ BG w' b m (bN (upd β i true)) ∧ w.grownBy w' (some b) := by
  have hw1 : IntKind.i64.wrap ((i : Int) / 8) = ((i / 8 : Nat) : Int) := by rw [IntKind.wrap_i64]; omega
  have hw2 : ((i : Int).tmod 8) = ((i % 8 : Nat) : Int) := by rw [Int.tmod_eq_emod_of_nonneg (by omega)]; omega
  have hq8 : i / 8 < m := by omega
  have ht8 : i % 8 < 8 := by omega
  have hor := or8 (bN β (i / 8)) (2 ^ (7 - i % 8)) (bN_lt _ _) (two_lt _)
  rw [← shr128 _ ht8] at hor
  have c0 := hb.cell (i / 8) hq8
  have f0 := hb.free (i / 8)
  have HS : Hid (∀ x : Nat, x = bN β (i / 8) ||| 2 ^ (7 - i % 8) → BG (w.setCell ⟨b, i / 8, none⟩ (.int .u8 x)) b m (bN (upd β i true))) := Lib.hid (fun x hx => by subst hx; rw [← updN_bN]; exact hb.set _ _ hq8)
  obtain ⟨y, hy⟩ : ∃ y, bN β (i / 8) ||| 2 ^ (7 - i % 8) = y := ⟨_, rfl⟩
  rw [hy] at hor
  simp only [hy] at HS
  clear hy
  obtain ⟨q, hq⟩ : ∃ q, i / 8 = q := ⟨_, rfl⟩
  obtain ⟨t, ht⟩ : ∃ t, i % 8 = t := ⟨_, rfl⟩
  rw [hq] at hw1 hq8 c0 f0 hor
  simp only [hq] at HS
  rw [ht] at hw2 ht8 hor
  have hw3 : (q : Int) < (m : Int) := by omega
  obtain ⟨x, hx⟩ : ∃ x, bN β q = x := ⟨_, rfl⟩
  rw [hx] at c0 hor
  clear hq ht hx hb
  go_enter Tryd.func71, Tryd.ntmps71
  go_region
  go_end0
  exact ⟨rfl, BG.kept (r := none) (HS.out y rfl) (gb_drew1 _ none) (by simp), gb_trans (gb_set w b q _) (gb_drew1 _ _)⟩
end Go.Proofs.YtbeaohnjifcgaaaDoor.Bh
