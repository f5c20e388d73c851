/-
  Fields of bits: the program's Not.
-/
import Derived.Test.YtbeaohnjifcgaaaDoorBv
import Derived.BigRegion
import Derived.Deep.RegionWith
namespace Go.Proofs.YtbeaohnjifcgaaaDoor.Bh
open Go Go.RowKit Go.Shelf Go.Proofs.YtbeaohnjifcgaaaDoor.Sx Go.Proofs.YtbeaohnjifcgaaaDoor.Na Go.Proofs.YtbeaohnjifcgaaaDoor.Ba

theorem nt_byte (N k : Nat) (s : ByteArray) : (255 - by_ s k) &&& mk N k = bN (lim N fun i => !bt s i) k := by
  refine bN_of _ _ _ (Nat.lt_of_le_of_lt Nat.and_le_left (by omega)) fun b hb => ?_
  have hx := by_lt s k
  have h1 : (255 - by_ s k).testBit b = !(by_ s k).testBit b := by
    have := Nat.testBit_two_pow_sub_succ (n := 8) hx b
    rw [show 2 ^ 8 - (by_ s k + 1) = 255 - by_ s k by omega] at this
    rw [this]; simp [hb]
  rw [Nat.testBit_and, h1, mk, bN_bit _ _ _ hb]
  have h2 : bt s (8 * k + (7 - b)) = (by_ s k).testBit b := by
    unfold bt
    rw [show (8 * k + (7 - b)) / 8 = k by omega, show 7 - (8 * k + (7 - b)) % 8 = b by omega]
  unfold lim
  simp only [h2]
  cases (by_ s k).testBit b <;> simp
set_option maxRecDepth 100000 in
theorem xor8 (x : Nat) (hx : x < 256) : bits .xor .u8 IntKind.u8.max (x : Int) = ((255 - x : Nat) : Int) := by
  have h1 : (BitVec.ofInt 8 IntKind.u8.max).toNat = 255 := by decide
  have h2 : (BitVec.ofInt 8 (x : Int)).toNat = x := by rw [BitVec.ofInt_natCast, BitVec.toNat_ofNat]; exact Nat.mod_eq_of_lt hx
  have h3 : ∀ y : Fin 256, 255 ^^^ y.val = 255 - y.val := by decide
  show IntKind.u8.wrap ((BitVec.ofInt 8 IntKind.u8.max ^^^ BitVec.ofInt 8 (x : Int)).toNat : Int) = _
  rw [BitVec.toNat_xor, h1, h2, h3 ⟨x, hx⟩, IntKind.wrap_u8]
  simp only []
  omega
def toK (v : Nat → Nat) (k : Nat) : Nat → Nat := fun j => if j < k then v j else 0
theorem toK_zero (v : Nat → Nat) : toK v 0 = fun _ => 0 := by funext j; simp [toK]
theorem toK_succ (v : Nat → Nat) (k : Nat) : updN (toK v k) k (v k) = toK v (k + 1) := by
  funext j
  unfold updN toK
  by_cases e : j = k
  · subst e; simp
  · by_cases h : j < k
    · rw [if_neg e, if_pos h, if_pos (by omega)]
    · rw [if_neg e, if_neg h, if_neg (by omega)]

set_option maxRecDepth 100000 in
set_option maxHeartbeats 4000000 in
theorem Not1_any (N m : Nat) (s : ByteArray) (hm : (N + 7) / 8 = m) (hN : N ≤ 4096) (hs : s.size = m) (b c cs : Nat) (w0 w : World) (hc : w0.cell? ⟨c, 0, none⟩ = some (.int .i64 (N : Int))) (hcs : w0.cell? ⟨cs, 0, none⟩ = some (.string s)) (hb : BG w b m fun _ => 0) (hg : w0.grownBy w none) (hbz : w0.heap.size ≤ b) :
    Calls Tryd.prog 79 #[.slice (some ⟨b, 0, none⟩) m m, .pointer (some ⟨cs, 0, none⟩), .pointer (some ⟨c, 0, none⟩)] w fun e w' => e = .returned (.tuple #[]) ∧ BG w' b m (bN (lim N fun i => !bt s i)) ∧ w0.grownBy w' none := by
  have HM : Hid (∀ k, k < m → ∀ w, Calls Tryd.prog 64 #[.int .i64 N, .int .i64 k] w fun e w' => e = .returned (.int .u8 (mk N k)) ∧ w = w') := Lib.hid (fun k hk w => mask_any N k w (by omega) (by omega))
  have HB := Lib.hid hb
  have HG := Lib.hid hg
  have HC := Lib.hid hc
  have HCS := Lib.hid hcs
  have HZ := Lib.hid hbz
  have HSZ := Lib.hid hs
  have hm5 : m ≤ 512 := by omega
  obtain ⟨v, hv⟩ : ∃ v, bN (lim N fun i => !bt s i) = v := ⟨_, rfl⟩
  have HV : Hid (∀ k, (255 - by_ s k) &&& mk N k = v k) := Lib.hid (fun k => by rw [nt_byte, hv])
  have HE : Hid (∀ k, k = m → ∀ j, j < m → toK v k j = v j) := Lib.hid (fun k e j hj => by unfold toK; rw [if_pos (by omega)])
  rw [hv]
  have hss : (s.size : Int) = (m : Int) := by omega
  clear hb hg hc hcs hbz hm hv hs
  go_enter Tryd.func79, Tryd.ntmps79
  go_wp2_with fail
  go_loopw [4, 7] (fun _ i wr => ∃ k : Nat, k ≤ m ∧ i = .int .i64 k ∧ Hid (BG wr b m (toK v k)) ∧ Hid (w0.grownBy wr none)) (fun _ i _ => m - (intOf i).toNat)
  case atStart => exact ⟨0, Nat.zero_le _, rfl, Lib.hid (by rw [toK_zero]; exact HB.out), HG⟩
  case round =>
    obtain ⟨k, hk, rfl, HBk, HGk⟩ := hrel
    by_cases hlt : k < m
    · have hlt' : (k : Int) < (m : Int) := by omega
      have hlt2 : (k : Int) < (s.size : Int) := by omega
      have cc := gb_cell HGk.out HC.out (by simp)
      have ccs := gb_cell HGk.out HCS.out (by simp)
      have c0 := HBk.out.cell k hlt
      have f0 := HBk.out.free k
      have hb1 := by_at s k (by have := HSZ.out; omega)
      have hb2 := by_lt s k
      have HS := Lib.hid (HBk.out.set k (v k) hlt)
      rw [toK_succ] at HS
      have HGS : Hid (∀ v, w0.grownBy (wr.setCell ⟨b, k, none⟩ v) none) := Lib.hid (fun v => gb_new HGk.out b k v HZ.out)
      have hand := and8 (255 - by_ s k) (mk N k) (by omega) (bN_lt _ _)
      rw [HV.out] at hand
      have HMk := Lib.hid (HM.out k hlt)
      obtain ⟨y, hy⟩ : ∃ y, v k = y := ⟨_, rfl⟩
      rw [hy] at hand HS
      obtain ⟨z, hz⟩ : ∃ z, mk N k = z := ⟨_, rfl⟩
      simp only [hz] at HMk hand
      obtain ⟨x, hx⟩ : ∃ x, by_ s k = x := ⟨_, rfl⟩
      rw [hx] at hb1 hb2 hand
      have HFUL : Hid (bits .and .u8 (bits .xor .u8 IntKind.u8.max (x : Int)) (z : Int) = (y : Int)) := Lib.hid (by rw [xor8 x hb2]; exact hand)
      have HFU2 : Hid (bits .and .u8 (bits .xor .u8 (if IntKind.u8.signed = true then -1 else IntKind.u8.max) (x : Int)) (z : Int) = (y : Int)) := Lib.hid (by rw [if_neg (by decide), xor8 x hb2]; exact hand)
      have HSD : Hid (BG (wr.setCell ⟨b, k, none⟩ (.int .u8 (y : Int))).drew b m (toK v (k + 1))) := Lib.hid (BG.kept (r := none) HS.out (gb_drew1 _ none) (by simp))
      have HGD : Hid (w0.grownBy (wr.setCell ⟨b, k, none⟩ (.int .u8 (y : Int))).drew none) := Lib.hid (gb_trans (HGS.out _) (gb_drew1 _ _))
      clear hy hz hx HS HGS hand
      go_wp2_with fail
      go_region_with (go_at_call 64; refine (HMk.out _).mono ?_; rintro e w2 ⟨rfl, rfl⟩)
      all_goals
        go_wp2_with fail
        exact ⟨⟨k + 1, by omega, by go_num, by first | (rw [HFUL.out]; exact HSD) | (rw [HFU2.out]; exact HSD), by first | (rw [HFUL.out]; exact HGD) | (rw [HFU2.out]; exact HGD)⟩, by simp [intOf]; omega⟩
    · obtain rfl : k = m := by omega
      have HBB : Hid (BG wr b k v) := Lib.hid (HBk.out.congr (HE.out k rfl))
      have HGG := Lib.hid HGk.out
      go_wp2_with fail
      go_end0
      exact ⟨rfl, HBB.out, HGG.out⟩

theorem enterNot0 (args : Array Value) (w : World) : (callFunc 78 args).run Tryd.prog w = .ok (.enter 78 args) w := by kernel_rfl
theorem enterNot1 (args : Array Value) (w : World) : (callFunc 79 args).run Tryd.prog w = .ok (.enter 79 args) w := by kernel_rfl

set_option maxRecDepth 100000 in
set_option maxHeartbeats 1600000 in
theorem Not0_any (n : Int) (s : ByteArray) (c cs : Nat) (w : World) (hs : s.size ≤ 140737488351232) (hc : w.cell? ⟨c, 0, none⟩ = some (.int .i64 n)) (hcs : w.cell? ⟨cs, 0, none⟩ = some (.string s)) (h : chk n s = 0) :
    Calls Tryd.prog 78 #[.pointer (some ⟨c, 0, none⟩), .pointer (some ⟨cs, 0, none⟩)] w fun e w' => e = .returned (.string (ntS n s)) ∧ w.grownBy w' none := by
  have hmf : ∀ (fn : Fn) (first cap : Array Value) (w : World), (Instr.makeFunc fn first cap).run Tryd.prog w = .ok (.func fn first cap) w := fun _ _ _ _ => rfl
  rw [show ntS n s = tf n.toNat (fun i => !bt s i) from if_pos h]
  have HA := Lib.hid (askField_ok n s w hs h)
  obtain ⟨N, rfl, h1, h2, h3⟩ := vd_t (chk_t h)
  rw [Int.toNat_natCast]
  have HB : Hid (∀ w1, w.grownBy w1 none → Calls Tryd.prog 59 #[.int .i64 N, .func (Fn.func 79) #[] #[.pointer (some ⟨cs, 0, none⟩), .pointer (some ⟨c, 0, none⟩)]] w1 fun e w' => e = .returned (.string (tf N (fun i => !bt s i))) ∧ w1.grownBy w' none) := Lib.hid (fun w1 hg1 =>
    build_ok 79 #[.pointer (some ⟨cs, 0, none⟩), .pointer (some ⟨c, 0, none⟩)] N _ rfl h1 (bN (lim N fun i => !bt s i)) w1 none enterNot1 (fun w2 b hg hb H =>
      Not1_any N _ s rfl h1 h2 b c cs w1 w2 (gb_cell hg1 hc (by simp)) (gb_cell hg1 hcs (by simp)) H hg hb))
  obtain ⟨z, hz⟩ : ∃ z, tf N (fun i => !bt s i) = z := ⟨_, rfl⟩
  simp only [hz] at HB ⊢
  have HC := Lib.hid hc
  have HCS := Lib.hid hcs
  clear hz h h1 h2 h3
  go_enter Tryd.func78, Tryd.ntmps78
  go_wp2_with fail
  refine HA.out.mono ?_
  rintro e w1 ⟨rfl, hg⟩
  have hc1 := gb_cell hg HC.out (by simp)
  have HG := Lib.hid hg
  clear hg hc hcs
  go_wp2_with fail
  refine (HB.out _ HG.out).mono ?_
  rintro e w2 ⟨rfl, hg⟩
  have HG2 := Lib.hid (gb_trans HG.out hg)
  clear hg
  go_wp2
  go_ret
  exact ⟨rfl, HG2.out⟩
set_option maxRecDepth 100000 in
set_option maxHeartbeats 1600000 in
theorem Not0_no (n : Int) (s : ByteArray) (c cs : Nat) (w : World) (hs : s.size ≤ 140737488351232) (hc : w.cell? ⟨c, 0, none⟩ = some (.int .i64 n)) (hcs : w.cell? ⟨cs, 0, none⟩ = some (.string s)) (h : chk n s ≠ 0) :
    Calls Tryd.prog 78 #[.pointer (some ⟨c, 0, none⟩), .pointer (some ⟨cs, 0, none⟩)] w fun e w' => e = .panicked [{ v := .iface 24 (.int .i64 (chk n s)), recovered := false }] ∧ w.grownBy w' none := by
  have HA := Lib.hid (askField_no n s w hs h)
  obtain ⟨z, hz⟩ : ∃ z, chk n s = z := ⟨_, rfl⟩
  rw [hz] at HA ⊢
  clear hz h
  go_enter Tryd.func78, Tryd.ntmps78
  go_wp2_with fail
  refine HA.out.mono ?_
  rintro e w1 ⟨rfl, hg⟩
  exact ⟨rfl, rfl, hg⟩

set_option maxRecDepth 100000 in
set_option maxHeartbeats 800000 in
theorem Not_any (n : Int) (s : ByteArray) (w : World) (hs : s.size ≤ 140737488351232) :
    Calls Tryd.prog 30 #[.int .i64 n, .string s] w fun e w' => e = .returned (.tuple #[.string (ntS n s), .int .i64 (chk n s)]) ∧ w.grownBy w' none := by
  have hmf : ∀ (fn : Fn) (first cap : Array Value) (w : World), (Instr.makeFunc fn first cap).run Tryd.prog w = .ok (.func fn first cap) w := fun _ _ _ _ => rfl
  have H : Hid (Calls Tryd.prog 56 #[.func (Fn.func 78) #[] #[.pointer (some ⟨w.heap.size, 0, none⟩), .pointer (some ⟨w.heap.size + 1, 0, none⟩)]] (bxs w n s) fun e w' => e = .returned (.tuple #[.string (ntS n s), .int .i64 (chk n s)]) ∧ (bxs w n s).grownBy w' none) := by
    refine Lib.hid ?_
    by_cases h : chk n s = 0
    · rw [h]
      refine (Bc.att_ok 78 _ _ (bxs w n s) none (fun _ => True) (sta_true _) (fun _ h => by cases h) enterNot0 ((Not0_any n s _ _ _ hs (bxs_c0 w n s) (bxs_c1 w n s) h).mono fun e w' hh => ⟨hh.1, trivial, hh.2⟩)).mono fun e w' hh => ⟨hh.1, hh.2.2⟩
    · rw [show ntS n s = ⟨#[]⟩ from if_neg h]
      refine (Bc.att_no 78 _ (chk n s) (bxs w n s) none (fun _ => True) (sta_true _) (fun _ h => by cases h) enterNot0 ((Not0_no n s _ _ _ hs (bxs_c0 w n s) (bxs_c1 w n s) h).mono fun e w' hh => ⟨hh.1, trivial, hh.2⟩)).mono fun e w' hh => ⟨hh.1, hh.2.2⟩
  obtain ⟨x, hx⟩ : ∃ x, ntS n s = x := ⟨_, rfl⟩
  obtain ⟨y, hy⟩ : ∃ y, chk n s = y := ⟨_, rfl⟩
  rw [hx, hy] at H ⊢
  have HW := Lib.hid (bxs_gb w n s)
  clear hx hy
  unfold bxs bx at H HW
  go_enter Tryd.func30, Tryd.ntmps30
  go_wp2_with fail
  refine H.out.mono ?_
  rintro e w1 ⟨rfl, hg⟩
  have HG := Lib.hid (gb_trans HW.out hg)
  clear hg
  go_wp2
  go_ret2
  exact ⟨rfl, HG.out⟩
end Go.Proofs.YtbeaohnjifcgaaaDoor.Bh
