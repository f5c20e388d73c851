/-
  Fields of bits: the program's Of.
-/
import Derived.Test.YtbeaohnjifcgaaaDoorBm
namespace Go.Proofs.YtbeaohnjifcgaaaDoor.Bh
open Go Go.RowKit Go.Proofs.YtbeaohnjifcgaaaDoor.Sx Go.Proofs.YtbeaohnjifcgaaaDoor.Na Go.Proofs.YtbeaohnjifcgaaaDoor.Ba

/-- a row of ints that lies somewhere -/
def IL (w : World) (a : Option Addr) (zs : List Int) : Prop := 0 < zs.length → ∃ b off, a = some ⟨b, off, none⟩ ∧ ∀ i, i < zs.length → w.cell? ⟨b, off + i, none⟩ = some (.int .i64 (zs.getD i 0))
theorem IL.kept {w w' : World} {a : Option Addr} {zs : List Int} (h : IL w a zs) (hg : w.grownBy w' none) : IL w' a zs := fun h0 => by
  obtain ⟨b, off, e, hc⟩ := h h0
  exact ⟨b, off, e, fun i hi => gb_cell hg (hc i hi) (by simp)⟩

theorem gb_part {a b w : World} {c : Nat} (h : a.grownBy b none) (k : b.grownBy w (some c)) (hc : a.heap.size ≤ c) : a.grownBy w none :=
  ⟨k.os.trans h.os, k.tape.trans h.tape, k.output.trans h.output, Nat.le_trans h.size k.size, fun i hi _ => (k.block i (Nat.lt_of_lt_of_le hi h.size) (by simp; omega)).trans (h.block i hi (by simp))⟩
/-- what Of makes of numbers: the error, the bits -/
def ofL (N : Int) : List Int → (Nat → Bool) → Int × (Nat → Bool)
  | [], β => (0, β)
  | i :: l, β => if i < 0 ∨ N ≤ i then (7, β) else if β i.toNat = true then (6, β) else ofL N l (upd β i.toNat true)
theorem drop_at (zs : List Int) (k : Nat) (h : k < zs.length) : zs.drop k = zs.getD k 0 :: zs.drop (k + 1) := by
  rw [List.drop_eq_getElem_cons h]
  simp [List.getD, h]

theorem bit_at8 (β : Nat → Bool) (i : Nat) : ((bits .and .u8 ((bN β (i / 8) : Nat) : Int) ((128 : Int) / 2 ^ (i % 8))) != 0) = β i := by
  rw [bit_at _ _ (bN_lt _ _) (by omega), bN_bit _ _ _ (by omega)]
  congr 1
  omega

def Of1Post (w0 : World) (b m : Nat) (r : Int × (Nat → Bool)) (e : Ending) (w' : World) : Prop :=
  (r.1 = 0 → e = .returned (.tuple #[]) ∧ BG w' b m (bN r.2)) ∧ (r.1 ≠ 0 → e = .panicked [{ v := .iface 24 (.int .i64 r.1), recovered := false }]) ∧ w0.grownBy w' none

set_option maxRecDepth 100000 in
set_option maxHeartbeats 3200000 in
theorem Of1_any (N m : Nat) (hm : (N + 7) / 8 = m) (hN : N ≤ 4096) (zs : List Int) (a : Option Addr) (cap : Nat) (b c cl : Nat) (w0 w : World) (hc : w0.cell? ⟨c, 0, none⟩ = some (.int .i64 (N : Int)))
    (hcl : w0.cell? ⟨cl, 0, none⟩ = some (.slice a zs.length cap)) (hz : IL w0 a zs) (hzl : zs.length ≤ maxLen) (hb : BG w b m fun _ => 0) (hg : w0.grownBy w none) (hbz : w0.heap.size ≤ b) :
    Calls Tryd.prog 81 #[.slice (some ⟨b, 0, none⟩) m m, .pointer (some ⟨cl, 0, none⟩), .pointer (some ⟨c, 0, none⟩)] w (Of1Post w0 b m (ofL N zs fun _ => false)) := by
  have HC := Lib.hid hc
  have HZ := Lib.hid hbz
  have HI := Lib.hid hz
  have HG := Lib.hid hg
  have ccl := gb_cell hg hcl (by simp)
  have HB : Hid (BG w b m (bN fun _ => false)) := Lib.hid hb
  obtain ⟨r, hr⟩ : ∃ r, ofL N zs (fun _ => false) = r := ⟨_, rfl⟩
  have HR : Hid (ofL N (zs.drop 0) (fun _ => false) = r) := Lib.hid hr
  have HM := Lib.hid hm
  have HN := Lib.hid (fun k w => Bc.refuse_no k w)
  have HY := Lib.hid (fun k w => Bc.refuse_yes k w)
  have hm5 : m ≤ 512 := by omega
  have hln := hzl
  unfold maxLen at hln
  have HL := Lib.hid hzl
  rw [hr]
  clear hb hg hc hcl hbz hz hr hm hzl
  obtain ⟨len, hlen⟩ : ∃ len, zs.length = len := ⟨_, rfl⟩
  have HLE := Lib.hid hlen
  rw [hlen] at ccl hln
  clear hlen
  go_enter Tryd.func81, Tryd.ntmps81
  go_wp2_with fail
  go_loopw [5, 8] (fun _ i wr => ∃ (k : Nat) (β : Nat → Bool), k ≤ len ∧ i = .int .i64 k ∧ Hid (BG wr b m (bN β)) ∧ Hid (w0.grownBy wr none) ∧ Hid (ofL N (zs.drop k) β = r)) (fun _ i _ => len - (intOf i).toNat)
  case atStart => exact ⟨0, _, Nat.zero_le _, rfl, HB, HG, HR⟩
  case round =>
    obtain ⟨k, β, hk, rfl, HBk, HGk, HRk⟩ := hrel
    by_cases hlt : k < len
    · have hlt' : (k : Int) < (len : Int) := by omega
      obtain ⟨zb, off, rfl, hzc⟩ := HI.out (by rw [HLE.out]; omega)
      have cz := gb_cell HGk.out (hzc k (by rw [HLE.out]; exact hlt)) (by simp)
      have cc := gb_cell HGk.out HC.out (by simp)
      have hrk := HRk.out
      rw [drop_at zs k (by rw [HLE.out]; exact hlt)] at hrk
      clear hzc
      obtain ⟨i, hi⟩ : ∃ i, zs.getD k 0 = i := ⟨_, rfl⟩
      rw [hi] at cz hrk
      clear hi
      rw [ofL] at hrk
      by_cases hbad : i < 0 ∨ (N : Int) ≤ i
      · rw [if_pos hbad] at hrk
        have HRR := Lib.hid hrk
        clear hrk
        by_cases h1 : i < 0
        · have d1 : decide (i < 0) = true := by simpa using h1
          clear hbad
          go_wp2_with fail
          refine (HY.out _ _).mono ?_
          rintro e w1 ⟨rfl, rfl⟩
          refine ⟨rfl, ?_⟩
          rw [← HRR.out]
          exact ⟨fun h => (by cases h), fun _ => rfl, HGk.out⟩
        · have d1 : decide (i < 0) = false := by simp; omega
          have d2 : decide ((N : Int) ≤ i) = true := by simp; omega
          clear hbad
          go_wp2_with fail
          refine (HY.out _ _).mono ?_
          rintro e w1 ⟨rfl, rfl⟩
          refine ⟨rfl, ?_⟩
          rw [← HRR.out]
          exact ⟨fun h => (by cases h), fun _ => rfl, HGk.out⟩
      · rw [if_neg hbad] at hrk
        obtain ⟨I, rfl⟩ : ∃ I : Nat, i = I := ⟨i.toNat, by omega⟩
        rw [Int.toNat_natCast] at hrk
        have d1 : decide ((I : Int) < 0) = false := by simp
        have d2 : decide (N ≤ I) = false := by simp; omega
        have hI : I < N := by omega
        have hI8 : I < 8 * m := by have := HM.out; omega
        clear hbad
        have hw1 : IntKind.i64.wrap ((I : Int) / 8) = ((I / 8 : Nat) : Int) := by rw [IntKind.wrap_i64]; omega
        have hw2 : ((I : Int).tmod 8) = ((I % 8 : Nat) : Int) := by rw [Int.tmod_eq_emod_of_nonneg (by omega)]; omega
        have hq8 : I / 8 < m := by omega
        have ht8 : I % 8 < 8 := by omega
        have hba := bit_at8 β I
        have c0 := HBk.out.cell (I / 8) hq8
        have f0 := HBk.out.free (I / 8)
        have HRA := Lib.hid (fun (w : World) (hb : BG w b m (bN β)) => raise_any b m I β w hb hI8 hm5)
        obtain ⟨x, hx⟩ : ∃ x, bN β (I / 8) = x := ⟨_, rfl⟩
        rw [hx] at c0 hba
        clear hx
        obtain ⟨q, hq⟩ : ∃ q, I / 8 = q := ⟨_, rfl⟩
        obtain ⟨t, ht⟩ : ∃ t, I % 8 = t := ⟨_, rfl⟩
        rw [hq] at hw1 hq8 c0 f0
        rw [ht] at hw2 ht8 hba
        have hw3 : (q : Int) < (m : Int) := by omega
        clear hq ht
        have HRF := Lib.hid (fun q => (Bc.refuse_no 6 (wr.drewN q)).mono (R' := fun e w' => e = .returned (.tuple #[]) ∧ w' = wr.drewN q) fun _ _ h => ⟨h.1, h.2.symm⟩)
        cases hβ : β I
        · rw [hβ] at hba hrk
          rw [if_neg (by decide)] at hrk
          have HRR := Lib.hid hrk
          clear hrk hβ
          go_wp2_with fail
          refine (HN.out _ _).mono ?_
          rintro e w1 ⟨rfl, rfl⟩
          go_wp2_with fail
          go_quiet ((go_at_call 68; exact Calls.quiet_of_same (HRF.out _)))
          go_wp2_with fail
          refine (HRA.out _ (BG.kept (r := none) HBk.out (gb_drew _ _ none) (by simp))).mono ?_
          rintro e w2 ⟨rfl, hb2, hg2⟩
          have HB2 := Lib.hid hb2
          have HG2 : Hid (w0.grownBy w2 none) := Lib.hid (gb_part (gb_trans HGk.out (gb_drew _ _ none)) hg2 HZ.out)
          clear hb2 hg2
          go_wp2_with fail
          exact ⟨⟨k + 1, _, by omega, by go_num, HB2, HG2, HRR⟩, by simp [intOf]; omega⟩
        · rw [hβ] at hba hrk
          rw [if_pos rfl] at hrk
          have HRR := Lib.hid hrk
          clear hrk hβ
          go_wp2_with fail
          refine (HN.out _ _).mono ?_
          rintro e w1 ⟨rfl, rfl⟩
          go_wp2_with fail
          go_region_dies
          all_goals
            refine (HY.out _ _).mono ?_
            rintro e w2 ⟨rfl, rfl⟩
            refine ⟨rfl, ?_⟩
            rw [← HRR.out]
            exact ⟨fun h => (by cases h), fun _ => rfl, gb_trans HGk.out (gb_drew1 _ _)⟩
    · obtain rfl : k = len := by omega
      have hrk := HRk.out
      rw [List.drop_of_length_le (by rw [HLE.out]; exact Nat.le_refl _)] at hrk
      have HRR : Hid (((0, β) : Int × (Nat → Bool)) = r) := Lib.hid hrk
      clear hrk
      go_wp2_with fail
      go_end0
      rw [← HRR.out]
      exact ⟨fun _ => ⟨rfl, HBk.out⟩, fun h => absurd rfl h, HGk.out⟩

theorem ofL_out (N : Nat) : ∀ (zs : List Int) (β : Nat → Bool), (∀ i, N ≤ i → β i = false) → ∀ i, N ≤ i → (ofL N zs β).2 i = false := by
  intro zs
  induction zs with
  | nil => intro β h; exact h
  | cons z zs ih =>
    intro β h i hi
    rw [ofL]
    split
    · exact h i hi
    · rename_i hz
      split
      · exact h i hi
      · exact ih _ (fun j hj => by rw [upd_other _ _ _ _ (by omega)]; exact h j hj) i hi
theorem tf_out {N : Nat} {β : Nat → Bool} (h : ∀ i, N ≤ i → β i = false) : fld ((N + 7) / 8) β = tf N β := by
  have : lim N β = β := by
    funext i
    unfold lim
    by_cases e : i < N
    · simp [e]
    · simp [e, h i (by omega)]
  rw [tf, this]
/-- what Of returns -/
def ofE (n : Int) (zs : List Int) : Int := if rgt n = true then (ofL n zs fun _ => false).1 else 7
def ofS (n : Int) (zs : List Int) : ByteArray := if ofE n zs = 0 then tf n.toNat (ofL n zs fun _ => false).2 else ⟨#[]⟩

theorem enterOf0 (args : Array Value) (w : World) : (callFunc 80 args).run Tryd.prog w = .ok (.enter 80 args) w := by kernel_rfl
theorem enterOf1 (args : Array Value) (w : World) : (callFunc 81 args).run Tryd.prog w = .ok (.enter 81 args) w := by kernel_rfl

set_option maxRecDepth 100000 in
set_option maxHeartbeats 1600000 in
theorem Of0_any (n : Int) (zs : List Int) (a : Option Addr) (cap : Nat) (c cl : Nat) (w : World) (hc : w.cell? ⟨c, 0, none⟩ = some (.int .i64 n))
    (hcl : w.cell? ⟨cl, 0, none⟩ = some (.slice a zs.length cap)) (hz : IL w a zs) (hzl : zs.length ≤ maxLen) (h : ofE n zs = 0) :
    Calls Tryd.prog 80 #[.pointer (some ⟨c, 0, none⟩), .pointer (some ⟨cl, 0, none⟩)] w fun e w' => e = .returned (.string (ofS n zs)) ∧ w.grownBy w' none := by
  have hmf : ∀ (fn : Fn) (first cap : Array Value) (w : World), (Instr.makeFunc fn first cap).run Tryd.prog w = .ok (.func fn first cap) w := fun _ _ _ _ => rfl
  rw [show ofS n zs = tf n.toNat (ofL n zs fun _ => false).2 from if_pos h]
  have hr : rgt n = true := by
    cases e : rgt n
    · unfold ofE at h; rw [if_neg (by rw [e]; decide)] at h; omega
    · rfl
  unfold ofE at h
  rw [if_pos hr] at h
  have HA := Lib.hid (fun w => askSize_ok n w hr)
  obtain ⟨n0, n1⟩ := rgt_t hr
  obtain ⟨N, rfl⟩ : ∃ N : Nat, n = N := ⟨n.toNat, by omega⟩
  rw [Int.toNat_natCast, ← tf_out (ofL_out N zs _ (fun _ _ => rfl)), ← bsOf_bN]
  have HB := Lib.hid (build_ok 81 #[.pointer (some ⟨cl, 0, none⟩), .pointer (some ⟨c, 0, none⟩)] N _ rfl (by omega) (bN (ofL N zs fun _ => false).2) w none enterOf1 (fun w1 b hg hb H =>
    (Of1_any N _ rfl (by omega) zs a cap b c cl w w1 hc hcl hz hzl H hg hb).mono fun e w2 hp => ⟨(hp.1 h).1, (hp.1 h).2, hp.2.2⟩))
  obtain ⟨z, hz⟩ : ∃ z, bsOf ((N + 7) / 8) (bN (ofL N zs fun _ => false).2) = z := ⟨_, rfl⟩
  rw [hz] at HB ⊢
  clear hz h hr hcl
  go_enter Tryd.func80, Tryd.ntmps80
  go_wp2_with fail
  refine (HA.out _).mono ?_
  rintro e w1 ⟨rfl, rfl⟩
  go_wp2_with fail
  refine HB.out.mono ?_
  rintro e w1 ⟨rfl, hg⟩
  go_wp2
  go_ret
  exact ⟨rfl, hg⟩

set_option maxRecDepth 100000 in
set_option maxHeartbeats 1600000 in
theorem Of0_no (n : Int) (zs : List Int) (a : Option Addr) (cap : Nat) (c cl : Nat) (w : World) (hc : w.cell? ⟨c, 0, none⟩ = some (.int .i64 n))
    (hcl : w.cell? ⟨cl, 0, none⟩ = some (.slice a zs.length cap)) (hz : IL w a zs) (hzl : zs.length ≤ maxLen) (h : ofE n zs ≠ 0) :
    Calls Tryd.prog 80 #[.pointer (some ⟨c, 0, none⟩), .pointer (some ⟨cl, 0, none⟩)] w fun e w' => e = .panicked [{ v := .iface 24 (.int .i64 (ofE n zs)), recovered := false }] ∧ w.grownBy w' none := by
  have hmf : ∀ (fn : Fn) (first cap : Array Value) (w : World), (Instr.makeFunc fn first cap).run Tryd.prog w = .ok (.func fn first cap) w := fun _ _ _ _ => rfl
  cases hr : rgt n
  · rw [show ofE n zs = 7 from if_neg (by rw [hr]; decide)]
    have HA := Lib.hid (fun w => askSize_no n w hr)
    clear h hcl hz
    go_enter Tryd.func80, Tryd.ntmps80
    go_wp2_with fail
    refine (HA.out _).mono ?_
    rintro e w1 ⟨rfl, rfl⟩
    exact ⟨rfl, rfl, gb_refl _ _⟩
  · unfold ofE at h ⊢
    rw [if_pos hr] at h ⊢
    have HA := Lib.hid (fun w => askSize_ok n w hr)
    obtain ⟨n0, n1⟩ := rgt_t hr
    obtain ⟨N, rfl⟩ : ∃ N : Nat, n = N := ⟨n.toNat, by omega⟩
    have HB := Lib.hid (build_no 81 #[.pointer (some ⟨cl, 0, none⟩), .pointer (some ⟨c, 0, none⟩)] N _ rfl (by omega) (ofL N zs fun _ => false).1 w none enterOf1 (fun w1 b hg hb H =>
      (Of1_any N _ rfl (by omega) zs a cap b c cl w w1 hc hcl hz hzl H hg hb).mono fun e w2 hp => ⟨hp.2.1 h, hp.2.2⟩))
    obtain ⟨z, hzz⟩ : ∃ z, (ofL N zs fun _ => false).1 = z := ⟨_, rfl⟩
    rw [hzz] at HB ⊢
    clear hzz h hr hcl hz
    go_enter Tryd.func80, Tryd.ntmps80
    go_wp2_with fail
    refine (HA.out _).mono ?_
    rintro e w1 ⟨rfl, rfl⟩
    go_wp2_with fail
    refine HB.out.mono ?_
    rintro e w1 ⟨rfl, hg⟩
    exact ⟨rfl, rfl, hg⟩

/-- the world in which a boxed int and a boxed slice lie -/
def bx2 (w : World) (n : Int) (a : Option Addr) (len cap : Nat) : World := (bx w n).alloc (.cells #[.slice a len cap] 38)

set_option maxRecDepth 100000 in
set_option maxHeartbeats 800000 in
theorem Of_any (n : Int) (zs : List Int) (a : Option Addr) (cap : Nat) (w : World) (hz : IL w a zs) (hzl : zs.length ≤ maxLen) :
    Calls Tryd.prog 32 #[.int .i64 n, .slice a zs.length cap] w fun e w' => e = .returned (.tuple #[.string (ofS n zs), .int .i64 (ofE n zs)]) ∧ w.grownBy w' none := by
  have hmf : ∀ (fn : Fn) (first cap : Array Value) (w : World), (Instr.makeFunc fn first cap).run Tryd.prog w = .ok (.func fn first cap) w := fun _ _ _ _ => rfl
  have g1 : w.grownBy (bx2 w n a zs.length cap) none := gb_trans (gb_alloc _ _ _) (gb_alloc _ _ _)
  have g2 := Bc.aw_gb (bx2 w n a zs.length cap)
  have hs : (bx w n).heap.size = w.heap.size + 1 := by simp [bx]
  have k0 : (Bc.aw (bx2 w n a zs.length cap)).cell? ⟨w.heap.size, 0, none⟩ = some (.int .i64 n) :=
    gb_cell (gb_trans (gb_alloc _ _ none) g2) (by unfold bx; exact cell_one_new _ _ _ 0 _ rfl) (by simp)
  have k1 : (Bc.aw (bx2 w n a zs.length cap)).cell? ⟨w.heap.size + 1, 0, none⟩ = some (.slice a zs.length cap) :=
    gb_cell g2 (by unfold bx2; rw [← hs]; exact cell_one_new _ _ _ 0 _ rfl) (by simp)
  have hz2 := hz.kept (gb_trans g1 g2)
  have H : Hid (Calls Tryd.prog 56 #[.func (Fn.func 80) #[] #[.pointer (some ⟨w.heap.size, 0, none⟩), .pointer (some ⟨w.heap.size + 1, 0, none⟩)]] (bx2 w n a zs.length cap) fun e w' => e = .returned (.tuple #[.string (ofS n zs), .int .i64 (ofE n zs)]) ∧ (bx2 w n a zs.length cap).grownBy w' none) := by
    refine Lib.hid ?_
    by_cases h : ofE n zs = 0
    · rw [h]
      refine (Bc.att_ok 80 _ _ (bx2 w n a zs.length cap) none (fun _ => True) (sta_true _) (fun _ h => by cases h) enterOf0 ((Of0_any n zs a cap _ _ _ k0 k1 hz2 hzl h).mono fun e w' hh => ⟨hh.1, trivial, hh.2⟩)).mono fun e w' hh => ⟨hh.1, hh.2.2⟩
    · rw [show ofS n zs = ⟨#[]⟩ from if_neg h]
      refine (Bc.att_no 80 _ (ofE n zs) (bx2 w n a zs.length cap) none (fun _ => True) (sta_true _) (fun _ h => by cases h) enterOf0 ((Of0_no n zs a cap _ _ _ k0 k1 hz2 hzl h).mono fun e w' hh => ⟨hh.1, trivial, hh.2⟩)).mono fun e w' hh => ⟨hh.1, hh.2.2⟩
  obtain ⟨x, hx⟩ : ∃ x, ofS n zs = x := ⟨_, rfl⟩
  obtain ⟨y, hy⟩ : ∃ y, ofE n zs = y := ⟨_, rfl⟩
  rw [hx, hy] at H ⊢
  have HW := Lib.hid g1
  clear hx hy k0 k1 hz2 g1 g2 hz hs
  obtain ⟨len, hlen⟩ : ∃ len, zs.length = len := ⟨_, rfl⟩
  rw [hlen] at H HW ⊢
  clear hlen hzl
  unfold bx2 bx at H HW
  go_enter Tryd.func32, Tryd.ntmps32
  go_wp2_with fail
  refine H.out.mono ?_
  rintro e w1 ⟨rfl, hg⟩
  have HG := Lib.hid (gb_trans HW.out hg)
  clear hg
  go_wp2
  go_ret2
  exact ⟨rfl, HG.out⟩
end Go.Proofs.YtbeaohnjifcgaaaDoor.Bh
