/-
  node: the specification's Next and Middle.
-/
import Derived.Test.YtionmnjcfnmpeaaDoorNs
import Derived.Test.YtionmnjcfnmpeaaDoorNt
import Derived.Test.YtionmnjcfnmpeaaDoorNl
namespace Go.Proofs.YtionmnjcfnmpeaaDoor.Nj
open Go Go.RowKit Go.Proofs.YtionmnjcfnmpeaaDoor.Hz Go.Proofs.YtionmnjcfnmpeaaDoor.Na Go.Proofs.YtionmnjcfnmpeaaDoor.Nb Go.Proofs.YtionmnjcfnmpeaaDoor.Nf
open Go.Proofs.YtionmnjcfnmpeaaDoor.Nq (nxt mid)

theorem bt_nxt_stop (s : ByteArray) (j t : Nat) (ht : t < 160) (h1 : ∀ q, q < j → (nb s).testBit q = true) (h0 : (nb s).testBit j = false) (hj : j < 160) :
    bt (nxt s) t = if t = 159 - j then true else if 160 - j ≤ t then false else bt s t := by
  unfold nxt
  rw [bt_idn _ _ ht, next_low (nb s) j (159 - t) h1 h0]
  by_cases e : t = 159 - j
  · rw [if_pos e, if_neg (by omega), if_pos (by omega)]
  · rw [if_neg e]
    by_cases e2 : 160 - j ≤ t
    · rw [if_pos e2, if_pos (by omega)]
    · rw [if_neg e2, if_neg (by omega), if_neg (by omega), nb_bit s t ht]
theorem bt_nxt_all (s : ByteArray) (t : Nat) (ht : t < 160) (h1 : ∀ q, q < 160 → (nb s).testBit q = true) : bt (nxt s) t = if 160 - 160 ≤ t then false else bt s t := by
  unfold nxt
  rw [bt_idn _ _ ht, next_all (nb s) (nb_lt s) h1 _ (by omega), if_pos (by omega)]
theorem nxt_size (s : ByteArray) : (nxt s).size = 20 := idn_size _
theorem mid_size (a b : ByteArray) : (mid a b).size = 20 := idn_size _

set_option maxRecDepth 100000 in
set_option maxHeartbeats 1600000 in
theorem RNext_any (s : ByteArray) (w : World) (hs : s.size = 20) : Calls Tryd.prog 22 #[.string s] w fun e w' => e = .returned (.string (nxt s)) ∧ Below w.heap.size w w' := by
  have HA := Lib.hid (fun w => bits_xs s w hs)
  have HF := Lib.hid (fun g cap f w h1 h2 => from_any g cap f (nxt s) w (nxt_size s) h1 h2)
  have HS := Lib.hid (fun j t ht h1 h0 hj => bt_nxt_stop s j t ht h1 h0 hj)
  have HE := Lib.hid (fun t ht h1 => bt_nxt_all s t ht h1)
  have HB : Hid (∀ j, j < 160 → (nb s).testBit j = bt s (159 - j)) := Lib.hid (fun j hj => by
    have := nb_bit s (159 - j) (by omega)
    rwa [show 159 - (159 - j) = j by omega] at this)
  obtain ⟨D, hD⟩ : ∃ D, nxt s = D := ⟨_, rfl⟩
  simp only [hD] at HF HS HE ⊢
  obtain ⟨A, hA⟩ : ∃ A, nb s = A := ⟨_, rfl⟩
  simp only [hA] at HS HE HB
  clear hs hD hA
  go_enter Tryd.func22, Tryd.ntmps22
  go_wp2_with fail
  refine (HA.out _).mono ?_
  rintro e w1 ⟨g, cap, rfl, hg, hx, hb⟩
  have HX0 : Hid (Xs w1 g (fun t => if 160 - 0 ≤ t then false else bt s t)) := Lib.hid (hx.congr fun j hj => by rw [if_neg (by omega)])
  have HB0 := Lib.hid hb
  clear hx hb
  go_wp2_with fail
  go_loopw [4] (fun i wr => ∃ j : Nat, j ≤ 160 ∧ i = .int .i64 (159 - (j : Int)) ∧ Hid (∀ q, q < j → A.testBit q = true) ∧ Hid (Xs wr g (fun t => if 160 - j ≤ t then false else bt s t)) ∧ Hid (Below w.heap.size w wr)) (fun i _ => (intOf i + 1).toNat)
  case atStart => exact ⟨0, Nat.zero_le _, rfl, Lib.hid (fun q hq => by omega), HX0, HB0⟩
  case round =>
    clear HX0 HB0
    obtain ⟨j, hj, rfl, H1, HX, HBL⟩ := hrel
    by_cases hlt : j < 160
    · obtain ⟨k, hk⟩ : ∃ k, 159 - j = k := ⟨_, rfl⟩
      have hki : (159 : Int) - (j : Int) = (k : Int) := by omega
      have hk160 : k < 160 := by omega
      have c1 := HX.out.1 k hk160
      have f1 := HX.out.2 k
      replace c1 : wr.cell? ⟨g, k, none⟩ = some (.bool (bt s k)) := by rw [c1]; simp only []; rw [if_neg (by omega)]
      have hbit := HB.out j hlt
      rw [hk] at hbit
      rw [hki]
      cases hv : bt s k
      · rw [hv] at c1 hbit
        have HX2 : Hid (Xs (wr.setCell ⟨g, k, none⟩ (.bool true)) g (fun t => if t = 159 - j then true else if 160 - j ≤ t then false else bt s t)) := Lib.hid ((HX.out.set k hk160 true).congr fun t _ => by rw [hk])
        have HT := Lib.hid (fun t ht => HS.out j t ht H1.out hbit hlt)
        have HB2 := Lib.hid (HBL.out.setCell (p := ⟨g, k, none⟩) hg (.bool true))
        have HFF := Lib.hid (HF.out g cap _ _ HT.out HX2.out.1)
        clear hv hbit hk hki
        go_wp2_with fail
        refine HFF.out.mono ?_
        rintro e w3 ⟨rfl, hb3⟩
        go_wp2
        go_ret
        exact ⟨rfl, blw HB2.out hb3⟩
      · rw [hv] at c1 hbit
        have HX2 : Hid (Xs (wr.setCell ⟨g, k, none⟩ (.bool false)) g (fun t => if 160 - (j + 1) ≤ t then false else bt s t)) := Lib.hid ((HX.out.set k hk160 false).congr fun t _ => by
          by_cases e : t = k
          · rw [if_pos e, if_pos (by omega)]
          · rw [if_neg e]
            by_cases e2 : 160 - j ≤ t
            · rw [if_pos e2, if_pos (by omega)]
            · rw [if_neg e2, if_neg (by omega)])
        have HB2 := Lib.hid (HBL.out.setCell (p := ⟨g, k, none⟩) hg (.bool false))
        have H12 : Hid (∀ q, q < j + 1 → A.testBit q = true) := Lib.hid (fun q hq => by
          by_cases e : q = j
          · rw [e]; exact hbit
          · exact H1.out q (by omega))
        have HK := Lib.hid hk
        clear hv hbit hk hki
        go_wp2_with fail
        exact ⟨⟨j + 1, by omega, by have := HK.out; (try congr 1); (try omega), H12, HX2, HB2⟩, by simp [intOf] <;> omega⟩
    · obtain rfl : j = 160 := by omega
      have hneg : (159 : Int) - ((160 : Nat) : Int) = -1 := by omega
      rw [hneg]
      have HT := Lib.hid (fun t ht => HE.out t ht H1.out)
      clear hneg
      go_wp2_with fail
      refine (HF.out g cap _ _ HT.out HX.out.1).mono ?_
      rintro e w3 ⟨rfl, hb3⟩
      go_wp2
      go_ret
      exact ⟨rfl, blw HBL.out hb3⟩

def bools (n : Nat) : Array Value := (List.replicate n (Value.bool false)).toArray
theorem bools_at (n i : Nat) (h : i < n) : (bools n)[i]? = some (.bool false) := by
  unfold bools
  rw [List.getElem?_toArray, List.getElem?_replicate, if_pos h]
theorem free_at {w : World} {g i : Nat} {c : Array Value} {t : TypeId} (H : w.heap[g]? = some (.cells c t (0, 0))) : w.frozen? ⟨g, i, none⟩ = false := by simp [World.frozen?, H]
theorem free_new (w : World) (c : Array Value) (t : TypeId) (i : Nat) : (w.alloc (.cells c t)).frozen? ⟨w.heap.size, i, none⟩ = false := free_at (heap_alloc_new w _)
theorem madeB (n : Nat) : madeCells (Value.bool false).cells n = (bools n) := by
  unfold bools
  apply Array.ext
  · simp [madeCells]
  · intro i h1 h2
    simp [madeCells, Value.cells, Nat.mod_one]
theorem makeB (n : Nat) (w : World) (hn : n ≤ 281474976710656) : (Instr.makeSlice 76 (.int .i64 (n : Int)) (.int .i64 (n : Int))).run Tryd.prog w = .ok (.slice (some ⟨w.heap.size, 0, none⟩) n n) (w.alloc (.cells (bools n) 4)) := by
  obtain ⟨i0, hi, hz0, hz1, hz2⟩ := info_parts b_info
  rw [run_make (P := Tryd.prog) w 76 4 i0 (.bool false) Tryd.underlying76 hi hz0 .i64 .i64 n n (by omega) (Int.le_refl _) (by rw [hz2]; omega) (by omega)]
  rw [hz1, Int.toNat_natCast, Nat.mul_one, madeB]
/-- a block of 161 truths -/
def Ys (w : World) (g : Nat) (f : Nat → Bool) : Prop := (∀ i, i < 161 → w.cell? ⟨g, i, none⟩ = some (.bool (f i))) ∧ ∀ i, w.frozen? ⟨g, i, none⟩ = false
theorem Ys.set {w : World} {g : Nat} {f : Nat → Bool} (h : Ys w g f) (k : Nat) (hk : k < 161) (c : Bool) : Ys (w.setCell ⟨g, k, none⟩ (.bool c)) g (fun i => if i = k then c else f i) := by
  refine ⟨fun i hi => ?_, fun i => (World.frozen?_setCell _ _ _ _).trans (h.2 i)⟩
  by_cases e : i = k
  · subst e
    rw [World.cell?_setCell_same _ _ _ (h.1 i hi)]
    simp
  · have hne : (⟨g, k, none⟩ : Addr) ≠ ⟨g, i, none⟩ := fun q => e (by injection q with _ q2; exact q2.symm)
    rw [World.cell?_setCell_other (w := w) (v := .bool c) (h := hne), h.1 i hi]
    simp [e]
theorem Ys.congr {w : World} {g : Nat} {f f' : Nat → Bool} (h : Ys w g f) (he : ∀ i, i < 161 → f i = f' i) : Ys w g f' := ⟨fun i hi => by rw [← he i hi]; exact h.1 i hi, h.2⟩
theorem Ys.new (w : World) : Ys (w.alloc (.cells (bools 161) 4)) w.heap.size (fun _ => false) := by
  refine ⟨fun i hi => ?_, fun i => free_new _ _ _ _⟩
  rw [cell_of_row _ _ _ _ _ _ (heap_alloc_new w _)]
  exact bools_at 161 i hi
theorem bt_mid (a b : ByteArray) (t : Nat) (ht : t < 160) : bt (mid a b) t = (nb a + nb b).testBit (160 - t) := by
  unfold mid
  rw [bt_idn _ _ ht, half_bit, show 159 - t + 1 = 160 - t by omega]

set_option maxRecDepth 100000 in
set_option maxHeartbeats 3200000 in
theorem RMiddle_any (a b : ByteArray) (w : World) (ha : a.size = 20) (hb : b.size = 20) : Calls Tryd.prog 26 #[.string a, .string b] w fun e w' => e = .returned (.string (mid a b)) ∧ Below w.heap.size w w' := by
  have hmk : ∀ w, (Instr.makeSlice 76 (.int .i64 161) (.int .i64 161)).run Tryd.prog w = .ok (.slice (some ⟨w.heap.size, 0, none⟩) 161 161) (w.alloc (.cells (bools 161) 4)) := fun w => makeB 161 w (by omega)
  have HX1 := Lib.hid (fun w => bits_xs a w ha)
  have HX2 := Lib.hid (fun w => bits_xs b w hb)
  have HF := Lib.hid (fun g cap f w h1 h2 => from_any g cap f (mid a b) w (mid_size a b) h1 h2)
  have HT := Lib.hid (fun t ht => bt_mid a b t ht)
  have HAB : Hid (∀ j, j < 160 → (nb a).testBit j = bt a (159 - j) ∧ (nb b).testBit j = bt b (159 - j)) := Lib.hid (fun j hj => by
    have h1 := nb_bit a (159 - j) (by omega)
    have h2 := nb_bit b (159 - j) (by omega)
    rw [show 159 - (159 - j) = j by omega] at h1 h2
    exact ⟨h1, h2⟩)
  have HTOP := Lib.hid (cyb_top (nb a) (nb b) (nb_lt a) (nb_lt b))
  obtain ⟨D, hD⟩ : ∃ D, mid a b = D := ⟨_, rfl⟩
  simp only [hD] at HF HT ⊢
  obtain ⟨A, hA⟩ : ∃ A, nb a = A := ⟨_, rfl⟩
  obtain ⟨B, hB⟩ : ∃ B, nb b = B := ⟨_, rfl⟩
  simp only [hA, hB] at HT HAB HTOP
  have HSUM := Lib.hid (fun j => sum_bit A B j)
  have HCY := Lib.hid (fun j => cyb_succ A B j)
  have HCL := Lib.hid (fun j => cyb_le A B j)
  have HC0 := Lib.hid (cyb_zero A B)
  clear ha hb hD hA hB
  go_enter Tryd.func26, Tryd.ntmps26
  go_wp2_with fail
  refine (HX1.out _).mono ?_
  rintro e w1 ⟨g1, cap1, rfl, hg1, hx1, hb1⟩
  go_wp2_with fail
  refine (HX2.out _).mono ?_
  rintro e w2 ⟨g2, cap2, rfl, hg2, hy, hb2⟩
  have hlt1 : g1 < w1.heap.size := World.block_lt_of_cell? w1 _ (hx1.1 0 (by omega))
  have hlt2 : g2 < w2.heap.size := World.block_lt_of_cell? w2 _ (hy.1 0 (by omega))
  have hs12 := hb2.size
  have hx := hx1.below hb2
  have HB0 := Lib.hid (blw_alloc (o := .cells (bools 161) 4) (blw hb1 hb2))
  have HBS := Lib.hid (blw hb1 hb2).size
  have hal := (Below.refl w2.heap.size w2).alloc (Nat.le_refl _) (.cells (bools 161) 4)
  have HXA := Lib.hid (hx.below hal)
  have HYA := Lib.hid (hy.below hal)
  have HS0 : Hid (Ys (w2.alloc (.cells (bools 161) 4)) w2.heap.size (fun t => if 161 - 0 ≤ t then (A + B).testBit (160 - t) else false)) := Lib.hid ((Ys.new w2).congr fun t ht => by rw [if_neg (by omega)])
  clear hx1 hb1 hb2 hx hy hal
  go_wp2_with fail
  obtain ⟨w3, hw3⟩ : ∃ w3, w2.alloc (.cells (bools 161) 4) = w3 := ⟨_, rfl⟩
  obtain ⟨gs, hgs⟩ : ∃ gs, w2.heap.size = gs := ⟨_, rfl⟩
  rw [hw3] at HB0 HXA HYA HS0 ⊢
  rw [hgs] at HS0 HBS hlt2 ⊢
  have hn1 : gs ≠ g1 := by omega
  have hn2 : gs ≠ g2 := by omega
  clear hw3 hmk hgs
  go_loopw [9, 8, 10] (fun i c _ wr => ∃ j : Nat, j ≤ 160 ∧ i = .int .i64 (159 - (j : Int)) ∧ c = .int .i64 (cyb A B j : Int) ∧ Hid (Ys wr gs (fun t => if 161 - j ≤ t then (A + B).testBit (160 - t) else false)) ∧ Hid (Xs wr g1 (bt a)) ∧ Hid (Xs wr g2 (bt b)) ∧ Hid (Below w.heap.size w wr)) (fun i _ _ _ => (intOf i + 1).toNat)
  case atStart => exact ⟨0, Nat.zero_le _, rfl, by rw [HC0.out]; rfl, HS0, HXA, HYA, HB0⟩
  case round =>
    clear HS0 HXA HYA HB0
    obtain ⟨j, hj, rfl, rfl, HS, HX, HY, HBL⟩ := hrel
    by_cases hlt : j < 160
    · obtain ⟨k, hk⟩ : ∃ k, 159 - j = k := ⟨_, rfl⟩
      have hki : (159 : Int) - (j : Int) = (k : Int) := by omega
      have hk160 : k < 160 := by omega
      have c1 := HX.out.1 k hk160
      have c2 := HY.out.1 k hk160
      have fs := HS.out.2 (k + 1)
      have cs := HS.out.1 (k + 1) (by omega)
      have hsum := HSUM.out j
      have hcy := HCY.out j
      have hcl := HCL.out j
      obtain ⟨hba, hbb⟩ := HAB.out j hlt
      rw [hk] at hba hbb
      rw [hba, hbb] at hsum hcy
      have HS2 : Hid (Ys (wr.setCell ⟨gs, k + 1, none⟩ (.bool ((A + B).testBit j))) gs (fun t => if 161 - (j + 1) ≤ t then (A + B).testBit (160 - t) else false)) := Lib.hid ((HS.out.set (k + 1) (by omega) _).congr fun t ht => by
        by_cases e : t = k + 1
        · rw [if_pos e, if_pos (by omega), show 160 - t = j by omega]
        · rw [if_neg e]
          by_cases e2 : 161 - j ≤ t
          · rw [if_pos e2, if_pos (by omega)]
          · rw [if_neg e2, if_neg (by omega)])
      have HX2' := Lib.hid (HX.out.far (g' := gs) (k := k + 1) (v := .bool ((A + B).testBit j)) hn1)
      have HY2' := Lib.hid (HY.out.far (g' := gs) (k := k + 1) (v := .bool ((A + B).testBit j)) hn2)
      have HB2 := Lib.hid (HBL.out.setCell (p := ⟨gs, k + 1, none⟩) HBS.out (.bool ((A + B).testBit j)))
      obtain ⟨c, hc⟩ : ∃ c, cyb A B j = c := ⟨_, rfl⟩
      rw [hc] at hcy hcl hsum ⊢
      obtain ⟨r, hr⟩ : ∃ r, (A + B).testBit j = r := ⟨_, rfl⟩
      rw [hr] at HS2 HX2' HY2' HB2 hsum
      obtain ⟨x, hx⟩ : ∃ x, bt a k = x := ⟨_, rfl⟩
      obtain ⟨y, hy⟩ : ∃ y, bt b k = y := ⟨_, rfl⟩
      obtain ⟨old, hold⟩ : ∃ old, (if 161 - j ≤ k + 1 then (A + B).testBit (160 - (k + 1)) else false) = old := ⟨_, rfl⟩
      simp only [hold] at cs
      rw [hx] at c1 hsum hcy
      rw [hy] at c2 hsum hcy
      rw [hki]
      have HK := Lib.hid hk
      clear hc hr hx hy hold hba hbb hk hki
      obtain rfl | rfl : c = 0 ∨ c = 1 := by omega
      all_goals
        cases x
        all_goals
          cases y
          all_goals
            simp only [Bool.toNat_true, Bool.toNat_false, Nat.zero_add, Nat.add_zero, Nat.reduceAdd, Nat.reduceMod, Nat.reduceDiv, Nat.reduceEqDiff, decide_true, decide_false] at hsum hcy
            subst hsum
            have HCY2 := Lib.hid hcy
            clear hcy
            go_wp2_with fail
            exact ⟨⟨j + 1, by omega, by have := HK.out; (try congr 1); (try omega), by rw [HCY2.out]; rfl, HS2, HX2', HY2', HB2⟩, by simp [intOf] <;> omega⟩
    · obtain rfl : j = 160 := by omega
      have hneg : (159 : Int) - ((160 : Nat) : Int) = -1 := by omega
      rw [hneg]
      have hcl := HCL.out 160
      have htop := HTOP.out
      have cs := HS.out.1 0 (by omega)
      have fs := HS.out.2 0
      have HS2 : Hid (Ys (wr.setCell ⟨gs, 0, none⟩ (.bool ((A + B).testBit 160))) gs (fun t => (A + B).testBit (160 - t))) := Lib.hid ((HS.out.set 0 (by omega) _).congr fun t ht => by
        by_cases e : t = 0
        · rw [if_pos e, e]
        · rw [if_neg e, if_pos (by omega)])
      have HB2 := Lib.hid (HBL.out.setCell (p := ⟨gs, 0, none⟩) HBS.out (.bool ((A + B).testBit 160)))
      have HFF := Lib.hid (HF.out gs 161 _ _ HT.out (fun i hi => HS2.out.1 i (by omega)))
      obtain ⟨c, hc⟩ : ∃ c, cyb A B 160 = c := ⟨_, rfl⟩
      rw [hc] at htop hcl ⊢
      rw [htop] at HB2 HFF
      obtain ⟨old, hold⟩ : ∃ old, (if 161 - 160 ≤ 0 then (A + B).testBit (160 - 0) else false) = old := ⟨_, rfl⟩
      simp only [hold] at cs
      clear hc htop hneg HS2 hold
      obtain rfl | rfl : c = 0 ∨ c = 1 := by omega
      all_goals
        go_wp2_with fail
        refine HFF.out.mono ?_
        rintro e w3 ⟨rfl, hb3⟩
        go_wp2
        go_ret
        exact ⟨rfl, blw HB2.out hb3⟩
end Go.Proofs.YtionmnjcfnmpeaaDoor.Nj
