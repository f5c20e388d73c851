/-
  Fields of bits: blocks of bytes, rows of truths; the reference's small functions, Truths and Field.
-/
import Derived.Test.YtbeaohnjifcgaaaDoorBh
import Derived.Deep.OwnRows
import Derived.Maps.AppendAt
import Derived.OwnWalk
import Derived.Laws.BytesArg
namespace Go.Proofs.YtbeaohnjifcgaaaDoor.Bh
open Go Go.RowKit Go.Proofs.YtbeaohnjifcgaaaDoor.Sx Go.Proofs.YtbeaohnjifcgaaaDoor.Na Go.Proofs.YtbeaohnjifcgaaaDoor.Ba

/-! blocks of bytes -/
def gC (m : Nat) (g : Nat → Nat) : Array Value := ((List.range m).map fun k => Value.int .u8 (g k)).toArray
theorem gC_at (m k : Nat) (g : Nat → Nat) (h : k < m) : (gC m g)[k]? = some (.int .u8 (g k)) := by unfold gC; simp [h]
def updN (g : Nat → Nat) (k x : Nat) : Nat → Nat := fun j => if j = k then x else g j
theorem gC_set (m k x : Nat) (g : Nat → Nat) (h : k < m) : (gC m g).setIfInBounds k (.int .u8 x) = gC m (updN g k x) := by
  apply Array.ext_getElem?
  intro j
  by_cases hj : j = k
  · subst hj; rw [gC_at _ _ _ h]; simp [gC, updN, h]
  · rw [Array.getElem?_setIfInBounds_ne (Ne.symm hj)]
    by_cases hn : j < m
    · rw [gC_at _ _ _ hn, gC_at _ _ _ hn]; simp [updN, hj]
    · simp [gC, hn]
theorem gC_congr (m : Nat) (g g' : Nat → Nat) (h : ∀ k, k < m → g k = g' k) : gC m g = gC m g' := by
  apply Array.ext_getElem?
  intro j
  by_cases hn : j < m
  · rw [gC_at _ _ _ hn, gC_at _ _ _ hn, h j hn]
  · simp [gC, hn]
theorem gC_zero (m : Nat) : madeCells #[.int .u8 0] m = gC m fun _ => 0 := by
  apply Array.ext_getElem?
  intro j
  by_cases hn : j < m
  · rw [gC_at _ _ _ hn]; simp [madeCells, hn, Nat.mod_one]
  · simp [madeCells, gC, hn]
/-- block b holds m bytes -/
def BG (w : World) (b m : Nat) (g : Nat → Nat) : Prop := ∃ t, w.heap[b]? = some (.cells (gC m g) t (0, 0))
section
variable {w w' : World} {b m : Nat} {g g' : Nat → Nat}
theorem BG.cell (H : BG w b m g) (k : Nat) (h : k < m) : w.cell? ⟨b, k, none⟩ = some (.int .u8 (g k)) := by obtain ⟨t, H⟩ := H; exact cell_at H (gC_at m k g h)
theorem BG.free (H : BG w b m g) (k : Nat) : w.frozen? ⟨b, k, none⟩ = false := by obtain ⟨t, H⟩ := H; exact frozen_at k H
theorem BG.lt (H : BG w b m g) : b < w.heap.size := by obtain ⟨t, H⟩ := H; exact (Array.getElem?_eq_some_iff.1 H).1
theorem BG.set (H : BG w b m g) (k x : Nat) (h : k < m) : BG (w.setCell ⟨b, k, none⟩ (.int .u8 x)) b m (updN g k x) := by
  obtain ⟨t, H⟩ := H; exact ⟨t, by rw [← gC_set m k x g h]; exact heap_setCell_same w b k _ t _ H⟩
theorem BG.congr (H : BG w b m g) (h : ∀ k, k < m → g k = g' k) : BG w b m g' := by obtain ⟨t, H⟩ := H; exact ⟨t, by rw [← gC_congr m g g' h]; exact H⟩
theorem BG.kept {r : Option Nat} (H : BG w b m g) (hg : w.grownBy w' r) (hne : some b ≠ r) : BG w' b m g := by obtain ⟨t, H⟩ := H; exact ⟨t, gb_block hg H hne⟩
theorem BG.conv (H : BG w b m g) (cap : Nat) : (convert 57 9 (.slice (some ⟨b, 0, none⟩) m cap)).run Tryd.prog w = .ok (.string (strOfNums ((List.range m).map fun k => (g k : Int)))) w :=
  run_convert_bytes_arg (P := Tryd.prog) _ 57 5 Tryd.underlying57 Tryd.underlying5 b 0 m cap _ (by simp) (fun i hi => by rw [Nat.zero_add, H.cell i hi]; simp [List.getD, hi]) 9 Tryd.underlying9
end
theorem u8_info : (Tryd.prog.info? 5).map (fun i => (i.zero, i.size, i.bytes)) = some (some (.int .u8 0), 1, 1) := by kernel_rfl
theorem b_info : (Tryd.prog.info? 4).map (fun i => (i.zero, i.size, i.bytes)) = some (some (.bool false), 1, 1) := by kernel_rfl
theorem mkBytes (m : Nat) (hm : m ≤ 5000) (w : World) : (Instr.makeSlice 57 (.int .i64 (m : Int)) (.int .i64 (m : Int))).run Tryd.prog w = .ok (.slice (some ⟨w.heap.size, 0, none⟩) m m) (w.alloc (.cells (gC m fun _ => 0) 5)) := by
  have := run_make_row' (P := Tryd.prog) 57 5 (.int .u8 0) 1 Tryd.underlying57 u8_info rfl .i64 .i64 m (by omega) (by omega) w
  rwa [gC_zero] at this
theorem BG.new (w : World) (m : Nat) (g : Nat → Nat) (t : TypeId) : BG (w.alloc (.cells (gC m g) t)) w.heap.size m g := ⟨t, World.alloc_heap_new _ _⟩

/-! rows of truths -/
/-- block g begins with len truths -/
def TB (w : World) (g len : Nat) (β : Nat → Bool) : Prop := ∃ cs t, w.heap[g]? = some (.cells cs t (0, 0)) ∧ ∀ i, i < len → cs[i]? = some (.bool (β i))
/-- a slice of truths of the call's own -/
def TL (w : World) (base : Nat) (a : Option Addr) (len : Nat) (β : Nat → Bool) : Prop := 0 < len → ∃ g, a = some ⟨g, 0, none⟩ ∧ base ≤ g ∧ TB w g len β
section
variable {w w' : World} {g len : Nat} {β : Nat → Bool}
theorem TB.cell (H : TB w g len β) (i : Nat) (h : i < len) : w.cell? ⟨g, i, none⟩ = some (.bool (β i)) := by obtain ⟨cs, t, H, hc⟩ := H; exact cell_at H (hc i h)
theorem TB.free (H : TB w g len β) (i : Nat) : w.frozen? ⟨g, i, none⟩ = false := by obtain ⟨cs, t, H, hc⟩ := H; exact frozen_at i H
theorem TB.lt (H : TB w g len β) : g < w.heap.size := by obtain ⟨cs, t, H, hc⟩ := H; exact (Array.getElem?_eq_some_iff.1 H).1
theorem TB.kept {r : Option Nat} (H : TB w g len β) (hg : w.grownBy w' r) (hne : some g ≠ r) : TB w' g len β := by obtain ⟨cs, t, H, hc⟩ := H; exact ⟨cs, t, gb_block hg H hne, hc⟩
theorem TB.set (H : TB w g len β) (i : Nat) (v : Bool) (h : i < len) : TB (w.setCell ⟨g, i, none⟩ (.bool v)) g len (upd β i v) := by
  obtain ⟨cs, t, H, hc⟩ := H
  refine ⟨_, t, heap_setCell_same w g i cs t (.bool v) H, fun j hj => ?_⟩
  have hs : i < cs.size := by
    have := hc i h
    exact (Array.getElem?_eq_some_iff.1 this).1
  by_cases e : j = i
  · subst e; rw [upd_same]; simp [hs]
  · rw [upd_other _ _ _ _ e, Array.getElem?_setIfInBounds_ne (Ne.symm e)]; exact hc j hj
theorem TL.kept {base : Nat} {a : Option Addr} (H : TL w base a len β) (hg : w.grownBy w' none) : TL w' base a len β := fun h => by
  obtain ⟨g, e, hb, ht⟩ := H h; exact ⟨g, e, hb, ht.kept hg (by simp)⟩
end
theorem mkTruths (n : Nat) (hn : n ≤ 5000) (w : World) : (Instr.makeSlice 61 (.int .i64 (n : Int)) (.int .i64 (n : Int))).run Tryd.prog w = .ok (.slice (some ⟨w.heap.size, 0, none⟩) n n) (w.alloc (.cells (madeCells #[.bool false] n) 4)) :=
  run_make_row' (P := Tryd.prog) 61 4 (.bool false) 1 Tryd.underlying61 b_info rfl .i64 .i64 n (by omega) (by omega) w
theorem TB.new (w : World) (n : Nat) : TB (w.alloc (.cells (madeCells #[.bool false] n) 4)) w.heap.size n fun _ => false :=
  ⟨_, _, World.alloc_heap_new _ _, fun i hi => by simp [madeCells, hi, Nat.mod_one]⟩

/-! the reference's -/
set_option maxHeartbeats 400000 in
theorem long_any (n : Int) (w : World) (h1 : 0 ≤ n) (h2 : n ≤ 5000) : Calls Tryd.prog 54 #[.int .i64 n] w fun e w' => e = .returned (.int .i64 (sz n)) ∧ w = w' := by
  go_enter Tryd.func54, Tryd.ntmps54
  go_wp2
  go_ret
  exact ⟨rfl, rfl⟩
set_option maxHeartbeats 400000 in
theorem right_t (n : Int) (w : World) (h : rgt n = true) : Calls Tryd.prog 53 #[.int .i64 n] w fun e w' => e = .returned (.bool true) ∧ w = w' := by
  obtain ⟨h1, h2⟩ := rgt_t h
  have d1 : decide (0 ≤ n) = true := by simpa using h1
  have d2 : decide (n ≤ 4096) = true := by simpa using h2
  clear h
  go_enter Tryd.func53, Tryd.ntmps53
  go_wp2
  go_ret
  exact ⟨by first | rfl | simp [h1, h2], rfl⟩
set_option maxHeartbeats 400000 in
theorem right_f (n : Int) (w : World) (h : rgt n = false) : Calls Tryd.prog 53 #[.int .i64 n] w fun e w' => e = .returned (.bool false) ∧ w = w' := by
  have h0 := rgt_f h
  clear h
  by_cases h1 : n < 0
  · have d1 : decide (0 ≤ n) = false := by simp; omega
    clear h0
    go_enter Tryd.func53, Tryd.ntmps53
    go_wp2
    go_ret
    exact ⟨by first | rfl | (simp; omega), rfl⟩
  · have h2 : 4096 < n := by omega
    have d1 : decide (0 ≤ n) = true := by simp; omega
    have d2 : decide (n ≤ 4096) = false := by simp; omega
    clear h0
    go_enter Tryd.func53, Tryd.ntmps53
    go_wp2
    go_ret
    exact ⟨by first | rfl | (simp; omega), rfl⟩

set_option maxRecDepth 100000 in
set_option maxHeartbeats 1600000 in
theorem at_any (s : ByteArray) (i : Nat) (w : World) (hi : i < 8 * s.size) (hs : s.size ≤ 140737488351232) :
    Calls Tryd.prog 55 #[.string s, .int .i64 (i : Int)] w fun e w' => e = .returned (.bool (bt s i)) ∧ w = w' := by
  have hq8 : i / 8 < s.size := by omega
  have ht8 : i % 8 < 8 := by omega
  have hbt : bt s i = decide (by_ s (i / 8) / 2 ^ (7 - i % 8) % 2 = 1) := by unfold bt; rw [Nat.testBit_eq_decide_div_mod_eq]
  rw [hbt]
  have hw1 : (i : Int) / 8 = ((i / 8 : Nat) : Int) := by omega
  have hw2 : (i : Int) % 8 = ((i % 8 : Nat) : Int) := by omega
  obtain ⟨q, hq⟩ : ∃ q, i / 8 = q := ⟨_, rfl⟩
  obtain ⟨t, ht⟩ : ∃ t, i % 8 = t := ⟨_, rfl⟩
  rw [hq] at hw1 hq8 ⊢
  rw [ht] at hw2 ht8 ⊢
  have hw3 : (q : Int) < (s.size : Int) := by omega
  have hb := by_at s q hq8
  have hbl := by_lt s q
  clear hq ht hbt
  obtain ⟨x, hx⟩ : ∃ x, by_ s q = x := ⟨_, rfl⟩
  rw [hx] at hb hbl ⊢
  clear hx
  obtain ⟨d, hd⟩ : ∃ d, 7 - t = d := ⟨_, rfl⟩
  have hd7 : d ≤ 7 := by omega
  have hdi : (7 : Int) - (t : Int) = (d : Int) := by omega
  rw [hd]
  clear hd
  go_enter Tryd.func55, Tryd.ntmps55
  go_wp2_with fail
  go_loop [5, 14] (fun c j => ∃ k : Nat, k ≤ d ∧ j = .int .i64 k ∧ c = .int .i64 ((x / 2 ^ k : Nat) : Int)) (fun _ j => d - (intOf j).toNat)
  case atStart => exact ⟨0, Nat.zero_le _, rfl, by simp⟩
  case round =>
    obtain ⟨k, hk, rfl, rfl⟩ := hrel
    have hlx : x / 2 ^ k ≤ x := Nat.div_le_self _ _
    by_cases hlt : k < d
    · have hst : ((x / 2 ^ k : Nat) : Int) / 2 = ((x / 2 ^ (k + 1) : Nat) : Int) := by rw [Nat.pow_succ, ← Nat.div_div_eq_div_mul]; omega
      have HST := Lib.hid hst
      obtain ⟨y, hy⟩ : ∃ y, x / 2 ^ k = y := ⟨_, rfl⟩
      have HY := Lib.hid hy
      rw [hy] at hlx ⊢
      clear hst hy
      go_wp2
      go_round
      case rel => exact ⟨k + 1, by omega, by go_num, by rw [← HST.out, HY.out]⟩
      case measure => simp [intOf]; omega
    · obtain rfl : k = d := by omega
      obtain ⟨y, hy⟩ : ∃ y, x / 2 ^ k = y := ⟨_, rfl⟩
      have HY := Lib.hid hy
      rw [hy] at hlx ⊢
      clear hy
      go_wp2
      go_ret
      refine ⟨?_, rfl⟩
      rw [HY.out]
      have : (((y : Int) % 2) == 1) = decide (y % 2 = 1) := by rw [Bool.eq_iff_iff]; simp; omega
      rw [← this]
      rfl

set_option maxRecDepth 100000 in
set_option maxHeartbeats 1600000 in
theorem RWrong_any (n : Int) (s : ByteArray) (w : World) (hs : s.size ≤ 140737488351232) :
    Calls Tryd.prog 13 #[.int .i64 n, .string s] w fun e w' => e = .returned (.tuple #[.int .i64 (wat n s), .int .i64 (wer n s)]) ∧ w = w' := by
  cases hr : rgt n
  · have h0 := rgt_f hr
    have HR := Lib.hid (fun w => right_f n w hr)
    rw [show wat n s = 0 from if_pos h0, show wer n s = 7 from if_pos h0]
    clear h0 hr
    go_enter Tryd.func13, Tryd.ntmps13
    go_wp2_with fail
    refine (HR.out _).mono ?_
    rintro e w1 ⟨rfl, rfl⟩
    go_wp2
    go_ret2
    exact ⟨rfl, rfl⟩
  · obtain ⟨n0, n1⟩ := rgt_t hr
    have h0 : ¬ (n < 0 ∨ 4096 < n) := by omega
    have HR := Lib.hid (fun w => right_t n w hr)
    have HS := Lib.hid (fun w => long_any n w n0 (by omega))
    have z1 : 0 ≤ sz n ∧ sz n ≤ 512 := by unfold sz; omega
    obtain ⟨z1, z2⟩ := z1
    clear hr
    by_cases h1 : (s.size : Int) < sz n
    · rw [show wat n s = s.size from by unfold wat; rw [if_neg h0, if_pos h1], show wer n s = 11 from by unfold wer; rw [if_neg h0, if_pos h1]]
      obtain ⟨z, hz⟩ : ∃ z, sz n = z := ⟨_, rfl⟩
      simp only [hz] at HS z1 z2 h1
      clear hz h0
      go_enter Tryd.func13, Tryd.ntmps13
      go_wp2_with fail
      refine (HR.out _).mono ?_
      rintro e w1 ⟨rfl, rfl⟩
      go_wp2_with fail
      refine (HS.out _).mono ?_
      rintro e w1 ⟨rfl, rfl⟩
      go_wp2
      go_ret2
      exact ⟨rfl, rfl⟩
    · by_cases h2 : sz n < (s.size : Int)
      · rw [show wat n s = sz n from by unfold wat; rw [if_neg h0, if_neg h1, if_pos h2], show wer n s = 11 from by unfold wer; rw [if_neg h0, if_neg h1, if_pos h2]]
        obtain ⟨z, hz⟩ : ∃ z, sz n = z := ⟨_, rfl⟩
        rw [hz]
        simp only [hz] at HS z1 z2 h1 h2
        clear hz h0
        go_enter Tryd.func13, Tryd.ntmps13
        go_wp2_with fail
        refine (HR.out _).mono ?_
        rintro e w1 ⟨rfl, rfl⟩
        go_wp2_with fail
        refine (HS.out _).mono ?_
        rintro e w1 ⟨rfl, rfl⟩
        go_wp2_with fail
        refine (HS.out _).mono ?_
        rintro e w1 ⟨rfl, rfl⟩
        go_wp2_with fail
        refine (HS.out _).mono ?_
        rintro e w1 ⟨rfl, rfl⟩
        go_wp2
        go_ret2
        exact ⟨rfl, rfl⟩
      · have hN : ∃ N : Nat, n = N := ⟨n.toNat, by omega⟩
        obtain ⟨N, rfl⟩ := hN
        have ea : wat N s = match scan s N (8 * s.size - N) with | some i => (i : Int) | none => -1 := by unfold wat; rw [if_neg h0, if_neg h1, if_neg h2]; rfl
        have ee : wer N s = match scan s N (8 * s.size - N) with | some i => (12 : Int) | none => 0 := by unfold wer; rw [if_neg h0, if_neg h1, if_neg h2]; rfl
        have hsz : N ≤ 8 * s.size := by unfold sz at h1; omega
        have s512 : (s.size : Int) ≤ 512 := by omega
        obtain ⟨va, hva⟩ : ∃ v, wat N s = v := ⟨_, rfl⟩
        obtain ⟨ve, hve⟩ : ∃ v, wer N s = v := ⟨_, rfl⟩
        rw [hva] at ea ⊢
        rw [hve] at ee ⊢
        clear hva hve
        obtain ⟨z, hz⟩ : ∃ z, sz N = z := ⟨_, rfl⟩
        simp only [hz] at HS z1 z2 h1 h2
        have hzz : z = (s.size : Int) := by omega
        subst hzz
        have HSZ := Lib.hid hs
        obtain ⟨r, hr⟩ : ∃ r, scan s N (8 * s.size - N) = r := ⟨_, rfl⟩
        rw [hr] at ea ee
        have HRr := Lib.hid hr
        have Hea := Lib.hid ea
        have Hee := Lib.hid ee
        clear hz h0 h1 h2 ea ee hs hr
        go_enter Tryd.func13, Tryd.ntmps13
        go_wp2_with fail
        refine (HR.out _).mono ?_
        rintro e w1 ⟨rfl, rfl⟩
        go_wp2_with fail
        refine (HS.out _).mono ?_
        rintro e w1 ⟨rfl, rfl⟩
        go_wp2_with fail
        refine (HS.out _).mono ?_
        rintro e w1 ⟨rfl, rfl⟩
        go_wp2_with fail
        go_loop [6] (fun i => ∃ j f : Nat, i = .int .i64 j ∧ N ≤ j ∧ j ≤ 8 * s.size ∧ Hid (j + f = 8 * s.size) ∧ Hid (scan s j f = r)) (fun i => 8 * s.size - (intOf i).toNat)
        case atStart => exact ⟨N, 8 * s.size - N, rfl, Nat.le_refl _, hsz, Lib.hid (by omega), HRr⟩
        case round =>
          obtain ⟨j, f, rfl, hj1, hj2, HF, HSc⟩ := hrel
          by_cases hlt : j < 8 * s.size
          · obtain ⟨f', rfl⟩ : ∃ f', f = f' + 1 := ⟨f - 1, by have := HF.out; omega⟩
            obtain ⟨b, hb⟩ : ∃ b, bt s j = b := ⟨_, rfl⟩
            have hat : ∀ w, Calls Tryd.prog 55 #[.string s, .int .i64 (j : Int)] w fun e w' => e = .returned (.bool b) ∧ w = w' := fun w => hb ▸ at_any s j w hlt HSZ.out
            have HI := Lib.hid hat
            have hlt' : (j : Int) < 8 * (s.size : Int) := by omega
            clear hat
            cases b
            · have hn : scan s (j + 1) f' = r := by have := HSc.out; rw [scan, if_neg (by rw [hb]; decide)] at this; exact this
              have Hn := Lib.hid hn
              clear hb hn
              go_wp2_with fail
              refine (HS.out _).mono ?_
              rintro e w1 ⟨rfl, rfl⟩
              go_wp2_with fail
              refine (HI.out _).mono ?_
              rintro e w1 ⟨rfl, rfl⟩
              go_wp2
              go_round
              case rel => exact ⟨j + 1, f', by go_num, by omega, by omega, Lib.hid (by have := HF.out; omega), Hn⟩
              case measure => simp [intOf]; omega
            · have hn : r = some j := by have := HSc.out; rw [scan, if_pos hb] at this; exact this.symm
              have Hn := Lib.hid hn
              clear hb hn
              go_wp2_with fail
              refine (HS.out _).mono ?_
              rintro e w1 ⟨rfl, rfl⟩
              go_wp2_with fail
              refine (HI.out _).mono ?_
              rintro e w1 ⟨rfl, rfl⟩
              go_wp2
              go_ret2
              exact ⟨by rw [show va = (j : Int) from by have := Hea.out; rw [Hn.out] at this; exact this, show ve = 12 from by have := Hee.out; rw [Hn.out] at this; exact this] <;> rfl, rfl⟩
          · have hn : r = none := by
              have h0 : f = 0 := by have := HF.out; omega
              subst h0
              exact HSc.out.symm
            have Hn := Lib.hid hn
            clear hn
            have hlt' : 8 * (s.size : Int) ≤ (j : Int) := by omega
            go_wp2_with fail
            refine (HS.out _).mono ?_
            rintro e w1 ⟨rfl, rfl⟩
            go_wp2
            go_ret2
            exact ⟨by rw [show va = -1 from by have := Hea.out; rw [Hn.out] at this; exact this, show ve = 0 from by have := Hee.out; rw [Hn.out] at this; exact this] <;> rfl, rfl⟩

set_option maxHeartbeats 800000 in
theorem RValid_any (n : Int) (s : ByteArray) (w : World) (hs : s.size ≤ 140737488351232) :
    Calls Tryd.prog 19 #[.int .i64 n, .string s] w fun e w' => e = .returned (.bool (vd n s)) ∧ w = w' := by
  have HW := Lib.hid (RWrong_any n s w hs)
  have HV := Lib.hid (show (wer n s == 0) = vd n s from by unfold vd; rw [Bool.eq_iff_iff]; simp)
  obtain ⟨x, hx⟩ : ∃ x, wer n s = x := ⟨_, rfl⟩
  rw [hx] at HW HV
  clear hx
  go_enter Tryd.func19, Tryd.ntmps19
  go_wp2_with fail
  refine HW.out.mono ?_
  rintro e w1 ⟨rfl, rfl⟩
  go_wp2
  go_ret
  exact ⟨by rw [← HV.out]; rfl, rfl⟩
theorem RValid_w (n : Int) (s : ByteArray) (w : World) (hs : s.size ≤ 140737488351232) (b : Bool) (h : vd n s = b) :
    Calls Tryd.prog 19 #[.int .i64 n, .string s] w fun e w' => e = .returned (.bool b) ∧ w = w' := h ▸ RValid_any n s w hs

/-- the errors of a field -/
def chk (n : Int) (s : ByteArray) : Int := if rgt n = true then (if vd n s = true then 0 else 1) else 7
set_option maxHeartbeats 800000 in
theorem check_any (n : Int) (s : ByteArray) (w : World) (hs : s.size ≤ 140737488351232) :
    Calls Tryd.prog 69 #[.int .i64 n, .string s] w fun e w' => e = .returned (.int .i64 (chk n s)) ∧ w = w' := by
  cases hr : rgt n
  · rw [show chk n s = 7 from if_neg (by rw [hr]; decide)]
    have HR := Lib.hid (fun w => right_f n w hr)
    clear hr
    go_enter Tryd.func69, Tryd.ntmps69
    go_wp2_with fail
    refine (HR.out _).mono ?_
    rintro e w1 ⟨rfl, rfl⟩
    go_wp2
    go_ret
    exact ⟨rfl, rfl⟩
  · have HR := Lib.hid (fun w => right_t n w hr)
    cases hv : vd n s
    · rw [show chk n s = 1 from by unfold chk; rw [if_pos hr, if_neg (by rw [hv]; decide)]]
      have HV := Lib.hid (fun w => RValid_w n s w hs _ hv)
      clear hr hv
      go_enter Tryd.func69, Tryd.ntmps69
      go_wp2_with fail
      refine (HR.out _).mono ?_
      rintro e w1 ⟨rfl, rfl⟩
      go_wp2_with fail
      refine (HV.out _).mono ?_
      rintro e w1 ⟨rfl, rfl⟩
      go_wp2
      go_ret
      exact ⟨rfl, rfl⟩
    · rw [show chk n s = 0 from by unfold chk; rw [if_pos hr, if_pos hv]]
      have HV := Lib.hid (fun w => RValid_w n s w hs _ hv)
      clear hr hv
      go_enter Tryd.func69, Tryd.ntmps69
      go_wp2_with fail
      refine (HR.out _).mono ?_
      rintro e w1 ⟨rfl, rfl⟩
      go_wp2_with fail
      refine (HV.out _).mono ?_
      rintro e w1 ⟨rfl, rfl⟩
      go_wp2
      go_ret
      exact ⟨rfl, rfl⟩

/-! Truths -/
def bC (l : List Bool) : List Value := l.map Value.bool
theorem bC_snoc (l : List Bool) (x : Bool) : bC (l ++ [x]) = bC l ++ [.bool x] := by simp [bC]
def bl (s : ByteArray) (k : Nat) : List Bool := (List.range k).map (bt s)
theorem bl_len (s : ByteArray) (k : Nat) : (bl s k).length = k := by simp [bl]
theorem bl_succ (s : ByteArray) (k : Nat) : bl s (k + 1) = bl s k ++ [bt s k] := by simp [bl, List.range_succ]
/-- a row of truths of the call's own -/
def OT (w : World) (base : Nat) (v : Value) (l : List Bool) : Prop := w.ownsRow base 4 1 v l.length (bC l)
theorem OT.nil_ (w : World) (base : Nat) : OT w base (.slice none 0 0) [] := ⟨rfl, .inl ⟨rfl, rfl⟩⟩
theorem OT.alloc_ {w : World} {base : Nat} {v : Value} {l : List Bool} (h : OT w base v l) (o : Obj) : OT (w.alloc o) base v l := World.ownsRow.alloc h o
theorem OT.grow_ {w w1 w2 : World} {base : Nat} {v : Value} {l : List Bool} (h : OT w1 base v l) (hb : Below base w w1) (hg : w1.grownBy w2 v.ownBlock) (hs : base ≤ w1.heap.size) : Below base w w2 :=
  hb.grown hg hs (fun k e => (World.ownsRow.lt (n := l.length) h k e).1)
theorem OT.row_ {w : World} {base : Nat} {v : Value} {s : ByteArray} {n : Nat} (h : OT w base v (bl s n)) : ∃ a cap, v = .slice a n cap ∧ TL w base a n (bt s) := by
  obtain ⟨h1, ⟨rfl, h2⟩ | ⟨g, cap, cur, rfl, hb, hh, hn, hc, hz, ht⟩⟩ := h
  · rw [bl_len] at h2
    subst h2
    exact ⟨none, 0, rfl, fun h => absurd h (by omega)⟩
  · rw [bl_len] at *
    refine ⟨_, cap, rfl, fun h0 => ⟨g, rfl, hb, cur, _, hh, fun i hi => ?_⟩⟩
    have e : cur.toList[i]? = (bC (bl s n))[i]? := by rw [← ht, List.getElem?_take_of_lt (by omega)]
    rw [← Array.getElem?_toList, e]
    simp [bC, bl, hi]

set_option maxRecDepth 1000000 in
set_option maxHeartbeats 1600000 in
/-- the bits of a field, in a row of their own -/
theorem Truths_any (N : Nat) (s : ByteArray) (w : World) (hN : N ≤ 5000) (hs : N ≤ 8 * s.size) (hz : s.size ≤ 140737488351232) :
    Calls Tryd.prog 72 #[.int .i64 (N : Int), .string s] w fun e w' => ∃ a cap, e = .returned (.slice a N cap) ∧ TL w' w.heap.size a N (bt s) ∧ w.grownBy w' none := by
  obtain ⟨i0, hi, hz0, hz1, hz2⟩ := info_parts b_info
  have HB := Lib.hid (fun k (hk : k < N) w => at_any s k w (by omega) hz)
  have HX : Hid (∀ v w', OT w' w.heap.size v (bl s N) → Below w.heap.size w w' → ∃ a cap, Ending.returned v = .returned (.slice a N cap) ∧ TL w' w.heap.size a N (bt s) ∧ w.grownBy w' none) := Lib.hid (fun v w' h hb => by
    obtain ⟨a, cap, rfl, ht⟩ := h.row_
    exact ⟨a, cap, rfl, ht, gb_below hb none⟩)
  clear hs hz
  go_enter Tryd.func72, Tryd.ntmps72
  go_wp2_with fail
  go_loopw [5, 8, 6] (fun v i _ wr => ∃ k : Nat, k ≤ N ∧ i = .int .i64 k ∧ OT wr w.heap.size v (bl s k) ∧ Below w.heap.size w wr) (fun _ i _ _ => N - (intOf i).toNat)
  case atStart => exact ⟨0, Nat.zero_le _, rfl, OT.nil_ _ _, Below.refl _ _⟩
  case round =>
    obtain ⟨k, hk, rfl, hown, hbl⟩ := hrel
    by_cases hlt : k < N
    · have hB := HB.out k hlt
      have hsz := hbl.size
      have hl := bl_len s k
      have HS := Lib.hid (bl_succ s k)
      obtain ⟨c, hc⟩ : ∃ c, bt s k = c := ⟨_, rfl⟩
      rw [hc] at HS
      simp only [hc] at hB
      have HBB := Lib.hid hB
      clear hB hc
      have hown1 := hown.alloc_ (.cells #[.bool c] 4)
      have hbl1 := hbl.alloc hsz (.cells #[.bool c] 4)
      have hs1 : w.heap.size ≤ (wr.alloc (.cells #[.bool c] 4)).heap.size := by simp; omega
      go_wp2_with fail
      refine (HBB.out _).mono ?_
      rintro e w1 ⟨rfl, rfl⟩
      go_wp2_with (at_builtin; refine wpList_append_own_at _ rfl _ _ 61 rfl w.heap.size 4 i0 (.bool false) 1 1 Tryd.underlying61 hi hz0 hz1 hz2 rfl (by decide) _ _ _ rfl hown1 ⟨wr.heap.size, 0, none⟩ 1 1 [.bool c] rfl rfl (cell_one_new _ _ _) (by simp [Value.oneCell']) (by unfold maxLen; omega) (by omega) hs1 ?_; intro v' w2 hown' hgrow _ hat; have hbl2 := hown1.grow_ hbl1 hgrow hs1)
      refine ⟨⟨k + 1, by omega, by go_num, ?_, hbl2⟩, by simp [intOf]; omega⟩
      rw [HS.out]
      unfold OT
      rw [bC_snoc, List.length_append]
      exact hown'
    · obtain rfl : k = N := by omega
      go_wp2_with fail
      go_ret
      exact HX.out _ _ hown hbl

/-! Field -/
def lim (len : Nat) (β : Nat → Bool) : Nat → Bool := fun i => decide (i < len) && β i
def part (len : Nat) (β : Nat → Bool) (i : Nat) : Nat → Nat := fun k => acc (lim len β) k (min 8 (i - 8 * k))
theorem part_zero (len : Nat) (β : Nat → Bool) (k : Nat) : part len β 0 k = 0 := by unfold part; rw [show min 8 (0 - 8 * k) = 0 by omega]; rfl
theorem part_end (len m : Nat) (β : Nat → Bool) (k : Nat) (h : k < m) : part len β (8 * m) k = bN (lim len β) k := by unfold part bN; rw [show min 8 (8 * m - 8 * k) = 8 by omega]
theorem part_at (len : Nat) (β : Nat → Bool) (i : Nat) : part len β i (i / 8) = acc (lim len β) (i / 8) (i % 8) := by unfold part; rw [show min 8 (i - 8 * (i / 8)) = i % 8 by omega]
theorem part_succ_at (len : Nat) (β : Nat → Bool) (i : Nat) : part len β (i + 1) (i / 8) = 2 * acc (lim len β) (i / 8) (i % 8) + (lim len β i).toNat := by
  unfold part
  rw [show min 8 (i + 1 - 8 * (i / 8)) = i % 8 + 1 by omega, acc, show 8 * (i / 8) + i % 8 = i by omega]
theorem part_other (len : Nat) (β : Nat → Bool) (i k : Nat) (h : k ≠ i / 8) : part len β (i + 1) k = part len β i k := by
  unfold part; rw [show min 8 (i + 1 - 8 * k) = min 8 (i - 8 * k) by omega]

set_option maxRecDepth 100000 in
set_option maxHeartbeats 3200000 in
theorem Field_any (a : Option Addr) (len cap : Nat) (β : Nat → Bool) (base : Nat) (w : World) (hT : TL w base a len β) (hl : len ≤ 5000) :
    Calls Tryd.prog 61 #[.slice a len cap] w fun e w' => e = .returned (.string (fld ((len + 7) / 8) (lim len β))) ∧ w.grownBy w' none := by
  obtain ⟨m, hm⟩ : ∃ m, (len + 7) / 8 = m := ⟨_, rfl⟩
  have hm5 : m ≤ 700 := by omega
  have HL := Lib.hid (fun w => long_any len w (by omega) (by omega))
  have hszl : sz len = (m : Int) := by unfold sz; omega
  simp only [hszl] at HL
  have hmk := mkBytes m (by omega)
  have HM := Lib.hid (show len ≤ 8 * m from by omega)
  have HT := Lib.hid hT
  rw [hm]
  obtain ⟨r, hr⟩ : ∃ r, fld m (lim len β) = r := ⟨_, rfl⟩
  rw [hr]
  have HRr := Lib.hid hr
  clear hr hm hszl hT
  go_enter Tryd.func61, Tryd.ntmps61
  go_wp2_with fail
  refine (HL.out _).mono ?_
  rintro e w1 ⟨rfl, rfl⟩
  go_wp2_with fail
  obtain ⟨b, hb⟩ : ∃ b, w.heap.size = b := ⟨_, rfl⟩
  have HB0 : Hid (BG (w.alloc (.cells (gC m fun _ => 0) 5)) b m (part len β 0)) := Lib.hid (by rw [← hb]; exact (BG.new w m (fun _ => 0) _).congr fun k _ => (part_zero len β k).symm)
  have HG0 : Hid (w.grownBy (w.alloc (.cells (gC m fun _ => 0) 5)) none) := Lib.hid (gb_alloc _ _ _)
  have HbE := Lib.hid hb
  rw [hb]
  clear hb hmk
  go_loopw [4, 12] (fun _ i wr => ∃ k : Nat, k ≤ 8 * m ∧ i = .int .i64 k ∧ Hid (BG wr b m (part len β k)) ∧ Hid (w.grownBy wr none)) (fun _ i _ => 8 * m - (intOf i).toNat)
  case atStart => exact ⟨0, Nat.zero_le _, rfl, HB0, HG0⟩
  case round =>
    obtain ⟨i, hi, rfl, HB, HG⟩ := hrel
    by_cases hlt : i < 8 * m
    · have hq8 : i / 8 < m := by omega
      have hlt' : (i : Int) < 8 * (m : Int) := by omega
      have hx := acc_lt (lim len β) (i / 8) (i % 8)
      have h7 : 2 ^ (i % 8) ≤ 2 ^ 7 := Nat.pow_le_pow_right (by omega) (by omega)
      have c0 := HB.out.cell (i / 8) hq8
      rw [part_at] at c0
      have f0 := HB.out.free (i / 8)
      have hw1 : (i : Int) / 8 = ((i / 8 : Nat) : Int) := by omega
      have HSet : Hid (∀ x : Nat, x = part len β (i + 1) (i / 8) → BG (wr.setCell ⟨b, i / 8, none⟩ (.int .u8 x)) b m (part len β (i + 1))) := Lib.hid (fun x hx => (HB.out.set (i / 8) x hq8).congr fun k hk => by
        unfold updN
        by_cases e : k = i / 8
        · rw [if_pos e, e, hx]
        · rw [if_neg e, part_other _ _ _ _ e])
      have HSet2 : Hid (∀ y x : Nat, x = part len β (i + 1) (i / 8) → BG ((wr.setCell ⟨b, i / 8, none⟩ (.int .u8 y)).setCell ⟨b, i / 8, none⟩ (.int .u8 x)) b m (part len β (i + 1))) := Lib.hid (fun y x hx => ((HB.out.set (i / 8) y hq8).set (i / 8) x hq8).congr fun k hk => by
        unfold updN
        by_cases e : k = i / 8
        · rw [if_pos e, e, hx]
        · rw [if_neg e, if_neg e, part_other _ _ _ _ e])
      have hps := part_succ_at len β i
      obtain ⟨q, hq⟩ : ∃ q, i / 8 = q := ⟨_, rfl⟩
      rw [hq] at hq8 hx c0 f0 hw1 hps
      simp only [hq] at HSet HSet2
      obtain ⟨x, hxx⟩ : ∃ x, acc (lim len β) q (i % 8) = x := ⟨_, rfl⟩
      rw [hxx] at hx c0 hps
      obtain ⟨y, hy⟩ : ∃ y, part len β (i + 1) q = y := ⟨_, rfl⟩
      rw [hy] at hps
      simp only [hy] at HSet HSet2
      have hx127 : x ≤ 127 := by omega
      have hq' : (q : Int) < (m : Int) := by omega
      have HGS : Hid (∀ v, w.grownBy (wr.setCell ⟨b, q, none⟩ v) none) := Lib.hid (fun v => gb_new HG.out b q v (by rw [HbE.out]; exact Nat.le_refl _))
      have HGS2 : Hid (∀ u v, w.grownBy ((wr.setCell ⟨b, q, none⟩ u).setCell ⟨b, q, none⟩ v) none) := Lib.hid (fun u v => gb_new (gb_new HG.out b q u (by rw [HbE.out]; exact Nat.le_refl _)) b q v (by rw [HbE.out]; exact Nat.le_refl _))
      have hgw : Hid (TL wr base a len β) := Lib.hid (HT.out.kept HG.out)
      have HPS := Lib.hid hps
      clear hq hxx hy hx h7 hps
      by_cases hil : i < len
      · obtain ⟨g, rfl, hgb, htb⟩ := hgw.out (by omega)
        have hgl : g ≠ b := by
          obtain ⟨g', e', hg', ht'⟩ := HT.out (by omega)
          have e2 : g' = g := by cases e'; rfl
          have := ht'.lt
          rw [HbE.out] at this
          omega
        have cg := htb.cell i hil
        have hil' : (i : Int) < (len : Int) := by omega
        have hlm : lim len β i = β i := by unfold lim; simp [hil]
        obtain ⟨v, hv⟩ : ∃ v, β i = v := ⟨_, rfl⟩
        rw [hv] at cg hlm
        have HPS2 : Hid (y = 2 * x + v.toNat) := Lib.hid (by rw [HPS.out, hlm])
        clear hv hlm
        have cg2 := gb_cell (gb_set wr b q (.int .u8 ((2 * x : Nat) : Int))) cg (by simpa using hgl)
        cases v
        · go_wp2_with fail
          have eW := HSet.out (2 * x) (by rw [HPS2.out]; rfl)
          rw [show ((2 * x : Nat) : Int) = (x : Int) * 2 from by omega] at eW
          exact ⟨⟨i + 1, by omega, by go_num, Lib.hid eW, Lib.hid (HGS.out _)⟩, by simp [intOf]; omega⟩
        · go_wp2_with fail
          have eW := HSet2.out (2 * x) (2 * x + 1) (by rw [HPS2.out]; rfl)
          rw [show ((2 * x + 1 : Nat) : Int) = (x : Int) * 2 + 1 from by omega, show ((2 * x : Nat) : Int) = (x : Int) * 2 from by omega] at eW
          exact ⟨⟨i + 1, by omega, by go_num, Lib.hid eW, Lib.hid (HGS2.out _ _)⟩, by simp [intOf]; omega⟩
      · have hil' : (len : Int) ≤ (i : Int) := by omega
        have HPS2 : Hid (y = 2 * x) := Lib.hid (by rw [HPS.out]; unfold lim; simp [hil])
        go_wp2_with fail
        have eW := HSet.out (2 * x) (by rw [HPS2.out])
        rw [show ((2 * x : Nat) : Int) = (x : Int) * 2 from by omega] at eW
        exact ⟨⟨i + 1, by omega, by go_num, Lib.hid eW, Lib.hid (HGS.out _)⟩, by simp [intOf]; omega⟩
    · obtain rfl : i = 8 * m := by omega
      have hcv := (HB.out.congr fun k hk => part_end len m β k hk).conv m
      rw [show strOfNums ((List.range m).map fun k => ((bN (lim len β) k : Nat) : Int)) = r from HRr.out] at hcv
      have HGG := Lib.hid HG.out
      go_wp2_with fail
      go_ret
      exact ⟨rfl, HGG.out⟩
end Go.Proofs.YtbeaohnjifcgaaaDoor.Bh
