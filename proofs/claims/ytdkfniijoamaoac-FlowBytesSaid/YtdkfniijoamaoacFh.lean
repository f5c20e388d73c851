/-
  Marked.
-/
import Derived.Test.YtdkfniijoamaoacFg
namespace Go.Proofs.Ytdkfniijoamaoac.Fl
open Go Go.RowKit Go.Proofs.Ytdkfniijoamaoac.Hz Go.Proofs.Ytdkfniijoamaoac.Rw Go.Proofs.Ytdkfniijoamaoac.Or

/-- by how much a number is beyond -/
def dz (ack z : Int) : Int := (z - ack) % 65536
def wi (d : Int) : Bool := decide (2 ≤ d) && decide (d ≤ 33)
/-- a number that may be marked -/
def gd (ack z : Int) : Bool := num z && wi (dz ack z)
def pl (ack : Int) (zs : List Int) : List Nat := zs.map fun z => (dz ack z - 2).toNat
theorem pl_bI (ack : Int) (zs : List Int) (h : ∀ z, z ∈ zs → gd ack z = true) : bI (pl ack zs) = zs.map (dz ack) := by
  unfold bI pl
  rw [List.map_map]
  apply List.map_congr_left
  intro z hz
  have := h z hz
  unfold gd wi at this
  simp at this
  simp only [Function.comp_apply]
  omega
theorem pl_lt (ack : Int) (zs : List Int) (h : ∀ z, z ∈ zs → gd ack z = true) : ∀ i, i ∈ pl ack zs → i < 32 := by
  intro i hi
  unfold pl at hi
  obtain ⟨z, hz, rfl⟩ := List.mem_map.1 hi
  have := h z hz
  unfold gd wi at this
  simp at this
  omega
theorem wrap16 (n : Int) : IntKind.i64.wrap n % 65536 = n % 65536 := by rw [IntKind.wrap_i64]; omega
theorem dz_wf (ack z : Int) : (Lit.int .i64 (dz ack z)).wf = true := WalkArith.wf_i64 (by unfold dz; omega)

set_option maxHeartbeats 1600000 in
theorem MarkedF_yes (pa pc : Nat) (ack : Int) (a : Option Addr) (len cap : Nat) (zs : List Int) (w : World) (hn : num ack = true) (hl : len ≤ 60) (hR : IntRow .i64 w a len cap zs) (hg : ∀ z, z ∈ zs → gd ack z = true)
    (ca : w.cell? ⟨pa, 0, none⟩ = some (.int .i64 ack)) (cc : w.cell? ⟨pc, 0, none⟩ = some (.slice a len cap)) :
    Calls Try.prog 33 #[.pointer (some ⟨pa, 0, none⟩), .pointer (some ⟨pc, 0, none⟩)] w fun e w' => e = .returned (.string (mt (pl ack zs))) ∧ Below w.heap.size w w' := by
  obtain ⟨h1, h2, h3, h4⟩ := hR
  obtain ⟨i0, hi, hz0, hz1, hz2⟩ := info_parts int_info
  have la : pa < w.heap.size := World.block_lt_of_cell? w _ ca
  obtain ⟨r, hr⟩ : ∃ r, mt (pl ack zs) = r := ⟨_, rfl⟩
  rw [hr]
  have HR := Lib.hid hr
  clear hr
  have hna := hn
  unfold num at hna
  simp at hna
  obtain ⟨na0, na1⟩ := hna
  have HN := Lib.hid (isNumber_any ack)
  rw [hn] at HN
  clear hn
  go_enter Try.func33, Try.ntmps33
  go_wp2_with fail
  refine (HN.out _).mono ?_
  rintro e w1 ⟨rfl, rfl⟩
  go_wp2_with fail
  refine (Fb.refuse_no _ _).mono ?_
  rintro e w1 ⟨rfl, rfl⟩
  go_wp2_with fail
  go_loopw [3, 5, 6, 13] (fun v _ _ i wr => ∃ k : Nat, k ≤ len ∧ i = .int .i64 k ∧ OR wr w.heap.size v ((zs.take k).map (dz ack)) ∧ Below w.heap.size w wr) (fun _ _ _ i _ => len - (intOf i).toNat)
  case atStart => exact ⟨0, Nat.zero_le _, rfl, OR.nil_ _ _, Below.refl _ _⟩
  case round =>
    obtain ⟨k, hk, rfl, hown, hbl⟩ := hrel
    have ca' := (hbl.cell (p := ⟨pa, 0, none⟩) la).trans ca
    by_cases hlt : k < len
    · obtain ⟨b, off, rfl, hbb, hcell⟩ := h4 (by omega)
      have hc := hcell k hlt
      rw [← hbl.cell (p := ⟨b, off + k, none⟩) hbb] at hc
      have hks : k < zs.length := by omega
      have hgz := hg zs[k] (List.getElem_mem hks)
      have hgd : zs.getD k 0 = zs[k] := by simp [List.getD, hks]
      rw [hgd] at hc
      have htk : (zs.take (k + 1)).map (dz ack) = (zs.take k).map (dz ack) ++ [dz ack zs[k]] := by rw [List.take_succ_eq_append_getElem hks, List.map_append]; rfl
      have hlen : ((zs.take k).map (dz ack)).length ≤ k := by rw [List.length_map, List.length_take]; omega
      generalize zs[k] = z at *
      unfold gd at hgz
      simp only [Bool.and_eq_true] at hgz
      have HZ := Lib.hid (isNumber_any z)
      rw [hgz.1] at HZ
      have hnz := hgz.1
      unfold num at hnz
      simp at hnz
      obtain ⟨nz0, nz1⟩ := hnz
      have HT := Lib.hid (turn_any (z - ack))
      rw [show (z - ack) % 65536 = dz ack z from rfl] at HT
      have HW := Lib.hid (within_any (dz ack z) 2 33)
      rw [show (decide (2 ≤ dz ack z) && decide (dz ack z ≤ 33)) = wi (dz ack z) from rfl, hgz.2] at HW
      have hown1 := hown.alloc_ (.cells #[.int .i64 (dz ack z)] 3)
      have hbl1 := hbl.alloc hbl.size (.cells #[.int .i64 (dz ack z)] 3)
      generalize dz ack z = d at *
      have HTK := Lib.hid htk
      generalize (zs.take k).map (dz ack) = l at *
      have hll := cI_len l
      have HLL := Lib.hid hll
      clear hcell h4 hg hgd hgz htk hll
      go_wp2_with fail
      refine (HT.out _).mono ?_
      rintro e w1 ⟨rfl, rfl⟩
      go_wp2_with fail
      refine (HZ.out _).mono ?_
      rintro e w1 ⟨rfl, rfl⟩
      go_wp2_with fail
      refine (HW.out _).mono ?_
      rintro e w1 ⟨rfl, rfl⟩
      go_wp2_with fail
      refine (Fb.refuse_no _ _).mono ?_
      rintro e w1 ⟨rfl, rfl⟩
      go_wp2_with (at_builtin; refine wpList_append_own _ rfl _ _ 36 rfl w.heap.size 3 i0 (.int .i64 0) 1 8 Try.underlying36 hi hz0 hz1 hz2 rfl (by decide) _ _ _ rfl hown1 ⟨wr.heap.size, 0, none⟩ 1 1 [.int .i64 d] rfl rfl (cell_one_new _ _ _) (by simp [Value.oneCell']) (by unfold maxLen; omega) (by omega) hbl1.size ?_; intro v' w1 hown' hgrow _; have hbl2 := hown1.grow_ hbl1 hgrow hbl1.size; clear hgrow)
      exact ⟨⟨k + 1, by omega, by go_num, by rw [HTK.out]; unfold OR; rw [cI_snoc, List.length_append]; exact hown', hbl2⟩, by simp [intOf]; omega⟩
    · obtain rfl : k = len := by omega
      rw [← h1, List.take_length, ← pl_bI ack zs hg] at hown
      obtain ⟨a', cap', rfl, hrow⟩ := hown.row_ (by
        rw [pl_bI ack zs hg]
        intro z hz
        obtain ⟨y, _, rfl⟩ := List.mem_map.1 hz
        exact dz_wf _ _)
      have HM := Lib.hid (mark_any a' cap' (pl ack zs) wr hrow (by simp [pl]; omega) (pl_lt ack zs hg))
      rw [HR.out] at HM
      generalize bI (pl ack zs) = l at *
      clear hown hrow h4 hg h3 h1
      go_wp2_with fail
      refine HM.out.mono ?_
      rintro e w1 ⟨rfl, hb1⟩
      go_wp2
      go_ret
      exact ⟨rfl, hbl.trans (hb1.mono hbl.size)⟩

theorem wrap64_16 (n : Int) : wrap64 n % 65536 = n % 65536 := by unfold wrap64; omega

set_option maxHeartbeats 1600000 in
theorem MarkedF_no (pa pc : Nat) (ack : Int) (a : Option Addr) (len cap : Nat) (zs : List Int) (w : World) (hn : num ack = true) (hl : len ≤ 60) (hR : IntRow .i64 w a len cap zs) (hg : ¬ ∀ z, z ∈ zs → gd ack z = true)
    (ca : w.cell? ⟨pa, 0, none⟩ = some (.int .i64 ack)) (cc : w.cell? ⟨pc, 0, none⟩ = some (.slice a len cap)) :
    Calls Try.prog 33 #[.pointer (some ⟨pa, 0, none⟩), .pointer (some ⟨pc, 0, none⟩)] w fun e w' => e = .panicked [{ v := .iface 25 (.int .i64 7), recovered := false }] ∧ Below w.heap.size w w' := by
  obtain ⟨h1, h2, h3, h4⟩ := hR
  obtain ⟨i0, hi, hz0, hz1, hz2⟩ := info_parts int_info
  have la : pa < w.heap.size := World.block_lt_of_cell? w _ ca
  have HN := Lib.hid (isNumber_any ack)
  rw [hn] at HN
  have HG := Lib.hid hg
  clear hn hg
  go_enter Try.func33, Try.ntmps33
  go_wp2_with fail
  refine (HN.out _).mono ?_
  rintro e w1 ⟨rfl, rfl⟩
  go_wp2_with fail
  refine (Fb.refuse_no _ _).mono ?_
  rintro e w1 ⟨rfl, rfl⟩
  go_wp2_with fail
  go_loopw [3, 5, 6, 13] (fun v _ _ i wr => ∃ k : Nat, k ≤ len ∧ i = .int .i64 k ∧ OR wr w.heap.size v ((zs.take k).map (dz ack)) ∧ Below w.heap.size w wr ∧ (∀ z, z ∈ zs.take k → gd ack z = true)) (fun _ _ _ i _ => len - (intOf i).toNat)
  case atStart => exact ⟨0, Nat.zero_le _, rfl, OR.nil_ _ _, Below.refl _ _, by simp⟩
  case round =>
    obtain ⟨k, hk, rfl, hown, hbl, hgk⟩ := hrel
    have ca' := (hbl.cell (p := ⟨pa, 0, none⟩) la).trans ca
    by_cases hlt : k < len
    · obtain ⟨b, off, rfl, hbb, hcell⟩ := h4 (by omega)
      have hc := hcell k hlt
      rw [← hbl.cell (p := ⟨b, off + k, none⟩) hbb] at hc
      have hks : k < zs.length := by omega
      have hgd : zs.getD k 0 = zs[k] := by simp [List.getD, hks]
      rw [hgd] at hc
      have htk : (zs.take (k + 1)).map (dz ack) = (zs.take k).map (dz ack) ++ [dz ack zs[k]] := by rw [List.take_succ_eq_append_getElem hks, List.map_append]; rfl
      have htg : gd ack zs[k] = true → ∀ z, z ∈ zs.take (k + 1) → gd ack z = true := by
        intro h z hz
        rw [List.take_succ_eq_append_getElem hks] at hz
        rcases List.mem_append.1 hz with hz | hz
        · exact hgk z hz
        · rw [List.mem_singleton.1 hz]; exact h
      have hlen : ((zs.take k).map (dz ack)).length ≤ k := by rw [List.length_map, List.length_take]; omega
      generalize zs[k] = z at *
      have HT := Lib.hid (turn_any (wrap64 (z - ack)))
      rw [wrap64_16, show (z - ack) % 65536 = dz ack z from rfl] at HT
      have HT2 := Lib.hid (turn_any (z - ack))
      rw [show (z - ack) % 65536 = dz ack z from rfl] at HT2
      have HW := Lib.hid (within_any (dz ack z) 2 33)
      rw [show (decide (2 ≤ dz ack z) && decide (dz ack z ≤ 33)) = wi (dz ack z) from rfl] at HW
      have HZ := Lib.hid (isNumber_any z)
      have hown1 := hown.alloc_ (.cells #[.int .i64 (dz ack z)] 3)
      have hbl1 := hbl.alloc hbl.size (.cells #[.int .i64 (dz ack z)] 3)
      have HTG := Lib.hid htg
      have HTK := Lib.hid htk
      have hll := cI_len ((zs.take k).map (dz ack))
      have HLL := Lib.hid hll
      clear hcell h4 hgd htk hll htg hgk
      cases hnz : num z
      · rw [hnz] at HZ
        generalize (zs.take k).map (dz ack) = l at *
        generalize dz ack z = d at *
        clear hnz
        go_wp2_with fail
        refine (HT.out _).mono ?_
        rintro e w1 ⟨rfl, rfl⟩
        go_wp2_with fail
        refine (HZ.out _).mono ?_
        rintro e w1 ⟨rfl, rfl⟩
        go_wp2_with fail
        refine (Fb.refuse_yes _ _).mono ?_
        rintro e w1 ⟨rfl, rfl⟩
        go_wp2_with fail
        simp [bodyPost]
        exact hbl
      · rw [hnz] at HZ
        cases hwz : wi (dz ack z)
        · rw [hwz] at HW
          generalize (zs.take k).map (dz ack) = l at *
          generalize dz ack z = d at *
          clear hnz hwz
          go_wp2_with fail
          refine (HT.out _).mono ?_
          rintro e w1 ⟨rfl, rfl⟩
          go_wp2_with fail
          refine (HZ.out _).mono ?_
          rintro e w1 ⟨rfl, rfl⟩
          go_wp2_with fail
          refine (HW.out _).mono ?_
          rintro e w1 ⟨rfl, rfl⟩
          go_wp2_with fail
          refine (Fb.refuse_yes _ _).mono ?_
          rintro e w1 ⟨rfl, rfl⟩
          go_wp2_with fail
          simp [bodyPost]
          exact hbl
        · rw [hwz] at HW
          have HGZ := Lib.hid (show gd ack z = true by unfold gd; rw [hnz, hwz]; rfl)
          generalize (zs.take k).map (dz ack) = l at *
          generalize dz ack z = d at *
          clear hnz hwz
          go_wp2_with fail
          refine (HT.out _).mono ?_
          rintro e w1 ⟨rfl, rfl⟩
          go_wp2_with fail
          refine (HZ.out _).mono ?_
          rintro e w1 ⟨rfl, rfl⟩
          go_wp2_with fail
          refine (HW.out _).mono ?_
          rintro e w1 ⟨rfl, rfl⟩
          go_wp2_with fail
          refine (Fb.refuse_no _ _).mono ?_
          rintro e w1 ⟨rfl, rfl⟩
          go_wp2_with (at_builtin; refine wpList_append_own _ rfl _ _ 36 rfl w.heap.size 3 i0 (.int .i64 0) 1 8 Try.underlying36 hi hz0 hz1 hz2 rfl (by decide) _ _ _ rfl hown1 ⟨wr.heap.size, 0, none⟩ 1 1 [.int .i64 d] rfl rfl (cell_one_new _ _ _) (by simp [Value.oneCell']) (by unfold maxLen; omega) (by omega) hbl1.size ?_; intro v' w1 hown' hgrow _; have hbl2 := hown1.grow_ hbl1 hgrow hbl1.size; clear hgrow)
          exact ⟨⟨k + 1, by omega, by go_num, by rw [HTK.out]; unfold OR; rw [cI_snoc, List.length_append]; exact hown', hbl2, HTG.out HGZ.out⟩, by simp [intOf]; omega⟩
    · exfalso
      obtain rfl : k = len := by omega
      rw [← h1, List.take_length] at hgk
      exact HG.out hgk

set_option maxHeartbeats 400000 in
theorem MarkedF_ack (pa pc : Nat) (ack : Int) (w : World) (hn : num ack = false)
    (ca : w.cell? ⟨pa, 0, none⟩ = some (.int .i64 ack)) :
    Calls Try.prog 33 #[.pointer (some ⟨pa, 0, none⟩), .pointer (some ⟨pc, 0, none⟩)] w fun e w' => e = .panicked [{ v := .iface 25 (.int .i64 7), recovered := false }] ∧ Below w.heap.size w w' := by
  have HN := Lib.hid (isNumber_any ack)
  rw [hn] at HN
  clear hn
  go_enter Try.func33, Try.ntmps33
  go_wp2_with fail
  refine (HN.out _).mono ?_
  rintro e w1 ⟨rfl, rfl⟩
  go_wp2_with fail
  refine (Fb.refuse_yes _ _).mono ?_
  rintro e w1 ⟨rfl, rfl⟩
  go_wp2_with fail
  simp [bodyPost]
  exact Below.refl _ _

theorem enterMarked (args : Array Value) (w : World) : (callFunc 33 args).run Try.prog w = .ok (.enter 33 args) w := by kernel_rfl

set_option maxHeartbeats 800000 in
theorem Marked_yes (ack : Int) (a : Option Addr) (len cap : Nat) (zs : List Int) (w : World) (hn : num ack = true) (hl : len ≤ 60) (hR : IntRow .i64 w a len cap zs) (hg : ∀ z, z ∈ zs → gd ack z = true) :
    Calls Try.prog 15 #[.int .i64 ack, .slice a len cap] w fun e w' => e = .returned (.tuple #[.string (mt (pl ack zs)), .int .i64 0]) ∧ Below w.heap.size w w' := by
  have hmf : ∀ (fn : Fn) (first cap : Array Value) (w : World), (Instr.makeFunc fn first cap).run Try.prog w = .ok (.func fn first cap) w := fun _ _ _ _ => rfl
  have h1 : (Fb.aw ((w.alloc (.cells #[.int .i64 ack] 3)).alloc (.cells #[.slice a len cap] 36))).cell? ⟨w.heap.size, 0, none⟩ = some (.int .i64 ack) := by simp [Fb.aw, go_sem]
  have h2 : (Fb.aw ((w.alloc (.cells #[.int .i64 ack] 3)).alloc (.cells #[.slice a len cap] 36))).cell? ⟨w.heap.size + 1, 0, none⟩ = some (.slice a len cap) := by simp [Fb.aw, go_sem]
  have hB : Below w.heap.size w (Fb.aw ((w.alloc (.cells #[.int .i64 ack] 3)).alloc (.cells #[.slice a len cap] 36))) := by
    unfold Fb.aw
    exact ((((Below.refl _ w).alloc (Nat.le_refl _) _).alloc (by simp) _).alloc (by simp; omega) _).alloc (by simp; omega) _
  have HF := Lib.hid (Fb.attempt_ret _ _ _ _ enterMarked (MarkedF_yes w.heap.size (w.heap.size + 1) ack a len cap zs _ hn hl (row_below hR hB) hg h1 h2))
  generalize mt (pl ack zs) = r at *
  clear h1 h2 hB hR hg hn
  go_enter Try.func15, Try.ntmps15
  go_wp2_with fail
  refine HF.out.mono ?_
  rintro e w1 ⟨rfl, hb1⟩
  go_wp2
  go_ret2
  exact ⟨rfl, below_alloc _ (below_alloc _ hb1)⟩

set_option maxHeartbeats 800000 in
theorem Marked_no (ack : Int) (a : Option Addr) (len cap : Nat) (zs : List Int) (w : World) (hl : len ≤ 60) (hR : IntRow .i64 w a len cap zs) (hg : num ack = true → ¬ ∀ z, z ∈ zs → gd ack z = true) :
    Calls Try.prog 15 #[.int .i64 ack, .slice a len cap] w fun e w' => e = .returned (.tuple #[.string ⟨#[]⟩, .int .i64 7]) ∧ Below w.heap.size w w' := by
  have hmf : ∀ (fn : Fn) (first cap : Array Value) (w : World), (Instr.makeFunc fn first cap).run Try.prog w = .ok (.func fn first cap) w := fun _ _ _ _ => rfl
  have h1 : (Fb.aw ((w.alloc (.cells #[.int .i64 ack] 3)).alloc (.cells #[.slice a len cap] 36))).cell? ⟨w.heap.size, 0, none⟩ = some (.int .i64 ack) := by simp [Fb.aw, go_sem]
  have h2 : (Fb.aw ((w.alloc (.cells #[.int .i64 ack] 3)).alloc (.cells #[.slice a len cap] 36))).cell? ⟨w.heap.size + 1, 0, none⟩ = some (.slice a len cap) := by simp [Fb.aw, go_sem]
  have hB : Below w.heap.size w (Fb.aw ((w.alloc (.cells #[.int .i64 ack] 3)).alloc (.cells #[.slice a len cap] 36))) := by
    unfold Fb.aw
    exact ((((Below.refl _ w).alloc (Nat.le_refl _) _).alloc (by simp) _).alloc (by simp; omega) _).alloc (by simp; omega) _
  have hF := Fb.attempt_err (K := 33) (k := 7) (hK := enterMarked) (caps := #[.pointer (some ⟨w.heap.size, 0, none⟩), .pointer (some ⟨w.heap.size + 1, 0, none⟩)]) (w := ((w.alloc (.cells #[.int .i64 ack] 3)).alloc (.cells #[.slice a len cap] 36))) (by
    cases hn : num ack
    · exact MarkedF_ack w.heap.size (w.heap.size + 1) ack _ hn h1
    · exact MarkedF_no w.heap.size (w.heap.size + 1) ack a len cap zs _ hn hl (row_below hR hB) (hg hn) h1 h2)
  have HF := Lib.hid hF
  clear h1 h2 hB hR hg hF
  go_enter Try.func15, Try.ntmps15
  go_wp2_with fail
  refine HF.out.mono ?_
  rintro e w1 ⟨rfl, hb1⟩
  go_wp2
  go_ret2
  exact ⟨rfl, below_alloc _ (below_alloc _ hb1)⟩
end Go.Proofs.Ytdkfniijoamaoac.Fl
