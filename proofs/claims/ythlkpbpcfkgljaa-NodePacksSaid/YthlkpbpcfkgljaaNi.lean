/-
  node: Flip; the law's check.
-/
import Derived.Test.YthlkpbpcfkgljaaNh
namespace Go.Proofs.Ythlkpbpcfkgljaa.Nh
open Go Go.RowKit Go.Proofs.Ythlkpbpcfkgljaa.Hz Go.Proofs.Ythlkpbpcfkgljaa.Na Go.Proofs.Ythlkpbpcfkgljaa.Nb Go.Proofs.Ythlkpbpcfkgljaa.Nf Go.Proofs.Ythlkpbpcfkgljaa.Ng

/-- an identifier with a bit turned -/
def flp (s : ByteArray) (i : Nat) : ByteArray := Hh.put s (i / 8) ((by_ s (i / 8) ^^^ 2 ^ (7 - i % 8) : Nat) : Int)
theorem two_lt (t : Nat) : 2 ^ (7 - t) < 256 := by
  have : 2 ^ (7 - t) ≤ 2 ^ 7 := Nat.pow_le_pow_right (by omega) (by omega)
  omega
theorem flp_size (s : ByteArray) (i : Nat) : (flp s i).size = s.size := Hh.put_size _ _ _
theorem by_nums (s : ByteArray) (j : Nat) (hj : j < s.size) : (s.data.toList.map fun x => (x.toNat : Int)).getD j 0 = (by_ s j : Int) := by
  rw [List.getD, List.getElem?_map, List.getElem?_eq_getElem (by rw [Na.len_data]; exact hj)]
  unfold by_
  rw [List.getD, List.getElem?_eq_getElem (by rw [Na.len_data]; exact hj)]
  rfl
theorem by_flp (s : ByteArray) (hs : s.size = 20) (i j : Nat) (_hi : i < 160) (hj : j < 20) : by_ (flp s i) j = if j = i / 8 then by_ s j ^^^ 2 ^ (7 - i % 8) else by_ s j := by
  have hl : ((s.data.toList.map fun x => (x.toNat : Int)).set (i / 8) ((by_ s (i / 8) ^^^ 2 ^ (7 - i % 8) : Nat) : Int)).length = 20 := by rw [List.length_set, List.length_map, Na.len_data, hs]
  have hl2 : (s.data.toList.map fun x => (x.toNat : Int)).length = 20 := by rw [List.length_map, Na.len_data, hs]
  unfold flp Hh.put
  by_cases e : j = i / 8
  · rw [if_pos e, e]
    refine by_str _ _ (by rw [hl]; omega) _ (xor_lt _ _ (by_lt _ _) (two_lt _)) ?_
    rw [List.getD, List.getElem?_set_self (by rw [hl2]; omega)]
    rfl
  · rw [if_neg e]
    refine by_str _ _ (by rw [hl]; omega) _ (by_lt _ _) ?_
    rw [List.getD, List.getElem?_set_ne (fun h => e h.symm), ← List.getD]
    exact by_nums s j (by omega)
theorem bt_flp (s : ByteArray) (hs : s.size = 20) (i j : Nat) (hi : i < 160) (hj : j < 160) : bt (flp s i) j = (bt s j != decide (j = i)) := by
  unfold bt
  rw [by_flp s hs i (j / 8) hi (by omega)]
  by_cases e : j / 8 = i / 8
  · rw [if_pos e, Nat.testBit_xor, Nat.testBit_two_pow]
    congr 1
    rw [Bool.eq_iff_iff]
    simp
    omega
  · rw [if_neg e, decide_eq_false (by omega)]
    simp
theorem cmn_flp (s : ByteArray) (hs : s.size = 20) : cmn s (flp s 159) = 159 := by
  refine fst_of _ _ (fun j hj => ?_) (.inr ⟨by omega, ?_⟩)
  · rw [bt_flp s hs 159 j (by omega) (by omega), decide_eq_false (by omega)]; simp
  · rw [bt_flp s hs 159 159 (by omega) (by omega)]; simp

theorem bxor (s : ByteArray) (x t : Nat) (q : Nat) (hx : by_ s q = x) (ht : t < 8) : bits .xor .u8 (x : Int) ((128 : Int) / 2 ^ t) = ((x ^^^ 2 ^ (7 - t) : Nat) : Int) := by
  have hb := by_lt s q
  rw [hx] at hb
  rw [shr128 _ ht, xor8 _ _ hb (two_lt _)]

set_option maxRecDepth 100000 in
set_option maxHeartbeats 1600000 in
theorem FlipF_yes (pa pi : Nat) (s : ByteArray) (i : Nat) (w : World) (hi : i < 160) (h : vd s = true) (ca : w.cell? ⟨pa, 0, none⟩ = some (.string s)) (ci : w.cell? ⟨pi, 0, none⟩ = some (.int .i64 (i : Int))) :
    Calls Try.prog 27 #[.pointer (some ⟨pa, 0, none⟩), .pointer (some ⟨pi, 0, none⟩)] w fun e W' => e = .returned (.string (flp s i)) ∧ Below w.heap.size w W' := by
  have HAsk := Lib.hid (ask1_yes s 9 w h)
  have hs := vd_yes h
  have la : pa < w.heap.size := World.block_lt_of_cell? w _ ca
  have li : pi < w.heap.size := World.block_lt_of_cell? w _ ci
  have hq8 : i / 8 < s.size := by omega
  have hw1 : IntKind.i64.wrap ((i : Int) / 8) = ((i / 8 : Nat) : Int) := by rw [IntKind.wrap_i64]; omega
  have hw2 : ((i : Int).tmod 8) = ((i % 8 : Nat) : Int) := by rw [Int.tmod_eq_emod_of_nonneg (by omega)]; omega
  have hx1 := bxor s (by_ s (i / 8)) (i % 8) (i / 8) rfl (by omega)
  have hF := Lib.hid (show flp s i = Hh.put s (i / 8) ((by_ s (i / 8) ^^^ 2 ^ (7 - i % 8) : Nat) : Int) from rfl)
  obtain ⟨q, hq⟩ : ∃ q, i / 8 = q := ⟨_, rfl⟩
  obtain ⟨t, ht⟩ : ∃ t, i % 8 = t := ⟨_, rfl⟩
  have ht8 : t < 8 := by omega
  simp only [hq, ht] at hw1 hw2 hx1 hF
  have hq' : q < s.size := by omega
  have hb := by_at s q hq'
  have hw3 : (q : Int) < (s.size : Int) := by omega
  have HS := Lib.hid hs
  clear hq ht h hq8 hs
  obtain ⟨x, hx⟩ : ∃ x, by_ s q = x := ⟨_, rfl⟩
  obtain ⟨y, hy⟩ : ∃ y, x ^^^ 2 ^ (7 - t) = y := ⟨_, rfl⟩
  rw [hx] at hb hx1 hF
  rw [hy] at hx1 hF
  clear hx hy
  go_enter Try.func27, Try.ntmps27
  go_wp2_with fail
  refine HAsk.out.mono ?_
  rintro e w1 ⟨rfl, rfl⟩
  go_wp2_with fail
  (try rw [show decide ((160 : Int) ≤ (i : Int)) = false from decide_eq_false (by omega)])
  refine (Nc.refuse_no _ _).mono ?_
  rintro e w1 ⟨rfl, rfl⟩
  go_wp2_with fail
  obtain ⟨w2, cap, hrun, hb2, hsz2, hcap, hcell, hfree⟩ := Hh.conv_bytes (w.alloc (.cells #[.string s] 9)) s
  rw [hrun]
  have hlt2 : w.heap.size < w2.heap.size := by rw [hsz2]; simp; omega
  simp only [World.size_alloc] at hcell hfree
  have hc := hcell q hq'
  have hf := hfree q hq'
  have ci2 := kcell hb2 (acell (.cells #[.string s] 9) ci)
  have Hcell := Lib.hid hcell
  have HB := Lib.hid (below_alloc _ hb2)
  clear hcell hfree hrun hb2 hsz2
  go_wp2_with fail
  go_region
  all_goals
    go_wp2_with fail
    rw [Hh.conv_set w2 (w.heap.size + 1) q cap s.size s _ rfl hq' Hcell.out, ← hF.out]
    go_wp2
    go_ret
    exact ⟨rfl, (HB.out.setCell (p := ⟨w.heap.size + 1, q, none⟩) (by simp) _).drew⟩

theorem enterFlip (args : Array Value) (w : World) : (callFunc 27 args).run Try.prog w = .ok (.enter 27 args) w := by kernel_rfl
set_option maxRecDepth 100000 in
set_option maxHeartbeats 800000 in
theorem Flip_yes (s : ByteArray) (i : Nat) (w : World) (hi : i < 160) (hv : vd s = true) : Calls Try.prog 12 #[.string s, .int .i64 (i : Int)] w fun e w' => e = .returned (.tuple #[.string (flp s i), .int .i64 0]) ∧ Below w.heap.size w w' := by
  have hmf : ∀ (fn : Fn) (first cap : Array Value) (w : World), (Instr.makeFunc fn first cap).run Try.prog w = .ok (.func fn first cap) w := fun _ _ _ _ => rfl
  have h1 : (Nc.aw ((w.alloc (.cells #[.string s] 9)).alloc (.cells #[.int .i64 (i : Int)] 3))).cell? ⟨w.heap.size, 0, none⟩ = some (.string s) := by simp [Nc.aw, go_sem]
  have h2 : (Nc.aw ((w.alloc (.cells #[.string s] 9)).alloc (.cells #[.int .i64 (i : Int)] 3))).cell? ⟨w.heap.size + 1, 0, none⟩ = some (.int .i64 (i : Int)) := by simp [Nc.aw, go_sem]
  have HF := Lib.hid (Nc.attempt_ret _ _ _ _ enterFlip (FlipF_yes w.heap.size (w.heap.size + 1) s i _ hi hv h1 h2))
  clear hv h1 h2
  obtain ⟨x, hx⟩ : ∃ x, flp s i = x := ⟨_, rfl⟩
  rw [hx] at HF ⊢
  clear hx
  go_enter Try.func12, Try.ntmps12
  go_wp2_with fail
  refine HF.out.mono ?_
  rintro e w1 ⟨rfl, hb1⟩
  go_wp2
  go_ret2
  exact ⟨rfl, below_alloc _ (below_alloc _ hb1)⟩

set_option maxRecDepth 100000 in
set_option maxHeartbeats 800000 in
theorem awake_any (w : World) : Calls Try.prog 4 #[] w fun e w' => e = .returned (.bool true) ∧ Below w.heap.size w w' := by
  have hO := fun w => Hh.ROld_any ⟨#[97]⟩ w (by unfold maxLen; decide)
  have hz := Dg.old_size (⟨#[97]⟩ : ByteArray).data.toList
  obtain ⟨a, ha⟩ : ∃ a, Dg.old (⟨#[97]⟩ : ByteArray).data.toList = a := ⟨_, rfl⟩
  simp only [ha] at hO hz
  clear ha
  have hv : vd a = true := by unfold vd; simpa using hz
  have hv2 : vd (flp a 159) = true := by unfold vd; rw [flp_size]; simpa using hz
  have hF := fun w => Flip_yes a 159 w (by omega) hv
  have hC := fun w => Common_any a (flp a 159) w
  have e1 : cV a (flp a 159) = 159 := by unfold cV; rw [hv, hv2, cmn_flp a hz]; rfl
  have e2 : dE a (flp a 159) = 0 := by unfold dE; rw [hv, hv2]; rfl
  simp only [e1, e2] at hC
  clear e1 e2 hv hv2 hz
  obtain ⟨b, hb⟩ : ∃ b, flp a 159 = b := ⟨_, rfl⟩
  simp only [hb] at hF hC
  clear hb
  have HO := Lib.hid hO
  have HF := Lib.hid hF
  have HC := Lib.hid hC
  clear hO hF hC
  go_enter Try.func4, Try.ntmps4
  go_wp2_with fail
  refine (HO.out _).mono ?_
  rintro e w1 ⟨rfl, hb1⟩
  go_wp2_with fail
  refine (HF.out _).mono ?_
  rintro e w2 ⟨rfl, hb2⟩
  go_wp2_with fail
  refine (HC.out _).mono ?_
  rintro e w3 ⟨rfl, hb3⟩
  go_wp2
  go_ret
  exact ⟨rfl, blw (blw hb1 hb2) hb3⟩
end Go.Proofs.Ythlkpbpcfkgljaa.Nh
