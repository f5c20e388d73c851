/-
  Fields of bits: the reference's Numbers and List.
-/
import Derived.Test.YtbeaohnjifcgaaaDoorCb
import Derived.Test.YtbeaohnjifcgaaaDoorOr
namespace Go.Proofs.YtbeaohnjifcgaaaDoor.Bh
open Go Go.RowKit Go.Shelf Go.Proofs.YtbeaohnjifcgaaaDoor.Sx Go.Proofs.YtbeaohnjifcgaaaDoor.Na Go.Proofs.YtbeaohnjifcgaaaDoor.Ba

/-- the numbers below k that are set -/
def nbl (β : Nat → Bool) : Nat → List Int
  | 0 => []
  | k + 1 => if β k = true then nbl β k ++ [(k : Int)] else nbl β k
theorem nbl_len (β : Nat → Bool) (k : Nat) : (nbl β k).length ≤ k := by
  induction k with
  | zero => simp [nbl]
  | succ k ih =>
    rw [nbl]
    split
    · rw [List.length_append]; simp; omega
    · omega
theorem nbl_congr (β γ : Nat → Bool) (k : Nat) (h : ∀ i, i < k → β i = γ i) : nbl β k = nbl γ k := by
  induction k with
  | zero => rfl
  | succ k ih => rw [nbl, nbl, h k (by omega), ih (fun i hi => h i (by omega))]

set_option maxRecDepth 1000000 in
set_option maxHeartbeats 1600000 in
theorem Numbers_any (N : Nat) (a : Option Addr) (cap : Nat) (β : Nat → Bool) (base : Nat) (w : World) (hN : N ≤ 5000) (hT : TL w base a N β) :
    Calls Tryd.prog 84 #[.slice a N cap] w fun e w' => ∃ v, e = .returned v ∧ Or.OR w' w.heap.size v (nbl β N) ∧ Below w.heap.size w w' := by
  obtain ⟨i0, hi, hz0, hz1, hz2⟩ := info_parts Or.int_info
  have HT := Lib.hid hT
  have HLT : Hid (∀ g, 0 < N → a = some ⟨g, 0, none⟩ → g < w.heap.size) := Lib.hid (fun g h0 e => by
    obtain ⟨p, ep, _, tp⟩ := hT h0
    rw [ep] at e
    cases e
    exact tp.lt)
  clear hT
  go_enter Tryd.func84, Tryd.ntmps84
  go_wp2_with fail
  go_loopw [3, 4, 5, 8] (fun v _ _ i wr => ∃ k : Nat, k ≤ N ∧ i = .int .i64 k ∧ Or.OR wr w.heap.size v (nbl β k) ∧ Below w.heap.size w wr) (fun _ _ _ i _ => N - (intOf i).toNat)
  case atStart => exact ⟨0, Nat.zero_le _, rfl, Or.OR.nil_ _ _, Below.refl _ _⟩
  case round =>
    obtain ⟨k, hk, rfl, hown, hbl⟩ := hrel
    by_cases hlt : k < N
    · have hlt' : (k : Int) < (N : Int) := by omega
      obtain ⟨g, rfl, hgb, htb⟩ := HT.out (by omega)
      have cg := gb_cell (gb_below hbl none) (htb.cell k hlt) (by simp)
      have hsz := hbl.size
      have hl := nbl_len β k
      have hn : nbl β (k + 1) = if β k = true then nbl β k ++ [(k : Int)] else nbl β k := rfl
      obtain ⟨x, hx⟩ : ∃ x, β k = x := ⟨_, rfl⟩
      rw [hx] at cg hn
      clear hx htb
      cases x
      · rw [if_neg (by decide)] at hn
        have HN := Lib.hid hn
        clear hn
        go_wp2_with fail
        exact ⟨⟨k + 1, by omega, by go_num, by rw [HN.out]; exact hown, hbl⟩, by simp [intOf]; omega⟩
      · rw [if_pos rfl] at hn
        have HN := Lib.hid hn
        clear hn
        have hown1 := hown.alloc_ (.cells #[.int .i64 (k : Int)] 3)
        have hbl1 := hbl.alloc hsz (.cells #[.int .i64 (k : Int)] 3)
        have hs1 : w.heap.size ≤ (wr.alloc (.cells #[.int .i64 (k : Int)] 3)).heap.size := by simp; omega
        go_wp2_with (at_builtin; refine wpList_append_own_at _ rfl _ _ 38 rfl w.heap.size 3 i0 (.int .i64 0) 1 8 Tryd.underlying38 hi hz0 hz1 hz2 rfl (by decide) _ _ _ rfl hown1 ⟨wr.heap.size, 0, none⟩ 1 1 [.int .i64 (k : Int)] rfl rfl (cell_one_new _ _ _) (by simp [Value.oneCell']) (by unfold maxLen; omega) (by omega) hs1 ?_; intro v' w2 hown' hgrow _ hat; have hbl2 := hown1.grow_ hbl1 hgrow hs1)
        refine ⟨⟨k + 1, by omega, by go_num, ?_, hbl2⟩, by simp [intOf]; omega⟩
        rw [HN.out]
        unfold Or.OR
        rw [Or.cI_snoc, List.length_append]
        exact hown'
    · obtain rfl : k = N := by omega
      go_wp2_with fail
      go_ret
      exact ⟨_, rfl, hown, hbl⟩

def liL (n : Int) (s : ByteArray) : List Int := if chk n s = 0 then nbl (bt s) n.toNat else []
theorem own_mono {w : World} {base base' : Nat} {v : Value} {zs : List Int} (h : Or.OR w base v zs) (hb : base' ≤ base) : Or.OR w base' v zs := by
  obtain ⟨h1, h2 | ⟨g, cap, cur, e, hg, r⟩⟩ := h
  · exact ⟨h1, .inl h2⟩
  · exact ⟨h1, .inr ⟨g, cap, cur, e, Nat.le_trans hb hg, r⟩⟩
set_option maxRecDepth 100000 in
set_option maxHeartbeats 1600000 in
theorem RList_any (n : Int) (s : ByteArray) (w : World) (hs : s.size ≤ 140737488351232) :
    Calls Tryd.prog 35 #[.int .i64 n, .string s] w fun e w' => ∃ v, e = .returned (.tuple #[v, .int .i64 (chk n s)]) ∧ Or.OR w' w.heap.size v (liL n s) ∧ Below w.heap.size w w' := by
  have HC := Lib.hid (fun w => check_any n s w hs)
  by_cases hc : chk n s = 0
  · rw [show liL n s = nbl (bt s) n.toNat from if_pos hc]
    rw [hc] at HC ⊢
    obtain ⟨N, rfl, h1, h2, h3⟩ := vd_t (chk_t hc)
    rw [Int.toNat_natCast]
    have HT := Lib.hid (Truths_any N s w (by omega) (by omega) hs)
    have HM := Lib.hid (fun a cap base w (hT : TL w base a N (bt s)) => Numbers_any N a cap (bt s) base w (by omega) hT)
    obtain ⟨l, hl⟩ : ∃ l, nbl (bt s) N = l := ⟨_, rfl⟩
    simp only [hl] at HM ⊢
    clear hc h2 h3 hl
    go_enter Tryd.func35, Tryd.ntmps35
    go_wp2_with fail
    refine (HC.out _).mono ?_
    rintro e w1 ⟨rfl, rfl⟩
    go_wp2_with fail
    refine HT.out.mono ?_
    rintro e w1 ⟨a, cap, rfl, ht, hg⟩
    have HTT := Lib.hid ht
    have HG := Lib.hid hg
    clear ht hg
    go_wp2_with fail
    refine (HM.out _ _ _ _ HTT.out).mono ?_
    rintro e w2 ⟨v, rfl, hown, hb⟩
    have HO := Lib.hid (own_mono hown HG.out.size)
    have HB := Lib.hid ((below_of HG.out).trans (Below.mono hb HG.out.size))
    obtain ⟨a2, cap2, rfl⟩ := Or.OR.slice_ hown
    clear hown hb
    go_wp2
    go_ret2
    exact ⟨_, rfl, HO.out, HB.out⟩
  · rw [show liL n s = [] from if_neg hc]
    obtain ⟨c, hcc⟩ : ∃ c, chk n s = c := ⟨_, rfl⟩
    rw [hcc] at hc ⊢
    simp only [hcc] at HC
    clear hcc
    go_enter Tryd.func35, Tryd.ntmps35
    go_wp2_with fail
    refine (HC.out _).mono ?_
    rintro e w1 ⟨rfl, rfl⟩
    go_wp2
    go_ret2
    exact ⟨_, rfl, Or.OR.nil_ _ _, Below.refl _ _⟩
end Go.Proofs.YtbeaohnjifcgaaaDoor.Bh
