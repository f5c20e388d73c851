/-
  HashChains: the walk.
-/
import Derived.Test.YtfnhaadikfenpaaHu
import Derived.Test.YtfnhaadikfenpaaRw
import Derived.WalkKit
import Derived.WalkSpells
import Derived.WalkLawsBesides
import Derived.LoopTactic
import Derived.Outline
import Derived.Deep.QuietTactic
import Derived.BigQuiet
import Derived.BigRegion
import Derived.RegionTactic
import Derived.Deep.RegionWith
import Derived.Lib.Hide
namespace Go.Proofs.Ytfnhaadikfenpaa.Hh
open Go Go.RowKit






open Rw (StrRow)

/-- the digests of texts, one behind the other -/
def chn (ss : List ByteArray) : List UInt8 := (ss.map fun s => (Dg.sum s.data.toList).data.toList).flatten
theorem chn_take (ss : List ByteArray) (k : Nat) (h : k < ss.length) : chn (ss.take (k + 1)) = chn (ss.take k) ++ (Dg.sum (ss[k]).data.toList).data.toList := by
  unfold chn
  rw [List.take_succ_eq_append_getElem h, List.map_append, List.flatten_append]
  simp
theorem chn_len : ∀ (ss : List ByteArray), (chn ss).length = 32 * ss.length
  | [] => rfl
  | s :: ss => by
    have h1 := chn_len ss
    have h2 := len_data (Dg.sum s.data.toList)
    rw [Dg.sum_size] at h2
    unfold chn at h1 ⊢
    rw [List.map_cons, List.flatten_cons, List.length_append, h1, h2, List.length_cons]
    omega

set_option maxHeartbeats 800000 in
theorem chain_any (a : Option Addr) (len cap : Nat) (ss : List ByteArray) (w : World) (hR : StrRow w a len cap ss) (hn : len ≤ 100) :
    Calls Try.prog 20 #[.slice a len cap] w fun e w' => e = .returned (.string (Dg.sum (chn ss))) ∧ Below w.heap.size w w' := by
  obtain ⟨h1, h2, h3, h4⟩ := hR
  go_enter Try.func20, Try.ntmps20
  go_wp2_with fail
  refine (new_any _).mono ?_
  rintro e w1 ⟨rfl, hH, hb1⟩
  go_wp2_with fail
  go_loopw [5, 9] (fun _ i wr => ∃ k : Nat, k ≤ len ∧ i = .int .i64 k ∧ HL wr w.heap.size (chn (ss.take k)) ∧ Below w.heap.size w wr) (fun _ i _ => len - (intOf i).toNat)
  case atStart => exact ⟨0, Nat.zero_le _, rfl, by simpa [chn] using hH, hb1⟩
  case round =>
    obtain ⟨k, hk, rfl, hH, hb⟩ := hrel
    by_cases hlt : k < len
    · obtain ⟨b, off, rfl, hbl, hcell⟩ := h4 (by omega)
      have hks : k < ss.length := by omega
      have hc := hcell k hlt
      rw [← hb.cell (p := ⟨b, off + k, none⟩) hbl] at hc
      have hg : ss.getD k ByteArray.empty = ss[k] := by simp [List.getD, hks]
      rw [hg] at hc
      have hsz := h3 ss[k] (List.getElem_mem hks)
      have hct := chn_take ss k hks
      have hcl := chn_len (ss.take k)
      rw [List.length_take] at hcl
      have Hct := Lib.hid hct
      have Hcl := Lib.hid hcl
      clear hct hcell h4 hg hcl
      generalize ss[k] = s at hc hsz Hct
      go_wp2_with fail
      refine (Sum_any s _ (by unfold maxLen; omega)).mono ?_
      rintro e w2 ⟨rfl, hb2⟩
      have hH2 : HL w2 w.heap.size (chn (ss.take k)) := Hs.below hH hb2 (Hs.lt hH)
      go_wp2_with fail
      refine (add_any w.heap.size _ (chn (ss.take k)) _ (by rw [Hcl.out, Dg.sum_size]; unfold maxLen; omega) hH2).mono ?_
      rintro e w3 ⟨rfl, hH3, ho3⟩
      go_wp2_with fail
      exact ⟨⟨k + 1, by omega, by go_num, by rw [Hct.out]; exact hH3, (blw hb hb2).trans (ho3.below (Nat.le_trans hb.size hb2.size) (Nat.le_refl _))⟩, by simp [intOf]; omega⟩
    · have hk' : k = ss.length := by omega
      rw [hk', List.take_length] at hH
      clear h4
      go_wp2_with fail
      refine (sum_any _ _ _ hH).mono ?_
      rintro e w2 ⟨rfl, hb2⟩
      go_wp2
      go_ret
      exact ⟨rfl, blw hb hb2⟩

set_option maxHeartbeats 800000 in
theorem Rchain_any (a : Option Addr) (len cap : Nat) (ss : List ByteArray) (w : World) (hR : StrRow w a len cap ss) (hn : len ≤ 100) :
    Calls Try.prog 21 #[.slice a len cap] w fun e w' => e = .returned (.string (Dg.sum (chn ss))) ∧ Below w.heap.size w w' := by
  obtain ⟨h1, h2, h3, h4⟩ := hR
  go_enter Try.func21, Try.ntmps21
  go_wp2_with fail
  go_loopw [3, 5, 8] (fun t _ i wr => ∃ k : Nat, k ≤ len ∧ i = .int .i64 k ∧ (∃ y : ByteArray, t = .string y ∧ y.data.toList = chn (ss.take k)) ∧ Below w.heap.size w wr) (fun _ _ i _ => len - (intOf i).toNat)
  case atStart => exact ⟨0, Nat.zero_le _, rfl, ⟨_, rfl, by simp [chn]⟩, Below.refl _ _⟩
  case round =>
    obtain ⟨k, hk, rfl, ⟨y, rfl, hy⟩, hb⟩ := hrel
    by_cases hlt : k < len
    · obtain ⟨b, off, rfl, hbl, hcell⟩ := h4 (by omega)
      have hks : k < ss.length := by omega
      have hc := hcell k hlt
      rw [← hb.cell (p := ⟨b, off + k, none⟩) hbl] at hc
      have hg : ss.getD k ByteArray.empty = ss[k] := by simp [List.getD, hks]
      rw [hg] at hc
      have hsz := h3 ss[k] (List.getElem_mem hks)
      have hct := chn_take ss k hks
      have hcl := chn_len (ss.take k)
      rw [List.length_take] at hcl
      have hys : y.size ≤ 3200 := by rw [← len_data, hy, hcl]; omega
      have hz := Dg.sum_size ss[k].data.toList
      have Hct := Lib.hid hct
      have Hy := Lib.hid hy
      clear hct hcell h4 hg hcl hy
      generalize ss[k] = s at hc hsz Hct hz
      generalize hD : Dg.sum s.data.toList = D at Hct hz
      have HD := Lib.hid hD
      clear hD
      go_wp2_with fail
      refine (RSum_any s _ (by unfold maxLen; omega)).mono ?_
      rintro e w2 ⟨rfl, hb2⟩
      rw [HD.out]
      go_wp2_with fail
      exact ⟨⟨k + 1, by omega, by go_num, ⟨_, rfl, by rw [Hct.out, ← Hy.out, ByteArray.data_append]; simp⟩, blw hb hb2⟩, by simp [intOf]; omega⟩
    · have hk' : k = ss.length := by omega
      rw [hk', List.take_length] at hy
      have hcl := chn_len ss
      have hys : y.size ≤ maxLen := by rw [← len_data, hy, hcl]; unfold maxLen; omega
      have HY := Lib.hid hy
      clear h4 hy hcl
      go_wp2_with fail
      refine (RSum_any _ _ hys).mono ?_
      rintro e w2 ⟨rfl, hb2⟩
      go_wp2
      go_ret
      exact ⟨by rw [← HY.out]; rfl, blw hb hb2⟩

/-- how long texts are together -/
def tot (ss : List ByteArray) : Nat := (ss.map ByteArray.size).sum
theorem tot_take (ss : List ByteArray) (k : Nat) (h : k < ss.length) : tot (ss.take (k + 1)) = tot (ss.take k) + (ss[k]).size := by
  unfold tot
  rw [List.take_succ_eq_append_getElem h, List.map_append, List.sum_append]
  simp
theorem tot_le (B : Nat) : ∀ (ss : List ByteArray), (∀ s ∈ ss, s.size ≤ B) → tot ss ≤ ss.length * B
  | [], _ => by simp [tot]
  | s :: ss, h => by
    have h1 := tot_le B ss (fun x hx => h x (List.mem_cons_of_mem _ hx))
    have h2 := h s (by simp)
    unfold tot at h1 ⊢
    rw [List.map_cons, List.sum_cons, List.length_cons, Nat.add_mul]
    omega

set_option maxHeartbeats 800000 in
theorem chains_many (a : Option Addr) (len cap : Nat) (ss : List ByteArray) (x y : ByteArray) (w : World) (hR : StrRow w a len cap ss) (hn : 100 < len) (hx : x.size ≤ 140737488351232) (hy : y.size ≤ 140737488351232) :
    Calls Try.prog 5 #[.slice a len cap, .string x, .string y] w fun e w' => e = .returned (.bool true) ∧ Below w.heap.size w w' := by
  obtain ⟨h1, h2, h3, h4⟩ := hR
  obtain ⟨b, off, rfl, hbl, hcell⟩ := h4 (by omega)
  go_enter Try.func5, Try.ntmps5
  go_wp2_with fail
  go_loop [7, 9, 17] (fun t _ i => ∃ (k : Nat) (m : Int), k ≤ len ∧ i = .int .i64 k ∧ t = .int .i64 m) (fun _ _ i => len - (intOf i).toNat)
  case atStart => exact ⟨0, _, Nat.zero_le _, rfl, rfl⟩
  case round =>
    obtain ⟨k, m, hk, rfl, rfl⟩ := hrel
    by_cases hlt : k < len
    · have hc := hcell k hlt
      clear hcell h4
      go_wp2_with fail
      exact ⟨⟨k + 1, _, by omega, by go_num, rfl⟩, by simp [intOf]; omega⟩
    · have hk' : k = len := by omega
      clear h4 hcell
      by_cases hm : (5000 : Int) < m
      all_goals
        go_wp2_with fail
        refine (awake_any _).mono ?_
        rintro e w1 ⟨rfl, hb1⟩
        go_wp2
        go_ret
        exact ⟨rfl, hb1⟩

set_option maxHeartbeats 800000 in
theorem chains_long (a : Option Addr) (len cap : Nat) (ss : List ByteArray) (x y : ByteArray) (w : World) (hR : StrRow w a len cap ss) (hn : len ≤ 100) (hx : x.size ≤ 140737488351232) (hy : y.size ≤ 140737488351232) (hbig : 5000 < x.size + y.size + tot ss) :
    Calls Try.prog 5 #[.slice a len cap, .string x, .string y] w fun e w' => e = .returned (.bool true) ∧ Below w.heap.size w w' := by
  obtain ⟨h1, h2, h3, h4⟩ := hR
  go_enter Try.func5, Try.ntmps5
  go_wp2_with fail
  go_loop [7, 9, 17] (fun t _ i => ∃ (k : Nat), k ≤ len ∧ i = .int .i64 k ∧ t = .int .i64 ((x.size + y.size + tot (ss.take k) : Nat) : Int)) (fun _ _ i => len - (intOf i).toNat)
  case atStart => exact ⟨0, Nat.zero_le _, rfl, by simp [tot]⟩
  case round =>
    obtain ⟨k, hk, rfl, rfl⟩ := hrel
    by_cases hlt : k < len
    · obtain ⟨b, off, rfl, hbl, hcell⟩ := h4 (by omega)
      have hks : k < ss.length := by omega
      have hc := hcell k hlt
      have hg : ss.getD k ByteArray.empty = ss[k] := by simp [List.getD, hks]
      rw [hg] at hc
      have hsz := h3 ss[k] (List.getElem_mem hks)
      have ht := tot_take ss k hks
      have hB := tot_le 140737488351232 (ss.take k) (fun s hs => h3 s (List.mem_of_mem_take hs))
      rw [List.length_take] at hB
      have hB' : tot (ss.take k) ≤ 14073748835123200 := by omega
      have Ht := Lib.hid ht
      clear hcell h4 hg ht hB hbig
      generalize ss[k] = s at hc hsz Ht
      go_wp2_with fail
      exact ⟨⟨k + 1, by omega, by go_num, by rw [Ht.out]; go_num⟩, by simp [intOf]; omega⟩
    · have hk' : k = ss.length := by omega
      rw [hk', List.take_length]
      have hB := tot_le 140737488351232 ss h3
      have hB' : tot ss ≤ 14073748835123200 := by omega
      clear h4 hB
      go_wp2_with fail
      refine (awake_any _).mono ?_
      rintro e w1 ⟨rfl, hb1⟩
      go_wp2
      go_ret
      exact ⟨rfl, hb1⟩

theorem strRow_below {w w' : World} {a : Option Addr} {len cap : Nat} {ss : List ByteArray} (h : StrRow w a len cap ss) (hb : Below w.heap.size w w') : StrRow w' a len cap ss := by
  obtain ⟨h1, h2, h3, h4⟩ := h
  refine ⟨h1, h2, h3, fun h0 => ?_⟩
  obtain ⟨b, off, e, hbl, hcell⟩ := h4 h0
  exact ⟨b, off, e, Nat.lt_of_lt_of_le hbl hb.size, fun i hi => by rw [hb.cell (p := ⟨b, off + i, none⟩) hbl]; exact hcell i hi⟩

theorem strRow_new (W : World) (ss : List ByteArray) (t : TypeId) (h : ∀ s ∈ ss, s.size ≤ 140737488351232) (hl : ss.length ≤ 1000) : StrRow (W.alloc (.cells (ss.map Value.string).toArray t)) (some ⟨W.heap.size, 0, none⟩) ss.length ss.length ss :=
  ⟨rfl, by omega, h, fun _ => ⟨_, _, rfl, by simp, fun i hi => by rw [Nat.zero_add]; exact strs_new W ss t i hi⟩⟩

set_option maxHeartbeats 1600000 in
theorem chains_in (a : Option Addr) (len cap : Nat) (ss : List ByteArray) (x y : ByteArray) (w : World) (hR : StrRow w a len cap ss) (hn : len ≤ 100) (hbig : x.size + y.size + tot ss ≤ 5000) :
    Calls Try.prog 5 #[.slice a len cap, .string x, .string y] w fun e w' => e = .returned (.bool true) ∧ Below w.heap.size w w' := by
  have hRow := hR
  obtain ⟨h1, h2, h3, h4⟩ := hR
  have hcn : chn [] = [] := rfl
  have hc2 : chn [x, y] = (Dg.sum x.data.toList).data.toList ++ (Dg.sum y.data.toList).data.toList := by simp [chn]
  obtain ⟨C, hC⟩ : ∃ C, Dg.sum (chn ss) = C := ⟨_, rfl⟩
  obtain ⟨E, hE⟩ : ∃ E, Dg.sum [] = E := ⟨_, rfl⟩
  obtain ⟨D, hD⟩ : ∃ D, Dg.sum (chn [x, y]) = D := ⟨_, rfl⟩
  have hxz := Dg.sum_size x.data.toList
  have hyz := Dg.sum_size y.data.toList
  obtain ⟨X, hX⟩ : ∃ X, Dg.sum x.data.toList = X := ⟨_, rfl⟩
  obtain ⟨Y, hY⟩ : ∃ Y, Dg.sum y.data.toList = Y := ⟨_, rfl⟩
  rw [hX] at hxz
  rw [hY] at hyz
  have hP : Dg.sum (X.data.toList ++ Y.data.toList) = D := by rw [← hD, hc2, hX, hY]
  have HC := Lib.hid hC
  have HE := Lib.hid hE
  have HD := Lib.hid hD
  have HX := Lib.hid hX
  have HY := Lib.hid hY
  have HP := Lib.hid hP
  have HR := Lib.hid hRow
  have hxs : x.size ≤ 5000 := by omega
  have hys : y.size ≤ 5000 := by omega
  clear hC hE hD hX hY hP hc2 hcn hRow
  go_enter Try.func5, Try.ntmps5
  go_wp2_with fail
  go_loop [7, 9, 17] (fun t _ i => ∃ (k : Nat), k ≤ len ∧ i = .int .i64 k ∧ t = .int .i64 ((x.size + y.size + tot (ss.take k) : Nat) : Int)) (fun _ _ i => len - (intOf i).toNat)
  case atStart => exact ⟨0, Nat.zero_le _, rfl, by simp [tot]⟩
  case round =>
    obtain ⟨k, hk, rfl, rfl⟩ := hrel
    by_cases hlt : k < len
    · obtain ⟨b, off, rfl, hbl, hcell⟩ := h4 (by omega)
      have hks : k < ss.length := by omega
      have hc := hcell k hlt
      have hg : ss.getD k ByteArray.empty = ss[k] := by simp [List.getD, hks]
      rw [hg] at hc
      have hsz := h3 ss[k] (List.getElem_mem hks)
      have ht := tot_take ss k hks
      have hB := tot_le 140737488351232 (ss.take k) (fun s hs => h3 s (List.mem_of_mem_take hs))
      rw [List.length_take] at hB
      have hB' : tot (ss.take k) ≤ 14073748835123200 := by omega
      have Ht := Lib.hid ht
      clear hcell h4 hg ht hB hbig
      generalize ss[k] = s at hc hsz Ht
      go_wp2_with fail
      exact ⟨⟨k + 1, by omega, by go_num, by rw [Ht.out]; go_num⟩, by simp [intOf]; omega⟩
    · have hk' : k = ss.length := by omega
      rw [hk', List.take_length]
      have hd1 : decide ((5000 : Int) < ((x.size + y.size + tot ss : Nat) : Int)) = false := by simp; omega
      have hd2 : decide ((100 : Int) < (len : Int)) = false := by simp; omega
      clear h4
      go_wp2_with fail
      refine (chain_any _ _ _ ss _ HR.out hn).mono ?_
      rintro e w1 ⟨rfl, hb1⟩
      rw [HC.out]
      go_wp2_with fail
      refine (Rchain_any _ _ _ ss _ (strRow_below HR.out hb1) hn).mono ?_
      rintro e w2 ⟨rfl, hb2⟩
      rw [HC.out]
      go_wp2_with fail
      refine (chain_any none 0 0 [] _ ⟨rfl, by decide, by simp, by simp⟩ (by decide)).mono ?_
      rintro e w3 ⟨rfl, hb3⟩
      rw [show chn [] = [] from rfl, HE.out]
      go_wp2_with fail
      refine (Sum_any _ _ (by decide)).mono ?_
      rintro e w4 ⟨rfl, hb4⟩
      rw [HE.out]
      go_wp2_with fail
      refine (chain_any _ 2 2 [x, y] _ (strRow_new w4 [x, y] _ (by simp; omega) (by simp)) (by decide)).mono ?_
      rintro e w5 ⟨rfl, hb5'⟩
      have hb5 := below_alloc _ hb5'
      rw [HD.out]
      go_wp2_with fail
      refine (Sum_any x _ (by unfold maxLen; omega)).mono ?_
      rintro e w6 ⟨rfl, hb6⟩
      rw [HX.out]
      go_wp2_with fail
      refine (Sum_any y _ (by unfold maxLen; omega)).mono ?_
      rintro e w7 ⟨rfl, hb7⟩
      rw [HY.out]
      go_wp2_with fail
      refine (Pair_any X Y _ (by unfold maxLen; omega)).mono ?_
      rintro e w8 ⟨rfl, hb8⟩
      rw [HP.out]
      go_wp2_with fail
      refine (awake_any _).mono ?_
      rintro e w9 ⟨rfl, hb9⟩
      go_wp2
      go_ret
      exact ⟨rfl, blw (blw (blw (blw (blw (blw (blw (blw hb1 hb2) hb3) hb4) hb5) hb6) hb7) hb8) hb9⟩

end Go.Proofs.Ytfnhaadikfenpaa.Hh
