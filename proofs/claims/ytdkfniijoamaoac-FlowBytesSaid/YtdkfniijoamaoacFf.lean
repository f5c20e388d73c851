/-
  named: what marks name.
-/
import Derived.Test.YtdkfniijoamaoacFe
import Derived.Test.YtdkfniijoamaoacOr
namespace Go.Proofs.Ytdkfniijoamaoac.Fl
open Go Go.RowKit Go.Proofs.Ytdkfniijoamaoac.Hz Go.Proofs.Ytdkfniijoamaoac.Rw Go.Proofs.Ytdkfniijoamaoac.Or

/-- byte k of a text as a number -/
def by_ (s : ByteArray) (k : Nat) : Nat := (s.data.toList.getD k 0).toNat
theorem by_at (s : ByteArray) (k : Nat) (h : k < s.size) : s[k].toNat = by_ s k := by
  have h' : k < s.data.toList.length := by rw [len_data]; exact h
  unfold by_
  rw [List.getD, List.getElem?_eq_getElem h']
  rfl
theorem by_lt (s : ByteArray) (k : Nat) : by_ s k < 256 := UInt8.toNat_lt _
theorem bit_and (s : ByteArray) (k : Nat) : (bits .and .u8 (by_ s (k / 8) : Int) (2 ^ (k % 8) % 256 : Int) != 0) = bitOf s k := by
  have ht : k % 8 < 8 := Nat.mod_lt _ (by omega)
  have hz := shl8 _ ht
  rw [IntKind.wrap_u8] at hz
  rw [hz, and8 _ _ (by_lt _ _) (pow_8 _ ht)]
  unfold bitOf
  rw [← and_bit]
  rw [Bool.eq_iff_iff]
  simp [by_]

/-- what marks name, by how much it is beyond -/
def nmI (s : ByteArray) (k : Nat) : List Int := (nm (bitOf s) k).map fun i : Nat => (2 + (i : Int))
theorem nmI_no (s : ByteArray) (k : Nat) (h : bitOf s k = false) : nmI s (k + 1) = nmI s k := by
  unfold nmI; rw [nm_succ, h]; rfl
theorem nmI_yes (s : ByteArray) (k : Nat) (h : bitOf s k = true) : nmI s (k + 1) = nmI s k ++ [2 + (k : Int)] := by
  unfold nmI; rw [nm_succ, h, if_pos rfl, List.map_append]; rfl
theorem nmI_len (s : ByteArray) (k : Nat) : (nmI s k).length ≤ k := by
  unfold nmI; rw [List.length_map]; exact nm_len _ _
theorem nmI_in (s : ByteArray) (k : Nat) (z : Int) (h : z ∈ nmI s k) : 2 ≤ z ∧ z < 2 + k := by
  unfold nmI at h
  obtain ⟨i, hi, rfl⟩ := List.mem_map.1 h
  have := nm_lt _ _ _ hi
  omega

set_option maxHeartbeats 1600000 in
theorem named_any (s : ByteArray) (w : World) (hs : s.size ≤ 10) :
    Calls Try.prog 38 #[.string s] w fun e w' => ∃ v, e = .returned v ∧ OR w' w.heap.size v (nmI s (8 * s.size)) ∧ Below w.heap.size w w' := by
  obtain ⟨i0, hi, hz0, hz1, hz2⟩ := info_parts int_info
  go_enter Try.func38, Try.ntmps38
  go_wp2_with fail
  go_loopw [3, 4, 8] (fun v _ i wr => ∃ k : Nat, k ≤ 8 * s.size ∧ i = .int .i64 k ∧ OR wr w.heap.size v (nmI s k) ∧ Below w.heap.size w wr) (fun _ _ i _ => 8 * s.size - (intOf i).toNat)
  case atStart => exact ⟨0, Nat.zero_le _, rfl, OR.nil_ _ _, Below.refl _ _⟩
  case round =>
    obtain ⟨k, hk, rfl, hown, hbl⟩ := hrel
    by_cases hlt : k < 8 * s.size
    · obtain ⟨q, hq⟩ : ∃ q, k / 8 = q := ⟨_, rfl⟩
      obtain ⟨t, ht⟩ : ∃ t, k % 8 = t := ⟨_, rfl⟩
      have hqi : (k : Int) / 8 = (q : Int) := by omega
      have hti : (k : Int) % 8 = (t : Int) := by omega
      have hk8 : q < s.size := by omega
      have ht8 : t ≤ 7 := by omega
      have hb := by_at s q hk8
      have hbit := bit_and s k
      rw [hq, ht] at hbit
      have hln := nmI_len s k
      clear hq ht
      cases hx : bitOf s k
      · have HS := Lib.hid (nmI_no s k hx)
        rw [hx] at hbit
        clear hx
        go_wp2_with fail
        go_quiet (fail)
        go_wp2_with fail
        exact ⟨⟨k + 1, by omega, by go_num, by rw [HS.out]; exact hown.drewN_ nq, blw_drewN hbl nq⟩, by simp [intOf]; omega⟩
      · have HS := Lib.hid (nmI_yes s k hx)
        rw [hx] at hbit
        clear hx
        have hlen := (cI_len (nmI s k))
        go_wp2_with fail
        go_quiet (fail)
        have hown0 := hown.drewN_ nq
        have hbl0 := blw_drewN hbl nq
        have hown1 := hown0.alloc_ (.cells #[.int .i64 (2 + (k : Int))] 3)
        have hbl1 := hbl0.alloc hbl0.size (.cells #[.int .i64 (2 + (k : Int))] 3)
        go_wp2_with (at_builtin; refine wpList_append_own _ rfl _ _ 36 rfl w.heap.size 3 i0 (.int .i64 0) 1 8 Try.underlying36 hi hz0 hz1 hz2 rfl (by decide) _ _ _ rfl hown1 ⟨wr.heap.size, 0, none⟩ 1 1 [.int .i64 (2 + (k : Int))] rfl rfl (cell_one_new _ _ _) (by simp [Value.oneCell']) (by unfold maxLen; omega) (by omega) hbl1.size ?_; intro v' w1 hown' hgrow _; have hbl2 := hown1.grow_ hbl1 hgrow hbl1.size; clear hgrow)
        exact ⟨⟨k + 1, by omega, by go_num, by rw [HS.out]; unfold OR; rw [cI_snoc, List.length_append]; exact hown', hbl2⟩, by simp [intOf]; omega⟩
    · obtain rfl : k = 8 * s.size := by omega
      go_wp2_with fail
      go_ret
      exact ⟨_, rfl, hown, hbl⟩
end Go.Proofs.Ytdkfniijoamaoac.Fl
