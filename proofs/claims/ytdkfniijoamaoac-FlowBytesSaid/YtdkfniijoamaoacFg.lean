/-
  mark: the marks' text.
-/
import Derived.Test.YtdkfniijoamaoacFf
namespace Go.Proofs.Ytdkfniijoamaoac.Fl
open Go Go.RowKit Go.Proofs.Ytdkfniijoamaoac.Hz Go.Proofs.Ytdkfniijoamaoac.Rw Go.Proofs.Ytdkfniijoamaoac.Or

/-- four bytes of the call's own -/
def B4 (w : World) (g : Nat) (xs : List Int) : Prop := ∃ t, w.heap[g]? = some (.cells ((xs.map (Value.int .u8)).toArray) t (0, 0)) ∧ xs.length = 4
theorem B4.free {w : World} {g : Nat} {xs : List Int} (H : B4 w g xs) (i : Nat) : w.frozen? ⟨g, i, none⟩ = false := by
  obtain ⟨t, H, _⟩ := H; simp [World.frozen?, H]
theorem B4.cell {w : World} {g : Nat} {xs : List Int} (H : B4 w g xs) (i : Nat) (h : i < 4) : w.cell? ⟨g, i, none⟩ = some (.int .u8 (xs.getD i 0)) := by
  obtain ⟨t, H, hl⟩ := H
  rw [cell_of_row _ _ _ _ _ _ H]
  simp [hl, h, List.getD]
theorem B4.set {w : World} {g : Nat} {xs : List Int} (H : B4 w g xs) (i : Nat) (v : Int) : B4 (w.setCell ⟨g, i, none⟩ (.int .u8 v)) g (xs.set i v) := by
  obtain ⟨t, H, hl⟩ := H
  have hlt := lt_of_block H
  refine ⟨t, ?_, by rw [List.length_set, hl]⟩
  have h' : w.heap[g] = .cells ((xs.map (Value.int .u8)).toArray) t (0, 0) := by simpa [Array.getElem?_eq_getElem hlt] using H
  show (w.heap.modify g _)[g]? = _
  rw [Array.getElem?_eq_getElem (by simpa using hlt), Array.getElem_modify_self, h']
  show some (Obj.cells (((xs.map (Value.int .u8)).toArray).setIfInBounds i (.int .u8 v)) t (0, 0)) = _
  rw [List.setIfInBounds_toArray, List.map_set]

theorem conv_take (W : World) (xs : List Int) (g n cap : Nat) (H : B4 W g xs) (hn : n ≤ 4) :
    (convert 33 9 (.slice (some ⟨g, 0, none⟩) n cap)).run Try.prog W = .ok (.string (strOfNums (xs.take n))) W := by
  have hl : xs.length = 4 := H.choose_spec.2
  refine run_convert_bytes_arg (P := Try.prog) _ 33 5 Try.underlying33 Try.underlying5 g 0 n cap (xs.take n) (by rw [List.length_take]; omega) (fun i hi => ?_) 9 Try.underlying9
  rw [Nat.zero_add, H.cell i (by omega)]
  simp [List.getD, List.getElem?_take_of_lt hi]

theorem arr4 : Try.prog.arrayLen 70 = 4 := by kernel_rfl
/-- places by how much they are beyond -/
def bI (is : List Nat) : List Int := is.map fun i : Nat => (i : Int) + 2

set_option maxHeartbeats 1600000 in
theorem mark_any (a : Option Addr) (cap : Nat) (is : List Nat) (w : World) (hR : IntRow .i64 w a (bI is).length cap (bI is)) (hs : is.length ≤ 60) (hin : ∀ i, i ∈ is → i < 32) :
    Calls Try.prog 35 #[.slice a (bI is).length cap] w fun e w' => e = .returned (.string (mt is)) ∧ Below w.heap.size w w' := by
  obtain ⟨h1, h2, h3, h4⟩ := hR
  have hlen : (bI is).length = is.length := by simp [bI]
  rw [hlen] at h4 ⊢
  go_enter Try.func35, Try.ntmps35
  go_wp2_with fail
  go_loopw [4, 6, 7, 10] (fun n _ _ i wr => ∃ k : Nat, k ≤ is.length ∧ i = .int .i64 k ∧ n = .int .i64 (mn (is.take k)) ∧ B4 wr w.heap.size (m4 (is.take k)) ∧ Below w.heap.size w wr) (fun _ _ _ i _ => is.length - (intOf i).toNat)
  case atStart => exact ⟨0, Nat.zero_le _, rfl, rfl, ⟨_, heap_alloc_new w _, rfl⟩, (Below.refl _ _).alloc (Nat.le_refl _) _⟩
  case round =>
    obtain ⟨k, hk, rfl, rfl, hB, hbl⟩ := hrel
    by_cases hlt : k < is.length
    · obtain ⟨b, off, rfl, hbb, hcell⟩ := h4 (by omega)
      have hc := hcell k hlt
      rw [← hbl.cell (p := ⟨b, off + k, none⟩) hbb] at hc
      obtain ⟨d, hd⟩ : ∃ d, is[k] = d := ⟨_, rfl⟩
      have hd32 : d < 32 := by rw [← hd]; exact hin _ (List.getElem_mem hlt)
      have hg : (bI is).getD k 0 = (d : Int) + 2 := by rw [← hd]; simp [bI, List.getD, hlt]
      rw [hg] at hc
      have htk : is.take (k + 1) = is.take k ++ [d] := by rw [List.take_succ_eq_append_getElem hlt, hd]
      have hm := m4_snoc (is.take k) d hd32
      have hn := mn_snoc (is.take k) d
      have hn4 := mn_le (is.take k) (fun i hi => hin i (List.mem_of_mem_take hi))
      obtain ⟨q, hq⟩ : ∃ q, d / 8 = q := ⟨_, rfl⟩
      obtain ⟨t, ht⟩ : ∃ t, d % 8 = t := ⟨_, rfl⟩
      have hqi : (d : Int) / 8 = (q : Int) := by omega
      have hti : (d : Int) % 8 = (t : Int) := by omega
      have hq4 : q < 4 := by omega
      have ht8 : t ≤ 7 := by omega
      have hc4 := hB.cell q hq4
      rw [m4_at _ _ hq4] at hc4
      have hf4 := hB.free q
      have hor := or8 (mb (is.take k) q) (2 ^ t) (mb_lt _ _) (pow_8 t (by omega))
      have hz := shl8 t (by omega)
      rw [IntKind.wrap_u8] at hz
      rw [← hz] at hor
      rw [hq, ht] at hm
      have hBs := hB.set q ((mb (is.take k) q ||| 2 ^ t : Nat) : Int)
      rw [← hm, ← htk] at hBs
      rw [hq, ← htk] at hn
      generalize mb (is.take k) q = x at *
      generalize (x ||| 2 ^ t : Nat) = y at *
      have HBs := Lib.hid hBs
      have HN := Lib.hid hn
      generalize mn (is.take k) = m at *
      clear hd hg htk hm hn hB hBs hcell h4 hq ht hz
      go_wp2_with fail
      go_region
      go_wp2_with fail
      refine ⟨⟨k + 1, by omega, by go_num, ?_, HBs.out, (hbl.setCell (Nat.le_refl _) _).drew⟩, by simp [intOf]; omega⟩
      rw [HN.out]
      congr 1
      split <;> omega
    · obtain rfl : k = is.length := by omega
      rw [List.take_length] at hB ⊢
      have hn4 := mn_le is hin
      have hcv := conv_take wr (m4 is) w.heap.size (mn is) 4 hB hn4
      have HM := Lib.hid (show strOfNums ((m4 is).take (mn is)) = mt is from rfl)
      generalize strOfNums ((m4 is).take (mn is)) = r2 at *
      generalize mn is = m at *
      clear h4 hB hin
      have hm0 : (m : Int) ≤ Try.prog.arrayLen 70 := by rw [arr4]; omega
      have hm4 : (m : Int) ≤ 4 := by omega
      go_wp2_with fail
      go_ret
      exact ⟨congrArg (fun x => Ending.returned (.string x)) HM.out, hbl⟩
end Go.Proofs.Ytdkfniijoamaoac.Fl
