/-
  HashBits: the walk.
-/
import Derived.Test.YtfnhaadikfenpaaHr
import Derived.WalkKit
import Derived.WalkSpells
import Derived.WalkLawsBesides
import Derived.LoopTactic
import Derived.Outline
import Derived.Deep.QuietTactic
import Derived.BigQuiet
import Derived.BigRegion
import Derived.RegionTactic
import Derived.Deep.RegionWith
import Derived.Lib.Hide
namespace Go.Proofs.Ytfnhaadikfenpaa.Hh
open Go Go.RowKit




set_option maxHeartbeats 400000 in
theorem bits_out (s : ByteArray) (bit : Int) (old : Bool) (w : World) (h : 5000 < s.size ∨ bit < 0) :
    Calls Try.prog 4 #[.string s, .int .i64 bit, .bool old] w fun e w' => e = .returned (.bool true) ∧ Below w.heap.size w w' := by
  by_cases h1 : (5000 : Int) < (s.size : Int)
  · go_enter Try.func4, Try.ntmps4
    go_wp2_with (go_at_call 9; refine (awake_any _).mono ?_; rintro e w1 ⟨rfl, hb1⟩)
    go_ret
    exact ⟨rfl, hb1⟩
  · have h2 : bit < 0 := by omega
    go_enter Try.func4, Try.ntmps4
    go_wp2_with (go_at_call 9; refine (awake_any _).mono ?_; rintro e w1 ⟨rfl, hb1⟩)
    go_ret
    exact ⟨rfl, hb1⟩

/-- a text as bytes in new memory -/
theorem conv_bytes (W : World) (d : ByteArray) : ∃ W' cap, (convert 9 28 (.string d)).run Try.prog W = .ok (.slice (some ⟨W.heap.size, 0, none⟩) d.size cap) W' ∧
    Below W.heap.size W W' ∧ W'.heap.size = W.heap.size + 1 ∧ d.size ≤ cap ∧ (∀ i (h : i < d.size), W'.cell? ⟨W.heap.size, i, none⟩ = some (.int .u8 (d[i].toNat : Int))) ∧ (∀ i, i < d.size → W'.frozen? ⟨W.heap.size, i, none⟩ = false) := by
  refine ⟨_, grownCap W d.size 0 5, run_bytes_of_string (P := Try.prog) W 9 28 5 d Try.underlying9 Try.underlying28 Try.underlying5, (Below.refl _ W).drew.alloc (Nat.le_refl _) _, by simp, grownCap_ge W d.size 0 _, fun i h => ?_, fun i h => ?_⟩
  · have hnew := heap_alloc_new W.drew (.cells (bytesRow d (grownCap W d.size 0 5)) 5 ((bytesRow d (grownCap W d.size 0 5)).size, (bytesRow d (grownCap W d.size 0 5)).size + 1))
    have hnew' : (W.drew.alloc (.cells (bytesRow d (grownCap W d.size 0 5)) 5 ((bytesRow d (grownCap W d.size 0 5)).size, (bytesRow d (grownCap W d.size 0 5)).size + 1))).heap[W.heap.size]? = some (.cells (bytesRow d (grownCap W d.size 0 5)) 5 ((bytesRow d (grownCap W d.size 0 5)).size, (bytesRow d (grownCap W d.size 0 5)).size + 1)) := hnew
    have hi : i < d.data.size := h
    rw [cell_of_row _ _ _ _ _ _ hnew']
    unfold bytesRow
    rw [Array.getElem?_append_left (by simpa using hi), Array.getElem?_map, Array.getElem?_eq_getElem hi]
    rfl
  · have hnew := heap_alloc_new W.drew (.cells (bytesRow d (grownCap W d.size 0 5)) 5 ((bytesRow d (grownCap W d.size 0 5)).size, (bytesRow d (grownCap W d.size 0 5)).size + 1))
    have hnew' : (W.drew.alloc (.cells (bytesRow d (grownCap W d.size 0 5)) 5 ((bytesRow d (grownCap W d.size 0 5)).size, (bytesRow d (grownCap W d.size 0 5)).size + 1))).heap[W.heap.size]? = some (.cells (bytesRow d (grownCap W d.size 0 5)) 5 ((bytesRow d (grownCap W d.size 0 5)).size, (bytesRow d (grownCap W d.size 0 5)).size + 1)) := hnew
    have hsz : i < (bytesRow d (grownCap W d.size 0 5)).size := by
      have hi : i < d.data.size := h
      unfold bytesRow
      rw [Array.size_append, Array.size_map]
      omega
    simp only [World.frozen?]
    rw [hnew']
    simp
    omega

/-- a text with one byte set -/
def put (d : ByteArray) (k : Nat) (v : Int) : ByteArray := strOfNums ((d.data.toList.map fun x => (x.toNat : Int)).set k v)
theorem put_size (d : ByteArray) (k : Nat) (v : Int) : (put d k v).size = d.size := by
  rw [put, strOfNums_size, List.length_set, List.length_map, len_data]
theorem put_at (d : ByteArray) (k : Nat) (v : Int) (h : k < d.size) : (put d k v).data.toList[k]? = some (UInt8.ofNat v.toNat) := by
  have h' : k < d.data.size := h
  rw [put, strOfNums_data, List.getElem?_map, List.getElem?_set_self (by simpa using h')]
  rfl
theorem put_ne (d : ByteArray) (k : Nat) (v : Int) (h : k < d.size) (hv : UInt8.ofNat v.toNat ≠ d[k]) : (put d k v).data.toList ≠ d.data.toList := by
  intro e
  have h1 := put_at d k v h
  rw [e] at h1
  have h' : k < d.data.size := h
  have h2 : d.data.toList[k]? = some d[k] := by
    rw [List.getElem?_eq_getElem (by simpa using h')]; rfl
  rw [h2] at h1
  exact hv (Option.some.inj h1).symm
theorem xor_ne : ∀ (x : UInt8) (j : Nat), j < 8 → UInt8.ofNat (bits BinOp.xor IntKind.u8 (x.toNat : Int) (2 ^ j % 256)).toNat ≠ x := by
  have h : ∀ (x : Fin 256) (j : Fin 8), UInt8.ofNat (bits BinOp.xor IntKind.u8 (x.val : Int) (2 ^ j.val % 256)).toNat ≠ UInt8.ofNat x.val := by decide +kernel
  intro x j hj
  have := h ⟨x.toNat, UInt8.toNat_lt x⟩ ⟨j, hj⟩
  simpa using this

theorem conv_set (W : World) (b k cap l : Nat) (d : ByteArray) (v : Int) (hl : d.size = l) (hk : k < d.size) (hc : ∀ i (h : i < d.size), W.cell? ⟨b, i, none⟩ = some (.int .u8 (d[i].toNat : Int))) :
    (convert 28 9 (.slice (some ⟨b, 0, none⟩) l cap)).run Try.prog (W.setCell ⟨b, k, none⟩ (.int .u8 v)).drew = .ok (.string (put d k v)) (W.setCell ⟨b, k, none⟩ (.int .u8 v)).drew := by
  subst hl
  refine run_convert_bytes_arg (P := Try.prog) _ 28 5 Try.underlying28 Try.underlying5 b 0 d.size cap _ (by rw [List.length_set, List.length_map, len_data]) (fun i hi => ?_) 9 Try.underlying9
  rw [Nat.zero_add]
  have hi' : i < d.data.size := hi
  show (W.setCell ⟨b, k, none⟩ (.int .u8 v)).cell? ⟨b, i, none⟩ = _
  by_cases e : k = i
  · subst e
    rw [World.cell?_setCell_same _ _ _ (hc k hk), List.getD, List.getElem?_set_self (by rw [List.length_map, len_data]; exact hk)]
    rfl
  · have hne : (⟨b, k, none⟩ : Addr) ≠ ⟨b, i, none⟩ := fun h => e (by injection h)
    rw [World.cell?_setCell_other (w := W) (v := .int .u8 v) (h := hne), hc i hi, List.getD, List.getElem?_set_ne e, List.getElem?_map, List.getElem?_eq_getElem (by rw [len_data]; exact hi)]
    rfl

set_option maxHeartbeats 400000 in
theorem bits_new (s : ByteArray) (n : Nat) (w : World) (h1 : s.size ≤ 5000) (h3 : n ≤ 9223372036854775807) :
    Calls Try.prog 4 #[.string s, .int .i64 (n : Int), .bool false] w fun e w' => e = .returned (.bool true) ∧ Below w.heap.size w w' := by
  have hz := Dg.sum_size s.data.toList
  have hck : ∀ d', Dg.chk s.data.toList d' = if d'.size = 20 then (Dg.old s.data.toList).toList == d'.toList else if d'.size = 32 then (Dg.sum s.data.toList).toList == d'.toList else false := fun _ => rfl
  generalize hd : Dg.sum s.data.toList = d at hz hck
  have hne : d.toList.isEmpty = false := by
    rw [ByteArray.toList_eq]
    cases hd' : d.data.toList with
    | nil => have := len_data d
             rw [hd'] at this; simp at this; omega
    | cons => rfl
  have hg1 : decide ((5000 : Int) < (s.size : Int)) = false := by simp; omega
  have hg2 : decide ((n : Int) < 0) = false := by simp
  have Hd := Lib.hid hd
  have Hck := Lib.hid hck
  clear hd hck
  go_enter Try.func4, Try.ntmps4
  go_wp2_with (go_at_call 10; refine (Sum_any s _ (by unfold maxLen; omega)).mono ?_; rintro e w1 ⟨rfl, hb1⟩; rw [Hd.out])
  obtain ⟨w2, cap, hrun, hb2, hsz2, hcap, hcell, hfree⟩ := conv_bytes w1 d
  rw [hrun]
  have hc := hcell (n / 8 % 32) (by omega)
  have hf := hfree (n / 8 % 32) (by omega)
  have Hcell := Lib.hid hcell
  clear hcell hfree hrun
  go_wp2_with fail
  go_region
  go_wp2_with fail
  rw [conv_set w2 w1.heap.size (n / 8 % 32) cap 32 d _ hz (by omega) Hcell.out]
  have hc1 : Dg.chk s.data.toList (put d (n / 8 % 32) (bits BinOp.xor IntKind.u8 (d[n / 8 % 32].toNat : Int) (2 ^ (n % 8) % 256))) = false := by
    have hp := put_size d (n / 8 % 32) (bits BinOp.xor IntKind.u8 (d[n / 8 % 32].toNat : Int) (2 ^ (n % 8) % 256))
    have := put_ne d (n / 8 % 32) _ (by omega) (xor_ne d[n / 8 % 32] (n % 8) (by omega))
    generalize put d (n / 8 % 32) (bits BinOp.xor IntKind.u8 (d[n / 8 % 32].toNat : Int) (2 ^ (n % 8) % 256)) = d' at hp this ⊢
    rw [Hck.out, if_neg (by omega), if_pos (by omega), ByteArray.toList_eq, ByteArray.toList_eq]
    exact beq_eq_false_iff_ne.2 fun e => this e.symm
  have hc2 : Dg.chk s.data.toList d = true := by
    rw [Hck.out, if_neg (by omega), if_pos hz]; simp
  have Hc1 := Lib.hid hc1
  have Hc2 := Lib.hid hc2
  clear hc1 hc2
  generalize hp : put d (n / 8 % 32) (bits BinOp.xor IntKind.u8 (d[n / 8 % 32].toNat : Int) (2 ^ (n % 8) % 256)) = d' at Hc1 ⊢
  clear hp hc hf Hcell Hck
  go_wp2_with fail
  refine (check_any s d' _ (by unfold maxLen; omega)).mono ?_
  rintro e w3 ⟨rfl, hb3⟩
  rw [Hc1.out]
  go_wp2_with fail
  refine (check_any s d _ (by unfold maxLen; omega)).mono ?_
  rintro e w4 ⟨rfl, hb4⟩
  rw [Hc2.out]
  go_wp2_with fail
  refine (awake_any _).mono ?_
  rintro e w5 ⟨rfl, hb5⟩
  go_wp2
  go_ret
  exact ⟨rfl, blw (blw (blw ((hb1.trans (hb2.mono hb1.size)).setCell hb1.size _).drew hb3) hb4) hb5⟩

set_option maxHeartbeats 400000 in
theorem bits_old (s : ByteArray) (n : Nat) (w : World) (h1 : s.size ≤ 5000) (h3 : n ≤ 9223372036854775807) :
    Calls Try.prog 4 #[.string s, .int .i64 (n : Int), .bool true] w fun e w' => e = .returned (.bool true) ∧ Below w.heap.size w w' := by
  have hz := Dg.old_size s.data.toList
  have hck : ∀ d', Dg.chk s.data.toList d' = if d'.size = 20 then (Dg.old s.data.toList).toList == d'.toList else if d'.size = 32 then (Dg.sum s.data.toList).toList == d'.toList else false := fun _ => rfl
  generalize hd : Dg.old s.data.toList = d at hz hck
  have hne : d.toList.isEmpty = false := by
    rw [ByteArray.toList_eq]
    cases hd' : d.data.toList with
    | nil => have := len_data d
             rw [hd'] at this; simp at this; omega
    | cons => rfl
  have hg1 : decide ((5000 : Int) < (s.size : Int)) = false := by simp; omega
  have hg2 : decide ((n : Int) < 0) = false := by simp
  have Hd := Lib.hid hd
  have Hck := Lib.hid hck
  clear hd hck
  go_enter Try.func4, Try.ntmps4
  go_wp2_with fail
  refine (Sum_any s _ (by unfold maxLen; omega)).mono ?_
  rintro e w0 ⟨rfl, hb0⟩
  go_wp2_with fail
  refine (Old_any s _ (by unfold maxLen; omega)).mono ?_
  rintro e w1 ⟨rfl, hb1'⟩
  have hb1 := blw hb0 hb1'
  clear hb0 hb1'
  rw [Hd.out]
  go_wp2_with fail
  obtain ⟨w2, cap, hrun, hb2, hsz2, hcap, hcell, hfree⟩ := conv_bytes w1 d
  rw [hrun]
  have hc := hcell (n / 8 % 20) (by omega)
  have hf := hfree (n / 8 % 20) (by omega)
  have Hcell := Lib.hid hcell
  clear hcell hfree hrun
  go_wp2_with fail
  go_region
  go_wp2_with fail
  rw [conv_set w2 w1.heap.size (n / 8 % 20) cap 20 d _ hz (by omega) Hcell.out]
  have hc1 : Dg.chk s.data.toList (put d (n / 8 % 20) (bits BinOp.xor IntKind.u8 (d[n / 8 % 20].toNat : Int) (2 ^ (n % 8) % 256))) = false := by
    have hp := put_size d (n / 8 % 20) (bits BinOp.xor IntKind.u8 (d[n / 8 % 20].toNat : Int) (2 ^ (n % 8) % 256))
    have := put_ne d (n / 8 % 20) _ (by omega) (xor_ne d[n / 8 % 20] (n % 8) (by omega))
    generalize put d (n / 8 % 20) (bits BinOp.xor IntKind.u8 (d[n / 8 % 20].toNat : Int) (2 ^ (n % 8) % 256)) = d' at hp this ⊢
    rw [Hck.out, if_pos (by omega), ByteArray.toList_eq, ByteArray.toList_eq]
    exact beq_eq_false_iff_ne.2 fun e => this e.symm
  have hc2 : Dg.chk s.data.toList d = true := by
    rw [Hck.out, if_pos hz]; simp
  have Hc1 := Lib.hid hc1
  have Hc2 := Lib.hid hc2
  clear hc1 hc2
  generalize hp : put d (n / 8 % 20) (bits BinOp.xor IntKind.u8 (d[n / 8 % 20].toNat : Int) (2 ^ (n % 8) % 256)) = d' at Hc1 ⊢
  clear hp hc hf Hcell Hck
  go_wp2_with fail
  refine (check_any s d' _ (by unfold maxLen; omega)).mono ?_
  rintro e w3 ⟨rfl, hb3⟩
  rw [Hc1.out]
  go_wp2_with fail
  refine (check_any s d _ (by unfold maxLen; omega)).mono ?_
  rintro e w4 ⟨rfl, hb4⟩
  rw [Hc2.out]
  go_wp2_with fail
  refine (awake_any _).mono ?_
  rintro e w5 ⟨rfl, hb5⟩
  go_wp2
  go_ret
  exact ⟨rfl, blw (blw (blw ((hb1.trans (hb2.mono hb1.size)).setCell hb1.size _).drew hb3) hb4) hb5⟩

end Go.Proofs.Ytfnhaadikfenpaa.Hh
