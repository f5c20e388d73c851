/-
  A block of bytes of the call's own; Mask.
-/
import Derived.Test.YtfnhaadikfenpaaHt
import Derived.Test.YtfnhaadikfenpaaHr
import Derived.WalkKit
import Derived.WalkSpells
import Derived.WalkLawsBesides
import Derived.LoopTactic
import Derived.Outline
import Derived.BigRegion
import Derived.RegionTactic
import Derived.Lib.Hide
namespace Go.Proofs.Ytfnhaadikfenpaa.Hh
open Go Go.RowKit

/-- bytes as cells -/
def bytesI (xs : List Int) : Array Value := (xs.map (Value.int .u8)).toArray
/-- block g holds just these bytes -/
def Bk (w : World) (g : Nat) (xs : List Int) : Prop := ∃ t, w.heap[g]? = some (.cells (bytesI xs) t (0, 0))

theorem Bk.free {w : World} {g : Nat} {xs : List Int} (H : Bk w g xs) (i : Nat) : w.frozen? ⟨g, i, none⟩ = false := by
  obtain ⟨t, H⟩ := H; simp [World.frozen?, H]
theorem Bk.cell {w : World} {g : Nat} {xs : List Int} (H : Bk w g xs) (i : Nat) (h : i < xs.length) : w.cell? ⟨g, i, none⟩ = some (.int .u8 (xs.getD i 0)) := by
  obtain ⟨t, H⟩ := H
  rw [cell_of_row _ _ _ _ _ _ H]
  simp [bytesI, h, List.getD]
theorem Bk.lt {w : World} {g : Nat} {xs : List Int} (H : Bk w g xs) : g < w.heap.size := by obtain ⟨t, H⟩ := H; exact lt_of_block H
theorem Bk.set {w : World} {g : Nat} {xs : List Int} (H : Bk w g xs) (i : Nat) (v : Int) : Bk (w.setCell ⟨g, i, none⟩ (.int .u8 v)) g (xs.set i v) := by
  obtain ⟨t, H⟩ := H
  refine ⟨t, ?_⟩
  rw [heap_setCell_same H]
  congr 2
  unfold bytesI
  rw [List.setIfInBounds_toArray, List.map_set]
theorem Bk.drew {w : World} {g : Nat} {xs : List Int} (H : Bk w g xs) : Bk w.drew g xs := H
theorem Bk.below {w w' : World} {g B : Nat} {xs : List Int} (H : Bk w g xs) (hb : Below B w w') (hB : g < B) : Bk w' g xs := by
  obtain ⟨t, H⟩ := H
  exact ⟨t, by rw [hb.block g hB]; exact H⟩
theorem Bk.new (w : World) (xs : List Int) (t : TypeId) : Bk (w.alloc (.cells (bytesI xs) t)) w.heap.size xs := ⟨t, heap_alloc_new w _⟩
theorem Bk.conv {w : World} {g : Nat} {xs : List Int} (H : Bk w g xs) (l cap : Nat) (hl : xs.length = l) :
    (convert 28 9 (.slice (some ⟨g, 0, none⟩) l cap)).run Try.prog w = .ok (.string (strOfNums xs)) w :=
  run_convert_bytes_arg (P := Try.prog) _ 28 5 Try.underlying28 Try.underlying5 g 0 l cap xs hl (fun i hi => by rw [Nat.zero_add]; exact H.cell i (by omega)) 9 Try.underlying9

theorem madeU8 (n : Nat) : madeCells (Value.int .u8 0).cells n = bytesI (List.replicate n 0) := by
  apply Array.ext
  · simp [madeCells, bytesI]
  · intro i h1 h2
    simp [madeCells, bytesI, Value.cells, Nat.mod_one]

theorem makeN (n : Nat) (w : World) (hn : n ≤ 281474976710656) : (Instr.makeSlice 28 (.int .i64 (n : Int)) (.int .i64 (n : Int))).run Try.prog w = .ok (.slice (some ⟨w.heap.size, 0, none⟩) n n) (w.alloc (.cells (bytesI (List.replicate n 0)) 5)) := by
  have hi3 : (Try.prog.info? 5).map (fun i => (i.zero, i.size, i.bytes)) = some (some (.int .u8 0), 1, 1) := by kernel_rfl
  obtain ⟨i0, hi, hz0, hz1, hz2⟩ := info_parts hi3
  rw [run_make (P := Try.prog) w 28 5 i0 (.int .u8 0) Try.underlying28 hi hz0 .i64 .i64 n n (by omega) (Int.le_refl _) (by rw [hz2]; omega) (by omega)]
  rw [hz1, Int.toNat_natCast, Nat.mul_one, madeU8]

/-- each byte xor the other one -/
def mxI (a b : ByteArray) : List Int := List.zipWith (fun x y => bits BinOp.xor IntKind.u8 (x.toNat : Int) (y.toNat : Int)) a.data.toList b.data.toList
def mx (a b : ByteArray) : ByteArray := strOfNums (mxI a b)
theorem mxI_length (a b : ByteArray) (h : a.size = b.size) : (mxI a b).length = a.size := by
  unfold mxI
  rw [List.length_zipWith, len_data, len_data]; omega
theorem set_step (xs : List Int) (n k : Nat) (v : Int) (hn : xs.length = n) (hk : k < n) (hv : xs.getD k 0 = v) :
    (xs.take k ++ List.replicate (n - k) 0).set k v = xs.take (k + 1) ++ List.replicate (n - (k + 1)) 0 := by
  have h1 : (xs.take k).length = k := by rw [List.length_take]; omega
  rw [List.set_append_right _ _ (by omega), h1, Nat.sub_self, show n - k = (n - (k + 1)) + 1 by omega, List.replicate_succ, List.set_cons_zero,
    List.take_succ_eq_append_getElem (by omega), List.append_assoc]
  simp [List.getD, show k < xs.length by omega] at hv
  rw [hv]; rfl
theorem mxI_at (a b : ByteArray) (k : Nat) (ha : k < a.size) (hb : k < b.size) : (mxI a b).getD k 0 = bits BinOp.xor IntKind.u8 (a[k].toNat : Int) (b[k].toNat : Int) := by
  have ha' : k < a.data.toList.length := by rw [len_data]; exact ha
  have hb' : k < b.data.toList.length := by rw [len_data]; exact hb
  unfold mxI
  rw [List.getD, List.getElem?_zipWith, List.getElem?_eq_getElem ha', List.getElem?_eq_getElem hb']
  rfl

set_option maxHeartbeats 800000 in
theorem RMask_eq (a b : ByteArray) (w : World) (h : a.size = b.size) (hs : a.size ≤ 5000) :
    Calls Try.prog 32 #[.string a, .string b] w fun e w' => e = .returned (.tuple #[.string (mx a b), .int .i64 0]) ∧ Below w.heap.size w w' := by
  have hb : b.size ≤ 5000 := by omega
  have hne : ((a.size : Int) != (b.size : Int)) = false := by rw [h]; simp
  have hmk := fun w => makeN a.size w (by omega)
  have hl := mxI_length a b h
  have HH := Lib.hid h
  clear h
  go_enter Try.func32, Try.ntmps32
  go_wp2
  go_outline
  go_loopw [7, 18] (fun _ i wr => ∃ k : Nat, k ≤ a.size ∧ i = .int .i64 k ∧ Bk wr w.heap.size ((mxI a b).take k ++ List.replicate (a.size - k) 0) ∧ Below w.heap.size w wr) (fun _ i _ => a.size - (intOf i).toNat)
  case atStart => exact ⟨0, Nat.zero_le _, rfl, by simpa using Bk.new w _ _, (Below.refl _ _).alloc (Nat.le_refl _) _⟩
  case round =>
    obtain ⟨k, hk, rfl, hB, hbl⟩ := hrel
    by_cases hlt : k < a.size
    · have hlb : k < b.size := by have := HH.out; omega
      have hst := set_step (mxI a b) a.size k _ hl hlt (mxI_at a b k hlt hlb)
      have hc := hB.cell k (by simp [hl]; omega)
      have hf := hB.free k
      have hBs := hB.set k (bits BinOp.xor IntKind.u8 (a[k].toNat : Int) (b[k].toNat : Int))
      rw [hst] at hBs
      have HBs := Lib.hid hBs
      clear hst hB hBs hmk
      go_wp2_with fail
      go_region
      go_wp2_with fail
      exact ⟨⟨k + 1, by omega, by go_num, HBs.out.drew, (hbl.setCell (Nat.le_refl _) _).drew⟩, by simp [intOf]; omega⟩
    · have hk' : k = a.size := by omega
      rw [hk', Nat.sub_self, List.replicate_zero, List.append_nil, List.take_of_length_le (by omega)] at hB
      have hcv := hB.conv a.size a.size hl
      clear hmk hB
      go_wp2
      go_ret2
      exact ⟨rfl, hbl⟩

set_option maxHeartbeats 400000 in
theorem RMask_ne (a b : ByteArray) (w : World) (h : a.size ≠ b.size) :
    Calls Try.prog 32 #[.string a, .string b] w fun e w' => e = .returned (.tuple #[.string ⟨#[]⟩, .int .i64 11]) ∧ Below w.heap.size w w' := by
  have hne : ((a.size : Int) != (b.size : Int)) = true := by simp; omega
  go_enter Try.func32, Try.ntmps32
  go_wp2
  go_ret2
  exact ⟨rfl, Below.refl _ _⟩

set_option maxHeartbeats 800000 in
theorem MaskF_eq (pa pb : Nat) (a b : ByteArray) (w : World) (h : a.size = b.size) (hs : a.size ≤ 5000) (ca : w.cell? ⟨pa, 0, none⟩ = some (.string a)) (cb : w.cell? ⟨pb, 0, none⟩ = some (.string b)) :
    Calls Try.prog 45 #[.pointer (some ⟨pa, 0, none⟩), .pointer (some ⟨pb, 0, none⟩)] w fun e w' => e = .returned (.string (mx a b)) ∧ Below w.heap.size w w' := by
  have hb : b.size ≤ 5000 := by omega
  have la : pa < w.heap.size := World.block_lt_of_cell? w _ ca
  have lb : pb < w.heap.size := World.block_lt_of_cell? w _ cb
  have hne : ((a.size : Int) != (b.size : Int)) = false := by rw [h]; simp
  have hmk := fun w => makeN a.size w (by omega)
  have hl := mxI_length a b h
  have HH := Lib.hid h
  clear h
  go_enter Try.func45, Try.ntmps45
  go_wp2_with fail
  refine (refuse_no _ _).mono ?_
  rintro e w1 ⟨rfl, rfl⟩
  go_wp2_with fail
  go_loopw [4, 16] (fun _ i wr => ∃ k : Nat, k ≤ a.size ∧ i = .int .i64 k ∧ Bk wr w.heap.size ((mxI a b).take k ++ List.replicate (a.size - k) 0) ∧ Below w.heap.size w wr) (fun _ i _ => a.size - (intOf i).toNat)
  case atStart => exact ⟨0, Nat.zero_le _, rfl, by simpa using Bk.new w _ _, (Below.refl _ _).alloc (Nat.le_refl _) _⟩
  case round =>
    obtain ⟨k, hk, rfl, hB, hbl⟩ := hrel
    have ca' : wr.cell? ⟨pa, 0, none⟩ = some (.string a) := by rw [hbl.cell la]; exact ca
    have cb' : wr.cell? ⟨pb, 0, none⟩ = some (.string b) := by rw [hbl.cell lb]; exact cb
    by_cases hlt : k < a.size
    · have hlb : k < b.size := by have := HH.out; omega
      have hst := set_step (mxI a b) a.size k _ hl hlt (mxI_at a b k hlt hlb)
      have hc := hB.cell k (by simp [hl]; omega)
      have hf := hB.free k
      have hBs := hB.set k (bits BinOp.xor IntKind.u8 (a[k].toNat : Int) (b[k].toNat : Int))
      rw [hst] at hBs
      have HBs := Lib.hid hBs
      clear hst hB hBs hmk ca cb
      go_wp2_with fail
      go_region
      go_wp2_with fail
      exact ⟨⟨k + 1, by omega, by go_num, HBs.out.drew, (hbl.setCell (Nat.le_refl _) _).drew⟩, by simp [intOf]; omega⟩
    · have hk' : k = a.size := by omega
      rw [hk', Nat.sub_self, List.replicate_zero, List.append_nil, List.take_of_length_le (by omega)] at hB
      have hcv := hB.conv a.size a.size hl
      clear hmk hB ca cb
      go_wp2
      go_ret
      exact ⟨rfl, hbl⟩

set_option maxHeartbeats 400000 in
theorem MaskF_ne (pa pb : Nat) (a b : ByteArray) (w : World) (h : a.size ≠ b.size) (ca : w.cell? ⟨pa, 0, none⟩ = some (.string a)) (cb : w.cell? ⟨pb, 0, none⟩ = some (.string b)) :
    Calls Try.prog 45 #[.pointer (some ⟨pa, 0, none⟩), .pointer (some ⟨pb, 0, none⟩)] w fun e w' => e = .panicked [{ v := .iface 38 (.int .i64 11), recovered := false }] ∧ Below w.heap.size w w' := by
  have hne : ((a.size : Int) != (b.size : Int)) = true := by simp; omega
  go_enter Try.func45, Try.ntmps45
  go_wp2_with fail
  refine (refuse_yes _ _).mono ?_
  rintro e w1 ⟨rfl, rfl⟩
  go_wp2_with fail
  simp [bodyPost]
  exact Below.refl _ _

theorem enterMask (args : Array Value) (w : World) : (callFunc 45 args).run Try.prog w = .ok (.enter 45 args) w := by kernel_rfl

set_option maxHeartbeats 400000 in
theorem Mask_eq (a b : ByteArray) (w : World) (h : a.size = b.size) (hs : a.size ≤ 5000) :
    Calls Try.prog 31 #[.string a, .string b] w fun e w' => e = .returned (.tuple #[.string (mx a b), .int .i64 0]) ∧ Below w.heap.size w w' := by
  have hmf : ∀ (fn : Fn) (first cap : Array Value) (w : World), (Instr.makeFunc fn first cap).run Try.prog w = .ok (.func fn first cap) w := fun _ _ _ _ => rfl
  go_enter Try.func31, Try.ntmps31
  go_wp2_with fail
  refine (attempt_ret _ _ (mx a b) _ enterMask (MaskF_eq w.heap.size (w.heap.size + 1) a b _ h hs (by simp [aw, go_sem]) (by simp [aw, go_sem]))).mono ?_
  rintro e w1 ⟨rfl, hb1⟩
  go_wp2
  go_ret2
  exact ⟨rfl, below_alloc _ (below_alloc _ hb1)⟩

set_option maxHeartbeats 400000 in
theorem Mask_ne (a b : ByteArray) (w : World) (h : a.size ≠ b.size) :
    Calls Try.prog 31 #[.string a, .string b] w fun e w' => e = .returned (.tuple #[.string ⟨#[]⟩, .int .i64 11]) ∧ Below w.heap.size w w' := by
  have hmf : ∀ (fn : Fn) (first cap : Array Value) (w : World), (Instr.makeFunc fn first cap).run Try.prog w = .ok (.func fn first cap) w := fun _ _ _ _ => rfl
  go_enter Try.func31, Try.ntmps31
  go_wp2_with fail
  refine (attempt_err _ _ 11 _ enterMask (MaskF_ne w.heap.size (w.heap.size + 1) a b _ h (by simp [aw, go_sem]) (by simp [aw, go_sem]))).mono ?_
  rintro e w1 ⟨rfl, hb1⟩
  go_wp2
  go_ret2
  exact ⟨rfl, below_alloc _ (below_alloc _ hb1)⟩

end Go.Proofs.Ytfnhaadikfenpaa.Hh
