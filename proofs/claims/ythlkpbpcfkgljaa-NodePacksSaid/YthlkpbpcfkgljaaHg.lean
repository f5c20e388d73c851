/-
  HashBits: the walk.
-/
import Derived.Test.YthlkpbpcfkgljaaHr
import Derived.WalkKit
import Derived.WalkSpells
import Derived.WalkLawsBesides
import Derived.LoopTactic
import Derived.Outline
import Derived.Deep.QuietTactic
import Derived.BigQuiet
import Derived.BigRegion
import Derived.RegionTactic
import Derived.Deep.RegionWith
import Derived.Lib.Hide
namespace Go.Proofs.Ythlkpbpcfkgljaa.Hh
open Go Go.RowKit




/-- a text as bytes in new memory -/
theorem conv_bytes (W : World) (d : ByteArray) : ∃ W' cap, (convert 9 58 (.string d)).run Try.prog W = .ok (.slice (some ⟨W.heap.size, 0, none⟩) d.size cap) W' ∧
    Below W.heap.size W W' ∧ W'.heap.size = W.heap.size + 1 ∧ d.size ≤ cap ∧ (∀ i (h : i < d.size), W'.cell? ⟨W.heap.size, i, none⟩ = some (.int .u8 (d[i].toNat : Int))) ∧ (∀ i, i < d.size → W'.frozen? ⟨W.heap.size, i, none⟩ = false) := by
  refine ⟨_, grownCap W d.size 0 5, run_bytes_of_string (P := Try.prog) W 9 58 5 d Try.underlying9 Try.underlying58 Try.underlying5, (Below.refl _ W).drew.alloc (Nat.le_refl _) _, by simp, grownCap_ge W d.size 0 _, fun i h => ?_, fun i h => ?_⟩
  · have hnew := heap_alloc_new W.drew (.cells (bytesRow d (grownCap W d.size 0 5)) 5 ((bytesRow d (grownCap W d.size 0 5)).size, (bytesRow d (grownCap W d.size 0 5)).size + 1))
    have hnew' : (W.drew.alloc (.cells (bytesRow d (grownCap W d.size 0 5)) 5 ((bytesRow d (grownCap W d.size 0 5)).size, (bytesRow d (grownCap W d.size 0 5)).size + 1))).heap[W.heap.size]? = some (.cells (bytesRow d (grownCap W d.size 0 5)) 5 ((bytesRow d (grownCap W d.size 0 5)).size, (bytesRow d (grownCap W d.size 0 5)).size + 1)) := hnew
    have hi : i < d.data.size := h
    rw [cell_of_row _ _ _ _ _ _ hnew']
    unfold bytesRow
    rw [Array.getElem?_append_left (by simpa using hi), Array.getElem?_map, Array.getElem?_eq_getElem hi]
    rfl
  · have hnew := heap_alloc_new W.drew (.cells (bytesRow d (grownCap W d.size 0 5)) 5 ((bytesRow d (grownCap W d.size 0 5)).size, (bytesRow d (grownCap W d.size 0 5)).size + 1))
    have hnew' : (W.drew.alloc (.cells (bytesRow d (grownCap W d.size 0 5)) 5 ((bytesRow d (grownCap W d.size 0 5)).size, (bytesRow d (grownCap W d.size 0 5)).size + 1))).heap[W.heap.size]? = some (.cells (bytesRow d (grownCap W d.size 0 5)) 5 ((bytesRow d (grownCap W d.size 0 5)).size, (bytesRow d (grownCap W d.size 0 5)).size + 1)) := hnew
    have hsz : i < (bytesRow d (grownCap W d.size 0 5)).size := by
      have hi : i < d.data.size := h
      unfold bytesRow
      rw [Array.size_append, Array.size_map]
      omega
    simp only [World.frozen?]
    rw [hnew']
    simp
    omega

/-- a text with one byte set -/
def put (d : ByteArray) (k : Nat) (v : Int) : ByteArray := strOfNums ((d.data.toList.map fun x => (x.toNat : Int)).set k v)
theorem put_size (d : ByteArray) (k : Nat) (v : Int) : (put d k v).size = d.size := by
  rw [put, strOfNums_size, List.length_set, List.length_map, len_data]
theorem put_at (d : ByteArray) (k : Nat) (v : Int) (h : k < d.size) : (put d k v).data.toList[k]? = some (UInt8.ofNat v.toNat) := by
  have h' : k < d.data.size := h
  rw [put, strOfNums_data, List.getElem?_map, List.getElem?_set_self (by simpa using h')]
  rfl
theorem put_ne (d : ByteArray) (k : Nat) (v : Int) (h : k < d.size) (hv : UInt8.ofNat v.toNat ≠ d[k]) : (put d k v).data.toList ≠ d.data.toList := by
  intro e
  have h1 := put_at d k v h
  rw [e] at h1
  have h' : k < d.data.size := h
  have h2 : d.data.toList[k]? = some d[k] := by
    rw [List.getElem?_eq_getElem (by simpa using h')]; rfl
  rw [h2] at h1
  exact hv (Option.some.inj h1).symm
theorem xor_ne : ∀ (x : UInt8) (j : Nat), j < 8 → UInt8.ofNat (bits BinOp.xor IntKind.u8 (x.toNat : Int) (2 ^ j % 256)).toNat ≠ x := by
  have h : ∀ (x : Fin 256) (j : Fin 8), UInt8.ofNat (bits BinOp.xor IntKind.u8 (x.val : Int) (2 ^ j.val % 256)).toNat ≠ UInt8.ofNat x.val := by decide +kernel
  intro x j hj
  have := h ⟨x.toNat, UInt8.toNat_lt x⟩ ⟨j, hj⟩
  simpa using this

theorem conv_set (W : World) (b k cap l : Nat) (d : ByteArray) (v : Int) (hl : d.size = l) (hk : k < d.size) (hc : ∀ i (h : i < d.size), W.cell? ⟨b, i, none⟩ = some (.int .u8 (d[i].toNat : Int))) :
    (convert 58 9 (.slice (some ⟨b, 0, none⟩) l cap)).run Try.prog (W.setCell ⟨b, k, none⟩ (.int .u8 v)).drew = .ok (.string (put d k v)) (W.setCell ⟨b, k, none⟩ (.int .u8 v)).drew := by
  subst hl
  refine run_convert_bytes_arg (P := Try.prog) _ 58 5 Try.underlying58 Try.underlying5 b 0 d.size cap _ (by rw [List.length_set, List.length_map, len_data]) (fun i hi => ?_) 9 Try.underlying9
  rw [Nat.zero_add]
  have hi' : i < d.data.size := hi
  show (W.setCell ⟨b, k, none⟩ (.int .u8 v)).cell? ⟨b, i, none⟩ = _
  by_cases e : k = i
  · subst e
    rw [World.cell?_setCell_same _ _ _ (hc k hk), List.getD, List.getElem?_set_self (by rw [List.length_map, len_data]; exact hk)]
    rfl
  · have hne : (⟨b, k, none⟩ : Addr) ≠ ⟨b, i, none⟩ := fun h => e (by injection h)
    rw [World.cell?_setCell_other (w := W) (v := .int .u8 v) (h := hne), hc i hi, List.getD, List.getElem?_set_ne e, List.getElem?_map, List.getElem?_eq_getElem (by rw [len_data]; exact hi)]
    rfl

end Go.Proofs.Ythlkpbpcfkgljaa.Hh
