/-
  node: the specification's Next and Middle.
-/
import Derived.Test.YtaoanggiibgcdaaDoorNs
import Derived.Test.YtaoanggiibgcdaaDoorNt
import Derived.Test.YtaoanggiibgcdaaDoorNl
namespace Go.Proofs.YtaoanggiibgcdaaDoor.Nj
open Go Go.RowKit Go.Proofs.YtaoanggiibgcdaaDoor.Hz Go.Proofs.YtaoanggiibgcdaaDoor.Na Go.Proofs.YtaoanggiibgcdaaDoor.Nb Go.Proofs.YtaoanggiibgcdaaDoor.Nf
open Go.Proofs.YtaoanggiibgcdaaDoor.Nq (nxt mid)

theorem bt_nxt_stop (s : ByteArray) (j t : Nat) (ht : t < 160) (h1 : ∀ q, q < j → (nb s).testBit q = true) (h0 : (nb s).testBit j = false) (hj : j < 160) :
    bt (nxt s) t = if t = 159 - j then true else if 160 - j ≤ t then false else bt s t := by
  unfold nxt
  rw [bt_idn _ _ ht, next_low (nb s) j (159 - t) h1 h0]
  by_cases e : t = 159 - j
  · rw [if_pos e, if_neg (by omega), if_pos (by omega)]
  · rw [if_neg e]
    by_cases e2 : 160 - j ≤ t
    · rw [if_pos e2, if_pos (by omega)]
    · rw [if_neg e2, if_neg (by omega), if_neg (by omega), nb_bit s t ht]
theorem bt_nxt_all (s : ByteArray) (t : Nat) (ht : t < 160) (h1 : ∀ q, q < 160 → (nb s).testBit q = true) : bt (nxt s) t = if 160 - 160 ≤ t then false else bt s t := by
  unfold nxt
  rw [bt_idn _ _ ht, next_all (nb s) (nb_lt s) h1 _ (by omega), if_pos (by omega)]
theorem nxt_size (s : ByteArray) : (nxt s).size = 20 := idn_size _
theorem mid_size (a b : ByteArray) : (mid a b).size = 20 := idn_size _

def bools (n : Nat) : Array Value := (List.replicate n (Value.bool false)).toArray
theorem bools_at (n i : Nat) (h : i < n) : (bools n)[i]? = some (.bool false) := by
  unfold bools
  rw [List.getElem?_toArray, List.getElem?_replicate, if_pos h]
theorem free_at {w : World} {g i : Nat} {c : Array Value} {t : TypeId} (H : w.heap[g]? = some (.cells c t (0, 0))) : w.frozen? ⟨g, i, none⟩ = false := by simp [World.frozen?, H]
theorem free_new (w : World) (c : Array Value) (t : TypeId) (i : Nat) : (w.alloc (.cells c t)).frozen? ⟨w.heap.size, i, none⟩ = false := free_at (heap_alloc_new w _)
theorem madeB (n : Nat) : madeCells (Value.bool false).cells n = (bools n) := by
  unfold bools
  apply Array.ext
  · simp [madeCells]
  · intro i h1 h2
    simp [madeCells, Value.cells, Nat.mod_one]
/-- a block of 161 truths -/
def Ys (w : World) (g : Nat) (f : Nat → Bool) : Prop := (∀ i, i < 161 → w.cell? ⟨g, i, none⟩ = some (.bool (f i))) ∧ ∀ i, w.frozen? ⟨g, i, none⟩ = false
theorem Ys.set {w : World} {g : Nat} {f : Nat → Bool} (h : Ys w g f) (k : Nat) (hk : k < 161) (c : Bool) : Ys (w.setCell ⟨g, k, none⟩ (.bool c)) g (fun i => if i = k then c else f i) := by
  refine ⟨fun i hi => ?_, fun i => (World.frozen?_setCell _ _ _ _).trans (h.2 i)⟩
  by_cases e : i = k
  · subst e
    rw [World.cell?_setCell_same _ _ _ (h.1 i hi)]
    simp
  · have hne : (⟨g, k, none⟩ : Addr) ≠ ⟨g, i, none⟩ := fun q => e (by injection q with _ q2; exact q2.symm)
    rw [World.cell?_setCell_other (w := w) (v := .bool c) (h := hne), h.1 i hi]
    simp [e]
theorem Ys.congr {w : World} {g : Nat} {f f' : Nat → Bool} (h : Ys w g f) (he : ∀ i, i < 161 → f i = f' i) : Ys w g f' := ⟨fun i hi => by rw [← he i hi]; exact h.1 i hi, h.2⟩
theorem Ys.new (w : World) : Ys (w.alloc (.cells (bools 161) 4)) w.heap.size (fun _ => false) := by
  refine ⟨fun i hi => ?_, fun i => free_new _ _ _ _⟩
  rw [cell_of_row _ _ _ _ _ _ (heap_alloc_new w _)]
  exact bools_at 161 i hi
theorem bt_mid (a b : ByteArray) (t : Nat) (ht : t < 160) : bt (mid a b) t = (nb a + nb b).testBit (160 - t) := by
  unfold mid
  rw [bt_idn _ _ ht, half_bit, show 159 - t + 1 = 160 - t by omega]

end Go.Proofs.YtaoanggiibgcdaaDoor.Nj
