/-
  node: the program's functions at any numbers.
-/
import Derived.Test.YtaoanggiibgcdaaDoorNu
import Derived.Test.YtaoanggiibgcdaaDoorNv
import Derived.Test.YtaoanggiibgcdaaDoorNw
namespace Go.Proofs.YtaoanggiibgcdaaDoor.Nq
open Go Go.RowKit Go.Shelf Go.Proofs.YtaoanggiibgcdaaDoor.Hz Go.Proofs.YtaoanggiibgcdaaDoor.Na Go.Proofs.YtaoanggiibgcdaaDoor.Nb Go.Proofs.YtaoanggiibgcdaaDoor.Nf
open Go.Proofs.YtaoanggiibgcdaaDoor.Nh (flp)

def iOk (i : Int) : Prop := 0 ≤ i ∧ i < 160
def nOk (n : Int) : Prop := 0 ≤ n ∧ n ≤ 160
instance (i : Int) : Decidable (iOk i) := by unfold iOk; infer_instance
instance (i : Int) : Decidable (nOk i) := by unfold nOk; infer_instance
def iE (i : Int) : Int := if iOk i then 0 else 7
def nE (i : Int) : Int := if nOk i then 0 else 7
def biV (s : ByteArray) (i : Int) : Bool := if iOk i then bt s i.toNat else false
def flV (s : ByteArray) (i : Int) : ByteArray := if iOk i then flp s i.toNat else ⟨#[]⟩
def prV (s : ByteArray) (n : Int) : ByteArray := if nOk n then hd s zid n.toNat else ⟨#[]⟩
def wiE (o : ByteArray) (n : Int) : Int := if vd o = true then nE n else 1
def wiV (o s : ByteArray) (n : Int) : Bool := if vd o = true ∧ nOk n then decide (n.toNat ≤ cmn o s) else false
def miE (o : ByteArray) : Int := if vd o = true then 0 else 1
def miV (s o : ByteArray) : ByteArray := if vd o = true then mid s o else ⟨#[]⟩
def inE (n : Int) (s : ByteArray) (k : Int) : Int := if 100 < s.size then 1 else if nOk n then (if k < 0 then 7 else 0) else 7
def inV (a : ByteArray) (n : Int) (s : ByteArray) (k : Int) : ByteArray := if inE n s k = 0 then hd a (rnd s k.toNat) n.toNat else ⟨#[]⟩
def raE (s : ByteArray) (k : Int) : Int := if 100 < s.size then 1 else if k < 0 then 7 else 0
def raV (s : ByteArray) (k : Int) : ByteArray := if raE s k = 0 then rnd s k.toNat else ⟨#[]⟩

theorem Flip_v (s : ByteArray) (i : Int) (w : World) (hv : vd s = true) : Calls Tryd.prog 12 #[.string s, .int .i64 i] w fun e w' => e = .returned (.tuple #[.string (flV s i), .int .i64 (iE i)]) ∧ Below w.heap.size w w' := by
  by_cases h : iOk i
  · rw [flV, iE, if_pos h, if_pos h]
    have h0 := h.1
    have := Nh.Flip_yes s i.toNat w (by have := h.2; omega) hv
    rwa [Int.toNat_of_nonneg h0] at this
  · rw [flV, iE, if_neg h, if_neg h]
    by_cases h0 : i < 0
    · exact Flip_low s i w hv h0
    · exact Flip_high s i w hv (by omega) (by unfold iOk at h; omega)
theorem nOk_no {n : Int} (h : ¬ nOk n) : n < 0 ∨ 160 < n := by unfold nOk at h; omega
theorem Within_v (o s : ByteArray) (n : Int) (w : World) (hv : vd s = true) : Calls Tryd.prog 8 #[.string o, .string s, .int .i64 n] w fun e w' => e = .returned (.tuple #[.bool (wiV o s n), .int .i64 (wiE o n)]) ∧ Below w.heap.size w w' := by
  cases ho : vd o
  · rw [wiV, wiE, if_neg (by rw [ho]; simp), if_neg (by rw [ho]; simp)]
    exact Within_id o s n w (by rw [ho]; rfl)
  · by_cases h : nOk n
    · rw [wiV, wiE, if_pos ⟨ho, h⟩, if_pos ho, nE, if_pos h]
      have := Within_yes o s n.toNat w (by rw [ho, hv]; rfl) (by have := h.2; omega)
      rwa [Int.toNat_of_nonneg h.1] at this
    · rw [wiV, wiE, if_neg (fun q => h q.2), if_pos ho, nE, if_neg h]
      exact Within_no o s n w (by rw [ho, hv]; rfl) (nOk_no h)
theorem In_v (a s : ByteArray) (n k : Int) (w : World) (hv : vd a = true) (hk : k ≤ 9223372036854775807) (ht : Hh.Tab w) : Calls Tryd.prog 7 #[.string a, .int .i64 n, .string s, .int .i64 k] w fun e w' => e = .returned (.tuple #[.string (inV a n s k), .int .i64 (inE n s k)]) ∧ Below w.heap.size w w' := by
  by_cases hs : 100 < s.size
  · have e : inE n s k = 1 := if_pos hs
    rw [inV, e, if_neg (by decide)]
    exact In_seed a n s k w hv hs
  · by_cases h : nOk n
    · by_cases h0 : k < 0
      · have e : inE n s k = 7 := by unfold inE; rw [if_neg hs, if_pos h, if_pos h0]
        rw [inV, e, if_neg (by decide)]
        exact In_no a n s k w hv (by omega) h.1 h.2 h0
      · have e : inE n s k = 0 := by unfold inE; rw [if_neg hs, if_pos h, if_neg h0]
        rw [inV, e, if_pos rfl]
        have := In_yes a n.toNat s k.toNat w hv (by omega) (by have := h.2; omega) (by omega) ht
        rwa [Int.toNat_of_nonneg h.1, Int.toNat_of_nonneg (by omega)] at this
    · have e : inE n s k = 7 := by unfold inE; rw [if_neg hs, if_neg h]
      rw [inV, e, if_neg (by decide)]
      exact In_bits a n s k w hv (by omega) (nOk_no h)
end Go.Proofs.YtaoanggiibgcdaaDoor.Nq
