/-
  node: Middle's function.
-/
import Derived.Test.YtaoanggiibgcdaaDoorNq
import Derived.Test.YtaoanggiibgcdaaDoorNi
import Derived.Test.YtaoanggiibgcdaaDoorNl
import Derived.Test.YtaoanggiibgcdaaDoorHg
namespace Go.Proofs.YtaoanggiibgcdaaDoor.Nq
open Go Go.RowKit Go.Shelf Go.Proofs.YtaoanggiibgcdaaDoor.Hz Go.Proofs.YtaoanggiibgcdaaDoor.Na Go.Proofs.YtaoanggiibgcdaaDoor.Nb Go.Proofs.YtaoanggiibgcdaaDoor.Nf
open Go.Proofs.YtaoanggiibgcdaaDoor.Ng (and8)
open Go.Proofs.YtaoanggiibgcdaaDoor.Nj (or8)

/-- bytes lie at the head of a block -/
def Cs (w : World) (g : Nat) (xs : List Int) : Prop := (∀ i, i < xs.length → w.cell? ⟨g, i, none⟩ = some (.int .u8 (xs.getD i 0))) ∧ ∀ i, i < xs.length → w.frozen? ⟨g, i, none⟩ = false
theorem Cs.set {w : World} {g : Nat} {xs : List Int} (h : Cs w g xs) (k : Nat) (hk : k < xs.length) (v : Int) : Cs (w.setCell ⟨g, k, none⟩ (.int .u8 v)) g (xs.set k v) := by
  refine ⟨fun i hi => ?_, fun i hi => (World.frozen?_setCell _ _ _ _).trans (h.2 i (by rwa [List.length_set] at hi))⟩
  rw [List.length_set] at hi
  by_cases e : i = k
  · subst e
    rw [World.cell?_setCell_same _ _ _ (h.1 i hi), List.getD, List.getElem?_set_self hi]
    rfl
  · have hne : (⟨g, k, none⟩ : Addr) ≠ ⟨g, i, none⟩ := fun q => e (by injection q with _ q2; exact q2.symm)
    rw [World.cell?_setCell_other (w := w) (v := .int .u8 v) (h := hne), h.1 i hi]
    rw [List.getD, List.getD, List.getElem?_set_ne (fun q => e q.symm)]
theorem Cs.conv {w : World} {g : Nat} {xs : List Int} (H : Cs w g xs) (l cap : Nat) (hl : xs.length = l) :
    (convert 39 9 (.slice (some ⟨g, 0, none⟩) l cap)).run Tryd.prog w = .ok (.string (strOfNums xs)) w :=
  run_convert_bytes_arg (P := Tryd.prog) _ 39 5 Tryd.underlying39 Tryd.underlying5 g 0 l cap xs hl (fun i hi => by rw [Nat.zero_add]; exact H.1 i (by omega)) 9 Tryd.underlying9
theorem orhi (x c : Nat) (hx : x < 128) (hc : c ≤ 1) : x ||| (c * 128) = x + c * 128 := by
  have := Nat.two_pow_add_eq_or_of_lt (i := 7) (b := x) hx c
  rw [Nat.or_comm, show c * 128 = 2 ^ 7 * c by omega, ← this]
  omega
def mid (a b : ByteArray) : ByteArray := idn ((nb a + nb b) / 2)
theorem nb_def (s : ByteArray) : nb s = low s 20 := rfl
theorem car_top (a b : ByteArray) : car a b 0 20 = crB (nb a + nb b) 0 := by
  have h1 := car_le a b 0 (by omega) 20
  have e : car a b 0 20 = (low a 20 + low b 20) / 256 ^ 20 := by unfold car; rw [Nat.add_zero]
  rw [e] at h1 ⊢
  rw [nb_def a, nb_def b]
  unfold crB
  rw [Nat.sub_zero]
  exact (Nat.mod_eq_of_lt (by omega)).symm

end Go.Proofs.YtaoanggiibgcdaaDoor.Nq
