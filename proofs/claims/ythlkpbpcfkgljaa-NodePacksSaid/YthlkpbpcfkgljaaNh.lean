/-
  node: Distance, Nearer, Common, Flip as they are called.
-/
import Derived.Test.YthlkpbpcfkgljaaNg
import Derived.Test.YthlkpbpcfkgljaaNd
import Derived.Test.YthlkpbpcfkgljaaNe
import Derived.Test.YthlkpbpcfkgljaaHg
import Derived.RegionTactic
import Derived.BigRegion
import Derived.Deep.RegionHeld3
namespace Go.Proofs.Ythlkpbpcfkgljaa.Nh
open Go Go.RowKit Go.Proofs.Ythlkpbpcfkgljaa.Hz Go.Proofs.Ythlkpbpcfkgljaa.Na Go.Proofs.Ythlkpbpcfkgljaa.Nb Go.Proofs.Ythlkpbpcfkgljaa.Nf Go.Proofs.Ythlkpbpcfkgljaa.Ng

theorem kd {w w2 : World} {o : Obj} {b i : Nat} {v : Value} (hb : Below (w.alloc o).drew.heap.size (w.alloc o).drew w2) (h : w.cell? ⟨b, i, none⟩ = some v) : w2.cell? ⟨b, i, none⟩ = some v :=
  kcell (W := (w.alloc o).drew) hb (show (w.alloc o).cell? ⟨b, i, none⟩ = some v from acell o h)
theorem pan (e : Ending) (w w' w0 : World) (h : Pan e w w') (hb : Below w0.heap.size w0 w) : e = .panicked [{ v := .iface 24 (.int .i64 1), recovered := false }] ∧ Below w0.heap.size w0 w' := by
  obtain ⟨rfl, rfl⟩ := h; exact ⟨rfl, hb⟩

set_option maxRecDepth 100000 in
set_option maxHeartbeats 800000 in
theorem CommonF_no (pa pb : Nat) (a b : ByteArray) (w : World) (h : (vd a && vd b) = false) (ca : w.cell? ⟨pa, 0, none⟩ = some (.string a)) (cb : w.cell? ⟨pb, 0, none⟩ = some (.string b)) :
    Calls Try.prog 30 #[.pointer (some ⟨pa, 0, none⟩), .pointer (some ⟨pb, 0, none⟩)] w fun e W' => e = .panicked [{ v := .iface 24 (.int .i64 1), recovered := false }] ∧ Below w.heap.size w W' := by
  have hak := ask2_no a b 9 (w.alloc (.cells #[.int .i64 0] 3)) h
  rw [World.size_alloc] at hak
  have HAsk := Lib.hid hak
  clear h hak
  have la : pa < w.heap.size := World.block_lt_of_cell? w _ ca
  have lb : pb < w.heap.size := World.block_lt_of_cell? w _ cb
  go_enter Try.func30, Try.ntmps30
  go_wp2_with fail
  refine HAsk.out.mono ?_
  rintro e w1 ⟨rfl, rfl⟩
  exact ⟨rfl, rfl, ((Below.refl _ _).alloc (Nat.le_refl _) _).alloc (by simp) _⟩
/-- what they answer -/
def dT (a b : ByteArray) : ByteArray := if (vd a && vd b) = true then ds a b else ⟨#[]⟩
def dE (a b : ByteArray) : Int := if (vd a && vd b) = true then 0 else 1
def cV (a b : ByteArray) : Int := if (vd a && vd b) = true then (cmn a b : Int) else 0
def nV (t a b : ByteArray) : Bool := if (vd t && vd a && vd b) = true then nr t a b else false
def nE (t a b : ByteArray) : Int := if (vd t && vd a && vd b) = true then 0 else 1

theorem enterCommon (args : Array Value) (w : World) : (callFunc 30 args).run Try.prog w = .ok (.enter 30 args) w := by kernel_rfl
set_option maxRecDepth 100000 in
set_option maxHeartbeats 800000 in
theorem Common_any (a b : ByteArray) (w : World) : Calls Try.prog 13 #[.string a, .string b] w fun e w' => e = .returned (.tuple #[.int .i64 (cV a b), .int .i64 (dE a b)]) ∧ Below w.heap.size w w' := by
  have hmf : ∀ (fn : Fn) (first cap : Array Value) (w : World), (Instr.makeFunc fn first cap).run Try.prog w = .ok (.func fn first cap) w := fun _ _ _ _ => rfl
  have h1 : (Nd.aw ((w.alloc (.cells #[.string a] 9)).alloc (.cells #[.string b] 9))).cell? ⟨w.heap.size, 0, none⟩ = some (.string a) := by simp [Nd.aw, go_sem]
  have h2 : (Nd.aw ((w.alloc (.cells #[.string a] 9)).alloc (.cells #[.string b] 9))).cell? ⟨w.heap.size + 1, 0, none⟩ = some (.string b) := by simp [Nd.aw, go_sem]
  unfold cV dE
  cases hv : (vd a && vd b)
  · have HF := Lib.hid (Nd.attempt_err _ _ 1 _ enterCommon (CommonF_no w.heap.size (w.heap.size + 1) a b _ hv h1 h2))
    clear hv h1 h2
    go_enter Try.func13, Try.ntmps13
    go_wp2_with fail
    refine HF.out.mono ?_
    rintro e w1 ⟨rfl, hb1⟩
    go_wp2
    go_ret2
    exact ⟨rfl, below_alloc _ (below_alloc _ hb1)⟩
  · have HF := Lib.hid (Nd.attempt_ret _ _ _ _ enterCommon (CommonF_yes w.heap.size (w.heap.size + 1) a b _ hv h1 h2))
    clear hv h1 h2
    obtain ⟨x, hx⟩ : ∃ x, cmn a b = x := ⟨_, rfl⟩
    rw [hx] at HF ⊢
    clear hx
    go_enter Try.func13, Try.ntmps13
    go_wp2_with fail
    refine HF.out.mono ?_
    rintro e w1 ⟨rfl, hb1⟩
    go_wp2
    go_ret2
    exact ⟨rfl, below_alloc _ (below_alloc _ hb1)⟩
end Go.Proofs.Ythlkpbpcfkgljaa.Nh
