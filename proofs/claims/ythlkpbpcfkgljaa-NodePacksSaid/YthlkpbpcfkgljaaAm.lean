/-
  Addresses: the reference's Unpack. (made by mk_am.py)
-/
import Derived.Test.YthlkpbpcfkgljaaAl
set_option linter.unusedVariables false
namespace Go.Proofs.Ythlkpbpcfkgljaa.Ac
open Go Go.RowKit Go.Proofs.Ythlkpbpcfkgljaa.Hz Go.Proofs.Ythlkpbpcfkgljaa.Sx

theorem rfin {fn : Func} {p u : Tmp} (h : fn.results = #[.cell p 34, .tmp u]) (tmps : Array Value) (w : World) (b : Nat) (x y z E : Value) (h2 : tmps.getD p undef = .pointer (some ⟨b, 0, none⟩)) (h3 : tmps.getD u undef = E) (hb : w.heap[b]? = some (.cells #[x, y, z] 34)) :
    (results fn tmps).run Try.prog w = .ok (.tuple #[.agg #[x, y, z], E]) w := by
  have hq := run_loadVar_row (P := Try.prog) w b _ 34 _ _ _ hb Try.underlying34 rfl (by kernel_rfl)
  rw [results_cell_tmp h, h2, h3]
  change ((loadVar 34 ⟨b, 0, none⟩).run Try.prog _).andThen (fun v w₂ => Result.ok (Value.tuple #[v, E]) w₂) = _
  rw [hq]
  rfl

set_option maxRecDepth 100000 in
set_option maxHeartbeats 2000000 in
theorem RUnp_long (s : ByteArray) (w : World) (hz : 65536 < s.size) : Calls Try.prog 18 #[.string s] w fun e w' => e = .returned (.tuple #[.agg #[.int .i64 0, .string ⟨#[]⟩, .int .i64 0], .int .i64 3]) ∧ Below w.heap.size w w' := by
  go_enter Try.func18, Try.ntmps18
  go_wp2
  exact bodyPost_ret (rfin rfl _ _ w.heap.size _ _ _ _ rfl rfl (World.alloc_heap_new _ _)) rfl ⟨rfl, (Below.refl _ _).alloc (Nat.le_refl _) _⟩

set_option maxRecDepth 100000 in
set_option maxHeartbeats 2000000 in
theorem RUnp_other (s : ByteArray) (w : World) (hz : s.size ≤ 65536) (z6 : s.size ≠ 6) (z18 : s.size ≠ 18) : Calls Try.prog 18 #[.string s] w fun e w' => e = .returned (.tuple #[.agg #[.int .i64 0, .string ⟨#[]⟩, .int .i64 0], .int .i64 11]) ∧ Below w.heap.size w w' := by
  have f1 : ((s.size : Int) - 2 != 4) = true := by simp; omega
  have f2 : ((s.size : Int) - 2 != 16) = true := by simp; omega
  go_enter Try.func18, Try.ntmps18
  go_wp2
  exact bodyPost_ret (rfin rfl _ _ w.heap.size _ _ _ _ rfl rfl (World.alloc_heap_new _ _)) rfl ⟨rfl, (Below.refl _ _).alloc (Nat.le_refl _) _⟩
end Go.Proofs.Ythlkpbpcfkgljaa.Ac
