/-
  Nodes: the reference's Unpack: the sizes by a map of two.
-/
import Derived.Test.YthlkpbpcfkgljaaRows
import Derived.Test.YthlkpbpcfkgljaaSx
import Derived.Maps.Own
import Derived.Maps.Keyed
import Derived.Test.YthlkpbpcfkgljaaZb0
set_option linter.unusedVariables false
namespace Go.Proofs.Ythlkpbpcfkgljaa.Ze
open Go Go.RowKit Go.Maps Go.Proofs.Ythlkpbpcfkgljaa.Sx

theorem law : Keyed Try.prog 3 := int_keyed Try.underlying3
theorem zeroE (w : World) : (zeroValue 3).run Try.prog w = .ok (.int .i64 0) w := by kernel_rfl
/-- the size that the map tells -/
def szf (f : Int) : Int := if f = 4 then 26 else if f = 6 then 38 else 0
def D1 : DataW Unit := (DataW.map []).put (.int .i64 4) (.lit (.int .i64 26))
def D2 : DataW Unit := D1.put (.int .i64 6) (.lit (.int .i64 38))
theorem D2_is : D2 = .map [(.int .i64 4, .lit (.int .i64 26)), (.int .i64 6, .lit (.int .i64 38))] := by kernel_rfl
theorem D2_at (f c : Int) (h : D2.atKey (.int .i64 f) (.lit (.int .i64 0)) = .lit (.int .i64 c)) : c = szf f := by
  rw [D2_is] at h
  unfold DataW.atKey at h
  by_cases h4 : f = 4
  · subst h4
    simp [Lit.sameKey] at h
    exact h.symm
  by_cases h6 : f = 6
  · subst h6
    simp [Lit.sameKey] at h
    exact h.symm
  · have e4 : ¬ (4 : Int) = f := fun e => h4 e.symm
    have e6 : ¬ (6 : Int) = f := fun e => h6 e.symm
    simp [Lit.sameKey, e4, e6] at h
    rw [← h]; unfold szf; rw [if_neg h4, if_neg h6]

theorem look_any (f : Int) (hf : (Lit.int .i64 f).wf = true) (w : World) : ∃ w1 w2, (Instr.mapUpdate 48 (.map (some w.heap.size)) (.int .i64 4) (.int .i64 26)).run Try.prog (w.alloc (.map #[] 0)) = .ok () w1 ∧
    (Instr.mapUpdate 48 (.map (some w.heap.size)) (.int .i64 6) (.int .i64 38)).run Try.prog w1 = .ok () w2 ∧
    (Instr.lookup 48 (.map (some w.heap.size)) (.int .i64 f) false).run Try.prog w2 = .ok (.int .i64 (szf f)) w2 ∧ w.grownBy w2 none := by
  have h0 := World.ownsMap_made (H := Unit) w Try.prog 3 (plainElem Try.prog 3)
  obtain ⟨w1, r1, o1, g1⟩ := h0.update (t := 48) law Try.underlying48 (by unfold maxLen; omega) (keyOf_int_mk Try.underlying3 (a := 4) (by decide)) (plainElem_int (H := Unit) Try.underlying3 (a := 26) (by decide))
  obtain ⟨w2, r2, o2, g2⟩ := o1.update (t := 48) law Try.underlying48 (by unfold maxLen; omega) (keyOf_int_mk Try.underlying3 (a := 6) (by decide)) (plainElem_int (H := Unit) Try.underlying3 (a := 38) (by decide))
  obtain ⟨c, r3, hat, _⟩ := o2.lookup_int (t := 48) law Try.underlying48 Try.underlying3 (zeroE _) (keyOf_int_mk Try.underlying3 hf)
  have hc : c = szf f := D2_at f c hat
  rw [hc] at r3
  refine ⟨w1, w2, r1, r2, r3, ?_⟩
  exact gb_mark (gb_mark (gb_alloc w _ none) g1 (Nat.le_refl _)) g2 (Nat.le_refl _)
end Go.Proofs.Ythlkpbpcfkgljaa.Ze

/-
  Nodes: the reference's Unpack: the refusals. (made by mk_zf.py)
-/
namespace Go.Proofs.Ythlkpbpcfkgljaa.Ac
open Go Go.RowKit Go.Proofs.Ythlkpbpcfkgljaa.Hz Go.Proofs.Ythlkpbpcfkgljaa.Sx Go.Proofs.Ythlkpbpcfkgljaa.Rg
theorem gb_ownr {w a b : World} {q r : Option Nat} (h : w.grownBy a q) (k : a.grownBy b r) (hr : ∀ i, r = some i → w.heap.size ≤ i) : w.grownBy b q :=
  ⟨k.os.trans h.os, k.tape.trans h.tape, k.output.trans h.output, Nat.le_trans h.size k.size, fun i hi hne => (k.block i (Nat.lt_of_lt_of_le hi h.size) (fun e => by have := hr i e.symm; omega)).trans (h.block i hi hne)⟩

set_option maxRecDepth 100000 in
set_option maxHeartbeats 1000000 in
theorem RUn_fam (t : ByteArray) (f : Int) (hf : (Lit.int .i64 f).wf = true) (w : World) (h4 : f ≠ 4) (h6 : f ≠ 6) :
    Calls Try.prog 6 #[.string t, .int .i64 f] w fun e w' => e = .returned (.tuple #[.slice none 0 0, .int .i64 7]) ∧ Below w.heap.size w w' := by
  have hmm := @run_makeMap Try.prog
  obtain ⟨w1, w2, r1, r2, r3, hg⟩ := Ze.look_any f hf w
  rw [show Ze.szf f = 0 from by unfold Ze.szf; rw [if_neg h4, if_neg h6]] at r3
  have HG := Lib.hid (below_gb hg)
  clear hg
  go_enter Try.func6, Try.ntmps6
  go_wp2_with fail
  go_ret2
  exact ⟨rfl, HG.out⟩
set_option maxRecDepth 100000 in
set_option maxHeartbeats 1000000 in
theorem RUn_4size (t : ByteArray) (w : World) (ht : t.size ≤ 70000) (h : t.size % 26 ≠ 0) :
    Calls Try.prog 6 #[.string t, .int .i64 4] w fun e w' => e = .returned (.tuple #[.slice none 0 0, .int .i64 11]) ∧ Below w.heap.size w w' := by
  have hmm := @run_makeMap Try.prog
  obtain ⟨w1, w2, r1, r2, r3, hg⟩ := Ze.look_any 4 (by decide) w
  rw [show Ze.szf 4 = 26 from rfl] at r3
  have HG := Lib.hid (below_gb hg)
  clear hg
  have g : ((t.size : Int) % 26 != 0) = true := by simp; omega
  have HS := Lib.hid h
  clear h
  go_enter Try.func6, Try.ntmps6
  go_wp2_with fail
  go_ret2
  exact ⟨rfl, HG.out⟩
set_option maxRecDepth 100000 in
set_option maxHeartbeats 1000000 in
theorem RUn_6size (t : ByteArray) (w : World) (ht : t.size ≤ 70000) (h : t.size % 38 ≠ 0) :
    Calls Try.prog 6 #[.string t, .int .i64 6] w fun e w' => e = .returned (.tuple #[.slice none 0 0, .int .i64 11]) ∧ Below w.heap.size w w' := by
  have hmm := @run_makeMap Try.prog
  obtain ⟨w1, w2, r1, r2, r3, hg⟩ := Ze.look_any 6 (by decide) w
  rw [show Ze.szf 6 = 38 from rfl] at r3
  have HG := Lib.hid (below_gb hg)
  clear hg
  have g : ((t.size : Int) % 38 != 0) = true := by simp; omega
  have HS := Lib.hid h
  clear h
  go_enter Try.func6, Try.ntmps6
  go_wp2_with fail
  go_ret2
  exact ⟨rfl, HG.out⟩
end Go.Proofs.Ythlkpbpcfkgljaa.Ac
