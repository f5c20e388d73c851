/-
  A struct of ints and texts that came in by value: its fields.
-/
import Derived.Test.YtpmmilnoeoapoaaGreatDoorRows
import Derived.WalkKit
import Derived.ProofKit
import Derived.ChangeOld
import Derived.SizedLaws
import Derived.ChangeSlices
set_option linter.unusedVariables false
namespace Go.Proofs.YtpmmilnoeoapoaaGreatDoor.Bq
open Go Go.ChangeShapes Go.WideShapes Go.ChangeAt Go.RowKit

/-- one cell each: ints (true) and texts (false) -/
def okG (P : Program) (fs : Array Field) (ks : List Bool) : Bool :=
  fs.size == ks.length && (List.range ks.length).all fun i => match fs[i]? with
    | some f => f.offset == i && P.cellsOf f.type == 1 && (match P.underlying f.type with | some (.int .i64) => ks.getD i true | some .string => !ks.getD i true | _ => false)
    | none => false
theorem okG_at {P : Program} {fs : Array Field} {ks : List Bool} (h : okG P fs ks = true) : fs.size = ks.length ∧ ∀ j, j < ks.length → ∃ f, fs[j]? = some f ∧ f.offset = j ∧ P.cellsOf f.type = 1 ∧ ((P.underlying f.type = some (.int .i64) ∧ ks.getD j true = true) ∨ (P.underlying f.type = some .string ∧ ks.getD j true = false)) := by
  simp only [okG, Bool.and_eq_true, beq_iff_eq, List.all_eq_true, List.mem_range] at h
  refine ⟨h.1, fun j hj => ?_⟩
  have := h.2 j hj
  split at this
  · rename_i f hf
    simp only [Bool.and_eq_true, beq_iff_eq] at this
    obtain ⟨⟨h1, h2⟩, h3⟩ := this
    refine ⟨f, hf, h1, h2, ?_⟩
    split at h3
    · exact .inl ⟨by assumption, h3⟩
    · exact .inr ⟨by assumption, by simpa using h3⟩
    · cases h3
  · cases this

theorem fields_of {P : Program} {H : Type} {enc : TypeId × Value → H} {w : World} {t : TypeId} {fs : Array Field} {base : Nat} {r : Reach} {v : Value} {d : DataW H} {ps : List MemPlace} (ks : List Bool)
    (he : P.underlying t = some (.struct fs)) (hc : (P.cellsOf t == ks.length && okG P fs ks) = true) (hv : Value.okWide P w r base t v)
    (h : DataW.Trod enc P w 0 (fun _ => true) true t v d ps) :
    ∃ cs : Array Value, v = .agg cs ∧ cs.size = ks.length ∧ ∀ j, j < ks.length → (ks.getD j true = true ∧ ∃ z, (Lit.int .i64 z).wf = true ∧ cs[j]? = some (.int .i64 z)) ∨ (ks.getD j true = false ∧ ∃ s : ByteArray, s.size ≤ maxLen ∧ cs[j]? = some (.string s)) := by
  simp only [Bool.and_eq_true, beq_iff_eq] at hc
  obtain ⟨hs, hfs⟩ := okG_at hc.2
  obtain ⟨cs, rfl, hsz⟩ := okWide_struct he hv
  obtain ⟨fuel, hf⟩ := h
  obtain ⟨xs, m', _, _, hl', hxl, hxf⟩ := DataW.trod_struct he hf
  refine ⟨cs, rfl, by rw [hsz, hc.1], fun j hj => ?_⟩
  obtain ⟨f, f1, f2, f3, f4⟩ := hfs _ hj
  have hxj : ∃ v, xs[j]? = some v := ⟨_, List.getElem?_eq_getElem (by omega)⟩
  obtain ⟨v, hv'⟩ := hxj
  have hfj := hxf _ f f1
  rw [hv', f2, f3] at hfj
  have pick : ∀ x : Value, ((Value.agg cs).cells.toList.drop j).take 1 = [x] → cs[j]? = some x := fun x hx => by
    have e1 : (((Value.agg cs).cells.toList.drop j).take 1)[0]? = some x := by rw [hx]; rfl
    rw [List.getElem?_take_of_lt (by omega), List.getElem?_drop, Nat.add_zero] at e1
    simpa [Value.cells] using e1
  rcases f4 with ⟨f4, k4⟩ | ⟨f4, k4⟩
  · obtain ⟨z, hz, _, hw⟩ := DataW.trod_int f4 hfj
    exact .inl ⟨k4, z, hw, pick _ hz⟩
  · obtain ⟨s, hz, _, hw⟩ := DataW.trod_string f4 hfj
    exact .inr ⟨k4, s, hw, pick _ hz⟩
set_option maxRecDepth 100000 in
theorem open_addr {H : Type} {enc : TypeId × Value → H} {w : World} {base : Nat} {r : Reach} {v : Value} {d : DataW H} {ps : List MemPlace} (hv : Value.okWide Tryz.prog w r base 26 v) (h : DataW.Trod enc Tryz.prog w 0 (fun _ => true) true 26 v d ps) :
    ∃ (f : Int) (ip : ByteArray) (p : Int), v = .agg #[.int .i64 f, .string ip, .int .i64 p] := by
  obtain ⟨cs, rfl, hsz, hf⟩ := fields_of [true, false, true] Tryz.underlying26 (by kernel_rfl) hv h
  have I : ∀ j, j < 3 → [true, false, true].getD j true = true → ∃ z, cs[j]? = some (.int .i64 z) := fun j hj hk => by
    rcases hf j hj with ⟨_, z, _, h⟩ | ⟨h, _⟩
    · exact ⟨z, h⟩
    · rw [hk] at h; cases h
  have S : ∀ j, j < 3 → [true, false, true].getD j true = false → ∃ s, cs[j]? = some (.string s) := fun j hj hk => by
    rcases hf j hj with ⟨h, _⟩ | ⟨_, s, _, h⟩
    · rw [hk] at h; cases h
    · exact ⟨s, h⟩
  obtain ⟨z0, e0⟩ := I 0 (by omega) rfl
  obtain ⟨s1, e1⟩ := S 1 (by omega) rfl
  obtain ⟨z2, e2⟩ := I 2 (by omega) rfl
  refine ⟨z0, s1, z2, ?_⟩
  congr 1
  apply Array.ext_getElem?
  intro j
  by_cases hj : j < 3
  · obtain rfl | rfl | rfl : j = 0 ∨ j = 1 ∨ j = 2 := by omega
    all_goals assumption
  · rw [Array.getElem?_eq_none (by rw [hsz]; simp; omega), Array.getElem?_eq_none (by simp; omega)]
end Go.Proofs.YtpmmilnoeoapoaaGreatDoor.Bq
