/-
  What Pack gives of a list of nodes is the texts of either family and is read back by Unpack, and any text is read as the reference tells: NodePacks answers true at every input, and leaves its arguments as they were; no condition.
-/
import Derived.Test.YthlkpbpcfkgljaaRows
import Derived.Test.YthlkpbpcfkgljaaZi
import Derived.Test.YthlkpbpcfkgljaaSn
import Derived.WalkKit
import Derived.ProofKit
import Derived.OpenShut
import Derived.ShutString
import Derived.ChangeOld
import Derived.Below
import Derived.SizedLaws
namespace Go.Proofs.Ythlkpbpcfkgljaa.nodePacks
open Go.ChangeShapes Go.WideShapes Go.ChangeAt Go.RowKit
open Go.ChangeMaps (open_string shut_string)
set_option linter.unusedVariables false

theorem own : ownKnob Try.prog.godebug = none := by kernel_rfl
theorem laidOut : laidOutB Try.prog = true := by kernel_rfl

theorem na_of {w : World} {a : Option Addr} {len : Nat} (h : Sn.CellsG w a len [false, true, false, true]) : ∃ N, Ac.NA w a len N := by
  by_cases h0 : 0 < len
  · obtain ⟨b, off, e, hb, hc⟩ := h.2 h0
    have each : ∀ i, ∃ n : Ac.Nod, i < len → w.cell? ⟨b, off + i * 4, none⟩ = some (.string n.id) ∧ w.cell? ⟨b, off + i * 4 + 1, none⟩ = some (.int .i64 n.f) ∧ w.cell? ⟨b, off + i * 4 + 2, none⟩ = some (.string n.ip) ∧ w.cell? ⟨b, off + i * 4 + 3, none⟩ = some (.int .i64 n.p) := by
      intro i
      by_cases hi : i < len
      · obtain ⟨v0, c0, s0, _, rfl⟩ := hc i hi 0 false rfl
        obtain ⟨v1, c1, s1, _, rfl⟩ := hc i hi 1 true rfl
        obtain ⟨v2, c2, s2, _, rfl⟩ := hc i hi 2 false rfl
        obtain ⟨v3, c3, s3, _, rfl⟩ := hc i hi 3 true rfl
        exact ⟨⟨s0, s1, s2, s3⟩, fun _ => ⟨c0, c1, c2, c3⟩⟩
      · exact ⟨⟨⟨#[]⟩, 0, ⟨#[]⟩, 0⟩, fun h => absurd h hi⟩
    obtain ⟨N, hN⟩ := Classical.axiomOfChoice each
    exact ⟨N, fun _ => ⟨b, off, e, hb, fun i hi => hN i hi⟩⟩
  · exact ⟨fun _ => ⟨⟨#[]⟩, 0, ⟨#[]⟩, 0⟩, fun h => absurd h h0⟩
theorem walk (a : Option Addr) (len cap : Nat) (t : ByteArray) (f : Int) (w : World) (hl : Sn.CellsG w a len [false, true, false, true]) (_ : t.size ≤ 140737488351232) (hf : (Lit.int .i64 f).wf = true) :
    Calls Try.prog 3 #[.slice a len cap, .string t, .int .i64 f] w fun e w' => e = .returned (.bool true) ∧ Below w.heap.size w w' := by
  obtain ⟨N, hN⟩ := na_of hl
  by_cases h : 40 < len
  · exact Zh.long_list a len cap t f w h
  by_cases ht : 2000 < t.size
  · exact Zh.long_text a len cap t f w h ht
  by_cases hok : ∀ i, i < len → (N i).ok
  · exact Zh.good a len cap N t f w (by omega) (by omega) hf hN hok
  · exact Zh.wrong a len cap N t f w (by omega) (by omega) hf hN hok

set_option maxRecDepth 100000 in
theorem lifted (os : Os) (started : os.Started) (H : Type) (enc : TypeId × Value → H) :
    ReturnsInHanded {} Try.checked os 3 .any (Rows.nodePacksSpec.pre6 enc Try.prog Try.f3 Rows.nodePacksRow.domain false) (Rows.nodePacksSpec.post enc Try.prog Try.f3 false true false false) := by
  refine returnsInHanded_of_change_sized (C := Try.checked) own started (by kernel_rfl) Try.func3
    (ChangeSpec.witness6 (enc := enc) (C := Try.checked) false ⟨#[], #[.slice none 0 0, .string ByteArray.empty, .int .i64 0], []⟩ 8 (by kernel_rfl) (by kernel_rfl) (by kernel_rfl) (by kernel_rfl)) ?_
  intro W base args ds gs before hval0 hW _ hsz0 _
  have hsz : (DataW.weightsEach Try.prog (Try.f3.params.toList ++ Rows.nodePacksSpec.plain.varTypes Try.prog) (ds ++ gs)).all (· ≤ reachBytes) = true := hsz0
  have hval : ∀ (j : Nat) t v, Try.f3.params[j]? = some t → args[j]? = some v → Value.okWide Try.prog W .any base t v := hval0
  have hW' := hW
  obtain ⟨p, q, hA0, hV, rfl, hfz, hnd⟩ := hW
  have hA : DataW.TrodAll enc Try.prog W 0 (fun _ => true) true Try.f3.params.toList args.toList ds p := hA0
  rw [Try.params3] at hA hval hsz
  obtain ⟨v0, vs0, d0, ds0, p0, q0, hargs, rfl, rfl, h0, r0⟩ := trodAll_cons hA
  obtain ⟨v1, vs1, d1, ds1, p1, q1, rfl, rfl, rfl, h1, r1⟩ := trodAll_cons r0
  obtain ⟨v2, vs2, d2, ds2, p2, q2, rfl, rfl, rfl, h2, r2⟩ := trodAll_cons r1
  obtain ⟨rfl, rfl, rfl⟩ := trodAll_nil r2
  obtain rfl : args = #[v0, v1, v2] := by cases args; simp_all
  obtain ⟨rfl, rfl⟩ := trodVars_none hV
  obtain ⟨a0, len0, cap0, rfl⟩ := okWide_slice Try.underlying22 (hval 0 22 v0 rfl rfl)
  have k0 := h0
  have lt0 : ∀ x ∈ p0, x.block < W.heap.size := by obtain ⟨m, hm⟩ := k0; exact DataW.trod_lt m _ _ _ hm
  have w0 := Sn.cells_of (e := 36) (cap := cap0) 3 [false, true, false, true] Try.underlying22 (by kernel_rfl) (by kernel_rfl) (by decide) h0
  obtain ⟨a1, rfl, rfl, rfl, w1⟩ := open_string Try.underlying9 (hval 1 9 v1 rfl rfl) h1
  have z1 : a1.size ≤ 140737488351232 := by
    have := sized_string hsz (j := 1) (t := 9) rfl rfl
    simpa [reachBytes] using this
  obtain ⟨a2, rfl, rfl, rfl, w2⟩ := open_int Try.underlying3 (hval 2 3 v2 rfl rfl) h2
  clear hA0 hval0
  simp only [List.append_nil] at hW'
  refine (walk a0 len0 cap0 a1 a2 W w0 z1 w2).mono fun e W' ⟨he, bel⟩ => ?_
  subst he
  exact ⟨_, rfl, _, _, _, [], _, [], hW', (trodAll_cons_mk (shut_bool Try.underlying4 _) trodAll_mk0), (trodAll_cons_mk (Below.trod laidOut (by kernel_rfl) (of_decide_eq_true (by kernel_rfl)) k0 bel lt0) (trodAll_cons_mk (shut_string Try.underlying9 w1) (trodAll_cons_mk (shut_int Try.underlying3 w2) trodAll_mk0))), rfl, bel.frame _, fun h => by cases h⟩

theorem over : Rows.nodePacksRow.holds Try.pinned (OpenSpec.ofChange Rows.nodePacksSpec) :=
  OpenClaim.holds_of_wide 3 Try.f3 rfl rfl rfl rfl rfl rfl rfl ⟨rfl, rfl, rfl, rfl, rfl⟩ rfl rfl rfl rfl rfl (by kernel_rfl) Try.func3 (by kernel_rfl)
    (of_decide_eq_true (by kernel_rfl)) (by unfold Func.isWrapper; first | (rw [if_pos (by decide +kernel)]; kernel_rfl) | (rw [if_neg (by decide +kernel)]; exact ⟨rfl, rfl⟩))
    (fun os started H enc _ => lifted os started H enc)

theorem proved : Rows.NodePacksSaid :=
  over
end Go.Proofs.Ythlkpbpcfkgljaa.nodePacks
