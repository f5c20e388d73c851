/-
  No cell of these rows narrows 'for every input' (looked for: loops, veiled, ifaces, maps, wideKeys, modest, calm, conditions, laid).
  DERIVED. THE GIVEN ROWS OF THIS SEAT. 3 by the template 'for every input the law returns true; each argument reads behind the call as it read before'; 0 by the template 'total and deterministic' (their statements: YthjhbceepkoifaaTotals.lean).
  GIVEN WITH THE SEED: the statements are not yours to turn. If you find one false, say at which input.
  Laid BY PROGRAM, IN A SANDBOX (cutbox-rows.mjs): the forced cells as the released guide's own fill.sh prints them over the translation 60c7aeb52b642cce… (all of the seat's roots in one cut). By AI agents, Wed Nov 11 2026. No macro, syntax, notation, axiom, sorry.
-/
import Derived.Test.YthjhbceepkoifaaChecked
import GoSem.Claim
import GoSem.ClaimJoined
import GoSem.ClaimMapViews
import Derived.JoinedTies
import Derived.KernelRfl
namespace Go.Proofs.Ythjhbceepkoifaa
/- THE CELL 'sum', in the pinned program and in every row, IS THE sha256 OF THE DUMP (.gsa) THAT YthjhbceepkoifaaProg.lean LOADS. Nothing in Lean hashes anything: it is a label: what it is worth is what the hold of that sum in a sandbox is worth. -/
noncomputable def Try.pinned : Pinned := { name := "ythjhbceepkoifaa", sum := "60c7aeb52b642ccec67044972d9927c9664a7ed5c9a4e269b0a25649e3172e14", checked := Try.checked }
namespace Rows
def none {H : Type} : Left H := { results := [], args := [] }

/-- 'coveylaw26.DelayPlays': WHATEVER THE INPUT: true; the input reads as it did. -/
def delayPlaysSpec : ChangeSpec := { name := "delayPlays", fn := fun _ => fun
  | [d1, d2] => { results := [.lit (.bool true)], args := [d1, d2] }
  | _ => none }
def delayPlaysRow : OpenClaim := { program := "ythjhbceepkoifaa", sum := "60c7aeb52b642ccec67044972d9927c9664a7ed5c9a4e269b0a25649e3172e14", func := "covey/coveylaw26.DelayPlays", spec := "delayPlays", unfollowed := true, recurses := true, apart := false }
def DelayPlaysSaid : Prop := delayPlaysRow.holds Try.pinned (OpenSpec.ofChange delayPlaysSpec)

/-- ITS FALSE NEIGHBOUR: 'it returns false'. Refute it at one input. -/
def delayPlaysWrong : ChangeSpec := { name := "delayPlays", fn := fun _ => fun
  | [d1, d2] => { results := [.lit (.bool false)], args := [d1, d2] }
  | _ => none }
def DelayPlaysWrongFalsely : Prop := delayPlaysRow.holds Try.pinned (OpenSpec.ofChange delayPlaysWrong)

/-- 'coveylaw26.DelayShifts': WHATEVER THE INPUT: true; the input reads as it did. -/
def delayShiftsSpec : ChangeSpec := { name := "delayShifts", fn := fun _ => fun
  | [d1, d2, d3] => { results := [.lit (.bool true)], args := [d1, d2, d3] }
  | _ => none }
def delayShiftsRow : OpenClaim := { program := "ythjhbceepkoifaa", sum := "60c7aeb52b642ccec67044972d9927c9664a7ed5c9a4e269b0a25649e3172e14", func := "covey/coveylaw26.DelayShifts", spec := "delayShifts", unfollowed := true, recurses := true, apart := false }
def DelayShiftsSaid : Prop := delayShiftsRow.holds Try.pinned (OpenSpec.ofChange delayShiftsSpec)

/-- ITS FALSE NEIGHBOUR: 'it returns false'. Refute it at one input. -/
def delayShiftsWrong : ChangeSpec := { name := "delayShifts", fn := fun _ => fun
  | [d1, d2, d3] => { results := [.lit (.bool false)], args := [d1, d2, d3] }
  | _ => none }
def DelayShiftsWrongFalsely : Prop := delayShiftsRow.holds Try.pinned (OpenSpec.ofChange delayShiftsWrong)

/-- 'coveylaw26.DelayYields': WHATEVER THE INPUT: true; the input reads as it did. -/
def delayYieldsSpec : ChangeSpec := { name := "delayYields", fn := fun _ => fun
  | [d1, d2] => { results := [.lit (.bool true)], args := [d1, d2] }
  | _ => none }
def delayYieldsRow : OpenClaim := { program := "ythjhbceepkoifaa", sum := "60c7aeb52b642ccec67044972d9927c9664a7ed5c9a4e269b0a25649e3172e14", func := "covey/coveylaw26.DelayYields", spec := "delayYields", unfollowed := true, recurses := true, apart := false }
def DelayYieldsSaid : Prop := delayYieldsRow.holds Try.pinned (OpenSpec.ofChange delayYieldsSpec)

/-- ITS FALSE NEIGHBOUR: 'it returns false'. Refute it at one input. -/
def delayYieldsWrong : ChangeSpec := { name := "delayYields", fn := fun _ => fun
  | [d1, d2] => { results := [.lit (.bool false)], args := [d1, d2] }
  | _ => none }
def DelayYieldsWrongFalsely : Prop := delayYieldsRow.holds Try.pinned (OpenSpec.ofChange delayYieldsWrong)

/- THE SECOND FORM. 'bulk': how many values and letters a reading holds, each counted each time it is reached (what is shared counts as often as it is met; a slice's spare places count too). A statement '..UptoSaid' is the law's where the arguments, and the package variables that the reading takes, are together of bulk at most 1048576: NARROWER than '..Said'. Prove '..Said' where nothing that the law and all that it calls make is longer than what came in: it says more and counts as full. Else prove '..UptoSaid'. A law counts once. -/
mutual
def uptoBulk {H : Type} : DataW H → Nat
  | .lit (.string bytes) => bytes.length + 1
  | .lit _ => 1
  | .nil => 1
  | .ptr d => uptoBulk d + 1
  | .slice elems spare => uptoBulkAll elems + uptoBulkAll spare + 1
  | .agg parts => uptoBulkAll parts + 1
  | .iface _ d => uptoBulk d + 1
  | .map entries => uptoBulkEntries entries + 1
  | .held _ => 1
def uptoBulkAll {H : Type} : List (DataW H) → Nat
  | [] => 0
  | d :: r => uptoBulk d + uptoBulkAll r
def uptoBulkEntries {H : Type} : List (Lit × DataW H) → Nat
  | [] => 0
  | x :: r => uptoBulkEntry x + uptoBulkEntries r
def uptoBulkEntry {H : Type} : Lit × DataW H → Nat
  | (.string bytes, d) => bytes.length + uptoBulk d + 1
  | (_, d) => uptoBulk d + 1
 end
def uptoSmall : (H : Type) → List (DataW H) → Bool := fun _ ds => decide (uptoBulkAll ds ≤ 1048576)
def OpenSpec.upto (s : _root_.Go.ChangeSpec) : _root_.Go.OpenSpec := { _root_.Go.OpenSpec.ofChange s with cond := some uptoSmall }

/-- 'coveylaw26.DelayPlays', WHERE WHAT IT READS IS OF BULK AT MOST 1048576: true; the input reads as it did. -/
def delayPlaysUptoRow : OpenClaim := { program := "ythjhbceepkoifaa", sum := "60c7aeb52b642ccec67044972d9927c9664a7ed5c9a4e269b0a25649e3172e14", func := "covey/coveylaw26.DelayPlays", spec := "delayPlays", unfollowed := true, recurses := true, apart := false, narrowed := true }
def DelayPlaysUptoSaid : Prop := delayPlaysUptoRow.holds Try.pinned (OpenSpec.upto delayPlaysSpec)

/-- 'coveylaw26.DelayShifts', WHERE WHAT IT READS IS OF BULK AT MOST 1048576: true; the input reads as it did. -/
def delayShiftsUptoRow : OpenClaim := { program := "ythjhbceepkoifaa", sum := "60c7aeb52b642ccec67044972d9927c9664a7ed5c9a4e269b0a25649e3172e14", func := "covey/coveylaw26.DelayShifts", spec := "delayShifts", unfollowed := true, recurses := true, apart := false, narrowed := true }
def DelayShiftsUptoSaid : Prop := delayShiftsUptoRow.holds Try.pinned (OpenSpec.upto delayShiftsSpec)

/-- 'coveylaw26.DelayYields', WHERE WHAT IT READS IS OF BULK AT MOST 1048576: true; the input reads as it did. -/
def delayYieldsUptoRow : OpenClaim := { program := "ythjhbceepkoifaa", sum := "60c7aeb52b642ccec67044972d9927c9664a7ed5c9a4e269b0a25649e3172e14", func := "covey/coveylaw26.DelayYields", spec := "delayYields", unfollowed := true, recurses := true, apart := false, narrowed := true }
def DelayYieldsUptoSaid : Prop := delayYieldsUptoRow.holds Try.pinned (OpenSpec.upto delayYieldsSpec)

end Rows
end Go.Proofs.Ythjhbceepkoifaa
