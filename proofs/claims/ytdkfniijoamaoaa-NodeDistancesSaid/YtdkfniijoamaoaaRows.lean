/-
  No cell of these rows narrows 'for every input' (looked for: loops, veiled, ifaces, maps, wideKeys, modest, calm, conditions, laid).
  DERIVED. THE GIVEN ROWS OF THIS SEAT. 3 by the template 'for every input the law returns true; each argument reads behind the call as it read before'; 0 by the template 'total and deterministic' (their statements: YtdkfniijoamaoaaTotals.lean).
  GIVEN WITH THE SEED: the statements are not yours to turn. If you find one false, say at which input.
  Laid BY PROGRAM, IN A SANDBOX (cutbox-rows.mjs): the forced cells as the released guide's own fill.sh prints them over the translation 6564f67050f415a6… (all of the seat's roots in one cut). By AI agents, Wed Nov 11 2026. No macro, syntax, notation, axiom, sorry.
-/
import Derived.Test.YtdkfniijoamaoaaChecked
import GoSem.Claim
import GoSem.ClaimJoined
import GoSem.ClaimMapViews
import Derived.JoinedTies
import Derived.KernelRfl
namespace Go.Proofs.Ytdkfniijoamaoaa
/- THE CELL 'sum', in the pinned program and in every row, IS THE sha256 OF THE DUMP (.gsa) THAT YtdkfniijoamaoaaProg.lean LOADS. Nothing in Lean hashes anything: it is a label: what it is worth is what the hold of that sum in a sandbox is worth. -/
noncomputable def Try.pinned : Pinned := { name := "ytdkfniijoamaoaa", sum := "6564f67050f415a632287a60448701b4b7e280797d46c2f796d348cf63c7fecb", checked := Try.checked }
namespace Rows
def none {H : Type} : Left H := { results := [], args := [] }

/-- 'coveylaw08.SignKeys': WHATEVER THE INPUT: true; the input reads as it did. -/
def signKeysSpec : ChangeSpec := { name := "signKeys", fn := fun _ => fun
  | [d1, d2, d3] => { results := [.lit (.bool true)], args := [d1, d2, d3] }
  | _ => none }
def signKeysRow : OpenClaim := { program := "ytdkfniijoamaoaa", sum := "6564f67050f415a632287a60448701b4b7e280797d46c2f796d348cf63c7fecb", func := "covey/coveylaw08.SignKeys", spec := "signKeys", unfollowed := true, recurses := true, named := ["math/bits.divideError", "math/bits.overflowError"], apart := false }
def SignKeysSaid : Prop := signKeysRow.holds Try.pinned (OpenSpec.ofChange signKeysSpec)

/-- ITS FALSE NEIGHBOUR: 'it returns false'. Refute it at one input. -/
def signKeysWrong : ChangeSpec := { name := "signKeys", fn := fun _ => fun
  | [d1, d2, d3] => { results := [.lit (.bool false)], args := [d1, d2, d3] }
  | _ => none }
def SignKeysWrongFalsely : Prop := signKeysRow.holds Try.pinned (OpenSpec.ofChange signKeysWrong)

/-- 'coveylaw08.SignPowers': WHATEVER THE INPUT: true; the input reads as it did. -/
def signPowersSpec : ChangeSpec := { name := "signPowers", fn := fun _ => fun
  | [d1, d2, d3] => { results := [.lit (.bool true)], args := [d1, d2, d3] }
  | _ => none }
def signPowersRow : OpenClaim := { program := "ytdkfniijoamaoaa", sum := "6564f67050f415a632287a60448701b4b7e280797d46c2f796d348cf63c7fecb", func := "covey/coveylaw08.SignPowers", spec := "signPowers", unfollowed := true, recurses := true, named := ["math/bits.divideError", "math/bits.overflowError"], apart := false }
def SignPowersSaid : Prop := signPowersRow.holds Try.pinned (OpenSpec.ofChange signPowersSpec)

/-- ITS FALSE NEIGHBOUR: 'it returns false'. Refute it at one input. -/
def signPowersWrong : ChangeSpec := { name := "signPowers", fn := fun _ => fun
  | [d1, d2, d3] => { results := [.lit (.bool false)], args := [d1, d2, d3] }
  | _ => none }
def SignPowersWrongFalsely : Prop := signPowersRow.holds Try.pinned (OpenSpec.ofChange signPowersWrong)

/-- 'coveylaw12.NodeDistances': WHATEVER THE INPUT: true; the input reads as it did. -/
def nodeDistancesSpec : ChangeSpec := { name := "nodeDistances", fn := fun _ => fun
  | [d1, d2, d3] => { results := [.lit (.bool true)], args := [d1, d2, d3] }
  | _ => none }
def nodeDistancesRow : OpenClaim := { program := "ytdkfniijoamaoaa", sum := "6564f67050f415a632287a60448701b4b7e280797d46c2f796d348cf63c7fecb", func := "covey/coveylaw12.NodeDistances", spec := "nodeDistances", unfollowed := true, recurses := true, apart := false }
def NodeDistancesSaid : Prop := nodeDistancesRow.holds Try.pinned (OpenSpec.ofChange nodeDistancesSpec)

/-- ITS FALSE NEIGHBOUR: 'it returns false'. Refute it at one input. -/
def nodeDistancesWrong : ChangeSpec := { name := "nodeDistances", fn := fun _ => fun
  | [d1, d2, d3] => { results := [.lit (.bool false)], args := [d1, d2, d3] }
  | _ => none }
def NodeDistancesWrongFalsely : Prop := nodeDistancesRow.holds Try.pinned (OpenSpec.ofChange nodeDistancesWrong)

/- THE SECOND FORM. 'bulk': how many values and letters a reading holds, each counted each time it is reached (what is shared counts as often as it is met; a slice's spare places count too). A statement '..UptoSaid' is the law's where the arguments, and the package variables that the reading takes, are together of bulk at most 1048576: NARROWER than '..Said'. Prove '..Said' where nothing that the law and all that it calls make is longer than what came in: it says more and counts as full. Else prove '..UptoSaid'. A law counts once. -/
mutual
def uptoBulk {H : Type} : DataW H → Nat
  | .lit (.string bytes) => bytes.length + 1
  | .lit _ => 1
  | .nil => 1
  | .ptr d => uptoBulk d + 1
  | .slice elems spare => uptoBulkAll elems + uptoBulkAll spare + 1
  | .agg parts => uptoBulkAll parts + 1
  | .iface _ d => uptoBulk d + 1
  | .map entries => uptoBulkEntries entries + 1
  | .held _ => 1
def uptoBulkAll {H : Type} : List (DataW H) → Nat
  | [] => 0
  | d :: r => uptoBulk d + uptoBulkAll r
def uptoBulkEntries {H : Type} : List (Lit × DataW H) → Nat
  | [] => 0
  | x :: r => uptoBulkEntry x + uptoBulkEntries r
def uptoBulkEntry {H : Type} : Lit × DataW H → Nat
  | (.string bytes, d) => bytes.length + uptoBulk d + 1
  | (_, d) => uptoBulk d + 1
 end
def uptoSmall : (H : Type) → List (DataW H) → Bool := fun _ ds => decide (uptoBulkAll ds ≤ 1048576)
def OpenSpec.upto (s : _root_.Go.ChangeSpec) : _root_.Go.OpenSpec := { _root_.Go.OpenSpec.ofChange s with cond := some uptoSmall }

/-- 'coveylaw08.SignKeys', WHERE WHAT IT READS IS OF BULK AT MOST 1048576: true; the input reads as it did. -/
def signKeysUptoRow : OpenClaim := { program := "ytdkfniijoamaoaa", sum := "6564f67050f415a632287a60448701b4b7e280797d46c2f796d348cf63c7fecb", func := "covey/coveylaw08.SignKeys", spec := "signKeys", unfollowed := true, recurses := true, named := ["math/bits.divideError", "math/bits.overflowError"], apart := false, narrowed := true }
def SignKeysUptoSaid : Prop := signKeysUptoRow.holds Try.pinned (OpenSpec.upto signKeysSpec)

/-- 'coveylaw08.SignPowers', WHERE WHAT IT READS IS OF BULK AT MOST 1048576: true; the input reads as it did. -/
def signPowersUptoRow : OpenClaim := { program := "ytdkfniijoamaoaa", sum := "6564f67050f415a632287a60448701b4b7e280797d46c2f796d348cf63c7fecb", func := "covey/coveylaw08.SignPowers", spec := "signPowers", unfollowed := true, recurses := true, named := ["math/bits.divideError", "math/bits.overflowError"], apart := false, narrowed := true }
def SignPowersUptoSaid : Prop := signPowersUptoRow.holds Try.pinned (OpenSpec.upto signPowersSpec)

/-- 'coveylaw12.NodeDistances', WHERE WHAT IT READS IS OF BULK AT MOST 1048576: true; the input reads as it did. -/
def nodeDistancesUptoRow : OpenClaim := { program := "ytdkfniijoamaoaa", sum := "6564f67050f415a632287a60448701b4b7e280797d46c2f796d348cf63c7fecb", func := "covey/coveylaw12.NodeDistances", spec := "nodeDistances", unfollowed := true, recurses := true, apart := false, narrowed := true }
def NodeDistancesUptoSaid : Prop := nodeDistancesUptoRow.holds Try.pinned (OpenSpec.upto nodeDistancesSpec)

end Rows
end Go.Proofs.Ytdkfniijoamaoaa
