/-
  The contracts of a hasher's methods, and of the digests.
-/
import Derived.Test.YthlkpbpcfkgljaaHc
import Derived.WalkKit
import Derived.WalkSpells
import Derived.WalkLawsBesides
import Derived.LoopTactic
import Derived.Outline
import Derived.Deep.QuietTactic
import Derived.BigQuiet
import Derived.BigRegion
import Derived.RegionTactic
namespace Go.Proofs.Ythlkpbpcfkgljaa.Hh
open Go Go.RowKit

end Go.Proofs.Ythlkpbpcfkgljaa.Hh
