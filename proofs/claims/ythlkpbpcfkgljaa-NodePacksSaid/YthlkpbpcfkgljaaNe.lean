/-
  attempt: what it returns if its function returns, and if its function leaves by a panic with an Errno; refuse.
-/
import Derived.Test.YthlkpbpcfkgljaaHz
import Derived.WalkKit
import Derived.WalkSpells
import Derived.WalkLawsBesides
import Derived.Outline
import Derived.Defers
import Derived.Recover
import Derived.Laws.Pointers
namespace Go.Proofs.Ythlkpbpcfkgljaa.Ne
open Go Go.RowKit

/-- the world in which attempt's function runs -/
def aw (w : World) : World := (w.alloc (.cells #[.bool false] 4)).alloc (.cells #[.int .i64 0] 24)

end Go.Proofs.Ythlkpbpcfkgljaa.Ne
