/-
  node: the specification's Flip, Prefix, Within, Next, Middle, Random, In.
-/
import Derived.Test.YtaoanggiibgcdaaDoorNs
import Derived.Test.YtaoanggiibgcdaaDoorNt
import Derived.Test.YtaoanggiibgcdaaDoorNl
import Derived.Test.YtaoanggiibgcdaaDoorHr
namespace Go.Proofs.YtaoanggiibgcdaaDoor.Nj
open Go Go.RowKit Go.Proofs.YtaoanggiibgcdaaDoor.Hz Go.Proofs.YtaoanggiibgcdaaDoor.Na Go.Proofs.YtaoanggiibgcdaaDoor.Nb Go.Proofs.YtaoanggiibgcdaaDoor.Nf
open Go.Proofs.YtaoanggiibgcdaaDoor.Nh (flp flp_size bt_flp)
open Go.Proofs.YtaoanggiibgcdaaDoor.Nq (rnd rnd_size nxt mid)

end Go.Proofs.YtaoanggiibgcdaaDoor.Nj
