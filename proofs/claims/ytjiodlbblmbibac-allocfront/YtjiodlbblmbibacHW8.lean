/- Holds: Drop. -/
import Derived.Test.YtjiodlbblmbibacH3
import Derived.Test.YtjiodlbblmbibacHO
namespace Go.Proofs.Ytjiodlbblmbibac
open Go.RowKit Go.Shelf Go.Sort
set_option linter.unusedVariables false

end Go.Proofs.Ytjiodlbblmbibac
