/- Holds: the document's own check; keptAt, KeptOf, Kept. -/
import Derived.Test.YtjiodlbblmbibadHW2
namespace Go.Proofs.Ytjiodlbblmbibad
open Go.RowKit Go.Shelf Go.Sort
set_option linter.unusedVariables false

end Go.Proofs.Ytjiodlbblmbibad
