/- The document's own CheckShelf. -/
import Derived.Test.YtjiodlbblmbibadW3
namespace Go.Proofs.Ytjiodlbblmbibad
open Go.RowKit Go.Shelf
set_option linter.unusedVariables false

end Go.Proofs.Ytjiodlbblmbibad
