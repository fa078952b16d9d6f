/- What the document reckons of states: bound. -/
import Derived.Test.YtjiodlbblmbibadSW6
namespace Go.Proofs.Ytjiodlbblmbibad
open Go.RowKit Go.Shelf Go.Sort
set_option linter.unusedVariables false

end Go.Proofs.Ytjiodlbblmbibad
