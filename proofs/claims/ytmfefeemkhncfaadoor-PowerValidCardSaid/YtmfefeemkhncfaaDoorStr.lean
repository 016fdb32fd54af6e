/- Strings that are written out as lists: how the walk is to read them. No program is named. -/
import Derived.Test.YtmfefeemkhncfaaDoorPkZ
namespace Go.Proofs.YtmfefeemkhncfaaDoor
open Go.ChangeShapes Go.WideShapes Go.ChangeAt Go.RowKit Go.IntWalk
set_option linter.unusedVariables false

end Go.Proofs.YtmfefeemkhncfaaDoor
