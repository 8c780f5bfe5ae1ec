/- Messages: the reference's Owner and Check. -/
import Derived.Test.YtimbcombhdgjiaaMr
namespace Go.Proofs.Ytimbcombhdgjiaa
open Go.RowKit
set_option linter.unusedSimpArgs false
set_option linter.unusedVariables false

end Go.Proofs.Ytimbcombhdgjiaa
