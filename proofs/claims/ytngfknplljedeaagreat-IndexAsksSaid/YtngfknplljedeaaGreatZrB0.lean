/- Lemmas for the laws of index. -/
import Derived.Test.YtngfknplljedeaaGreatZr07
import Derived.Test.YtngfknplljedeaaGreatZr11
import Derived.Test.YtngfknplljedeaaGreatZr15
import Derived.Test.YtngfknplljedeaaGreatZr19
namespace Go.Proofs.YtngfknplljedeaaGreat
open Go.RowKit
def CA.few (c : CA) : Prop := c.helds.length ≤ 1073741823 ∧ c.files.length ≤ 1073741823 ∧ c.names.length ≤ 1073741823 ∧ c.blocks.length ≤ 1073741823
end Go.Proofs.YtngfknplljedeaaGreat
