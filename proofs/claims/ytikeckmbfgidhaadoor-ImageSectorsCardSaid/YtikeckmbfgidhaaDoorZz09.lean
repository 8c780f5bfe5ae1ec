/- Several texts in one: De Df. -/
import Derived.Deep.AppendLies
import Derived.Deep.RegionLaw
import Derived.Deep.DeepMust
import Derived.Test.YtikeckmbfgidhaaDoorZz07
/- The reference's disk: Write. -/
namespace Go.Proofs.YtikeckmbfgidhaaDoor
open Go.RowKit

end Go.Proofs.YtikeckmbfgidhaaDoor

/- The reference's disk: Write, whatever comes. -/
namespace Go.Proofs.YtikeckmbfgidhaaDoor
open Go.RowKit

end Go.Proofs.YtikeckmbfgidhaaDoor
