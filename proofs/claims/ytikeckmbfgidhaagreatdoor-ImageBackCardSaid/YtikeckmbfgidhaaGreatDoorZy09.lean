/- Several texts in one: De Df. -/
import Derived.Deep.AppendLies
import Derived.Deep.RegionLaw
import Derived.Deep.DeepMust
import Derived.Test.YtikeckmbfgidhaaGreatDoorZy07
/- The reference's disk: Write. -/
namespace Go.Proofs.YtikeckmbfgidhaaGreatDoor
open Go.RowKit

end Go.Proofs.YtikeckmbfgidhaaGreatDoor

/- The reference's disk: Write, whatever comes. -/
namespace Go.Proofs.YtikeckmbfgidhaaGreatDoor
open Go.RowKit

end Go.Proofs.YtikeckmbfgidhaaGreatDoor
