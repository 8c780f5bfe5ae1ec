/- The contracts of a writer's methods. -/
import Derived.Test.YtokchikihacalaaFr
import Derived.Test.YtokchikihacalaaBe
import Derived.Test.YtokchikihacalaaRows
import Derived.Handy
import Derived.Deep.DeepMust
import Derived.WalkLawsBesides
namespace Go.Proofs.Ytokchikihacalaa
open Go.RowKit

theorem Try.infoU8 : (Try.prog.info? 5).map (fun i => (i.zero, i.size, i.bytes)) = some (some (.int .u8 0), 1, 1) := by kernel_rfl

/-- How many zero bytes fill up n bytes. -/
def padN (n : Nat) : Nat := (4 - n % 4) % 4

theorem padN_lt (n : Nat) : padN n < 4 := by unfold padN; omega

end Go.Proofs.Ytokchikihacalaa
