/- The contracts of a writer's methods. -/
import Derived.Test.YtfipojmgmmjnmaaFr
import Derived.Test.YtfipojmgmmjnmaaBe
import Derived.Test.YtfipojmgmmjnmaaRows
import Derived.Handy
import Derived.Deep.DeepMust
import Derived.WalkLawsBesides
namespace Go.Proofs.Ytfipojmgmmjnmaa
open Go.RowKit

theorem Try.infoU8 : (Try.prog.info? 5).map (fun i => (i.zero, i.size, i.bytes)) = some (some (.int .u8 0), 1, 1) := by kernel_rfl

/-- How many zero bytes fill up n bytes. -/
def padN (n : Nat) : Nat := (4 - n % 4) % 4

theorem padN_lt (n : Nat) : padN n < 4 := by unfold padN; omega

end Go.Proofs.Ytfipojmgmmjnmaa
