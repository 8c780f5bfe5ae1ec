/- The contracts of a writer's exported methods, at a writer that is there and at none. -/
import Derived.Test.YtokchikihacalaaWr
namespace Go.Proofs.Ytokchikihacalaa
open Go.RowKit

def putU32 (n : Int) : Int × List UInt8 := if n < 0 ∨ 4294967295 < n then (3, []) else (0, be 4 n.toNat)
def putU64 (n : Int) : Int × List UInt8 := if n < 0 then (3, []) else (0, be 8 n.toNat)
def putBool (b : Bool) : Int × List UInt8 := (0, be 4 (if b then 1 else 0))
def padded (s : ByteArray) : List UInt8 := s.data.toList ++ List.replicate (padN s.size) 0
def putFixed (s : ByteArray) : Int × List UInt8 := if 1048576 < s.size then (4, []) else (0, padded s)
def putOpaque (s : ByteArray) : Int × List UInt8 := if 1048576 < s.size then (4, []) else (0, be 4 s.size ++ padded s)
def putOpt (is : Bool) (n : Int) : Int × List UInt8 := if is then (if n < 0 then (3, []) else (0, be 4 1 ++ be 8 n.toNat)) else (0, be 4 0)

end Go.Proofs.Ytokchikihacalaa
