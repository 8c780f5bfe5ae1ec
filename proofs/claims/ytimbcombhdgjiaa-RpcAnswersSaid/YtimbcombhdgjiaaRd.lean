/- Readers: what stands in one; its small methods; the number that bytes stand for. -/
import Derived.Test.YtimbcombhdgjiaaNm
import Derived.Test.YtimbcombhdgjiaaPt
import Derived.Test.YtimbcombhdgjiaaSt
import Derived.Laws.Bits64b
namespace Go.Proofs.Ytimbcombhdgjiaa
open Go.RowKit

theorem St.keep {T : TypeId} {cs : Array Value} {k b : Nat} {r : Option Nat} {w w' : World} (h : St T k cs w) (hk : Keep b r w w') (h1 : k ≠ b) (h2 : some k ≠ r) : St T k cs w' :=
  (hk.block k (St.lt h) h1 h2).trans h

/-- What Done tells. -/
def rdDone (s : ByteArray) (e : Int) : Int := if e ≠ 0 then e else if 0 < s.size then 12 else 0

theorem or_byte (q : Nat) (b : UInt8) (hq : q < 72057594037927936) : Value.int .u64 (bits .or .u64 ((q : Int) * 256) (IntKind.u64.wrap (b.toNat : Int))) = Value.int .u64 ((q * 256 + b.toNat : Nat) : Int) := by
  have hb : b.toNat < 2 ^ 8 := b.toNat_lt
  have hw : IntKind.u64.wrap (b.toNat : Int) = (b.toNat : Int) := by rw [IntKind.wrap_u64]; omega
  have h := bits_or_u64_nat (q * 256) b.toNat (by omega) (by omega)
  rw [hw, show ((q : Int) * 256) = ((q * 256 : Nat) : Int) from by simp, h]
  have e := Nat.shiftLeft_add_eq_or_of_lt hb q
  rw [Nat.shiftLeft_eq, show (2 : Nat) ^ 8 = 256 from rfl] at e
  rw [← e]

end Go.Proofs.Ytimbcombhdgjiaa
