/- The law's take over a reader. -/
import Derived.Test.YtdjnadgcjmlejaaDoorRz
namespace Go.Proofs.YtdjnadgcjmlejaaDoor
open Go.RowKit

/-- What the law's take makes of what is left and of the error: what is left, the error, the number, the boolean, the text. -/
def rdTake (kind n : Int) (s : ByteArray) (e : Int) : ByteArray × Int × Int × Bool × ByteArray :=
  if kind = 1 then ((rdU32 s e).1, (rdU32 s e).2.1, (rdU32 s e).2.2, false, ⟨#[]⟩)
  else if kind = 2 then ((rdU64 s e).1, (rdU64 s e).2.1, (rdU64 s e).2.2, false, ⟨#[]⟩)
  else if kind = 3 then ((rdBool s e).1, (rdBool s e).2.1, 0, (rdBool s e).2.2, ⟨#[]⟩)
  else if kind = 4 then ((rdFixed n s e).1, (rdFixed n s e).2.1, 0, false, (rdFixed n s e).2.2)
  else if kind = 5 then ((rdOpaque n s e).1, (rdOpaque n s e).2.1, 0, false, (rdOpaque n s e).2.2)
  else if kind = 6 then ((rdOpt s e).1, (rdOpt s e).2.1, (rdOpt s e).2.2.2, (rdOpt s e).2.2.1, ⟨#[]⟩)
  else (s, e, 0, false, ⟨#[]⟩)

end Go.Proofs.YtdjnadgcjmlejaaDoor
