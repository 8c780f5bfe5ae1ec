/- The contracts of the reference's functions that write. -/
import Derived.Test.YtimbcombhdgjiaaXk
import Derived.Laws.IdiomStrings
namespace Go.Proofs.Ytimbcombhdgjiaa
open Go.RowKit

/-- 'string([]byte{b})': the byte lies in a new block. -/
theorem conv_one (w : World) (b : UInt8) (v : Value) (hv : v = .int .u8 b.toNat) :
    (convert 35 9 (.slice (some ⟨w.heap.size, 0, none⟩) 1 1)).run Try.prog (w.alloc (.cells #[v] 5)) = .ok (.string (str [b])) (w.alloc (.cells #[v] 5)) := by
  subst hv
  exact run_convert_bytes_back (w.alloc (.cells #[.int .u8 b.toNat] 5)) 35 9 5 ⟨w.heap.size, 0, none⟩ 1 [b] Try.underlying35 Try.underlying5 Try.underlying9 (fun j hj => by
    obtain rfl : j = 0 := by simpa using hj
    simp [Addr.add])

theorem num_byte (n i : Nat) : Value.int .u8 (((n / 256 ^ i : Nat) : Int) % 256) = .int .u8 (UInt8.ofNat (n / 256 ^ i)).toNat := by
  rw [← u8_wrap, IntKind.wrap_u8]

/-- The length of a text in a slot. -/
def slen : Value → Nat | .string u => u.size | _ => 0

end Go.Proofs.Ytimbcombhdgjiaa
