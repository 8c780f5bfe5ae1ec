/- The contracts of the reference's functions that write. -/
import Derived.Test.YtimbcombhdgjiaaDoorXk
import Derived.Laws.IdiomStrings
namespace Go.Proofs.YtimbcombhdgjiaaDoor
open Go.RowKit

/-- 'string([]byte{b})': the byte lies in a new block. -/
theorem conv_one (w : World) (b : UInt8) (v : Value) (hv : v = .int .u8 b.toNat) :
    (convert 39 9 (.slice (some ⟨w.heap.size, 0, none⟩) 1 1)).run Tryd.prog (w.alloc (.cells #[v] 5)) = .ok (.string (str [b])) (w.alloc (.cells #[v] 5)) := by
  subst hv
  exact run_convert_bytes_back (w.alloc (.cells #[.int .u8 b.toNat] 5)) 39 9 5 ⟨w.heap.size, 0, none⟩ 1 [b] Tryd.underlying39 Tryd.underlying5 Tryd.underlying9 (fun j hj => by
    obtain rfl : j = 0 := by simpa using hj
    simp [Addr.add])

theorem num_byte (n i : Nat) : Value.int .u8 (((n / 256 ^ i : Nat) : Int) % 256) = .int .u8 (UInt8.ofNat (n / 256 ^ i)).toNat := by
  rw [← u8_wrap, IntKind.wrap_u8]

set_option maxRecDepth 100000 in
set_option maxHeartbeats 400000 in
theorem rNum_any (n k : Nat) (w : World) (hn : n ≤ 9223372036854775807) (hk : k ≤ 8) :
    Calls Tryd.prog 36 #[.int .i64 n, .int .i64 k] w fun e w' => e = .returned (.string (str (be k n))) ∧ Below w.heap.size w w' := by
  go_enter Tryd.func36, Tryd.ntmps36
  go_wp2
  go_loopw [0, 5, 6] (fun m s c wr => ∃ i : Nat, i ≤ k ∧ c = .int .i64 i ∧ m = .int .i64 ((n / 256 ^ i : Nat) : Int) ∧ s = .string (str (be i n)) ∧ Below w.heap.size w wr) (fun _ _ c _ => k - (intOf c).toNat)
  case atStart => exact ⟨0, Nat.zero_le _, rfl, by simp, rfl, Below.refl _ _⟩
  case round =>
    obtain ⟨i, hi, rfl, rfl, rfl, hbel⟩ := hrel
    by_cases hlt : i < k
    · have hq : n / 256 ^ i ≤ 9223372036854775807 := Nat.le_trans (Nat.div_le_self _ _) hn
      have hcv := conv_one wr (UInt8.ofNat (n / 256 ^ i)) _ (num_byte n i)
      have hnext : n / 256 ^ (i + 1) = n / 256 ^ i / 256 := by rw [Nat.pow_succ, Nat.div_div_eq_div_mul]
      obtain ⟨q, hqq⟩ : ∃ q, q = n / 256 ^ i := ⟨_, rfl⟩
      rw [← hqq] at hq hcv hnext ⊢
      have hbe : str [UInt8.ofNat q] ++ str (be i n) = str (be (i + 1) n) := by rw [str_append, hqq]; rfl
      have hsz := hbel.size
      obtain ⟨t, ht⟩ : ∃ t, t = str (be i n) := ⟨_, rfl⟩
      obtain ⟨b, hb⟩ : ∃ b, b = str [UInt8.ofNat q] := ⟨_, rfl⟩
      have htl : t.size ≤ 8 := by rw [ht, str_size, be_length]; omega
      have hbl : b.size ≤ 8 := by rw [hb, str_size]; simp
      rw [← ht, ← hb] at hbe
      rw [← hb] at hcv
      rw [← ht]
      have HBE := Lib.hid hbe
      have HN := Lib.hid hnext
      clear hqq hbe hnext ht hb
      go_wp2
      go_roundw
      case rel => exact ⟨i + 1, by omega, by go_num, by rw [HN.out]; go_num, by rw [HBE.out], (hbel.alloc hsz _)⟩
      case measure => simp [intOf]; omega
    · obtain rfl : i = k := by omega
      go_wp2
      go_ret
      exact ⟨rfl, hbel⟩

/-- The length of a text in a slot. -/
def slen : Value → Nat | .string u => u.size | _ => 0

end Go.Proofs.YtimbcombhdgjiaaDoor
