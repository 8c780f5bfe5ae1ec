/- The contracts of the reference's functions that write. -/
import Derived.Test.YtdjnadgcjmlejaaDoorXk
import Derived.Laws.IdiomStrings
namespace Go.Proofs.YtdjnadgcjmlejaaDoor
open Go.RowKit

/-- 'string([]byte{b})': the byte lies in a new block. -/
theorem conv_one (w : World) (b : UInt8) (v : Value) (hv : v = .int .u8 b.toNat) :
    (convert 58 9 (.slice (some ⟨w.heap.size, 0, none⟩) 1 1)).run Tryd.prog (w.alloc (.cells #[v] 5)) = .ok (.string (str [b])) (w.alloc (.cells #[v] 5)) := by
  subst hv
  exact run_convert_bytes_back (w.alloc (.cells #[.int .u8 b.toNat] 5)) 58 9 5 ⟨w.heap.size, 0, none⟩ 1 [b] Tryd.underlying58 Tryd.underlying5 Tryd.underlying9 (fun j hj => by
    obtain rfl : j = 0 := by simpa using hj
    simp [Addr.add])

theorem num_byte (n i : Nat) : Value.int .u8 (((n / 256 ^ i : Nat) : Int) % 256) = .int .u8 (UInt8.ofNat (n / 256 ^ i)).toNat := by
  rw [← u8_wrap, IntKind.wrap_u8]

set_option maxRecDepth 100000 in
set_option maxHeartbeats 400000 in
theorem rNum_any (n k : Nat) (w : World) (hn : n ≤ 9223372036854775807) (hk : k ≤ 8) :
    Calls Tryd.prog 25 #[.int .i64 n, .int .i64 k] w fun e w' => e = .returned (.string (str (be k n))) ∧ Below w.heap.size w w' := by
  go_enter Tryd.func25, Tryd.ntmps25
  go_wp2
  go_loopw [0, 5, 6] (fun m s c wr => ∃ i : Nat, i ≤ k ∧ c = .int .i64 i ∧ m = .int .i64 ((n / 256 ^ i : Nat) : Int) ∧ s = .string (str (be i n)) ∧ Below w.heap.size w wr) (fun _ _ c _ => k - (intOf c).toNat)
  case atStart => exact ⟨0, Nat.zero_le _, rfl, by simp, rfl, Below.refl _ _⟩
  case round =>
    obtain ⟨i, hi, rfl, rfl, rfl, hbel⟩ := hrel
    by_cases hlt : i < k
    · have hq : n / 256 ^ i ≤ 9223372036854775807 := Nat.le_trans (Nat.div_le_self _ _) hn
      have hcv := conv_one wr (UInt8.ofNat (n / 256 ^ i)) _ (num_byte n i)
      have hnext : n / 256 ^ (i + 1) = n / 256 ^ i / 256 := by rw [Nat.pow_succ, Nat.div_div_eq_div_mul]
      obtain ⟨q, hqq⟩ : ∃ q, q = n / 256 ^ i := ⟨_, rfl⟩
      rw [← hqq] at hq hcv hnext ⊢
      have hbe : str [UInt8.ofNat q] ++ str (be i n) = str (be (i + 1) n) := by rw [str_append, hqq]; rfl
      have hsz := hbel.size
      obtain ⟨t, ht⟩ : ∃ t, t = str (be i n) := ⟨_, rfl⟩
      obtain ⟨b, hb⟩ : ∃ b, b = str [UInt8.ofNat q] := ⟨_, rfl⟩
      have htl : t.size ≤ 8 := by rw [ht, str_size, be_length]; omega
      have hbl : b.size ≤ 8 := by rw [hb, str_size]; simp
      rw [← ht, ← hb] at hbe
      rw [← hb] at hcv
      rw [← ht]
      have HBE := Lib.hid hbe
      have HN := Lib.hid hnext
      clear hqq hbe hnext ht hb
      go_wp2
      go_roundw
      case rel => exact ⟨i + 1, by omega, by go_num, by rw [HN.out]; go_num, by rw [HBE.out], (hbel.alloc hsz _)⟩
      case measure => simp [intOf]; omega
    · obtain rfl : i = k := by omega
      go_wp2
      go_ret
      exact ⟨rfl, hbel⟩

/-- The length of a text in a slot. -/
def slen : Value → Nat | .string u => u.size | _ => 0

set_option maxRecDepth 100000 in
theorem rFilled_any (s : ByteArray) (w : World) (hs : s.size ≤ 1073741824) :
    Calls Tryd.prog 62 #[.string s] w fun e w' => e = .returned (.string (str (padded s))) ∧ w = w' := by
  have hp := padN_lt s.size
  have hpz : (s.size + padN s.size) % 4 = 0 := by unfold padN; omega
  have hpn : ∀ i, i < padN s.size → ¬ (s.size + i) % 4 = 0 := fun i hi => by unfold padN at hi; omega
  have HZ := Lib.hid hpz
  have HNZ := Lib.hid hpn
  clear hpz hpn
  go_enter Tryd.func62, Tryd.ntmps62
  go_wp2
  go_loop [0] (fun t => ∃ (i : Nat) (u : ByteArray), i ≤ padN s.size ∧ t = .string u ∧ u.size = s.size + i ∧ u = str (s.data.toList ++ List.replicate i 0)) (fun t => s.size + 4 - slen t)
  case atStart => exact ⟨0, s, Nat.zero_le _, rfl, rfl, by simp [str_data]⟩
  case round =>
    obtain ⟨i, u, hi, rfl, hul, hu⟩ := hrel
    have HU := Lib.hid hu
    have HL := Lib.hid hul
    have hus : u.size ≤ 1073741830 := by omega
    clear hu hul
    by_cases hlt : i < padN s.size
    · have hm : ¬ u.size % 4 = 0 := by rw [HL.out]; exact HNZ.out i hlt
      have hmb : (((u.size : Int) % 4) != 0) = true := by rw [bne_iff_ne]; omega
      go_wp2
      go_round
      case rel => exact ⟨i + 1, u ++ ⟨#[0]⟩, by omega, rfl, by rw [ByteArray.size_append, HL.out]; rfl, by rw [HU.out, show (⟨#[0]⟩ : ByteArray) = str [0] from rfl, str_append, List.append_assoc, ← List.replicate_succ']⟩
      case measure =>
        have e : slen (.string (u ++ ⟨#[0]⟩)) = u.size + 1 := by simp [slen, ByteArray.size_append]; rfl
        have e2 : slen (.string u) = u.size := rfl
        have hl := HL.out
        rw [e, e2]
        omega
    · obtain rfl : i = padN s.size := by omega
      have hm : u.size % 4 = 0 := by rw [HL.out]; exact HZ.out
      have hmb : (((u.size : Int) % 4) != 0) = false := by rw [bne_eq_false_iff_eq]; omega
      go_wp2
      go_ret
      refine ⟨?_, rfl⟩
      rw [HU.out]
      rfl

theorem rText_any (s : ByteArray) (w : World) (hs : s.size ≤ 1073741800) :
    Calls Tryd.prog 24 #[.string s] w fun e w' => e = .returned (.string (str (be 4 s.size ++ padded s))) ∧ Below w.heap.size w w' := by
  have hb : (str (be 4 s.size)).size ≤ 8 := by rw [str_size, be_length]; omega
  have hf : (str (padded s)).size ≤ 1073741830 := by
    have := padN_lt s.size
    have e : s.data.size = s.size := rfl
    rw [str_size]; simp [padded]; omega
  have he := str_append (be 4 s.size) (padded s)
  have HE := Lib.hid he
  obtain ⟨x, hx⟩ : ∃ x, x = str (be 4 s.size) := ⟨_, rfl⟩
  obtain ⟨y, hy⟩ : ∃ y, y = str (padded s) := ⟨_, rfl⟩
  rw [← hx] at hb
  rw [← hy] at hf
  clear he
  have HX := Lib.hid hx
  have HY := Lib.hid hy
  clear hx hy
  go_enter Tryd.func24, Tryd.ntmps24
  go_wp2_with (first | (go_at_call 25; go_must (refine (rNum_any s.size 4 _ (by omega) (by omega)).mono ?_); rintro e w1 ⟨rfl, hb1⟩; rw [← HX.out]) | (go_at_call 62; go_must (refine (rFilled_any s _ (by omega)).mono ?_); rintro e w2 ⟨rfl, rfl⟩; rw [← HY.out]))
  go_ret
  refine ⟨?_, hb1⟩
  rw [← HE.out, ← HX.out, ← HY.out]
  rfl

theorem rTruth_any (b : Bool) (w : World) : Calls Tryd.prog 63 #[.bool b] w fun e w' => e = .returned (.string (str (be 4 (if b then 1 else 0)))) ∧ Below w.heap.size w w' := by
  cases b
  · go_enter Tryd.func63, Tryd.ntmps63
    go_wp2_with (go_at_call 25; go_must (refine (rNum_any 0 4 _ (by omega) (by omega)).mono ?_); rintro e w1 ⟨rfl, hb1⟩)
    go_ret
    exact ⟨rfl, hb1⟩
  · go_enter Tryd.func63, Tryd.ntmps63
    go_wp2_with (go_at_call 25; go_must (refine (rNum_any 1 4 _ (by omega) (by omega)).mono ?_); rintro e w1 ⟨rfl, hb1⟩)
    go_ret
    exact ⟨rfl, hb1⟩

end Go.Proofs.YtdjnadgcjmlejaaDoor
