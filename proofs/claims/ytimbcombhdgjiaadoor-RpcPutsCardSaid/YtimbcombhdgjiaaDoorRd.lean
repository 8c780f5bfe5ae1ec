/- Readers: what stands in one; its small methods; the number that bytes stand for. -/
import Derived.Test.YtimbcombhdgjiaaDoorNm
import Derived.Test.YtimbcombhdgjiaaDoorPt
import Derived.Test.YtimbcombhdgjiaaDoorSt
import Derived.Laws.Bits64b
namespace Go.Proofs.YtimbcombhdgjiaaDoor
open Go.RowKit

/-- Block k is a reader with the rest s and the error e. -/
def Rd (k : Nat) (s : ByteArray) (e : Int) (w : World) : Prop := St 68 k #[.string s, .int .i64 e] w

theorem Rd.below {k : Nat} {s : ByteArray} {e : Int} {w w' : World} (h : Rd k s e w) (hb : Below w.heap.size w w') : Rd k s e w' := St.below h hb
theorem Rd.keep {k b : Nat} {r : Option Nat} {s : ByteArray} {e : Int} {w w' : World} (h : Rd k s e w) (hk : Keep b r w w') (h1 : k ≠ b) (h2 : some k ≠ r) : Rd k s e w' :=
  (hk.block k (St.lt h) h1 h2).trans h
theorem St.keep {T : TypeId} {cs : Array Value} {k b : Nat} {r : Option Nat} {w w' : World} (h : St T k cs w) (hk : Keep b r w w') (h1 : k ≠ b) (h2 : some k ≠ r) : St T k cs w' :=
  (hk.block k (St.lt h) h1 h2).trans h

theorem rErr_at (k : Nat) (s : ByteArray) (e : Int) (w : World) (h : Rd k s e w) :
    Calls Tryd.prog 40 #[.pointer (some ⟨k, 0, none⟩)] w fun r w' => r = .returned (.int .i64 e) ∧ w = w' := by
  have c1 := St.cell h (j := 1) rfl
  go_enter Tryd.func40, Tryd.ntmps40
  go_wp2
  go_ret
  exact ⟨rfl, rfl⟩
theorem rLeft_at (k : Nat) (s : ByteArray) (e : Int) (w : World) (h : Rd k s e w) :
    Calls Tryd.prog 49 #[.pointer (some ⟨k, 0, none⟩)] w fun r w' => r = .returned (.int .i64 (s.size : Int)) ∧ w = w' := by
  have c0 := St.cell h (j := 0) rfl
  go_enter Tryd.func49, Tryd.ntmps49
  go_wp2
  go_ret
  exact ⟨rfl, rfl⟩

/-- What Done tells. -/
def rdDone (s : ByteArray) (e : Int) : Int := if e ≠ 0 then e else if 0 < s.size then 12 else 0

theorem rRead_at (s : ByteArray) (w : World) : Calls Tryd.prog 32 #[.string s] w fun r w' => r = .returned (.pointer (some ⟨w.heap.size, 0, none⟩)) ∧ Rd w.heap.size s 0 w' ∧ Below w.heap.size w w' ∧ w.heap.size < w'.heap.size := by
  go_enter Tryd.func32, Tryd.ntmps32
  go_wp2
  go_ret
  exact ⟨rfl, St.new w _ _, boxed0, by simp⟩

theorem rRead_eq (s : ByteArray) (w : World) : Calls Tryd.prog 32 #[.string s] w fun r w' => r = .returned (.pointer (some ⟨w.heap.size, 0, none⟩)) ∧ w' = w.alloc (.cells #[.string s, .int .i64 0] 68 (0, 0)) := by
  go_enter Tryd.func32, Tryd.ntmps32
  go_wp2
  go_ret
  exact ⟨rfl, rfl⟩

theorem rfail_no (k : Nat) (s : ByteArray) (e c : Int) (w : World) (he : e ≠ 0) (h : Rd k s e w) :
    Calls Tryd.prog 50 #[.pointer (some ⟨k, 0, none⟩), .int .i64 c] w fun r w' => r = .returned (.tuple #[]) ∧ w = w' := by
  go_enter Tryd.func50, Tryd.ntmps50
  go_wp2_with (go_at_call 40; go_must (refine (rErr_at k s e _ h).mono ?_); rintro e w1 ⟨rfl, rfl⟩)
  go_returns
  exact ⟨rfl, rfl⟩

theorem rfail_at (k : Nat) (s : ByteArray) (c : Int) (w : World) (h : Rd k s 0 w) :
    Calls Tryd.prog 50 #[.pointer (some ⟨k, 0, none⟩), .int .i64 c] w fun r w' => r = .returned (.tuple #[]) ∧ Rd k ⟨#[]⟩ c w' ∧ Keep k none w w' := by
  have c0 := St.cell h (j := 0) rfl
  have c1 := St.cell h (j := 1) rfl
  have f0 := St.free h 0
  have f1 := St.free h 1
  go_enter Tryd.func50, Tryd.ntmps50
  go_wp2_with (go_at_call 40; go_must (refine (rErr_at k s 0 _ h).mono ?_); rintro e w1 ⟨rfl, rfl⟩)
  go_end0
  exact ⟨rfl, (St.set (St.set h 1 _) 0 _), ((Keep.refl k none w).put 1 _).put 0 _⟩

theorem or_byte (q : Nat) (b : UInt8) (hq : q < 72057594037927936) : Value.int .u64 (bits .or .u64 ((q : Int) * 256) (IntKind.u64.wrap (b.toNat : Int))) = Value.int .u64 ((q * 256 + b.toNat : Nat) : Int) := by
  have hb : b.toNat < 2 ^ 8 := b.toNat_lt
  have hw : IntKind.u64.wrap (b.toNat : Int) = (b.toNat : Int) := by rw [IntKind.wrap_u64]; omega
  have h := bits_or_u64_nat (q * 256) b.toNat (by omega) (by omega)
  rw [hw, show ((q : Int) * 256) = ((q * 256 : Nat) : Int) from by simp, h]
  have e := Nat.shiftLeft_add_eq_or_of_lt hb q
  rw [Nat.shiftLeft_eq, show (2 : Nat) ^ 8 = 256 from rfl] at e
  rw [← e]

set_option maxRecDepth 100000 in
set_option maxHeartbeats 800000 in
theorem rnumber_any (s : ByteArray) (hs : s.size ≤ 8) (w : World) :
    Calls Tryd.prog 47 #[.string s] w fun e w' => e = .returned (.int .u64 (num s.data.toList)) ∧ w = w' := by
  go_enter Tryd.func47, Tryd.ntmps47
  go_wp2
  go_loop [2, 3, 6] (fun n _ c => ∃ i : Nat, i ≤ s.size ∧ c = .int .i64 i ∧ n = .int .u64 (num (s.data.toList.take i))) (fun _ _ c => s.size - (intOf c).toNat)
  case atStart => exact ⟨0, Nat.zero_le _, rfl, rfl⟩
  case round =>
    obtain ⟨i, hi, rfl, rfl⟩ := hrel
    have hfin : num (s.data.toList.take s.size) = num s.data.toList := by rw [List.take_of_length_le (by simp)]
    have hlt : num (s.data.toList.take i) < 256 ^ i := Nat.lt_of_lt_of_le (num_lt _) (Nat.pow_le_pow_right (by omega) (by simp; omega))
    by_cases hli : i < s.size
    · have hnext : num (s.data.toList.take (i + 1)) = num (s.data.toList.take i) * 256 + s[i].toNat := by
        have hg : s.data.toList[i]? = some s[i] := by rw [Array.getElem?_toList]; exact Array.getElem?_eq_getElem hli
        rw [List.take_add_one, hg]
        exact num_snoc _ _
      have hb : num (s.data.toList.take i) < 72057594037927936 := Nat.lt_of_lt_of_le hlt (by
        calc 256 ^ i ≤ 256 ^ 7 := Nat.pow_le_pow_right (by omega) (by omega)
          _ = 72057594037927936 := by decide)
      obtain ⟨q, hq⟩ : ∃ q, q = num (s.data.toList.take i) := ⟨_, rfl⟩
      rw [← hq] at hb hnext ⊢
      have HN := Lib.hid hnext
      clear hq hnext hfin hlt
      go_wp2
      go_round
      case rel => exact ⟨i + 1, by omega, by go_num, by rw [HN.out, or_byte q _ hb]⟩
      case measure => simp [intOf]; omega
    · obtain rfl : i = s.size := by omega
      rw [hfin]
      obtain ⟨q, hq⟩ : ∃ q, q = num s.data.toList := ⟨_, rfl⟩
      rw [← hq]
      have HQ := Lib.hid hq
      clear hq hfin hlt
      go_wp2
      go_ret
      exact ⟨by show Ending.returned (Value.int .u64 (q : Int)) = _; rw [HQ.out], rfl⟩
end Go.Proofs.YtimbcombhdgjiaaDoor
