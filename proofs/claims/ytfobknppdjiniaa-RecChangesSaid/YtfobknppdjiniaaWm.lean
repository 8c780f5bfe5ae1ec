/- The contracts of a writer's exported methods, at a writer that is there and at none. -/
import Derived.Test.YtfobknppdjiniaaWr
namespace Go.Proofs.Ytfobknppdjiniaa
open Go.RowKit

def putU32 (n : Int) : Int × List UInt8 := if n < 0 ∨ 4294967295 < n then (3, []) else (0, be 4 n.toNat)
def putU64 (n : Int) : Int × List UInt8 := if n < 0 then (3, []) else (0, be 8 n.toNat)
def putBool (b : Bool) : Int × List UInt8 := (0, be 4 (if b then 1 else 0))
def padded (s : ByteArray) : List UInt8 := s.data.toList ++ List.replicate (padN s.size) 0
def putFixed (s : ByteArray) : Int × List UInt8 := if 1048576 < s.size then (4, []) else (0, padded s)
def putOpaque (s : ByteArray) : Int × List UInt8 := if 1048576 < s.size then (4, []) else (0, be 4 s.size ++ padded s)
def putOpt (is : Bool) (n : Int) : Int × List UInt8 := if is then (if n < 0 then (3, []) else (0, be 4 1 ++ be 8 n.toNat)) else (0, be 4 0)

/-- What a method of a writer does: the error that it returns, and the bytes that it appends. -/
def Puts (k : Nat) (r : Option Nat) (xs : List UInt8) (p : Int × List UInt8) (w : World) (e : Ending) (w' : World) : Prop :=
  e = .returned (.int .i64 p.1) ∧ Wrote 54 5 k r (xs ++ p.2) w w'

theorem puts_none {k : Nat} {r : Option Nat} {xs : List UInt8} {w : World} (h : Wr 54 5 k r xs w) (c : Int) : Puts k r xs (c, []) w (.returned (.int .i64 c)) w :=
  ⟨rfl, by simpa using Wrote.refl h⟩

theorem wU32_any (k : Nat) (r : Option Nat) (xs : List UInt8) (n : Int) (w : World) (hl : xs.length ≤ 1073741824) (h : Wr 54 5 k r xs w) :
    Calls Try.prog 12 #[.pointer (some ⟨k, 0, none⟩), .int .i64 n] w (Puts k r xs (putU32 n) w) := by
  unfold putU32
  by_cases h1 : n < 0
  · rw [if_pos (.inl h1)]
    go_enter Try.func12, Try.ntmps12
    go_wp2
    go_ret
    exact puts_none h 3
  · by_cases h2 : 4294967295 < n
    · rw [if_pos (.inr h2)]
      go_enter Try.func12, Try.ntmps12
      go_wp2
      go_ret
      exact puts_none h 3
    · rw [if_neg (by omega)]
      obtain ⟨m, rfl⟩ := Int.eq_ofNat_of_zero_le (Int.not_lt.1 h1)
      rw [Int.toNat_natCast]
      go_enter Try.func12, Try.ntmps12
      go_wp2_with (go_at_call 29; go_must (refine (number_any k r xs m 4 _ (by omega) hl h).mono ?_); rintro e w' ⟨rfl, hw⟩)
      go_ret
      exact ⟨rfl, hw⟩

theorem wU64_any (k : Nat) (r : Option Nat) (xs : List UInt8) (n : Int) (w : World) (hl : xs.length ≤ 1073741824) (h : Wr 54 5 k r xs w) :
    Calls Try.prog 17 #[.pointer (some ⟨k, 0, none⟩), .int .i64 n] w (Puts k r xs (putU64 n) w) := by
  unfold putU64
  by_cases h1 : n < 0
  · rw [if_pos h1]
    go_enter Try.func17, Try.ntmps17
    go_wp2
    go_ret
    exact puts_none h 3
  · rw [if_neg h1]
    obtain ⟨m, rfl⟩ := Int.eq_ofNat_of_zero_le (Int.not_lt.1 h1)
    rw [Int.toNat_natCast]
    go_enter Try.func17, Try.ntmps17
    go_wp2_with (go_at_call 29; go_must (refine (number_any k r xs m 8 _ (by omega) hl h).mono ?_); rintro e w' ⟨rfl, hw⟩)
    go_ret
    exact ⟨rfl, hw⟩

theorem wOpaque_any (k : Nat) (r : Option Nat) (xs : List UInt8) (s : ByteArray) (w : World) (hl : xs.length ≤ 1073741800) (h : Wr 54 5 k r xs w) :
    Calls Try.prog 19 #[.pointer (some ⟨k, 0, none⟩), .string s] w (Puts k r xs (putOpaque s) w) := by
  unfold putOpaque
  by_cases h1 : 1048576 < s.size
  · rw [if_pos h1]
    go_enter Try.func19, Try.ntmps19
    go_wp2
    go_ret
    exact puts_none h 4
  · rw [if_neg h1]
    go_enter Try.func19, Try.ntmps19
    go_wp2_with (first | (go_at_call 29; go_must (refine (number_any k r xs s.size 4 _ (by omega) (by omega) h).mono ?_); rintro e w1 ⟨rfl, r1, hw1, hk1, hr1⟩) | (go_at_call 30; go_must (refine (padded_any k r1 _ s _ (by omega) (by simp [be_length]; omega) hw1).mono ?_); rintro e w' ⟨rfl, hw⟩))
    go_ret
    exact ⟨rfl, by simpa [padded] using Wrote.trans hk1 hr1 hw⟩

theorem wText_any (k : Nat) (r : Option Nat) (xs : List UInt8) (w : World) (h : Wr 54 5 k r xs w) :
    Calls Try.prog 22 #[.pointer (some ⟨k, 0, none⟩)] w fun e w' => e = .returned (.string (str xs)) ∧ w = w' := by
  obtain ⟨v, hb, hown, hv⟩ := h
  have hc := cell_of_one hb
  have hconv := own_text (P := Try.prog) (src := 52) (dst := 9) hown Try.underlying52 Try.underlying5 Try.underlying9
  clear hb hv hown
  go_enter Try.func22, Try.ntmps22
  go_wp2
  go_ret
  exact ⟨rfl, rfl⟩

end Go.Proofs.Ytfobknppdjiniaa
