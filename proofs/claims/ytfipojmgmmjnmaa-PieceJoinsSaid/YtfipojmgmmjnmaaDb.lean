/- The reference's disk as it lies in memory; its Blank. -/
import Derived.Test.YtfipojmgmmjnmaaDa
import Derived.Test.YtfipojmgmmjnmaaSt
import Derived.Test.YtfipojmgmmjnmaaRows
import Derived.Deep.QuietTactic
import Derived.BigQuiet
import Derived.IntWalk
namespace Go.Proofs.Ytfipojmgmmjnmaa
open Go.RowKit

/-- The bytes of a text in a slot: for a measure. -/
def szOf : Value → Nat | .string t => t.size | _ => 0

set_option maxRecDepth 100000 in
theorem dkBlank_any (s : ByteArray) (w : World) (hs : s.size ≤ 1073741824) :
    Calls Try.prog 23 #[.string s] w fun e w' => e = .returned (.string (blank s)) ∧ w = w' := by
  obtain ⟨z, hz⟩ : ∃ z, z = blank s := ⟨_, rfl⟩
  obtain ⟨m, hm⟩ : ∃ m, m = 128 - s.size := ⟨_, rfl⟩
  have HA := Lib.hid (show ∀ k, k ≤ m → (s ++ noughts k).size = s.size + k from fun k _ => by rw [ByteArray.size_append, noughts_size])
  have HM := Lib.hid hm
  have HN := Lib.hid (append_noughts s)
  have H0 := Lib.hid (append_none s)
  have HZ := Lib.hid (show z = s ++ noughts m by rw [hz, hm]; rfl)
  rw [← hz]
  clear hz hm
  go_enter Try.func23, Try.ntmps23
  go_wp2_with fail
  go_loop [0] (fun v => ∃ (k : Nat) (t : ByteArray), k ≤ m ∧ v = .string t ∧ t = s ++ noughts k) (fun v => 128 - szOf v)
  case atStart => exact ⟨0, s, Nat.zero_le _, rfl, H0.out.symm⟩
  case round =>
    obtain ⟨k, t, hk, rfl, ht⟩ := hrel
    have hsz := HA.out k hk
    rw [← ht] at hsz
    have HT := Lib.hid ht
    clear ht
    have hm := HM.out
    by_cases hlt : t.size < 128
    · have hk1 : k + 1 ≤ m := by omega
      have d1 : decide ((t.size : Int) < 128) = true := decide_eq_true (by omega)
      have d2 : ¬ 9223372036854775807 < t.size + 1 := by omega
      clear hm hsz
      go_wp2_with fail
      go_round
      case rel => exact ⟨k + 1, t ++ ⟨#[0]⟩, hk1, rfl, by rw [HT.out, HN.out]⟩
      case measure =>
        have h1 : (t ++ ⟨#[0]⟩ : ByteArray).size = t.size + 1 := by rw [ByteArray.size_append]; rfl
        show 128 - (t ++ ⟨#[0]⟩ : ByteArray).size < 128 - t.size
        omega
    · have d1 : decide ((t.size : Int) < 128) = false := decide_eq_false (by omega)
      obtain rfl : k = m := by omega
      clear hm hsz
      go_wp2_with fail
      go_ret
      exact ⟨by rw [HZ.out, ← HT.out]; rfl, rfl⟩
end Go.Proofs.Ytfipojmgmmjnmaa
