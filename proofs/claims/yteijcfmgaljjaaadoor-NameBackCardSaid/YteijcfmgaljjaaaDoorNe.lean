/- Names: plain runes, and the escaped form. -/
import Derived.Test.YteijcfmgaljjaaaDoorNd
namespace Go.Proofs.YteijcfmgaljjaaaDoor
open Go.RowKit

def plainN (v : Nat) : Bool := decide ((97 ≤ v ∧ v ≤ 122) ∨ (65 ≤ v ∧ v ≤ 90) ∨ (48 ≤ v ∧ v ≤ 57) ∨ v = 45 ∨ v = 95 ∨ v = 46 ∨ (161 ≤ v ∧ v ≠ 65533))

set_option maxRecDepth 100000 in
theorem nplain_eq (v : Nat) (w : World) (h : v ≤ 2147483647) :
    Calls Tryd.prog 25 #[.int .i32 (v : Int)] w fun e w' => e = .returned (.bool (plainN v)) ∧ w = w' := by
  obtain ⟨p, hp⟩ : ∃ p, p = plainN v := ⟨_, rfl⟩
  rw [← hp]
  have HP := Lib.hid hp
  clear hp
  go_enter Tryd.func25, Tryd.ntmps25
  go_wp2
  all_goals go_ret
  all_goals refine ⟨congrArg (fun b => Ending.returned (Value.bool b)) ?_, rfl⟩
  all_goals rw [HP.out]
  all_goals unfold plainN
  all_goals rw [Bool.eq_iff_iff]
  all_goals simp only [decide_eq_true_eq, bne_iff_ne, beq_iff_eq, beq_eq_false_iff_ne, ne_eq, true_iff, Bool.false_eq_true, false_iff] at *
  all_goals omega

set_option maxRecDepth 100000 in
theorem mplain_eq (v : Nat) (w : World) (h : v ≤ 2147483647) :
    Calls Tryd.prog 32 #[.int .i64 (v : Int)] w fun e w' => e = .returned (.bool (plainN v)) ∧ w = w' := by
  obtain ⟨p, hp⟩ : ∃ p, p = plainN v := ⟨_, rfl⟩
  rw [← hp]
  have HP := Lib.hid hp
  clear hp
  go_enter Tryd.func32, Tryd.ntmps32
  go_wp2
  all_goals go_ret
  all_goals refine ⟨congrArg (fun b => Ending.returned (Value.bool b)) ?_, rfl⟩
  all_goals rw [HP.out]
  all_goals unfold plainN
  all_goals rw [Bool.eq_iff_iff]
  all_goals simp only [decide_eq_true_eq, bne_iff_ne, beq_iff_eq, ne_eq, true_iff, Bool.or_eq_true] at *
  all_goals omega

/-- A hexadecimal digit. -/
def dig (k : Nat) : UInt8 := if k < 10 then UInt8.ofNat (48 + k) else UInt8.ofNat (87 + k)
/-- A byte, escaped. -/
def hexOf (x : UInt8) : List UInt8 := [37, dig (x.toNat / 16), dig (x.toNat % 16)]
def escL (l : List UInt8) : List UInt8 := l.flatMap hexOf
theorem escL_snoc (l : List UInt8) (x : UInt8) : escL (l ++ [x]) = escL l ++ hexOf x := by simp [escL]
theorem escL_len (l : List UInt8) : (escL l).length = 3 * l.length := by
  induction l with
  | nil => rfl
  | cons x l ih => simp [escL, hexOf] at ih ⊢; omega
/-- What a rune at a place is shown as. -/
def stepB (s : ByteArray) (pos : Nat) : List UInt8 :=
  if plainN (Utf8.decode s pos).1 then Lib.encodeRune (Utf8.decode s pos).1 else escL ((s.data.toList.drop pos).take (Utf8.decode s pos).2)
def showFrom (s : ByteArray) : Nat → Nat → List UInt8
  | 0, _ => []
  | fuel + 1, pos => if pos < s.size then stepB s pos ++ showFrom s fuel (pos + (Utf8.decode s pos).2) else []
def showB (s : ByteArray) : List UInt8 := if s.size = 0 then [37] else showFrom s s.size 0
theorem showFrom_end (s : ByteArray) (fuel pos : Nat) (h : ¬ pos < s.size) : showFrom s fuel pos = [] := by
  cases fuel with
  | zero => rfl
  | succ f => simp [showFrom, h]
/-- A rune's bytes lie in the text. -/
theorem decode_in (s : ByteArray) (pos : Nat) (h : pos < s.size) : 1 ≤ (Utf8.decode s pos).2 ∧ pos + (Utf8.decode s pos).2 ≤ s.size ∧ (Utf8.decode s pos).2 ≤ 4 := by
  rcases decode_takes s pos h with ⟨_, e⟩ | ⟨_, h1, h2, h3, _⟩
  · rw [e]; exact ⟨Nat.le_refl _, h, by omega⟩
  · exact ⟨h2, h1, h3⟩
/-- The decoder of a piece that begins at a place. -/
theorem decode_cut (s : ByteArray) (pos : Nat) (h : pos < s.size) : Lib.decodeGo (s.extract pos s.size) = Utf8.decode s pos := by
  have hsz : (s.extract pos s.size).size = s.size - pos := by rw [ByteArray.size_extract]; omega
  unfold Lib.decodeGo
  rw [if_neg (by rw [hsz]; omega), Lib.decode_at, Lib.decode_at, hsz]
  have hg : ∀ j, (s.extract pos s.size).get! (0 + j) = s.get! (pos + j) := fun j => by
    by_cases hj : pos + j < s.size
    · rw [Utf8W.get!_of_lt _ _ (by rw [hsz]; omega), Utf8W.get!_of_lt _ _ hj]
      simp [ByteArray.getElem_extract]
    · have a1 : ¬ (0 + j < (s.extract pos s.size).data.size) := by
        have : (s.extract pos s.size).data.size = s.size - pos := hsz
        omega
      have a2 : ¬ (pos + j < s.data.size) := hj
      have e : ∀ (a : Array UInt8) (i : Nat), ¬ i < a.size → a[i]! = default := fun a i hi => getElem!_neg a i hi
      show (s.extract pos s.size).data[0 + j]! = s.data[pos + j]!
      rw [e _ _ a1, e _ _ a2]
  have h0 := hg 0
  simp only [Nat.add_zero] at h0
  rw [h0, show (0 : Nat) + 1 = 0 + 1 from rfl, hg 1, hg 2, hg 3]
  rfl

end Go.Proofs.YteijcfmgaljjaaaDoor
