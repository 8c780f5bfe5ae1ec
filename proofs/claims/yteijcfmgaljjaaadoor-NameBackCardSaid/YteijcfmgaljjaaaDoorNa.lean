/- Names: the reference's checks. -/
import Derived.Test.YteijcfmgaljjaaaDoorFr
import Derived.Test.YteijcfmgaljjaaaDoorSt
import Derived.Test.YteijcfmgaljjaaaDoorRows
import Derived.Handy
import Derived.Deep.DeepMust
import Derived.WalkLawsBesides
import Derived.Deep.RegionHeld3
import Derived.Lib.Strings
namespace Go.Proofs.YteijcfmgaljjaaaDoor
open Go.RowKit

/-- The number in a slot. -/
def intOf : Value → Int | .int _ k => k | _ => 0

theorem snoc_at (s : ByteArray) (k : Nat) (h : k < s.size) : s.data.toList.take (k + 1) = s.data.toList.take k ++ [s[k]] := by
  have hg : s.data.toList[k]? = some (s[k]) := by
    rw [Array.getElem?_toList]
    exact Array.getElem?_eq_getElem h
  rw [List.take_add_one, hg]
  rfl

/-- Has a text a byte? -/
def hasB (xs : List UInt8) (c : UInt8) : Bool := xs.contains c

set_option maxRecDepth 100000 in
theorem mhas_eq (s : ByteArray) (c : UInt8) (w : World) (hs : s.size ≤ 9223372036854775807) :
    Calls Tryd.prog 23 #[.string s, .int .u8 (c.toNat : Int)] w fun e w' => e = .returned (.bool (hasB s.data.toList c)) ∧ w = w' := by
  go_enter Tryd.func23, Tryd.ntmps23
  go_wp2
  go_loop [5] (fun v => ∃ i : Nat, i ≤ s.size ∧ v = .int .i64 i ∧ hasB (s.data.toList.take i) c = false) (fun v => s.size - (intOf v).toNat)
  case atStart => exact ⟨0, Nat.zero_le _, rfl, rfl⟩
  case round =>
    obtain ⟨i, hi, rfl, hn⟩ := hrel
    by_cases hlt : i < s.size
    · have HN := Lib.hid hn
      have hb0 : (0 : Int) ≤ (i : Int) := by omega
      have hb1 : (i : Int) < (s.size : Int) := by omega
      have hw1 : IntKind.i64.wrap ((i : Int) + 1) = (i : Int) + 1 := by rw [IntKind.wrap_i64]; omega
      have hsn := snoc_at s i hlt
      have HS := Lib.hid hsn
      clear hn hsn
      by_cases he : s[i]'hlt = c
      · have hd : (((s[i]'hlt).toNat : Int) == (c.toNat : Int)) = true := by rw [he]; simp
        have hfull : hasB s.data.toList c = true := by
          unfold hasB
          rw [List.contains_iff_mem, ← he, Array.mem_toList_iff]
          exact Array.getElem_mem hlt
        have HF := Lib.hid hfull
        clear he hfull
        go_wp2
        go_ret
        exact ⟨by rw [HF.out]; rfl, rfl⟩
      · have hd : (((s[i]'hlt).toNat : Int) == (c.toNat : Int)) = false := by
          rw [beq_eq_false_iff_ne]
          intro h
          exact he (UInt8.toNat_inj.1 (by omega))
        have HE := Lib.hid he
        clear he
        go_wp2
        go_round
        case rel =>
          refine ⟨i + 1, by omega, by go_num, ?_⟩
          have h1 := HN.out
          have h2 := HE.out
          unfold hasB at h1 ⊢
          rw [HS.out]
          simp at h1 ⊢
          exact ⟨h1, fun e => h2 e.symm⟩
        case measure => simp [intOf]; omega
    · obtain rfl : i = s.size := by omega
      have hfull : s.data.toList.take s.size = s.data.toList := List.take_of_length_le (by simp)
      rw [hfull] at hn
      have HF := Lib.hid hn
      clear hn hfull
      go_wp2
      go_ret
      exact ⟨by rw [HF.out]; rfl, rfl⟩

/-- Why a text is no name. -/
def checkL (xs : List UInt8) : Int :=
  if xs = [] ∨ hasB xs 0 = true ∨ hasB xs 47 = true ∨ xs = [46] ∨ xs = [46, 46] then 22 else if 24 < xs.length then 63 else 0
/-- Why a text is no link's. -/
def targetL (xs : List UInt8) : Int :=
  if xs = [] ∨ hasB xs 0 = true then 22 else if 48 < xs.length then 63 else 0

theorem checkL_bad {xs : List UInt8} (h : xs = [] ∨ hasB xs 0 = true ∨ hasB xs 47 = true ∨ xs = [46] ∨ xs = [46, 46]) : checkL xs = 22 := if_pos h
theorem checkL_long {xs : List UInt8} (h : ¬ (xs = [] ∨ hasB xs 0 = true ∨ hasB xs 47 = true ∨ xs = [46] ∨ xs = [46, 46])) (hl : 24 < xs.length) : checkL xs = 63 := by unfold checkL; rw [if_neg h, if_pos hl]
theorem checkL_ok {xs : List UInt8} (h : ¬ (xs = [] ∨ hasB xs 0 = true ∨ hasB xs 47 = true ∨ xs = [46] ∨ xs = [46, 46])) (hl : xs.length ≤ 24) : checkL xs = 0 := by unfold checkL; rw [if_neg h, if_neg (by omega)]

theorem mhas_int (s : ByteArray) (c : Int) (w : World) (hs : s.size ≤ 9223372036854775807) (h0 : 0 ≤ c) (h1 : c < 256) :
    Calls Tryd.prog 23 #[.string s, .int .u8 c] w fun e w' => e = .returned (.bool (hasB s.data.toList c.toNat.toUInt8)) ∧ w = w' := by
  have e : ((c.toNat.toUInt8).toNat : Int) = c := by
    have : (c.toNat.toUInt8).toNat = c.toNat % 256 := by simp
    omega
  have := mhas_eq s c.toNat.toUInt8 w hs
  rw [e] at this
  exact this

set_option maxRecDepth 100000 in
theorem mCheck_eq (s : ByteArray) (w : World) (hs : s.size ≤ 9223372036854775807) :
    Calls Tryd.prog 10 #[.string s] w fun e w' => e = .returned (.int .i64 (checkL s.data.toList)) ∧ w = w' := by
  have H := Lib.hid (fun c => mhas_int s c w hs)
  have hsl : s.data.toList.length = s.size := by simp
  have htl : s.toList = s.data.toList := Lib.toList_data s
  obtain ⟨xs, hxs⟩ : ∃ xs, xs = s.data.toList := ⟨_, rfl⟩
  have HX := Lib.hid (And.intro hsl (And.intro htl hxs))
  rw [← hxs]
  clear hsl htl hxs
  go_enter Tryd.func10, Tryd.ntmps10
  go_wp2_with (go_at_call 23; go_must (refine (H.out _ (by decide) (by decide)).mono ?_); rintro e w1 ⟨rfl, rfl⟩)
  all_goals go_ret
  all_goals refine ⟨?_, rfl⟩
  all_goals obtain ⟨hsl, htl, hxs⟩ := HX.out
  all_goals simp only [htl, ← hxs] at *
  all_goals first
    | (refine congrArg (fun z => Ending.returned (.int .i64 z)) (checkL_bad ?_).symm; simp_all; done)
    | (refine congrArg (fun z => Ending.returned (.int .i64 z)) (checkL_long ?_ ?_).symm <;> (simp_all; try omega); done)
    | (refine congrArg (fun z => Ending.returned (.int .i64 z)) (checkL_ok ?_ ?_).symm <;> (simp_all; try omega); done)
    | trace_state
end Go.Proofs.YteijcfmgaljjaaaDoor
