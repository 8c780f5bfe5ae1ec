/- Names: the program's check of a text of whatever length. -/
import Derived.Test.YteijcfmgaljjaaaDoorNd
namespace Go.Proofs.YteijcfmgaljjaaaDoor
open Go.RowKit

set_option maxRecDepth 100000 in
set_option maxHeartbeats 1000000 in
theorem indexAny_far (s c : ByteArray) (hc : c = ⟨#[0, 47]⟩) (h8 : 8 < s.size) (hs : s.size ≤ 9223372036854775807) (w : World) :
    Calls Tryd.prog 36 #[.string s, .string c] w fun e w' => (∃ z : Int, e = .returned (.int .i64 z) ∧ (0 ≤ z ↔ (hasB s.data.toList 0 || hasB s.data.toList 47) = true)) ∧ Below w.heap.size w w' := by
  have hcd : c.data.toList = [0, 47] := by rw [hc]
  have hM := Tryd.strings_makeASCIISet zeroSet c w (by rw [hc]; decide) (by
    intro j b hb
    rw [hcd] at hb
    match j, hb with
    | 0, hb => cases hb; decide
    | 1, hb => cases hb; decide)
  have hemp : c.toList.isEmpty = false := by rw [hc]; decide +kernel
  have hsz : c.size = 2 := by rw [hc]; rfl
  have h8z : decide ((8 : Int) < (s.size : Int)) = true := by simp; omega
  obtain ⟨cs, hcs⟩ : ∃ cs, cs = Lib.setCells c.data.toList := ⟨_, rfl⟩
  have hcsz : cs.size = 256 := by rw [hcs]; exact Lib.setCells_size _
  have hcs1 := Lib.setCells_one c.data.toList
  have hat : ∀ x : UInt8, ((w.alloc (.cells cs 71)).alloc (.cells cs 71)).cell? ⟨w.heap.size + 1, x.toNat, none⟩ = some (.bool ([0, 47].contains x)) := fun x => by
    rw [World.cell?_alloc_at _ _ _ _ (by simp), hcs, Lib.setCells_at, hcd]
  rw [← hcs] at hM hcs1
  have hi116 : (Tryd.prog.info? 71).map (·.size) = some 256 := by kernel_rfl
  have hst : (storeCells ⟨w.heap.size + 1, 0, none⟩ cs.toList 0).run Tryd.prog ((w.alloc (.cells cs 71)).alloc (.cells (Array.replicate 256 (.bool false)) 71)) = .ok () ((w.alloc (.cells cs 71)).alloc (.cells cs 71)) := by
    have := run_storeCells_new (P := Tryd.prog) (w.alloc (.cells cs 71)) 71 (Array.replicate 256 (.bool false)) cs (by rw [hcsz]; exact hi116) (by rw [hcsz, Array.size_replicate]) hcs1
    simpa using this
  have HM := Lib.hid hM
  have HAT := Lib.hid hat
  have hzv := zeroSet
  clear hc hcd hcs hcs1 hM hat
  go_enter Tryd.func36, Tryd.ntmps36
  go_wp2_with (first | (go_at_call 44; go_must (refine (Tryd.strings_shouldUseASCIISet _ _).mono ?_); rintro e w1 ⟨rfl, rfl⟩; rw [h8z]) | (go_at_call 45; go_must (refine HM.out.mono ?_); rintro e w2 ⟨rfl, rfl⟩))
  obtain ⟨W0, hW0⟩ : ∃ W0, W0 = (w1.alloc (.cells cs 71)).alloc (.cells cs 71) := ⟨_, rfl⟩
  have hB0 : Below w1.heap.size w1 W0 := by rw [hW0]; exact ((Below.refl _ w1).alloc (Nat.le_refl _) _).alloc (by simp) _
  have HAT2 := Lib.hid (show ∀ x : UInt8, W0.cell? ⟨w1.heap.size + 1, x.toNat, none⟩ = some (.bool ([0, 47].contains x)) from fun x => by rw [hW0]; exact HAT.out x)
  rw [← hW0]
  clear hW0 hst
  go_loopw [8] (fun v wr => ∃ i : Nat, i ≤ s.size ∧ v = .int .i64 i ∧ NoTwo s i ∧ wr = W0) (fun v _ => s.size - (intOf v).toNat)
  case atStart => exact ⟨0, Nat.zero_le _, rfl, fun j _ h => absurd h (Nat.not_lt_zero _), rfl⟩
  case round =>
    obtain ⟨i, hi, rfl, hno, rfl⟩ := hrel
    have HN := Lib.hid hno
    clear hno
    by_cases hlt : i < s.size
    · have hb0 : (0 : Int) ≤ (i : Int) := by omega
      have hb1 : (i : Int) < (s.size : Int) := by omega
      have hdl : decide ((i : Int) < (s.size : Int)) = true := by simpa using hlt
      have hw1 : IntKind.i64.wrap ((i : Int) + 1) = (i : Int) + 1 := by rw [IntKind.wrap_i64]; omega
      obtain ⟨x, hx⟩ : ∃ x, s[i]'hlt = x := ⟨_, rfl⟩
      have hcx := HAT2.out x
      have HX := Lib.hid hx
      cases hin : [0, 47].contains x with
      | true =>
        have HIN := Lib.hid hin
        rw [hin] at hcx
        clear hin
        go_wp2_with fail
        go_must (refine (Tryd.asciiSet_contains _ x _ _ hcx).mono ?_)
        rintro e w3 ⟨rfl, rfl⟩
        go_wp2_with fail
        go_ret
        refine ⟨⟨_, rfl, ?_⟩, hB0⟩
        have h3 : s[i]'hlt = 0 ∨ s[i]'hlt = 47 := by
          rw [HX.out]
          simpa using HIN.out
        exact ⟨fun _ => two_true hlt h3, fun _ => by omega⟩
      | false =>
        have HIN := Lib.hid hin
        rw [hin] at hcx
        clear hin
        go_wp2_with fail
        go_must (refine (Tryd.asciiSet_contains _ x _ _ hcx).mono ?_)
        rintro e w3 ⟨rfl, rfl⟩
        go_wp2_with fail
        go_roundw
        case rel =>
          refine ⟨i + 1, by omega, by go_num, ?_, trivial⟩
          intro j hj hjl
          by_cases hji : j = i
          · subst hji
            rw [HX.out]
            simpa using HIN.out
          · exact HN.out j hj (by omega)
        case measure => simp [intOf]; omega
    · obtain rfl : i = s.size := by omega
      have hdl : decide ((s.size : Int) < (s.size : Int)) = false := by simp
      go_wp2_with fail
      go_ret
      refine ⟨⟨_, rfl, ?_⟩, hB0⟩
      rw [two_false HN.out]
      exact ⟨fun h => absurd h (by decide), fun h => by cases h⟩

theorem indexAny_all (s c : ByteArray) (hc : c = ⟨#[0, 47]⟩) (hs : s.size ≤ 9223372036854775807) (w : World) :
    Calls Tryd.prog 36 #[.string s, .string c] w fun e w' => (∃ z : Int, e = .returned (.int .i64 z) ∧ (0 ≤ z ↔ (hasB s.data.toList 0 || hasB s.data.toList 47) = true)) ∧ Below w.heap.size w w' := by
  by_cases h8 : s.size ≤ 8
  · exact indexAny_short s c hc h8 w
  · exact indexAny_far s c hc (by omega) hs w

set_option maxRecDepth 100000 in
theorem containsAny_all (s c : ByteArray) (hc : c = ⟨#[0, 47]⟩) (hs : s.size ≤ 9223372036854775807) (w : World) :
    Calls Tryd.prog 21 #[.string s, .string c] w fun e w' => e = .returned (.bool (hasB s.data.toList 0 || hasB s.data.toList 47)) ∧ Below w.heap.size w w' := by
  have HI := Lib.hid (indexAny_all s c hc hs w)
  obtain ⟨b, hb⟩ : ∃ b, b = (hasB s.data.toList 0 || hasB s.data.toList 47) := ⟨_, rfl⟩
  rw [← hb] at HI ⊢
  clear hc hb
  go_enter Tryd.func21, Tryd.ntmps21
  go_wp2_with fail
  go_must (refine HI.out.mono ?_)
  rintro e w2 ⟨⟨z, rfl, hz⟩, hb2⟩
  cases b with
  | true =>
    have hd : decide (z ≥ 0) = true := by simpa using hz.2 rfl
    go_wp2_with fail
    go_ret
    exact ⟨rfl, hb2⟩
  | false =>
    have hd : decide (z ≥ 0) = false := by
      rw [decide_eq_false_iff_not]
      intro h
      have := hz.1 h
      cases this
    go_wp2_with fail
    go_ret
    exact ⟨rfl, hb2⟩

set_option maxRecDepth 100000 in
theorem nCheck_all (s : ByteArray) (w : World) (hs : s.size ≤ 9223372036854775807) :
    Calls Tryd.prog 9 #[.string s] w fun e w' => e = .returned (.int .i64 (checkL s.data.toList)) ∧ Below w.heap.size w w' := by
  have H := Lib.hid (containsAny_all s ⟨#[0, 47]⟩ rfl hs w)
  have hsl : s.data.toList.length = s.size := by simp
  have htl : s.toList = s.data.toList := Lib.toList_data s
  obtain ⟨xs, hxs⟩ : ∃ xs, xs = s.data.toList := ⟨_, rfl⟩
  have HX := Lib.hid (And.intro hsl (And.intro htl hxs))
  rw [← hxs]
  clear hsl htl hxs
  go_enter Tryd.func9, Tryd.ntmps9
  go_wp2_with (first | (go_at_call 21; go_must (refine H.out.mono ?_); rintro e w1 ⟨rfl, hb⟩) | go_in)
  all_goals go_ret
  all_goals refine ⟨?_, (by first | exact hb | exact Below.refl _ _)⟩
  all_goals obtain ⟨hsl, htl, hxs⟩ := HX.out
  all_goals simp only [htl, ← hxs] at *
  all_goals first
    | (refine congrArg (fun z => Ending.returned (.int .i64 z)) (checkL_bad ?_).symm; simp_all; done)
    | (refine congrArg (fun z => Ending.returned (.int .i64 z)) (checkL_long ?_ ?_).symm <;> (simp_all; try omega); done)
    | (refine congrArg (fun z => Ending.returned (.int .i64 z)) (checkL_ok ?_ ?_).symm <;> (simp_all; try omega); done)
    | trace_state

end Go.Proofs.YteijcfmgaljjaaaDoor
