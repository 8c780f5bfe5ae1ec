/- Names: the program's Read. -/
import Derived.Test.YteijcfmgaljjaaaDoorNv
import Derived.Test.YteijcfmgaljjaaaDoorNk
import Derived.Test.YteijcfmgaljjaaaDoorNj
namespace Go.Proofs.YteijcfmgaljjaaaDoor
open Go.RowKit

/-- What Read answers. -/
def rdName (t : List UInt8) : ByteArray × Int :=
  if t = [37] then (⟨#[]⟩, 0)
  else match unesc t with
    | some v => if showB (str v) = t then (str v, 0) else (⟨#[]⟩, 40)
    | none => (⟨#[]⟩, 40)
theorem rdName_good {t : List UInt8} (h : (rdName t).2 = 0) : showB (rdName t).1 = t := by
  unfold rdName at h ⊢
  by_cases h1 : t = [37]
  · rw [if_pos h1, h1]; rfl
  · rw [if_neg h1] at h ⊢
    cases hu : unesc t with
    | none => rw [hu] at h; cases h
    | some v =>
      rw [hu] at h
      dsimp only at h ⊢
      by_cases h2 : showB (str v) = t
      · rw [if_pos h2]; exact h2
      · rw [if_neg h2] at h; cases h
theorem rdName_bad {t : List UInt8} (h : (rdName t).2 ≠ 0) : rdName t = (⟨#[]⟩, 40) := by
  unfold rdName at h ⊢
  by_cases h1 : t = [37]
  · rw [if_pos h1] at h; exact absurd rfl h
  · rw [if_neg h1] at h ⊢
    cases hu : unesc t with
    | none => rfl
    | some v =>
      rw [hu] at h
      dsimp only at h ⊢
      by_cases h2 : showB (str v) = t
      · rw [if_pos h2] at h; exact absurd rfl h
      · rw [if_neg h2]
theorem rdName_size (t : List UInt8) (n : Nat) (h : ∀ v, unesc t = some v → v.length ≤ n) : (rdName t).1.size ≤ n := by
  unfold rdName
  by_cases h1 : t = [37]
  · rw [if_pos h1]; exact Nat.zero_le _
  · rw [if_neg h1]
    cases hu : unesc t with
    | none => exact Nat.zero_le _
    | some v =>
      dsimp only
      split
      · rw [str_size]; exact h v hu
      · exact Nat.zero_le _

set_option maxRecDepth 100000 in
set_option maxHeartbeats 1000000 in
theorem nRead_at (t : ByteArray) (w : World) (hs : t.size ≤ 1073741824) (hT : Lib.Utf8Tabs 0 1 w) (h01 : 1 < w.heap.size) :
    Calls Tryd.prog 14 #[.string t] w fun e w' => (e = .returned (.tuple #[.string (rdName t.data.toList).1, .int .i64 (rdName t.data.toList).2]) ∧ (rdName t.data.toList).1.size ≤ t.size) ∧ Below w.heap.size w w' := by
  have htl : t.toList = t.data.toList := Lib.toList_data t
  have hsl : t.data.toList.length = t.size := by simp
  by_cases h37 : t.data.toList = [37]
  · have hr : rdName t.data.toList = (⟨#[]⟩, 0) := by unfold rdName; rw [if_pos h37]
    rw [hr]
    have hd : t.toList = [37] := by rw [htl, h37]
    clear htl hr h37
    go_enter Tryd.func14, Tryd.ntmps14
    go_wp2_with fail
    go_ret2
    exact ⟨⟨rfl, Nat.zero_le _⟩, Below.refl _ _⟩
  · have HU := Lib.hid (nunescaped_at t w hs)
    have hd : (t.toList == [37]) = false := by rw [htl]; simpa using h37
    have hd2 : ¬ t.toList = [37] := by rw [htl]; exact h37
    have hr : rdName t.data.toList = match unesc t.data.toList with
      | some v => if showB (str v) = t.data.toList then (str v, 0) else (⟨#[]⟩, 40)
      | none => (⟨#[]⟩, 40) := by unfold rdName; rw [if_neg h37]
    have HR := Lib.hid hr
    obtain ⟨rd, hrd⟩ : ∃ rd, rd = rdName t.data.toList := ⟨_, rfl⟩
    rw [← hrd] at HR ⊢
    have HTL := Lib.hid htl
    clear hrd hr htl h37
    go_enter Tryd.func14, Tryd.ntmps14
    go_wp2_with fail
    go_must (refine HU.out.mono ?_)
    rintro e w1 ⟨⟨u, b, rfl, hul, hub⟩, b1⟩
    rcases hub with ⟨rfl, hu⟩ | ⟨rfl, hu⟩
    · have hr := HR.out
      rw [hu] at hr
      dsimp only at hr
      have husz : (str u).size ≤ t.size := by rw [str_size]; exact hul
      have HS := Lib.hid (nShow_eq (str u) w1 (by omega) (tabs_below hT h01 b1) (by have := b1.size; omega))
      by_cases hsh : showB (str u) = t.data.toList
      · rw [if_pos hsh] at hr
        have hcmp : (!(⟨(showB (str u)).toArray⟩ : ByteArray).toList == t.toList) = false := by
          rw [Lib.toList_data, HTL.out]
          simp [hsh]
        obtain ⟨z, hz⟩ : ∃ z : ByteArray, z = ⟨(showB (str u)).toArray⟩ := ⟨_, rfl⟩
        obtain ⟨su, hsu⟩ : ∃ su, su = str u := ⟨_, rfl⟩
        rw [← hz] at HS hcmp
        rw [← hsu] at HS hr husz ⊢
        have HRR := Lib.hid hr
        clear hr hsh hz hu hsu
        go_wp2_with fail
        go_must (refine HS.out.mono ?_)
        rintro e w2 ⟨rfl, b2⟩
        have hz1 := b1.size
        go_wp2_with fail
        go_ret2
        exact ⟨⟨by rw [HRR.out]; rfl, by rw [HRR.out]; exact husz⟩, b1.trans (b2.mono (by omega))⟩
      · rw [if_neg hsh] at hr
        have hcmp : (!(⟨(showB (str u)).toArray⟩ : ByteArray).toList == t.toList) = true := by
          rw [Lib.toList_data, HTL.out]
          simp [hsh]
        obtain ⟨z, hz⟩ : ∃ z : ByteArray, z = ⟨(showB (str u)).toArray⟩ := ⟨_, rfl⟩
        obtain ⟨su, hsu⟩ : ∃ su, su = str u := ⟨_, rfl⟩
        rw [← hz] at HS hcmp
        rw [← hsu] at HS ⊢
        have HRR := Lib.hid hr
        clear hr hsh hz hu hsu
        go_wp2_with fail
        go_must (refine HS.out.mono ?_)
        rintro e w2 ⟨rfl, b2⟩
        have hz1 := b1.size
        go_wp2_with fail
        go_ret2
        exact ⟨⟨by rw [HRR.out]; rfl, by rw [HRR.out]; exact Nat.zero_le _⟩, b1.trans (b2.mono (by omega))⟩
    · have hr := HR.out
      rw [hu] at hr
      dsimp only at hr
      obtain ⟨su, hsu⟩ : ∃ su, su = str u := ⟨_, rfl⟩
      rw [← hsu]
      have HRR := Lib.hid hr
      clear hr hu hsu
      go_wp2_with fail
      go_ret2
      exact ⟨⟨by rw [HRR.out]; rfl, by rw [HRR.out]; exact Nat.zero_le _⟩, b1⟩
end Go.Proofs.YteijcfmgaljjaaaDoor
