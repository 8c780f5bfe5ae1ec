/- Messages: what is read whole may be; no function of the program is named here. -/
import Derived.Test.YtimbcombhdgjiaaDoorMa
namespace Go.Proofs.YtimbcombhdgjiaaDoor
open Go.RowKit

theorem mgGet_ok {s : ByteArray} (h : (mgGet s).2 = 0) (h2 : (mgGet s).1.ans = true ∨ (mgGet s).1.accept = 0) : okMg (mgGet s).1 = true := by
  unfold mgGet at h h2 ⊢
  by_cases k1 : 2048 < s.size
  · rw [if_pos k1] at h; cases h
  rw [if_neg k1] at h h2 ⊢
  by_cases k2 : atW s 1 ≠ 0 ∧ atW s 1 ≠ 1
  · rw [if_pos k2] at h; cases h
  rw [if_neg k2] at h h2 ⊢
  by_cases a1 : atW s 1 = 1
  · rw [if_pos a1] at h h2 ⊢
    by_cases k3 : atW s 2 ≠ 0 ∨ atW s 3 < 0 ∨ 1 < atW s 3 ∨ atW s 4 ≠ 0 ∨ atW s 5 < 0
    · rw [if_pos k3] at h; cases h
    rw [if_neg k3] at h h2 ⊢
    by_cases hok : okMg { Mg.zero with xid := atW s 0, ans := true, again := decide (atW s 3 = 1), accept := atW s 5, body := s.extract 24 s.size } = true
    · rw [if_pos hok]; exact hok
    · rw [if_neg hok] at h; cases h
  · rw [if_neg a1] at h h2 ⊢
    by_cases k3 : atW s 2 ≠ 2 ∨ atW s 3 < 0
    · rw [if_pos k3] at h; cases h
    rw [if_neg k3] at h h2 ⊢
    by_cases k4 : atW s 3 ≠ 100003
    · rw [if_pos k4] at h2; rcases h2 with h2 | h2 <;> cases h2
    rw [if_neg k4] at h h2 ⊢
    by_cases k5 : atW s 4 < 0
    · rw [if_pos k5] at h; cases h
    rw [if_neg k5] at h h2 ⊢
    by_cases k6 : atW s 4 ≠ 3
    · rw [if_pos k6] at h2; rcases h2 with h2 | h2 <;> cases h2
    rw [if_neg k6] at h h2 ⊢
    by_cases k7 : atW s 13 < 0
    · rw [if_pos k7] at h; cases h
    rw [if_neg k7] at h h2 ⊢
    by_cases k8 : 21 < atW s 5
    · rw [if_pos k8] at h2; rcases h2 with h2 | h2 <;> cases h2
    rw [if_neg k8] at h h2 ⊢
    by_cases k9 : atW s 6 ≠ 1 ∨ atW s 7 ≠ 16 ∨ atW s 12 ≠ 0 ∨ atW s 13 ≠ 0 ∨ okOwner (atW s 8) (atW s 9) (atW s 10) (atW s 11) = false ∨ s.size % 4 ≠ 0
    · rw [if_pos k9] at h2; rcases h2 with h2 | h2 <;> cases h2
    rw [if_neg k9]
    have hs := atW_there (s := s) (i := 13) (by omega)
    have ge : ∀ i, i ≤ 13 → 0 ≤ atW s i := by
      intro i hi
      unfold atW
      rw [if_neg (by omega)]
      omega
    simp only [not_or, Decidable.not_not, Bool.not_eq_false] at k9
    obtain ⟨_, _, _, _, ho, hm⟩ := k9
    rw [okMg_call rfl]
    have x := ge 0 (by omega)
    have y := (atW_range s 0).2
    have p := ge 5 (by omega)
    have hz : (s.extract 56 s.size).size = s.size - 56 := by rw [ByteArray.size_extract]; omega
    refine ⟨⟨x, y⟩, ?_, ?_, ⟨p, by show atW s 5 ≤ 21; omega⟩, ho, rfl, rfl⟩
    · show (s.extract 56 s.size).size % 4 = 0
      rw [hz]; omega
    · show (s.extract 56 s.size).size ≤ 1992
      rw [hz]; omega
end Go.Proofs.YtimbcombhdgjiaaDoor
