/- Names: the pieces of a path, byte by byte; the reference's Split. -/
import Derived.Test.YteijcfmgaljjaaaDoorNg
namespace Go.Proofs.YteijcfmgaljjaaaDoor
open Go.RowKit

/-- The spans of the pieces from a place on, where the last slash lay ahead of 'from'. -/
def spansB (s : ByteArray) : Nat → Nat → Nat → List (Nat × Nat) → List (Nat × Nat)
  | 0, i, b, acc => if b < i then acc ++ [(b, i)] else acc
  | f + 1, i, b, acc =>
    if h : i < s.size then
      (if s[i]'h = 47 then spansB s f (i + 1) (i + 1) (if b < i then acc ++ [(b, i)] else acc) else spansB s f (i + 1) b acc)
    else (if b < i then acc ++ [(b, i)] else acc)
def splitB (s : ByteArray) : List ByteArray := (spansB s s.size 0 0 []).map fun x => s.extract x.1 x.2
theorem spansB_run (s : ByteArray) : ∀ (k g i b : Nat) (acc : List (Nat × Nat)), (∀ j, j < k → ∃ h : i + j < s.size, s[i + j]'h ≠ 47) → spansB s (g + k) i b acc = spansB s g (i + k) b acc
  | 0, g, i, b, acc, _ => rfl
  | k + 1, g, i, b, acc, h => by
    obtain ⟨h0, h1⟩ := h 0 (by omega)
    simp only [Nat.add_zero] at h0 h1
    have e : spansB s (g + (k + 1)) i b acc = spansB s (g + k) (i + 1) b acc := by
      show spansB s ((g + k) + 1) i b acc = _
      simp only [spansB]
      rw [dif_pos h0, if_neg h1]
    rw [e, spansB_run s k g (i + 1) b acc (fun j hj => by
      obtain ⟨a, c⟩ := h (j + 1) (by omega)
      have e : i + (j + 1) = i + 1 + j := by omega
      exact ⟨by omega, by simpa only [e] using c⟩), show i + 1 + k = i + (k + 1) by omega]
theorem spansB_end (s : ByteArray) (g i b : Nat) (acc : List (Nat × Nat)) (h : ¬ i < s.size) : spansB s g i b acc = if b < i then acc ++ [(b, i)] else acc := by
  cases g with
  | zero => rfl
  | succ g => simp only [spansB]; rw [dif_neg h]

theorem close_at (s : ByteArray) (i b : Nat) (acc : List (Nat × Nat)) (hi : i = s.size) : Lib.closeSpans s (acc, if b < i then some b else none) = if b < i then acc ++ [(b, i)] else acc := by
  by_cases hbi : b < i
  · rw [if_pos hbi, if_pos hbi, hi]; rfl
  · rw [if_neg hbi, if_neg hbi]; rfl
theorem spans_step (s : ByteArray) (f i b : Nat) (acc : List (Nat × Nat)) (hp : i < s.size) : Lib.spansFromP pSl s (f + 1) i (if b < i then some b else none) acc = if pSl (Utf8.decode s i).1 then Lib.spansFromP pSl s f (i + (Utf8.decode s i).2) none (if b < i then acc ++ [(b, i)] else acc) else Lib.spansFromP pSl s f (i + (Utf8.decode s i).2) (some (if b < i then b else i)) acc := by
  by_cases hbi : b < i
  · simp only [if_pos hbi, Lib.spansFromP, if_pos hp]
  · simp only [if_neg hbi, Lib.spansFromP, if_pos hp]
theorem spans_stop (s : ByteArray) (f i : Nat) (st : Option Nat) (acc : List (Nat × Nat)) (hp : ¬ i < s.size) : Lib.spansFromP pSl s f i st acc = (acc, st) := Lib.spansFromP_end pSl s f i st acc hp

theorem spans_same (s : ByteArray) : ∀ (f g i b : Nat) (acc : List (Nat × Nat)), s.size ≤ i + f → s.size = i + g → b ≤ i → Lib.closeSpans s (Lib.spansFromP pSl s f i (if b < i then some b else none) acc) = spansB s g i b acc
  | 0, g, i, b, acc, hf, hg, hb => by
    rw [spansB_end s g i b acc (by omega), spans_stop s 0 i _ acc (by omega)]
    exact close_at s i b acc (by omega)
  | f + 1, g, i, b, acc, hf, hg, hb => by
    by_cases hp : i < s.size
    · obtain ⟨g, rfl⟩ : ∃ m, g = m + 1 := ⟨g - 1, by omega⟩
      have hin := decode_in s i hp
      rw [spans_step s f i b acc hp]
      by_cases hsl : s[i]'hp = 47
      · have hd : Utf8.decode s i = (47, 1) := by
          have := decode_ascii s i hp (by rw [hsl]; decide)
          rw [this, hsl]
          rfl
        have e2 : spansB s (g + 1) i b acc = spansB s g (i + 1) (i + 1) (if b < i then acc ++ [(b, i)] else acc) := by
          simp only [spansB]
          rw [dif_pos hp, if_pos hsl]
        rw [hd, e2, if_pos (by decide)]
        have ih := spans_same s f g (i + 1) (i + 1) (if b < i then acc ++ [(b, i)] else acc) (by omega) (by omega) (Nat.le_refl _)
        rw [if_neg (Nat.lt_irrefl _)] at ih
        exact ih
      · have hr : pSl (Utf8.decode s i).1 = false := by
          unfold pSl
          apply decide_eq_false
          rcases decode_takes s i hp with ⟨h1, h2⟩ | ⟨h1, _⟩
          · rw [h2]
            intro h
            apply hsl
            apply UInt8.toNat_inj.1
            exact h
          · omega
        have hne : ∀ j, j < (Utf8.decode s i).2 → ∃ h : i + j < s.size, s[i + j]'h ≠ 47 := fun j hj => by
          refine ⟨by omega, ?_⟩
          rcases decode_takes s i hp with ⟨h1, h2⟩ | ⟨_, _, _, _, h2⟩
          · rw [h2] at hj
            obtain rfl : j = 0 := by dsimp only at hj; omega
            exact hsl
          · intro h
            have := h2 j hj (by omega)
            rw [h] at this
            exact absurd this (by decide)
        obtain ⟨g', hg'⟩ : ∃ g', g + 1 = g' + (Utf8.decode s i).2 := ⟨g + 1 - (Utf8.decode s i).2, by omega⟩
        rw [hg', spansB_run s _ g' i b acc hne, hr, if_neg (by simp)]
        have hbb : (if b < i then b else i) = b := by
          split
          · rfl
          · omega
        have ih := spans_same s f g' (i + (Utf8.decode s i).2) b acc (by omega) (by omega) (by omega)
        rw [if_pos (by omega)] at ih
        rw [hbb, ← ih]
    · rw [spansB_end s g i b acc hp, spans_stop s (f + 1) i _ acc hp]
      exact close_at s i b acc (by omega)
theorem split_same (s : ByteArray) : Lib.goFieldsP pSl s = splitB s := by
  unfold Lib.goFieldsP splitB Lib.spansOfP
  have := spans_same s s.size s.size 0 0 [] (by omega) (by omega) (Nat.le_refl _)
  rw [if_neg (Nat.lt_irrefl _)] at this
  rw [this]
end Go.Proofs.YteijcfmgaljjaaaDoor
