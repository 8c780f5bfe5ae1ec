/- The reference's reader. -/
import Derived.Test.YtimbcombhdgjiaaNm
import Derived.Test.YtimbcombhdgjiaaRu
import Derived.Deep.RegionHeld3
import Derived.Deep.QuietTactic
import Derived.BigQuiet
import Derived.IntWalk
namespace Go.Proofs.Ytimbcombhdgjiaa
open Go.RowKit
set_option linter.unusedSimpArgs false
set_option linter.unusedVariables false

theorem num_first8 (b : UInt8) (xs : List UInt8) (h : xs.length = 7) : 9223372036854775807 < num (b :: xs) ↔ 127 < b.toNat := by
  rw [num_cons, h]
  have := num_lt xs
  rw [h] at this
  have hb : b.toNat < 256 := b.toNat_lt
  omega

/-- The bytes of the rest are those of the text from the place on. -/
theorem rest_get {S rest : ByteArray} {p i : Nat} (hr : rest = S.extract p S.size) (hi : p + i < S.size) : rest.data.toList[i]? = some (S[p + i]'hi) := by
  have e : rest.data.toList = S.data.toList.drop p := by
    rw [hr]
    simp [ByteArray.data_extract]
    exact List.take_of_length_le (by simp)
  rw [e, List.getElem?_drop, Array.getElem?_toList]
  exact Array.getElem?_eq_getElem hi


theorem first_take (s : ByteArray) (n : Nat) : (s.extract 0 n).data.toList = s.data.toList.take n := by simp [ByteArray.data_extract]
theorem rest_next {S rest : ByteArray} {p n : Nat} (hr : rest = S.extract p S.size) : rest.extract n rest.size = S.extract (p + n) S.size := by
  rw [hr]
  apply ByteArray.ext
  apply Array.toList_inj.1
  rw [ByteArray.size_extract]
  simp [ByteArray.data_extract, Array.extract_extract]
  omega

/-- Draws leave a reader as it was. -/
theorem Keep.drewN {k : Nat} {r : Option Nat} {w w' : World} (h : Keep k r w w') (n : Nat) : Keep k r w (w'.drewN n) := ⟨h.os, h.tape, h.output, h.size, h.block⟩

theorem head_take {S rest : ByteArray} {p : Nat} {b0 : UInt8} (hr : rest = S.extract p S.size) (hp : p < S.size) (hb : b0 = S[p]'hp) (i : Nat) (h1 : 0 < i) (h2 : i ≤ S.size - p) : ∃ tl : List UInt8, rest.data.toList.take i = b0 :: tl ∧ tl.length = i - 1 := by
  have hg := rest_get (i := 0) hr (by omega)
  have hlen : rest.data.toList.length = S.size - p := by rw [len_data, hr, ByteArray.size_extract]; omega
  cases hl : rest.data.toList with
  | nil => rw [hl] at hg; simp at hg
  | cons a tl =>
    rw [hl] at hg hlen
    obtain ⟨j, rfl⟩ : ∃ j, i = j + 1 := ⟨i - 1, by omega⟩
    refine ⟨tl.take j, ?_, ?_⟩
    · rw [List.take_succ_cons]
      congr 1
      simp at hg
      rw [hb]; exact hg
    · rw [List.length_take]
      simp at hlen
      omega

end Go.Proofs.Ytimbcombhdgjiaa
