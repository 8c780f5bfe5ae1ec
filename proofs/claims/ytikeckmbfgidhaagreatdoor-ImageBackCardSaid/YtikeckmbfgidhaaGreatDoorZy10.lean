/- Several texts in one: Dg Dh. -/
import Derived.BigRegion
import Derived.Test.YtikeckmbfgidhaaGreatDoorZy09
/- The reference's disk: Barrier. -/
namespace Go.Proofs.YtikeckmbfgidhaaGreatDoor
open Go.RowKit

theorem DS.burnt_eqs (D : DS) : D.burnt.wait = D.wait ∧ D.burnt.wr = D.wr ∧ D.burnt.kept = D.kept ∧ D.burnt.br = D.br := by
  unfold DS.burnt
  split
  · exact ⟨rfl, rfl, rfl, rfl⟩
  · split <;> exact ⟨rfl, rfl, rfl, rfl⟩
theorem keepAll_at (K : List ByteArray) (l : List (Nat × ByteArray)) (k : Nat) (x : Nat × ByteArray) (h : l[k]? = some x) : keepAll K (l.take (k + 1)) = (keepAll K (l.take k)).set x.1 x.2 := by
  obtain ⟨hk, rfl⟩ := List.getElem?_eq_some_iff.1 h
  rw [List.take_succ_eq_append_getElem hk]
  exact keepAll_snoc K _ _

end Go.Proofs.YtikeckmbfgidhaaGreatDoor

/- The reference's disk: Barrier, whatever comes; Crash. -/
namespace Go.Proofs.YtikeckmbfgidhaaGreatDoor
open Go.RowKit

theorem chosen_at (keep : List Int) (l : List (Nat × ByteArray)) (k : Nat) (x : Nat × ByteArray) (h : l[k]? = some x) : chosen keep (l.take (k + 1)) 0 = chosen keep (l.take k) 0 ++ (if (k : Int) ∈ keep then [x] else []) := by
  obtain ⟨hk, rfl⟩ := List.getElem?_eq_some_iff.1 h
  rw [List.take_succ_eq_append_getElem hk, chosen_snoc]
  have : (l.take k).length = k := by rw [List.length_take]; omega
  rw [this, Nat.zero_add]
/-- What is kept when so many of the places were asked. -/
def someKept (K : List ByteArray) (k : Nat) (x : Nat × ByteArray) (ks : List Int) : List ByteArray := if (k : Int) ∈ ks then K.set x.1 x.2 else K
theorem someKept_nil (K : List ByteArray) (k : Nat) (x : Nat × ByteArray) : someKept K k x [] = K := by unfold someKept; rw [if_neg (by simp)]
theorem someKept_yes (K : List ByteArray) (k : Nat) (x : Nat × ByteArray) (ks : List Int) : (someKept K k x ks).set x.1 x.2 = someKept K k x (ks ++ [(k : Int)]) := by
  unfold someKept
  rw [if_pos (by simp : (k : Int) ∈ ks ++ [(k : Int)])]
  split
  · rw [List.set_set]
  · rfl
theorem someKept_no (K : List ByteArray) (k : Nat) (x : Nat × ByteArray) (ks : List Int) (y : Int) (h : y ≠ k) : someKept K k x ks = someKept K k x (ks ++ [y]) := by
  unfold someKept
  have : (k : Int) ∈ ks ++ [y] ↔ (k : Int) ∈ ks := by
    constructor
    · intro hh
      rcases List.mem_append.1 hh with hh | hh
      · exact hh
      · simp at hh; exact absurd hh.symm h
    · intro hh; exact List.mem_append.2 (.inl hh)
  by_cases hk : (k : Int) ∈ ks
  · rw [if_pos hk, if_pos (this.2 hk)]
  · rw [if_neg hk, if_neg (fun e => hk (this.1 e))]
theorem someKept_length (K : List ByteArray) (k : Nat) (x : Nat × ByteArray) (ks : List Int) : (someKept K k x ks).length = K.length := by
  unfold someKept
  split
  · rw [List.length_set]
  · rfl
theorem someKept_all (K0 : List ByteArray) (keep : List Int) (l : List (Nat × ByteArray)) (k : Nat) (x : Nat × ByteArray) (h : l[k]? = some x) : someKept (keepAll K0 (chosen keep (l.take k) 0)) k x keep = keepAll K0 (chosen keep (l.take (k + 1)) 0) := by
  rw [chosen_at keep l k x h]
  unfold someKept
  split
  · rw [keepAll_snoc]
  · rw [List.append_nil]
theorem take_at (l : List Int) (j : Nat) (y : Int) (h : l[j]? = some y) : l.take (j + 1) = l.take j ++ [y] := by
  obtain ⟨hk, rfl⟩ := List.getElem?_eq_some_iff.1 h
  exact List.take_succ_eq_append_getElem hk
end Go.Proofs.YtikeckmbfgidhaaGreatDoor
