/- Plain definitions: what places are (numbers: 1, 2, 3), and what becomes of them. No function of the program is named here. -/
import Derived.Test.YtokchikihacalaaFr
namespace Go.Proofs.Ytokchikihacalaa
open Go.RowKit

theorem take_succ_at {α : Type} (xs : List α) (k : Nat) (x : α) (h : xs[k]? = some x) : xs.take (k + 1) = xs.take k ++ [x] := by
  obtain ⟨hk, rfl⟩ := List.getElem?_eq_some_iff.1 h
  rw [List.take_succ_eq_append_getElem hk]
theorem count_at (k : Int) (xs : List Int) (i : Nat) (x : Int) (h : xs[i]? = some x) : (xs.take (i + 1)).count k = (xs.take i).count k + (if x = k then 1 else 0) := by
  rw [take_succ_at xs i x h, List.count_append]
  congr 1
  by_cases e : x = k
  · subst e; simp
  · rw [if_neg e]; simp [e]
theorem count_le (k : Int) (xs : List Int) : xs.count k ≤ xs.length := List.count_le_length

/-- The first place that is k; below nought: there is none. -/
def lea (k : Int) (xs : List Int) : Int := if k ∈ xs then (xs.idxOf k : Int) else -1
theorem lea_at (k : Int) (xs : List Int) (i : Nat) (h : xs[i]? = some k) (hn : k ∉ xs.take i) : lea k xs = i := by
  have hm : k ∈ xs := List.mem_of_getElem? h
  obtain ⟨hi, e⟩ := List.getElem?_eq_some_iff.1 h
  unfold lea
  rw [if_pos hm]
  have e2 : xs = xs.take i ++ k :: xs.drop (i + 1) := by
    have := List.take_append_drop i xs
    rw [List.drop_eq_getElem_cons hi, e] at this
    exact this.symm
  rw [e2, List.idxOf_append]
  rw [if_neg hn]
  simp only [List.idxOf_cons_self]
  rw [List.length_take]
  omega
theorem lea_none (k : Int) (xs : List Int) (hn : k ∉ xs) : lea k xs = -1 := by unfold lea; rw [if_neg hn]
theorem lea_cases (k : Int) (xs : List Int) : (lea k xs = -1 ∧ k ∉ xs) ∨ ∃ i : Nat, lea k xs = i ∧ i < xs.length ∧ xs[i]? = some k := by
  by_cases h : k ∈ xs
  · right
    have hi := List.idxOf_lt_length_of_mem h
    refine ⟨xs.idxOf k, by unfold lea; rw [if_pos h], hi, ?_⟩
    rw [List.getElem?_eq_getElem hi, List.getElem_idxOf]
  · exact .inl ⟨lea_none k xs h, h⟩
theorem notMem_succ (k : Int) (xs : List Int) (i : Nat) (x : Int) (h : xs[i]? = some x) (hn : k ∉ xs.take i) (hx : x ≠ k) : k ∉ xs.take (i + 1) := by
  rw [take_succ_at xs i x h]
  simp only [List.mem_append, List.mem_singleton, not_or]
  exact ⟨hn, fun e => hx e.symm⟩

/-- Is a place k? -/
def isAt (xs : List Int) (i k : Int) : Bool := decide (0 ≤ i) && decide (i < xs.length) && decide (xs.getD i.toNat 0 = k)
/-- What waits is free then. -/
def settled (x : Int) : Int := if x = 3 then 1 else x
def setl (k : Nat) (xs : List Int) : List Int := (xs.take k).map settled ++ xs.drop k
theorem setl_zero (xs : List Int) : setl 0 xs = xs := by simp [setl]
theorem setl_all (xs : List Int) : setl xs.length xs = xs.map settled := by simp [setl]
theorem setl_length (k : Nat) (xs : List Int) : (setl k xs).length = xs.length := by simp [setl]; omega
theorem setl_at (k : Nat) (xs : List Int) : (setl k xs)[k]? = xs[k]? := by
  unfold setl
  by_cases h : k < xs.length
  · rw [List.getElem?_append_right (by simp; omega)]
    simp only [List.length_map, List.length_take]
    rw [Nat.min_eq_left (by omega), Nat.sub_self, List.getElem?_drop, Nat.add_zero]
  · rw [List.getElem?_eq_none (by simp; omega), List.getElem?_eq_none (by omega)]
theorem setl_succ (k : Nat) (xs : List Int) (x : Int) (h : xs[k]? = some x) : setl (k + 1) xs = (setl k xs).set k (settled x) := by
  obtain ⟨hk, e⟩ := List.getElem?_eq_some_iff.1 h
  unfold setl
  rw [take_succ_at xs k x h, List.map_append, List.set_append_right _ _ (by simp; omega)]
  simp only [List.length_map, List.length_take, Nat.min_eq_left (Nat.le_of_lt hk), Nat.sub_self, List.map_cons, List.map_nil, List.append_assoc, List.singleton_append]
  rw [List.drop_eq_getElem_cons hk]
  rfl
theorem setl_other (k : Nat) (xs : List Int) (x : Int) (h : xs[k]? = some x) (hx : x ≠ 3) : setl (k + 1) xs = setl k xs := by
  rw [setl_succ k xs x h]
  have e : (setl k xs)[k]? = some (settled x) := by rw [setl_at, h]; unfold settled; rw [if_neg hx]
  obtain ⟨h1, h2⟩ := List.getElem?_eq_some_iff.1 e
  rw [← h2, List.set_getElem_self]

/-- A step. -/
structure GS where
  kind : Int
  i : Int
/-- What places are then, and what is answered. -/
def gdo (xs : List Int) (x : GS) : List Int × Int × Bool :=
  if x.kind = 1 then (if isAt xs x.i 1 then (xs.set x.i.toNat 2, 0, true) else (xs, 0, false))
  else if x.kind = 2 then (if isAt xs x.i 2 then (xs.set x.i.toNat 3, 0, true) else (xs, 0, false))
  else if x.kind = 3 then (xs.map settled, (xs.count 3 : Int), true)
  else if lea 1 xs < 0 then (xs, 0, false) else (xs.set (lea 1 xs).toNat 2, lea 1 xs, true)
theorem gdo_length (xs : List Int) (x : GS) : (gdo xs x).1.length = xs.length := by
  unfold gdo
  repeat' split
  all_goals simp
/-- Places are free, used, or wait. -/
def gok (xs : List Int) : Prop := ∀ x ∈ xs, x = 1 ∨ x = 2 ∨ x = 3
theorem gok_set (xs : List Int) (h : gok xs) (i : Nat) (v : Int) (hv : v = 1 ∨ v = 2 ∨ v = 3) : gok (xs.set i v) := by
  intro x hx
  rcases List.mem_or_eq_of_mem_set hx with h1 | h1
  · exact h x h1
  · subst h1; exact hv
theorem gok_settled (xs : List Int) (h : gok xs) : gok (xs.map settled) := by
  intro x hx
  obtain ⟨y, hy, rfl⟩ := List.mem_map.1 hx
  unfold settled
  split
  · exact .inl rfl
  · exact h y hy
theorem gok_do (xs : List Int) (h : gok xs) (x : GS) : gok (gdo xs x).1 := by
  unfold gdo
  repeat' split
  all_goals first | exact h | exact gok_settled xs h | exact gok_set xs h _ _ (by omega)
theorem gok_new (n : Nat) : gok (List.replicate n 1) := fun _ hx => .inl (List.eq_of_mem_replicate hx)
end Go.Proofs.Ytokchikihacalaa
