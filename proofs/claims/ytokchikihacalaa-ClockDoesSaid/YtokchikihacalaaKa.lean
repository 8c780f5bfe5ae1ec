/- Plain definitions: keys in a row, marked or not, and what becomes of them. No function of the program is named here. -/
import Derived.Test.YtokchikihacalaaGa
namespace Go.Proofs.Ytokchikihacalaa
open Go.RowKit

section
variable {α : Type}
/-- The keys, in order. -/
def keys (l : List (α × Bool)) : List α := l.map (·.1)
theorem keys_at {l : List (α × Bool)} {i : Nat} {x : α × Bool} (h : l[i]? = some x) : (keys l)[i]? = some x.1 := by simp [keys, h]
theorem notMem_key (s : α) (l : List (α × Bool)) (i : Nat) (x : α × Bool) (h : l[i]? = some x) (hn : s ∉ (keys l).take i) (hx : x.1 ≠ s) : s ∉ (keys l).take (i + 1) := by
  rw [take_succ_at (keys l) i x.1 (keys_at h)]
  simp only [List.mem_append, List.mem_singleton, not_or]
  exact ⟨hn, fun e => hx e.symm⟩

section
variable [DecidableEq α]
/-- The place of a key; below nought: it is not there. -/
def plc (s : α) (l : List (α × Bool)) : Int := if s ∈ keys l then ((keys l).idxOf s : Int) else -1
theorem plc_at (s : α) (l : List (α × Bool)) (i : Nat) (x : α × Bool) (h : l[i]? = some x) (hx : x.1 = s) (hn : s ∉ (keys l).take i) : plc s l = i := by
  have hk := keys_at h
  rw [hx] at hk
  have hm : s ∈ keys l := List.mem_of_getElem? hk
  obtain ⟨hi, e⟩ := List.getElem?_eq_some_iff.1 hk
  unfold plc
  rw [if_pos hm]
  have e2 : keys l = (keys l).take i ++ s :: (keys l).drop (i + 1) := by
    have := List.take_append_drop i (keys l)
    rw [List.drop_eq_getElem_cons hi, e] at this
    exact this.symm
  rw [e2, List.idxOf_append, if_neg hn]
  simp only [List.idxOf_cons_self]
  rw [List.length_take]
  omega
theorem plc_none (s : α) (l : List (α × Bool)) (h : s ∉ keys l) : plc s l = -1 := by unfold plc; rw [if_neg h]
theorem plc_cases (s : α) (l : List (α × Bool)) : (plc s l = -1 ∧ s ∉ keys l) ∨ ∃ (i : Nat) (b : Bool), plc s l = i ∧ i < l.length ∧ l[i]? = some (s, b) := by
  by_cases h : s ∈ keys l
  · right
    have hi := List.idxOf_lt_length_of_mem h
    have hi2 : (keys l).idxOf s < l.length := by simpa [keys] using hi
    refine ⟨(keys l).idxOf s, (l[(keys l).idxOf s]).2, by unfold plc; rw [if_pos h], hi2, ?_⟩
    rw [List.getElem?_eq_getElem hi2]
    have : (l[(keys l).idxOf s]).1 = s := by
      have h1 := List.getElem_idxOf (xs := keys l) (x := s) hi
      simp only [keys, List.getElem_map] at h1
      simpa [keys] using h1
    exact congrArg some (Prod.ext this rfl)
  · exact .inl ⟨plc_none s l h, h⟩
theorem plc_nonneg (s : α) (l : List (α × Bool)) : 0 ≤ plc s l ↔ s ∈ keys l := by
  unfold plc
  by_cases h : s ∈ keys l
  · rw [if_pos h]; simp [h]
  · rw [if_neg h]; simp [h]
/-- Is a key there? -/
def inK (s : α) (l : List (α × Bool)) : Bool := decide (s ∈ keys l)
/-- Is it marked? -/
def mkd (l : List (α × Bool)) (s : α) : Bool := decide ((s, true) ∈ l)
theorem inK_iff (s : α) (l : List (α × Bool)) : inK s l = true ↔ s ∈ keys l := by simp [inK]
theorem inK_plc (s : α) (l : List (α × Bool)) : decide (plc s l ≥ 0) = inK s l := by
  unfold inK
  rw [decide_eq_decide]
  exact plc_nonneg s l
theorem mkd_at (l : List (α × Bool)) (hn : (keys l).Nodup) (i : Nat) (x : α × Bool) (h : l[i]? = some x) : mkd l x.1 = x.2 := by
  unfold mkd
  obtain ⟨s, b⟩ := x
  cases b with
  | true => exact decide_eq_true (List.mem_of_getElem? h)
  | false =>
    refine decide_eq_false fun hm => ?_
    obtain ⟨j, hj⟩ := List.mem_iff_getElem?.1 hm
    have h1 := keys_at h
    have h2 := keys_at hj
    have e := (List.getElem?_inj (List.getElem?_eq_some_iff.1 h1).1 hn).1 (h1.trans h2.symm)
    subst e
    rw [h] at hj
    cases hj
/-- A key is touched. -/
def ktouch (l : List (α × Bool)) (s : α) : List (α × Bool) := if plc s l < 0 then l ++ [(s, true)] else l.set (plc s l).toNat (s, true)
/-- A key goes. -/
def kdrop (l : List (α × Bool)) (s : α) : List (α × Bool) := l.filter fun x => decide (x.1 ≠ s)
end
/-- So many of the first ones have lost their mark, and stand at the end. -/
def rot (l : List (α × Bool)) (j : Nat) : List (α × Bool) := l.drop j ++ (l.take j).map fun x => (x.1, false)
def lead (l : List (α × Bool)) : Nat := (l.takeWhile (·.2)).length
/-- .. till the first one has no mark. -/
def kspin (l : List (α × Bool)) : List (α × Bool) := rot l (lead l)
theorem rot_zero (l : List (α × Bool)) : rot l 0 = l := by simp [rot]
theorem rot_length (l : List (α × Bool)) (j : Nat) : (rot l j).length = l.length := by simp [rot]; omega
theorem lead_le (l : List (α × Bool)) : lead l ≤ l.length := (List.takeWhile_sublist _).length_le
theorem lead_marked : ∀ (l : List (α × Bool)) (j : Nat), j < lead l → ∃ s, l[j]? = some (s, true)
  | [], j, h => by simp [lead] at h
  | (s, true) :: l, 0, h => ⟨s, rfl⟩
  | (s, true) :: l, j + 1, h => by
    have : j < lead l := by simpa [lead] using h
    simpa using lead_marked l j this
  | (s, false) :: l, j, h => by simp [lead] at h
theorem lead_end : ∀ (l : List (α × Bool)), lead l < l.length → ∃ s, l[lead l]? = some (s, false)
  | [], h => by simp at h
  | (s, true) :: l, h => by
    have e : lead ((s, true) :: l) = lead l + 1 := by simp [lead]
    rw [e] at h ⊢
    obtain ⟨t, ht⟩ := lead_end l (by simpa using h)
    exact ⟨t, by simpa using ht⟩
  | (s, false) :: l, h => ⟨s, by simp [lead]⟩
/-- The first one, when so many have gone round: marked if more go; else not. -/
theorem rot_head (l : List (α × Bool)) (hl : 0 < l.length) (j : Nat) (hj : j ≤ lead l) : ∃ s, (rot l j)[0]? = some (s, decide (j < lead l)) := by
  by_cases h : j < lead l
  · obtain ⟨s, hs⟩ := lead_marked l j h
    refine ⟨s, ?_⟩
    have hjl : j < l.length := (List.getElem?_eq_some_iff.1 hs).1
    rw [decide_eq_true h]
    unfold rot
    rw [List.getElem?_append_left (by simp; omega), List.getElem?_drop, Nat.add_zero, hs]
  · obtain rfl : j = lead l := by omega
    rw [decide_eq_false h]
    by_cases he : lead l < l.length
    · obtain ⟨s, hs⟩ := lead_end l he
      refine ⟨s, ?_⟩
      unfold rot
      rw [List.getElem?_append_left (by simp; omega), List.getElem?_drop, Nat.add_zero, hs]
    · have e : lead l = l.length := by have := lead_le l; omega
      refine ⟨(l[0]'hl).1, ?_⟩
      unfold rot
      rw [e, List.drop_length, List.take_length, List.nil_append, List.getElem?_map, List.getElem?_eq_getElem hl]
      rfl
theorem rot_succ (l : List (α × Bool)) (j : Nat) (s : α) (hj : j < l.length) (hs : l[j]? = some (s, true)) : rot l (j + 1) = (rot l j).tail ++ [(s, false)] := by
  obtain ⟨_, e⟩ := List.getElem?_eq_some_iff.1 hs
  unfold rot
  rw [List.drop_eq_getElem_cons hj, List.cons_append, List.tail_cons, take_succ_at l j _ hs, List.map_append, List.append_assoc]
  rfl
theorem rot_first (l : List (α × Bool)) (j : Nat) (hj : j < l.length) : (rot l j)[0]? = l[j]? := by
  unfold rot
  rw [List.getElem?_append_left (by simp; omega), List.getElem?_drop, Nat.add_zero]
theorem rot_count (l : List (α × Bool)) (j : Nat) (s : α) (hj : j < l.length) (hs : l[j]? = some (s, true)) : (rot l (j + 1)).countP (·.2) < (rot l j).countP (·.2) := by
  obtain ⟨_, e⟩ := List.getElem?_eq_some_iff.1 hs
  have h1 : (rot l j)[0]? = some (s, true) := (rot_first l j hj).trans hs
  rw [rot_succ l j s hj hs]
  match h : rot l j, h1 with
  | x :: r, h1 =>
    obtain rfl : x = (s, true) := by simpa using h1
    simp
end
end Go.Proofs.Ytokchikihacalaa
