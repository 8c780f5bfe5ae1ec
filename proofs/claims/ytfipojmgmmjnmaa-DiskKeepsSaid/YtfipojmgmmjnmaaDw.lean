/- What a disk keeps, plainly. -/
import Derived.Test.YtfipojmgmmjnmaaDv
namespace Go.Proofs.Ytfipojmgmmjnmaa
open Go.RowKit

theorem chosen_none (l : List (Nat × ByteArray)) : ∀ n, chosen [] l n = [] := by
  induction l with
  | nil => intro n; rfl
  | cons x l ih => intro n; simp [chosen, ih]
theorem chosen_mem (keep : List Int) (x : Nat × ByteArray) : ∀ (l : List (Nat × ByteArray)) (n : Nat), x ∈ chosen keep l n → x ∈ l
  | [], n, h => by simp [chosen] at h
  | y :: l, n, h => by
    unfold chosen at h
    split at h
    · rcases List.mem_cons.1 h with h | h
      · exact List.mem_cons.2 (.inl h)
      · exact List.mem_cons.2 (.inr (chosen_mem keep x l _ h))
    · exact List.mem_cons.2 (.inr (chosen_mem keep x l _ h))
theorem keepAll_some (k : Nat) : ∀ (l : List (Nat × ByteArray)) (K : List ByteArray), (keepAll K l)[k]? = K[k]? ∨ ∃ x ∈ l, x.1 = k ∧ (keepAll K l)[k]? = some x.2
  | [], K => .inl rfl
  | x :: l, K => by
    have e : keepAll K (x :: l) = keepAll (K.set x.1 x.2) l := rfl
    rw [e]
    rcases keepAll_some k l (K.set x.1 x.2) with h | ⟨y, hy, h1, h2⟩
    · rw [h]
      by_cases hk : x.1 = k
      · by_cases hl : x.1 < K.length
        · right
          refine ⟨x, by simp, hk, ?_⟩
          rw [← hk, List.getElem?_set_self hl]
        · left
          rw [List.getElem?_set, if_pos hk, if_neg (by omega), List.getElem?_eq_none (by omega)]
      · left
        rw [List.getElem?_set_ne hk]
    · exact .inr ⟨y, List.mem_cons.2 (.inr hy), h1, h2⟩
/-- A disk that works, without a fuse. -/
structure DS.calm (D : DS) : Prop where
  dead : D.dead = false
  fuse : D.fuse = -1
theorem crash_calm (D : DS) (keep : List Int) : (D.crash keep).calm := ⟨rfl, rfl⟩
theorem crash_wait (D : DS) (keep : List Int) : (D.crash keep).wait = [] ∧ (D.crash keep).wr = D.wr ∧ (D.crash keep).br = D.br ∧ (D.crash keep).kept = keepAll D.kept (chosen keep D.wait 0) := ⟨rfl, rfl, rfl, rfl⟩
theorem crash_nil (D : DS) : (D.crash []).kept = D.kept := by
  show keepAll D.kept (chosen [] D.wait 0) = D.kept
  rw [chosen_none]; rfl
theorem calm_burnt (D : DS) (h : D.calm) : D.burnt = D := by
  unfold DS.burnt
  rw [h.fuse, if_neg (by omega), if_neg (by omega)]
/-- Is it written? -/
def DS.takes (D : DS) (i : Int) (s : ByteArray) : Bool := D.inside i && decide (s.size ≤ 128)
theorem write_no (D : DS) (h : D.calm) (i : Int) (s : ByteArray) (ht : D.takes i s = false) : (D.write i s).1 ≠ 0 ∧ (D.write i s).2 = D := by
  unfold DS.write
  rw [h.dead, if_neg (by simp)]
  unfold DS.takes at ht
  by_cases hi : D.inside i = false
  · rw [if_pos hi]; exact ⟨by simp, rfl⟩
  · have hi2 : D.inside i = true := by simpa using hi
    rw [hi2, Bool.true_and] at ht
    have := of_decide_eq_false ht
    rw [if_neg hi, if_pos (by omega)]
    exact ⟨by simp, rfl⟩
theorem write_yes (D : DS) (h : D.calm) (i : Int) (s : ByteArray) (ht : D.takes i s = true) : (D.write i s).1 = 0 ∧ (D.write i s).2 = { D with wait := D.wait ++ [(i.toNat, blank s)], wr := D.wr + 1 } ∧ 0 ≤ i ∧ s.size ≤ 128 := by
  unfold DS.takes at ht
  rw [Bool.and_eq_true] at ht
  have h1 := of_decide_eq_true ht.2
  have h2 := of_decide_eq_true ht.1
  unfold DS.write
  rw [if_neg (by rw [h.dead]; simp), if_neg (by rw [ht.1]; simp), if_neg (by omega), if_neg (by rw [h.fuse]; omega), calm_burnt D h]
  exact ⟨rfl, rfl, h2.1, h1⟩
theorem barrier_calm (D : DS) (h : D.calm) : D.barrier = (0, { D with kept := keepAll D.kept D.wait, wait := [], br := D.br + 1 }) := by
  unfold DS.barrier
  rw [if_neg (by rw [h.dead]; simp), if_neg (by rw [h.fuse]; omega), calm_burnt D h]
/-- The end of the law: a write, a barrier, a crash, a read. -/
theorem last_calls (D : DS) (h : D.calm) (hw : D.wait = []) (hl : D.kept.length = 8) : ∃ D1 D2 D3 : DS, D.write 3 ⟨#[122]⟩ = (0, D1) ∧ D1.barrier = (0, D2) ∧ D2.crash [] = D3 ∧ D3.read 3 = (blank ⟨#[122]⟩, 0) ∧ D1.wr = D.wr + 1 ∧ D1.br = D.br ∧ D1.wait.length = 1 ∧ D2.wait = [] := by
  have ht : D.takes 3 ⟨#[122]⟩ = true := by
    unfold DS.takes DS.inside
    rw [hl]; decide
  obtain ⟨e1, e2, _, _⟩ := write_yes D h 3 _ ht
  have c1 : ({ D with wait := D.wait ++ [((3 : Int).toNat, blank ⟨#[122]⟩)], wr := D.wr + 1 } : DS).calm := ⟨h.dead, h.fuse⟩
  refine ⟨_, _, _, Prod.ext e1 e2, barrier_calm _ c1, rfl, ?_, rfl, rfl, by rw [hw]; rfl, rfl⟩
  unfold DS.read
  rw [if_neg (by simp [DS.crash])]
  have hk : ∀ l : List (Nat × ByteArray), ∀ K : List ByteArray, (keepAll K l).length = K.length := keepAll_length
  rw [if_pos (by
    unfold DS.inside
    rw [crash_nil]
    show decide (0 ≤ (3 : Int) ∧ (3 : Int) < ((keepAll D.kept (D.wait ++ [(3, blank ⟨#[122]⟩)])).length : Int)) = true
    rw [keepAll_length, hl]; decide)]
  congr 1
  show (keepAll (keepAll D.kept (D.wait ++ [(3, blank ⟨#[122]⟩)])) (chosen [] [] 0)).getD 3 ⟨#[]⟩ = _
  rw [chosen_none, hw]
  show ((D.kept.set 3 (blank ⟨#[122]⟩))).getD 3 ⟨#[]⟩ = _
  rw [List.getD_eq_getElem?_getD, List.getElem?_set_self (by omega)]
  rfl
end Go.Proofs.Ytfipojmgmmjnmaa
