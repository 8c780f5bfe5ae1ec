/- Plainly: told and dropped one by one, all keys are told, each once. -/
import Derived.Test.YtokchikihacalaaKa
namespace Go.Proofs.Ytokchikihacalaa
section
variable {α : Type}
theorem rot_perm (l : List (α × Bool)) (j : Nat) : (keys (rot l j)).Perm (keys l) := by
  unfold keys rot
  rw [List.map_append, List.map_map]
  have e : (l.take j).map ((fun x => x.1) ∘ fun x => (x.1, false)) = (l.take j).map (·.1) := by
    apply List.map_congr_left
    intro x _
    rfl
  rw [e, ← List.map_append]
  exact (List.perm_append_comm.trans (by rw [List.take_append_drop])).map _
theorem kspin_perm (l : List (α × Bool)) : (keys (kspin l)).Perm (keys l) := rot_perm l _
theorem vic_some (l : List (α × Bool)) (h : 0 < l.length) : ∃ v m, (kspin l)[0]? = some (v, m) := by
  have : 0 < (kspin l).length := by rw [show (kspin l).length = l.length from rot_length l _]; exact h
  exact ⟨_, _, List.getElem?_eq_getElem this⟩
variable [DecidableEq α]
theorem keys_drop (l : List (α × Bool)) (s : α) : keys (kdrop l s) = (keys l).filter fun x => decide (x ≠ s) := by
  unfold keys kdrop
  rw [List.filter_map]
  rfl
theorem keys_touch (l : List (α × Bool)) (s : α) : s ∈ keys (ktouch l s) ∧ ∀ t, t ∈ keys l → t ∈ keys (ktouch l s) := by
  unfold ktouch
  rcases plc_cases s l with ⟨e, _⟩ | ⟨i, b, e, hi, hx⟩
  · rw [e, if_pos (by omega)]
    unfold keys
    simp only [List.map_append, List.mem_append, List.map_cons, List.map_nil, List.mem_singleton]
    exact ⟨.inr trivial, fun t h => .inl h⟩
  · rw [e, if_neg (by omega), Int.toNat_natCast]
    obtain ⟨_, hx⟩ := List.getElem?_eq_some_iff.1 hx
    have e2 : keys (l.set i (s, true)) = keys l := by
      unfold keys
      rw [List.map_set]
      have : (l.map (·.1))[i]'(by simpa using hi) = s := by simp [hx]
      rw [← this, List.set_getElem_self]
    rw [e2]
    exact ⟨List.mem_map.2 ⟨(s, b), List.mem_of_getElem? (by rw [List.getElem?_eq_getElem hi, hx]), rfl⟩, fun t h => h⟩
/-- The first one goes. -/
theorem told_step (l : List (α × Bool)) (hn : (keys l).Nodup) (told : List α) (v : α) (m : Bool) (hv : (kspin l)[0]? = some (v, m)) : v ∈ keys (kspin l) ∧ v ∉ keys (kdrop (kspin l) v) ∧ (told ++ [v] ++ keys (kdrop (kspin l) v)).Perm (told ++ keys l) ∧ (kdrop (kspin l) v).length + 1 = l.length := by
  have hp := kspin_perm l
  have hk : (keys (kspin l))[0]? = some v := keys_at hv
  have hns : (keys (kspin l)).Nodup := hp.nodup_iff.2 hn
  have hlen : (keys (kspin l)).length = l.length := by rw [hp.length_eq]; simp [keys]
  match hk2 : keys (kspin l), hk with
  | x :: r, hk =>
    obtain rfl : x = v := by simpa using hk
    rw [hk2] at hns hp hlen
    have hxr : x ∉ r := (List.nodup_cons.1 hns).1
    have e : keys (kdrop (kspin l) x) = r := by
      rw [keys_drop, hk2]
      rw [List.filter_cons_of_neg (by simp)]
      rw [List.filter_eq_self.2]
      intro y hy
      exact decide_eq_true fun h => hxr (h ▸ hy)
    refine ⟨by simp, by rw [e]; exact hxr, ?_, ?_⟩
    · rw [e, List.append_assoc]
      exact List.Perm.append_left told hp
    · have h1 : (kdrop (kspin l) x).length = r.length := by rw [← e]; simp [keys]
      rw [h1]
      simpa using hlen
theorem told_once (ks told : List α) (l0 : List (α × Bool)) (hn : (keys l0).Nodup) (hp : told.Perm (keys l0)) (x : α) (hx : x ∈ keys l0) : told.count x = 1 := by
  rw [hp.count_eq]
  have h1 : (keys l0).count x ≤ 1 := List.nodup_iff_count.1 hn x
  have h2 : 0 < (keys l0).count x := List.count_pos_iff.2 hx
  omega
end
end Go.Proofs.Ytokchikihacalaa
