/- Calls: the reference's small checks. -/
import Derived.Test.YtdjnadgcjmlejaaDoorCc
import Derived.Test.YtdjnadgcjmlejaaDoorCb
namespace Go.Proofs.YtdjnadgcjmlejaaDoor
open Go.RowKit

theorem lt_b_inj {l m : Lt} (h : l.b = m.b) : l = m := by revert h; cases l <;> cases m <;> decide
theorem fstr_has (p : Int) (l : Lt) : (fstr p).data.toList.contains l.b = decide (l ∈ flds p) := by
  have e : (fstr p).data.toList = (flds p).map Lt.b := rfl
  rw [e, Bool.eq_iff_iff, List.contains_iff_mem, List.mem_map, decide_eq_true_eq]
  exact ⟨fun ⟨m, h1, h2⟩ => lt_b_inj h2 ▸ h1, fun h => ⟨l, h, rfl⟩⟩

set_option maxRecDepth 100000 in
set_option maxHeartbeats 1000000 in
theorem cfhas_any (s : ByteArray) (b : UInt8) (w : World) (hs : s.size ≤ 1073741824) : Calls Tryd.prog 46 #[.string s, .int .u8 b.toNat] w fun e w' => e = .returned (.bool (s.data.toList.contains b)) ∧ w = w' := by
  have hno : (∀ (j : Nat) (h : j < s.size), (s[j]'h) ≠ b) → s.data.toList.contains b = false := by
    intro h
    rw [Bool.eq_false_iff]
    intro hc
    rw [List.contains_iff_mem] at hc
    obtain ⟨j, hj⟩ := List.mem_iff_getElem?.1 hc
    have hlt : j < s.size := by
      have := (List.getElem?_eq_some_iff.1 hj).1
      rwa [len_data] at this
    refine h j hlt ?_
    have h3 : s.data.toList[j]? = some (s[j]'hlt) := by
      rw [List.getElem?_eq_getElem (by rw [len_data]; exact hlt)]
      rfl
    rw [hj] at h3
    exact (Option.some.inj h3).symm
  have hyes : ∀ (j : Nat) (h : j < s.size), (s[j]'h) = b → s.data.toList.contains b = true := by
    intro j h e
    rw [List.contains_iff_mem, ← e]
    have h3 : s.data.toList[j]? = some (s[j]'h) := by
      rw [List.getElem?_eq_getElem (by rw [len_data]; exact h)]
      rfl
    exact List.mem_of_getElem? h3
  obtain ⟨q, hq⟩ : ∃ q, q = s.data.toList.contains b := ⟨_, rfl⟩
  rw [← hq] at hno hyes ⊢
  have HN := Lib.hid hno
  have HY := Lib.hid hyes
  clear hno hyes hq
  go_enter Tryd.func46, Tryd.ntmps46
  go_wp2
  go_loop [5] (fun i => ∃ k : Nat, k ≤ s.size ∧ i = .int .i64 k ∧ ∀ (j : Nat) (h : j < s.size), j < k → (s[j]'h) ≠ b) (fun i => s.size - (intOf i).toNat)
  case atStart => exact ⟨0, Nat.zero_le _, rfl, fun j h hj => by omega⟩
  case round =>
    obtain ⟨k, hk, rfl, hall⟩ := hrel
    have HA := Lib.hid hall
    clear hall
    by_cases hlt : k < s.size
    · have b0 : (0 : Int) ≤ (k : Int) := by omega
      by_cases hb : (s[k]'hlt) = b
      · have hqt := HY.out k hlt hb
        subst hqt
        go_wp2
        go_ret
        exact ⟨rfl, rfl⟩
      · have hb2 : ¬ (s[k]'hlt).toNat = b.toNat := fun e => hb (UInt8.toNat_inj.1 e)
        have d1 : (((s[k]'hlt).toNat : Int) == (b.toNat : Int)) = false := by simp; omega
        have d2 : ((s[k]'hlt).toNat == b.toNat) = false := by simpa using hb2
        have d3 : ((s[k]'hlt) == b) = false := by simpa using hb
        have HB := Lib.hid hb
        clear hb
        go_wp2
        go_round
        case rel =>
          refine ⟨k + 1, by omega, by go_num, fun j h hj => ?_⟩
          by_cases e : j = k
          · subst e; exact HB.out
          · exact HA.out j h (by omega)
        case measure => simp [intOf]; omega
    · obtain rfl : k = s.size := by omega
      have hqf := HN.out (fun j h => HA.out j h h)
      subst hqf
      go_wp2
      go_ret
      exact ⟨rfl, rfl⟩

theorem cftext_any (is : Bool) (s : ByteArray) (m : Int) (w : World) : Calls Tryd.prog 45 #[.bool is, .string s, .int .i64 m] w fun e w' => e = .returned (.bool (if is then decide ((s.size : Int) ≤ m) else decide (s = ⟨#[]⟩))) ∧ w = w' := by
  cases is
  · by_cases h : s = ⟨#[]⟩
    · subst h
      go_enter Tryd.func45, Tryd.ntmps45
      go_wp2
      go_ret
      exact ⟨rfl, rfl⟩
    · have hd : decide (s = ⟨#[]⟩) = false := by simpa using h
      have hne : ¬ s.toList = [] := by
        rw [Lib.toList_data]
        intro e
        apply h
        apply ByteArray.ext
        exact Array.toList_eq_nil_iff.1 e
      have hemp : s.toList.isEmpty = false := by simpa using hne
      rw [hd]
      clear hd h
      go_enter Tryd.func45, Tryd.ntmps45
      go_wp2
      go_ret
      exact ⟨rfl, rfl⟩
  · go_enter Tryd.func45, Tryd.ntmps45
    go_wp2
    go_ret
    exact ⟨rfl, rfl⟩
theorem cfnum_any (is : Bool) (n m : Int) (w : World) : Calls Tryd.prog 47 #[.bool is, .int .i64 n, .int .i64 m] w fun e w' => e = .returned (.bool (if is then okIn n m else decide (n = 0))) ∧ w = w' := by
  cases is
  · go_enter Tryd.func47, Tryd.ntmps47
    go_wp2
    go_ret
    exact ⟨rfl, rfl⟩
  · by_cases h : 0 ≤ n
    · have d : decide (n ≥ 0) = true := by simpa using h
      have e0 : okIn n m = decide (n ≤ m) := by unfold okIn; rw [decide_eq_true h, Bool.true_and]
      simp only [if_true, e0]
      clear e0
      go_enter Tryd.func47, Tryd.ntmps47
      go_wp2
      all_goals go_ret
      all_goals exact ⟨rfl, rfl⟩
    · have d : decide (n ≥ 0) = false := by simpa using h
      have e0 : okIn n m = false := by unfold okIn; simp; omega
      simp only [if_true, e0]
      clear e0
      go_enter Tryd.func47, Tryd.ntmps47
      go_wp2
      all_goals go_ret
      all_goals exact ⟨rfl, rfl⟩
end Go.Proofs.YtdjnadgcjmlejaaDoor
