/- The contracts of a summer's methods. -/
import Derived.Test.YtbdjhkcpnkdbkaaSm
namespace Go.Proofs.Ytbdjhkcpnkdbkaa
open Go.RowKit

/-- A summer at block k that was asked n times. -/
def Smr (k : Nat) (n : Int) (w : World) : Prop := St 79 k (fresh n) w ∨ St 79 k (made n) w

theorem fresh_set (n m : Int) : (fresh n).setIfInBounds 19 (.int .i64 m) = fresh m := by simp [fresh]
theorem made_set (n m : Int) : (made n).setIfInBounds 19 (.int .i64 m) = made m := by simp [made, tabbed]

theorem made_tab (n : Int) (m : Nat) (h : m < 16) : (made n)[3 + m]? = some (tab m) := by
  have : m = 0 ∨ m = 1 ∨ m = 2 ∨ m = 3 ∨ m = 4 ∨ m = 5 ∨ m = 6 ∨ m = 7 ∨ m = 8 ∨ m = 9 ∨ m = 10 ∨ m = 11 ∨ m = 12 ∨ m = 13 ∨ m = 14 ∨ m = 15 := by omega
  rcases this with rfl | rfl | rfl | rfl | rfl | rfl | rfl | rfl | rfl | rfl | rfl | rfl | rfl | rfl | rfl | rfl <;> simp [made, tabbed]

theorem add_at (k : Nat) (n : Int) (w : World) (h1 : n < 9223372036854775807) (h0 : 0 ≤ n) (h : Smr k n w) :
    Calls Try.prog 35 #[.pointer (some ⟨k, 19, none⟩), .int .i64 1] w fun e w' => e = .returned (.int .i64 (n + 1)) ∧ Smr k (n + 1) w' ∧ Keep k none w w' := by
  rcases h with h | h
  · refine (i64_add ⟨k, 19, none⟩ n w h1 h0 (h.cell rfl) (h.free 19)).mono ?_
    rintro e w' ⟨rfl, rfl⟩
    refine ⟨rfl, .inl ?_, (Keep.refl _ _ _).put 19 _⟩
    rw [← fresh_set n (n + 1)]
    exact h.set 19 _
  · refine (i64_add ⟨k, 19, none⟩ n w h1 h0 (h.cell rfl) (h.free 19)).mono ?_
    rintro e w' ⟨rfl, rfl⟩
    refine ⟨rfl, .inr ?_, (Keep.refl _ _ _).put 19 _⟩
    rw [← made_set n (n + 1)]
    exact h.set 19 _

set_option maxRecDepth 100000 in
theorem do_any (k : Nat) (n : Int) (w : World) (h : Smr k n w) :
    Calls Try.prog 36 #[.pointer (some ⟨k, 0, none⟩), .func (.func 37) #[.pointer (some ⟨k, 0, none⟩)] #[]] w fun e w' => e = .returned (.tuple #[]) ∧ St 79 k (made n) w' ∧ Keep k none w w' := by
  have hnot : ∀ (x : Bool) (w : World), (Op.unary .not (.bool x)).run Try.prog w = .ok (.bool (!x)) w := fun _ _ => rfl
  rcases h with h | h
  · go_enter Try.func36, Try.ntmps36
    go_wp2_with (first | (go_at_call 42; go_must (refine (bool_load0 ⟨k, 0, none⟩ _ (h.cell rfl)).mono ?_); rintro e w1 ⟨rfl, rfl⟩) | (go_at_call 43; go_must (refine (slow_any k n _ h).mono ?_); rintro e w2 ⟨rfl, h2, k2⟩))
    go_end0
    exact ⟨rfl, h2, k2⟩
  · go_enter Try.func36, Try.ntmps36
    go_wp2_with (go_at_call 42; go_must (refine (bool_load1 ⟨k, 0, none⟩ _ (h.cell rfl)).mono ?_); rintro e w1 ⟨rfl, rfl⟩)
    go_end0
    exact ⟨rfl, h, Keep.refl _ _ _⟩

set_option maxRecDepth 100000 in
set_option maxHeartbeats 800000 in
theorem more_any (k : Nat) (n : Int) (r : BitVec 32) (s : ByteArray) (w : World) (h1 : n < 9223372036854775807) (h0 : 0 ≤ n) (hs : s.size ≤ 9223372036854775807) (h : Smr k n w) :
    Calls Try.prog 22 #[.pointer (some ⟨k, 0, none⟩), uv r, .string s] w fun e w' => e = .returned (uv (more r s.data.toList)) ∧ St 79 k (made (n + 1)) w' ∧ Keep k none w w' := by
  have hmf : ∀ (fn : Fn) (first cap : Array Value) (w : World), (Instr.makeFunc fn first cap).run Try.prog w = .ok (.func fn first cap) w := fun _ _ _ _ => rfl
  unfold uv
  go_enter Try.func22, Try.ntmps22
  go_wp2_with (first | (go_at_call 35; go_must (refine (add_at k n _ h1 h0 h).mono ?_); rintro e w1 ⟨rfl, ha, ka⟩) | (go_at_call 36; go_must (refine (do_any k (n + 1) _ ha).mono ?_); rintro e w2 ⟨rfl, hd, kd⟩))
  go_loopw [7, 8, 25] (fun reg _ c wr => wr = w2 ∧ ∃ i : Nat, i ≤ s.size ∧ c = .int .i64 i ∧ reg = .int .u32 (crc (~~~ r) (s.data.toList.take i)).toNat) (fun _ _ c _ => s.size - (intOf c).toNat)
  case atStart => exact ⟨rfl, 0, Nat.zero_le _, rfl, by rw [not32]; rfl⟩
  case round =>
    obtain ⟨hw, i, hi, rfl, rfl⟩ := hrel
    subst hw
    have hfin : more r s.data.toList = ~~~ (crc (~~~ r) (s.data.toList.take s.size)) := by unfold more; rw [List.take_of_length_le (by simp)]
    by_cases hlt : i < s.size
    · obtain ⟨q, hq⟩ : ∃ q, q = crc (~~~ r) (s.data.toList.take i) := ⟨_, rfl⟩
      rw [← hq]
      have hnext : ∀ b, b = s[i] → crc (~~~ r) (s.data.toList.take (i + 1)) = upd q b := fun b hb => by
        have hg : s.data.toList[i]? = some s[i] := by rw [Array.getElem?_toList]; exact Array.getElem?_eq_getElem hlt
        rw [List.take_add_one, hg, hq, hb]
        exact crc_snoc _ _ _
      have HN := Lib.hid hnext
      clear hq hnext hfin
      obtain ⟨q1, q2, q3, t1, t2, m1, m2, hm1, hm2, e1, e2, e3, e4, e5, e6, e7, e8⟩ := byte_round q s[i]
      have c1 := hd.cell (made_tab (n + 1) m1 hm1)
      have c2 := hd.cell (made_tab (n + 1) m2 hm2)
      unfold tab uv at c1 c2
      rw [← e3] at c1
      rw [← e6] at c2
      have H8 := Lib.hid e8
      clear e3 e6 e8
      go_wp2
      go_roundw
      case rel => exact ⟨trivial, i + 1, by omega, by go_num, by rw [HN.out _ rfl, ← H8.out]⟩
      case measure => simp [intOf]; omega
    · obtain rfl : i = s.size := by omega
      obtain ⟨q, hq⟩ : ∃ q, q = crc (~~~ r) (s.data.toList.take s.size) := ⟨_, rfl⟩
      rw [← hq] at hfin ⊢
      have HF := Lib.hid hfin
      have KK := ka.trans kd (.inl rfl)
      clear hfin hq
      go_wp2
      go_ret
      refine ⟨?_, hd, KK⟩
      rw [not32, HF.out]
      rfl
end Go.Proofs.Ytbdjhkcpnkdbkaa
