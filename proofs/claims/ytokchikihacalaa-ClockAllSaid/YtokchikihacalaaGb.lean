/- The reference's places: Count, Least, Is. -/
import Derived.Test.YtokchikihacalaaGa
import Derived.Test.YtokchikihacalaaIn
import Derived.StillTailTactics
namespace Go.Proofs.Ytokchikihacalaa
open Go.RowKit

/-- Numbers, as a walk wants them. -/
theorem ints_walk {ok : Nat → Prop} {v : Value} {xs : List Int} {w : World} (h : Ints ok v xs w) : ∃ (ao : Option Addr) (cap b off : Nat), v = .slice ao xs.length cap ∧ xs.length ≤ 9223372036854775807 ∧ ∀ k, k < xs.length → ∃ x, xs[k]? = some x ∧ ao = some ⟨b, off, none⟩ ∧ w.cell? ⟨b, off + k, none⟩ = some (.int .i64 x) := by
  obtain ⟨ao, cap, b, off, rfl, h1, h2, h3⟩ := h
  exact ⟨ao, cap, b, off, rfl, h1.1, fun k hk => ⟨xs[k], List.getElem?_eq_getElem hk, (h2 (by omega)).1, h3 k _ (List.getElem?_eq_getElem hk)⟩⟩

set_option maxRecDepth 100000 in
theorem rgCount_any {ok : Nat → Prop} (v : Value) (xs : List Int) (k : Int) (w : World) (h : Ints ok v xs w) :
    Calls Try.prog 36 #[v, .int .i64 k] w fun e w' => e = .returned (.int .i64 (xs.count k : Nat)) ∧ w = w' := by
  obtain ⟨ao, cap, b, off, rfl, hl, hx⟩ := ints_walk h
  obtain ⟨n, hn⟩ : ∃ n, n = xs.length := ⟨_, rfl⟩
  rw [← hn] at hl hx ⊢
  obtain ⟨r, hr⟩ : ∃ r : Nat, r = xs.count k := ⟨_, rfl⟩
  rw [← hr]
  have HR := Lib.hid (show (xs.take n).count k = r by rw [hn, List.take_length, hr])
  have HX := Lib.hid hx
  have HT := Lib.hid (count_at k xs)
  have HL := Lib.hid (show ∀ i, (xs.take i).count k ≤ i from fun i => Nat.le_trans (count_le _ _) (by rw [List.length_take]; omega))
  clear hx h hn hr
  go_enter Try.func36, Try.ntmps36
  go_wp2
  go_loop [5, 6] (fun c d => ∃ i m : Nat, i ≤ n ∧ d = .int .i64 i ∧ c = .int .i64 m ∧ m = (xs.take i).count k) (fun _ d => n - (intOf d).toNat)
  case atStart => exact ⟨0, 0, Nat.zero_le _, rfl, rfl, by simp⟩
  case round =>
    obtain ⟨i, m, hi, rfl, rfl, hm⟩ := hrel
    have HM := Lib.hid hm
    have hmi : m ≤ i := by rw [hm]; exact HL.out i
    clear hm
    by_cases hlt : i < n
    · obtain ⟨x, hxi, rfl, c0⟩ := HX.out i hlt
      have HS := Lib.hid (HT.out i x hxi)
      clear hxi
      have b0 : (0 : Int) ≤ (i : Int) := by omega
      have b1 : (i : Int) < (n : Int) := by omega
      by_cases hk : x = k
      · have d0 : (x == k) = true := by rw [beq_iff_eq]; exact hk
        have HK := Lib.hid hk
        clear hk
        go_wp2
        go_round
        case rel => exact ⟨i + 1, m + 1, by omega, by go_num, by go_num, by rw [HS.out, if_pos HK.out, ← HM.out]⟩
        case measure => simp [intOf]; omega
      · have d0 : (x == k) = false := by rw [beq_eq_false_iff_ne]; exact hk
        have HK := Lib.hid hk
        clear hk
        go_wp2
        go_round
        case rel => exact ⟨i + 1, m, by omega, by go_num, rfl, by rw [HS.out, if_neg HK.out, ← HM.out, Nat.add_zero]⟩
        case measure => simp [intOf]; omega
    · obtain rfl : i = n := by omega
      go_wp2
      go_ret
      exact ⟨by rw [HM.out, HR.out]; rfl, rfl⟩

set_option maxRecDepth 100000 in
theorem rgLeast_any {ok : Nat → Prop} (v : Value) (xs : List Int) (k : Int) (w : World) (h : Ints ok v xs w) :
    Calls Try.prog 52 #[v, .int .i64 k] w fun e w' => e = .returned (.int .i64 (lea k xs)) ∧ w = w' := by
  obtain ⟨ao, cap, b, off, rfl, hl, hx⟩ := ints_walk h
  obtain ⟨n, hn⟩ : ∃ n, n = xs.length := ⟨_, rfl⟩
  rw [← hn] at hl hx ⊢
  obtain ⟨r, hr⟩ : ∃ r : Int, r = lea k xs := ⟨_, rfl⟩
  rw [← hr]
  have HN := Lib.hid (show k ∉ xs.take n → r = -1 from fun h => by rw [hn, List.take_length] at h; rw [hr, lea_none k xs h])
  have HA := Lib.hid (show ∀ i : Nat, xs[i]? = some k → k ∉ xs.take i → r = i from fun i h1 h2 => by rw [hr, lea_at k xs i h1 h2])
  have HX := Lib.hid hx
  have HT := Lib.hid (notMem_succ k xs)
  clear hx h hn hr
  go_enter Try.func52, Try.ntmps52
  go_wp2
  go_loop [5] (fun d => ∃ i : Nat, i ≤ n ∧ d = .int .i64 i ∧ k ∉ xs.take i) (fun d => n - (intOf d).toNat)
  case atStart => exact ⟨0, Nat.zero_le _, rfl, by simp⟩
  case round =>
    obtain ⟨i, hi, rfl, hm⟩ := hrel
    have HM := Lib.hid hm
    clear hm
    by_cases hlt : i < n
    · obtain ⟨x, hxi, rfl, c0⟩ := HX.out i hlt
      have HS := Lib.hid hxi
      clear hxi
      have b0 : (0 : Int) ≤ (i : Int) := by omega
      have b1 : (i : Int) < (n : Int) := by omega
      by_cases hk : x = k
      · have d0 : (x == k) = true := by rw [beq_iff_eq]; exact hk
        have HK := Lib.hid hk
        clear hk
        go_wp2
        go_ret
        exact ⟨by rw [HA.out i (by rw [HS.out, HK.out]) HM.out]; rfl, rfl⟩
      · have d0 : (x == k) = false := by rw [beq_eq_false_iff_ne]; exact hk
        have HK := Lib.hid hk
        clear hk
        go_wp2
        go_round
        case rel => exact ⟨i + 1, by omega, by go_num, HT.out i x HS.out HM.out HK.out⟩
        case measure => simp [intOf]; omega
    · obtain rfl : i = n := by omega
      go_wp2
      go_ret
      exact ⟨by rw [HN.out HM.out]; rfl, rfl⟩

set_option maxRecDepth 100000 in
theorem rgIs_any {ok : Nat → Prop} (v : Value) (xs : List Int) (i k : Int) (w : World) (h : Ints ok v xs w) :
    Calls Try.prog 51 #[v, .int .i64 i, .int .i64 k] w fun e w' => e = .returned (.bool (isAt xs i k)) ∧ ∃ q, w' = w.drewN q := by
  obtain ⟨ao, cap, b, off, rfl, hl, hx⟩ := ints_walk h
  unfold isAt
  obtain ⟨n, hn⟩ : ∃ n, n = xs.length := ⟨_, rfl⟩
  rw [← hn] at hl hx ⊢
  by_cases h0 : 0 ≤ i
  · have d0 : decide (i ≥ 0) = true := decide_eq_true h0
    have d0' : decide (0 ≤ i) = true := decide_eq_true h0
    by_cases h1 : i < n
    · have d1 : decide (i < (n : Int)) = true := decide_eq_true h1
      obtain ⟨j, rfl⟩ : ∃ j : Nat, i = j := ⟨i.toNat, by omega⟩
      obtain ⟨x, hxi, rfl, c0⟩ := hx j (by omega)
      have e : xs.getD (j : Int).toNat 0 = x := by simp [List.getD, hxi]
      rw [e, d0', d1]
      clear e hxi hx hn h
      by_cases hk : x = k
      · have d2 : (x == k) = true := by rw [beq_iff_eq]; exact hk
        rw [decide_eq_true hk]
        clear hk
        go_enter Try.func51, Try.ntmps51
        go_wp2
        go_ret
        exact ⟨rfl, 0, rfl⟩
      · have d2 : (x == k) = false := by rw [beq_eq_false_iff_ne]; exact hk
        rw [decide_eq_false hk]
        clear hk
        go_enter Try.func51, Try.ntmps51
        go_wp2
        go_ret
        exact ⟨rfl, 0, rfl⟩
    · have d1 : decide (i < (n : Int)) = false := decide_eq_false h1
      rw [d0', d1]
      clear hx hn h
      go_enter Try.func51, Try.ntmps51
      go_wp2
      go_ret
      exact ⟨rfl, 0, rfl⟩
  · have d0 : decide (i ≥ 0) = false := decide_eq_false h0
    have d0' : decide (0 ≤ i) = false := decide_eq_false h0
    rw [d0']
    clear hx hn h
    go_enter Try.func51, Try.ntmps51
    go_wp2
    go_ret
    exact ⟨rfl, 0, rfl⟩
end Go.Proofs.Ytokchikihacalaa
