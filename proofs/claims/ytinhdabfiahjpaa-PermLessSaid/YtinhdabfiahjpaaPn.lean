/- Permission texts: the program's Mode. -/
import Derived.Test.YtinhdabfiahjpaaPs
namespace Go.Proofs.Ytinhdabfiahjpaa
open Go.Joins Go.RowKit

/-- A letter more. -/
def mdStep (n : Int) (c : UInt8) : Int := if c = 45 then wrap64 (n * 2) else bits .or .i64 (wrap64 (n * 2)) 1
/-- What the letters come to, one behind the other. -/
def mdRead (l : List UInt8) : Int := l.foldl mdStep 0
def vOf : List UInt8 → Int
  | [] => 0
  | c :: cs => (if c = 45 then 0 else 1) * 2 ^ cs.length + vOf cs
theorem vOf_range (l : List UInt8) : 0 ≤ vOf l ∧ vOf l < 2 ^ l.length := by
  induction l with
  | nil => simp [vOf]
  | cons c cs ih =>
    simp only [vOf, List.length_cons, two_pow_succ]
    split <;> omega
theorem or_one : ∀ n : Fin 256, bits .or .i64 (2 * (n.val : Int)) 1 = 2 * (n.val : Int) + 1 := by decide +kernel
theorem mdStep_small (n : Int) (c : UInt8) (h0 : 0 ≤ n) (h1 : n < 256) : mdStep n c = 2 * n + (if c = 45 then 0 else 1) := by
  have hw : wrap64 (n * 2) = 2 * n := by
    unfold wrap64; omega
  unfold mdStep
  rw [hw]
  have h := or_one ⟨n.toNat, by omega⟩
  rw [show ((⟨n.toNat, by omega⟩ : Fin 256).val : Int) = n by show ((n.toNat : Nat) : Int) = n; omega] at h
  rw [h]
  split <;> omega
theorem two_pow_pos (k : Nat) : (0 : Int) < 2 ^ k := by
  have : ((2 ^ k : Nat) : Int) = 2 ^ k := by simp
  have h : 0 < (2 ^ k : Nat) := Nat.pow_pos (by omega)
  omega
theorem fold_small (l : List UInt8) (acc : Int) (h0 : 0 ≤ acc) (h1 : (acc + 1) * 2 ^ l.length ≤ 512) : l.foldl mdStep acc = acc * 2 ^ l.length + vOf l := by
  induction l generalizing acc with
  | nil => simp [vOf]
  | cons c cs ih =>
    have hp := two_pow_pos cs.length
    simp only [List.length_cons, two_pow_succ] at h1
    have ha : acc < 256 := by
      have h2 : (acc + 1) * 1 ≤ (acc + 1) * 2 ^ cs.length := Int.mul_le_mul_of_nonneg_left (by omega) (by omega)
      have h3 : (acc + 1) * (2 * 2 ^ cs.length) = 2 * ((acc + 1) * 2 ^ cs.length) := by rw [← Int.mul_assoc, Int.mul_comm (acc + 1) 2, Int.mul_assoc]
      omega
    have h3 : (acc + 1) * (2 * 2 ^ cs.length) = (2 * acc + 2) * 2 ^ cs.length := by rw [← Int.mul_assoc]; congr 1; omega
    rw [List.foldl_cons, mdStep_small acc c h0 ha, ih]
    · simp only [vOf, List.length_cons, two_pow_succ]
      rw [Int.add_mul, Int.mul_comm 2 acc, Int.mul_assoc]
      omega
    · split <;> omega
    · have h4 : (2 * acc + (if c = 45 then 0 else 1) + 1) * 2 ^ cs.length ≤ (2 * acc + 2) * 2 ^ cs.length := Int.mul_le_mul_of_nonneg_right (by split <;> omega) (by omega)
      omega
theorem mdRead_nine (l : List UInt8) (h : l.length = 9) : mdRead l = vOf l := by
  have := fold_small l 0 (by omega) (by rw [h]; decide)
  rw [Int.zero_mul, Int.zero_add] at this
  exact this
theorem vOf_showK (k : Nat) (m : Int) : vOf (showK k m) = m % 2 ^ k := by
  induction k with
  | zero => simp [showK, vOf]
  | succ k ih =>
    simp only [showK, vOf, showK_len]
    rw [mod_succ, ih]
    rcases bit_cases m k with ⟨h1, h2⟩ | ⟨h1, h2⟩
    · rw [h1, h2, if_pos rfl]
    · rw [h1, h2, if_neg (rwx_ne k)]
theorem mdRead_show (m : Int) : mdRead (pmShow m) = m % 512 := by
  rw [mdRead_nine _ (pmShow_len m), show pmShow m = showK 9 m from rfl, vOf_showK]
  rfl
theorem mdRead_range (l : List UInt8) (h : l.length = 9) : 0 ≤ mdRead l ∧ mdRead l < 512 := by
  rw [mdRead_nine l h]
  have := vOf_range l
  rw [h, show (2 : Int) ^ 9 = 512 by decide] at this
  exact this

theorem toList_inj {u v : ByteArray} (h : u.toList = v.toList) : u = v := by
  rw [Lib.toList_data, Lib.toList_data] at h
  exact ByteArray.ext (Array.toList_inj.1 h)

/-- What the program's Mode answers. -/
def pmModeR (s : ByteArray) : Value :=
  if str (pmShow (mdRead s.data.toList)) = s then .tuple #[.int .i64 (mdRead s.data.toList), .int .i64 0] else .tuple #[.int .i64 0, .int .i64 40]

set_option maxHeartbeats 4000000 in
set_option maxRecDepth 100000 in
theorem pMode_any (s : ByteArray) (w : World) (hs : s.size ≤ 9223372036854775807) :
    Calls Try.prog 31 #[.string s] w fun e w' => e = .returned (pmModeR s) ∧ Below w.heap.size w w' := by
  go_enter Try.func31, Try.ntmps31
  go_wp2_with fail
  go_loopw [4, 8] (fun v k wr => ∃ (i : Nat), i ≤ s.size ∧ k = .int .i64 i ∧ ∃ n : Int, v = .int .i64 n ∧ n = (s.data.toList.take i).foldl mdStep 0 ∧ wr = w) (fun _ k _ => s.size - (intOf k).toNat)
  case atStart => exact ⟨0, by omega, rfl, 0, rfl, rfl, rfl⟩
  case round =>
    obtain ⟨i, hi, rfl, n, rfl, hn, rfl⟩ := hrel
    have HN := Lib.hid hn
    clear hn
    by_cases hlt : i < s.size
    · have hdl : decide ((i : Int) < s.size) = true := by simpa using hlt
      have hb1 : (i : Int) < s.size := by omega
      have hb0 : (0 : Int) ≤ (i : Int) := by omega
      have hw2 : IntKind.i64.wrap ((i : Int) + 1) = (i : Int) + 1 := by rw [IntKind.wrap_i64]; omega
      have hstep : ∀ n', n' = mdStep n (s[i]'hlt) → n' = (s.data.toList.take (i + 1)).foldl mdStep 0 := by
        intro n' h
        have hg : s.data.toList[i]? = some (s[i]'hlt) := by
          rw [Array.getElem?_toList, Array.getElem?_eq_getElem hlt]; rfl
        rw [List.take_add_one, hg, List.foldl_append, ← HN.out, h]
        rfl
      have HS := Lib.hid hstep
      clear hstep
      by_cases hc : s[i]'hlt = 45
      · have h1 : (((s[i]'hlt).toNat : Int) != 45) = false := by rw [hc]; rfl
        have HC := Lib.hid hc
        clear hc
        go_wp2_with fail
        go_roundw
        case rel => exact ⟨i + 1, by omega, by go_num, _, rfl, HS.out _ (by unfold mdStep; rw [if_pos HC.out]), trivial⟩
        case measure => simp [intOf]; omega
      · have h1 : (((s[i]'hlt).toNat : Int) != 45) = true := by
          have : (s[i]'hlt).toNat ≠ 45 := fun h => hc (UInt8.toNat_inj.1 h)
          simp; omega
        have HC := Lib.hid hc
        clear hc
        go_wp2_with fail
        go_roundw
        case rel => exact ⟨i + 1, by omega, by go_num, _, rfl, HS.out _ (by unfold mdStep; rw [if_neg HC.out]), trivial⟩
        case measure => simp [intOf]; omega
    · obtain rfl : i = s.size := by omega
      have hn : n = mdRead s.data.toList := by
        have := HN.out
        rwa [List.take_of_length_le (by show s.data.toList.length ≤ s.data.size; simp)] at this
      have HM := Lib.hid hn
      clear hn
      have hdl : decide ((s.size : Int) < (s.size : Int)) = false := by simp
      by_cases he : str (pmShow n) = s
      · have hq : ((str (pmShow n)).toList == s.toList) = true := by rw [he]; simp
        have HR := Lib.hid (show Value.tuple #[.int .i64 n, .int .i64 0] = pmModeR s from by unfold pmModeR; rw [← HM.out, if_pos he])
        clear he
        go_wp2_with (go_at_call 30; go_must (refine (pShow_any n _).mono ?_); rintro e w1 ⟨rfl, hb1⟩)
        go_ret2
        exact ⟨congrArg _ HR.out, hb1⟩
      · have hq : ((str (pmShow n)).toList == s.toList) = false := by rw [beq_eq_false_iff_ne]; exact fun h => he (toList_inj h)
        have HR := Lib.hid (show Value.tuple #[.int .i64 0, .int .i64 40] = pmModeR s from by unfold pmModeR; rw [← HM.out, if_neg he])
        clear he
        go_wp2_with (go_at_call 30; go_must (refine (pShow_any n _).mono ?_); rintro e w1 ⟨rfl, hb1⟩)
        go_ret2
        exact ⟨congrArg _ HR.out, hb1⟩
end Go.Proofs.Ytinhdabfiahjpaa
