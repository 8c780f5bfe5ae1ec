/- Permissions and texts of modes: plain definitions; no function of the program is named here. -/
import Derived.Test.YtinhdabfiahjpaaBt
namespace Go.Proofs.Ytinhdabfiahjpaa
open Go

theorem and_zero (n : Int) : bits .and .i64 n 0 = 0 := by
  rw [bits_and_of]; simp [IntKind.wrap_i64]
theorem and_mul_bit (n : Int) (k : Nat) (hk : k ≤ 62) (b : Int) (hb : b = 0 ∨ b = 1) : bits .and .i64 n (2 ^ k * b) = 2 ^ k * (n / 2 ^ k % 2 * b) := by
  rcases hb with h | h
  · rw [h, Int.mul_zero, Int.mul_zero, and_zero, Int.mul_zero]
  · rw [h, Int.mul_one, Int.mul_one, and_bit n k hk _ rfl]
theorem two_pow_ne (k : Nat) : (2 : Int) ^ k ≠ 0 := by
  have : ((2 ^ k : Nat) : Int) = 2 ^ k := by simp
  have h : 0 < (2 ^ k : Nat) := Nat.pow_pos (by omega)
  omega
theorem bit_and (x y : Int) (k : Nat) (hk : k ≤ 62) : bits .and .i64 x y / 2 ^ k % 2 = x / 2 ^ k % 2 * (y / 2 ^ k % 2) := by
  have h := bits_and_assoc x y (2 ^ k)
  rw [and_bit _ k hk _ rfl, and_bit y k hk _ rfl, and_mul_bit x k hk _ (by omega)] at h
  exact Int.eq_of_mul_eq_mul_left (two_pow_ne k) h
theorem or_self_bit (k : Nat) (hk : k ≤ 62) (a b : Int) (ha : a = 0 ∨ a = 1) (hb : b = 0 ∨ b = 1) :
    bits .or .i64 (2 ^ k * a) (2 ^ k * b) = 2 ^ k * (if a = 1 ∨ b = 1 then 1 else 0) := by
  have hp : (2 ^ k : Nat) ≤ 2 ^ 62 := Nat.pow_le_pow_right (by omega) hk
  have hpos : 0 < (2 ^ k : Nat) := Nat.pow_pos (by omega)
  have e2 : ((2 ^ k : Nat) : Int) = 2 ^ k := by simp
  have hmz : (BitVec.ofInt 64 (2 ^ k)).toNat = 2 ^ k := by
    rw [BitVec.toNat_ofInt, ← e2]
    omega
  rw [bits_or_of]
  rcases ha with ha | ha <;> rcases hb with hb | hb <;> rw [ha, hb]
  · simp [IntKind.wrap_i64]
  · simp only [Int.mul_zero, Int.mul_one]
    rw [BitVec.toNat_or, hmz, IntKind.wrap_i64, ← e2]
    simp; omega
  · simp only [Int.mul_zero, Int.mul_one]
    rw [BitVec.toNat_or, hmz, IntKind.wrap_i64, ← e2]
    simp; omega
  · simp only [Int.mul_one]
    rw [BitVec.or_self, hmz, IntKind.wrap_i64, ← e2]
    simp; omega
theorem bit_or (x y : Int) (k : Nat) (hk : k ≤ 62) : bits .or .i64 x y / 2 ^ k % 2 = if x / 2 ^ k % 2 = 1 ∨ y / 2 ^ k % 2 = 1 then 1 else 0 := by
  have h := bits_and_or (2 ^ k) x y
  rw [bits_and_comm (2 ^ k), bits_and_comm (2 ^ k), bits_and_comm (2 ^ k), and_bit _ k hk _ rfl, and_bit x k hk _ rfl, and_bit y k hk _ rfl, or_self_bit k hk _ _ (by omega) (by omega)] at h
  exact Int.eq_of_mul_eq_mul_left (two_pow_ne k) h

/-- The permission bits that a user has for a node. -/
def pmBits (mode uid gid cu cg : Int) : Int :=
  if cu = 0 then 7 else if cu = uid then mode / 64 % 8 else if cg = gid then mode / 8 % 8 else mode % 8
theorem pmBits_range (mode uid gid cu cg : Int) : 0 ≤ pmBits mode uid gid cu cg ∧ pmBits mode uid gid cu cg < 8 := by
  unfold pmBits
  split
  · omega
  · split
    · omega
    · split <;> omega
/-- Are all of the three lowest bits of what is wanted among those that one has? -/
def pmMay (b want : Int) : Bool :=
  decide ((want % 2 = 1 → b % 2 = 1) ∧ (want / 2 % 2 = 1 → b / 2 % 2 = 1) ∧ (want / 4 % 2 = 1 → b / 4 % 2 = 1))
theorem pmMay_zero (b : Int) : pmMay b 0 = true := by simp [pmMay]
theorem pmMay_and (b x y : Int) (h : pmMay b x = true) : pmMay b (bits .and .i64 x y) = true := by
  simp only [pmMay, decide_eq_true_eq] at h ⊢
  have h0 := bit_and x y 0 (by omega)
  have h1 := bit_and x y 1 (by omega)
  have h2 := bit_and x y 2 (by omega)
  have e0 : (2 : Int) ^ 0 = 1 := by decide
  have e1 : (2 : Int) ^ 1 = 2 := by decide
  have e2 : (2 : Int) ^ 2 = 4 := by decide
  rw [e0, Int.ediv_one, Int.ediv_one, Int.ediv_one] at h0
  rw [e1] at h1
  rw [e2] at h2
  rw [h0, h1, h2]
  refine ⟨fun g => h.1 ?_, fun g => h.2.1 ?_, fun g => h.2.2 ?_⟩
  · rcases (show x % 2 = 0 ∨ x % 2 = 1 by omega) with e | e
    · rw [e] at g; omega
    · exact e
  · rcases (show x / 2 % 2 = 0 ∨ x / 2 % 2 = 1 by omega) with e | e
    · rw [e] at g; omega
    · exact e
  · rcases (show x / 4 % 2 = 0 ∨ x / 4 % 2 = 1 by omega) with e | e
    · rw [e] at g; omega
    · exact e
theorem pmMay_low (b want : Int) : pmMay b (want % 8) = pmMay b want := by
  unfold pmMay
  have h0 : want % 8 % 2 = want % 2 := by omega
  have h1 : want % 8 / 2 % 2 = want / 2 % 2 := by omega
  have h2 : want % 8 / 4 % 2 = want / 4 % 2 := by omega
  rw [h0, h1, h2]
theorem upto8 {P : Int → Prop} (h : ∀ n : Fin 8, P (n.val : Int)) (x : Int) (h0 : 0 ≤ x) (h1 : x < 8) : P x := by
  have := h ⟨x.toNat, by omega⟩
  rwa [show ((x.toNat : Nat) : Int) = x by omega] at this
theorem pmMay_andNot (b want : Int) (h0 : 0 ≤ b) (h1 : b < 8) : decide (bits .andNot .i64 (bits .and .i64 want 7) b = 0) = pmMay b want := by
  rw [and_7, ← pmMay_low]
  revert h0 h1
  intro h0 h1
  refine upto8 (P := fun x => decide (bits .andNot .i64 x b = 0) = pmMay b x) ?_ (want % 8) (by omega) (by omega)
  refine upto8 (P := fun b => ∀ n : Fin 8, decide (bits .andNot .i64 (n.val : Int) b = 0) = pmMay b (n.val : Int)) ?_ b h0 h1
  decide +kernel
theorem pmMay_same (b want : Int) (h0 : 0 ≤ b) (h1 : b < 8) : decide (bits .and .i64 b (bits .and .i64 want 7) = bits .and .i64 want 7) = pmMay b want := by
  rw [and_7, ← pmMay_low]
  refine upto8 (P := fun x => decide (bits .and .i64 b x = x) = pmMay b x) ?_ (want % 8) (by omega) (by omega)
  refine upto8 (P := fun b => ∀ n : Fin 8, decide (bits .and .i64 b (n.val : Int) = (n.val : Int)) = pmMay b (n.val : Int)) ?_ b h0 h1
  decide +kernel

/-- The bits one by one, as loops and calls ask for them. -/
theorem bit1_iff (n : Int) : bits .and .i64 n 1 = 0 ↔ ¬ n % 2 = 1 := by rw [and_1]; omega
theorem bit2_iff (n : Int) : bits .and .i64 n 2 = 0 ↔ ¬ n / 2 % 2 = 1 := by rw [and_2]; omega
theorem bit4_iff (n : Int) : bits .and .i64 n 4 = 0 ↔ ¬ n / 4 % 2 = 1 := by rw [and_4]; omega
theorem may_4 (b : Int) : pmMay b 4 = decide (b / 4 % 2 = 1) := by simp [pmMay]
theorem may_2 (b : Int) : pmMay b 2 = decide (b / 2 % 2 = 1) := by simp [pmMay]
theorem may_1 (b : Int) : pmMay b 1 = decide (b % 2 = 1) := by simp [pmMay]

/-- The access bits that one has. -/
def pmHas (dir : Bool) (b : Int) : Int :=
  (if b / 4 % 2 = 1 then 1 else 0) + (if b / 2 % 2 = 1 then 12 else 0) +
    (if dir then (if b % 2 = 1 then 2 else 0) + (if b / 2 % 2 = 1 then 16 else 0) else if b % 2 = 1 then 32 else 0)
def pmAccess (dir : Bool) (b asked : Int) : Int := bits .and .i64 (pmHas dir b) asked
theorem pmAccess_or (dir : Bool) (b x y : Int) : pmAccess dir b (bits .or .i64 x y) = bits .or .i64 (pmAccess dir b x) (pmAccess dir b y) := bits_and_or _ _ _
theorem pmHas_range (dir : Bool) (b : Int) : 0 ≤ pmHas dir b ∧ pmHas dir b < 64 := by
  unfold pmHas
  cases dir
  · simp only [Bool.false_eq_true, if_false]
    repeat' split
    all_goals omega
  · simp only [if_true]
    repeat' split
    all_goals omega

/-- The letter of a bit. -/
def rwx (k : Nat) : UInt8 := if k % 3 = 2 then 114 else if k % 3 = 1 then 119 else 120
theorem rwx_ne (k : Nat) : rwx k ≠ 45 := by
  unfold rwx
  split
  · decide
  · split <;> decide
def pmBit (m : Int) (k : Nat) : UInt8 := if m / 2 ^ k % 2 = 1 then rwx k else 45
def showK : Nat → Int → List UInt8
  | 0, _ => []
  | k + 1, m => pmBit m k :: showK k m
/-- The text of a mode. -/
def pmShow (m : Int) : List UInt8 := showK 9 m
theorem showK_len (k : Nat) (m : Int) : (showK k m).length = k := by
  induction k with
  | zero => rfl
  | succ k ih => simp [showK, ih]
theorem pmShow_len (m : Int) : (pmShow m).length = 9 := showK_len 9 m
theorem showK_get (k : Nat) (m : Int) (j : Nat) (h : j < k) : (showK k m)[j]? = some (pmBit m (k - 1 - j)) := by
  induction k generalizing j with
  | zero => omega
  | succ k ih =>
    cases j with
    | zero => simp [showK]
    | succ j =>
      simp only [showK, List.getElem?_cons_succ]
      rw [ih j (by omega)]
      congr 2
      omega
theorem showK_drop (k j : Nat) (m : Int) (h : j ≤ k) : (showK k m).drop j = showK (k - j) m := by
  induction j generalizing k with
  | zero => simp
  | succ j ih =>
    cases k with
    | zero => omega
    | succ k =>
      simp only [showK, List.drop_succ_cons]
      rw [ih k (by omega), Nat.succ_sub_succ]
theorem shows_take (m : Int) (j : Nat) (h : j < 9) : (pmShow m).take (j + 1) = (pmShow m).take j ++ [pmBit m (8 - j)] := by
  have g := showK_get 9 m j h
  rw [List.take_add_one]
  show (showK 9 m).take j ++ ((showK 9 m)[j]?).toList = (showK 9 m).take j ++ [pmBit m (8 - j)]
  rw [g]
  rfl
theorem bit_add (m q : Int) (k j : Nat) (h : j < k) : (m + q * 2 ^ k) / 2 ^ j % 2 = m / 2 ^ j % 2 := by
  have e : (2 : Int) ^ k = 2 * 2 ^ (k - 1 - j) * 2 ^ j := by
    rw [Int.mul_assoc, ← Int.pow_add, ← Int.pow_succ', show k - 1 - j + j + 1 = k by omega]
  rw [e, ← Int.mul_assoc, Int.add_mul_ediv_right _ _ (two_pow_ne j), ← Int.mul_assoc, Int.mul_comm q 2, Int.mul_assoc, Int.add_mul_emod_self_left]
theorem pmBit_add (m q : Int) (k j : Nat) (h : j < k) : pmBit (m + q * 2 ^ k) j = pmBit m j := by
  unfold pmBit
  rw [bit_add m q k j h]
theorem showK_add (n k : Nat) (m q : Int) (h : n ≤ k) : showK n (m + q * 2 ^ k) = showK n m := by
  induction n with
  | zero => rfl
  | succ n ih => simp only [showK]; rw [ih (by omega), pmBit_add m q k n (by omega)]
theorem pmShow_mod (m : Int) : pmShow (m % 512) = pmShow m := by
  have h := showK_add 9 9 (m % 512) (m / 512) (Nat.le_refl _)
  have e : m % 512 + m / 512 * 2 ^ 9 = m := by
    have : (2 : Int) ^ 9 = 512 := by decide
    rw [this]; omega
  rw [e] at h
  exact h.symm
/-- The mode of a text, read from the left. -/
def pmRead : List UInt8 → Int → Option Int
  | [], acc => some acc
  | c :: cs, acc => if c = rwx cs.length then pmRead cs (2 * acc + 1) else if c = 45 then pmRead cs (2 * acc) else none
def pmMode (l : List UInt8) : Option Int := if l.length = 9 then pmRead l 0 else none
theorem two_pow_succ (k : Nat) : (2 : Int) ^ (k + 1) = 2 * 2 ^ k := by rw [Int.pow_succ, Int.mul_comm]
theorem mod_succ (m : Int) (k : Nat) : m % 2 ^ (k + 1) = m / 2 ^ k % 2 * 2 ^ k + m % 2 ^ k := by
  have hp : (0 : Int) < 2 ^ k := by
    have : ((2 ^ k : Nat) : Int) = 2 ^ k := by simp
    have h : 0 < (2 ^ k : Nat) := Nat.pow_pos (by omega)
    omega
  have a := Int.emod_add_mul_ediv m (2 ^ k)
  have b := Int.emod_add_mul_ediv (m / 2 ^ k) 2
  have hr0 := Int.emod_nonneg m (show (2 : Int) ^ k ≠ 0 by omega)
  have hr1 := Int.emod_lt_of_pos m hp
  have hb : m / 2 ^ k % 2 = 0 ∨ m / 2 ^ k % 2 = 1 := by omega
  have e : m = (m / 2 ^ k % 2 * 2 ^ k + m % 2 ^ k) + 2 ^ (k + 1) * (m / 2 ^ k / 2) := by
    rw [two_pow_succ, Int.mul_comm 2 (2 ^ k), Int.mul_assoc]
    calc m = m % 2 ^ k + 2 ^ k * (m / 2 ^ k) := a.symm
      _ = m % 2 ^ k + 2 ^ k * (m / 2 ^ k % 2 + 2 * (m / 2 ^ k / 2)) := by rw [b]
      _ = _ := by rw [Int.mul_add, Int.mul_comm (2 ^ k) (m / 2 ^ k % 2)]; omega
  have f := Int.add_mul_emod_self_left (m / 2 ^ k % 2 * 2 ^ k + m % 2 ^ k) (2 ^ (k + 1)) (m / 2 ^ k / 2)
  rw [← e] at f
  rw [f]
  refine Int.emod_eq_of_lt ?_ ?_
  · rcases hb with h | h <;> rw [h] <;> omega
  · rw [two_pow_succ]; rcases hb with h | h <;> rw [h] <;> omega
theorem pmRead_showK (k : Nat) (m acc : Int) : pmRead (showK k m) acc = some (acc * 2 ^ k + m % 2 ^ k) := by
  induction k generalizing acc with
  | zero => simp [showK, pmRead]
  | succ k ih =>
    simp only [showK, pmRead, showK_len]
    rw [mod_succ, two_pow_succ]
    rcases (show m / 2 ^ k % 2 = 0 ∨ m / 2 ^ k % 2 = 1 by omega) with h | h
    · have e : pmBit m k = 45 := by unfold pmBit; rw [if_neg (by omega)]
      rw [e, if_neg (fun g => rwx_ne k g.symm), if_pos rfl, ih, h]
      congr 1
      rw [Int.mul_comm 2 acc, Int.mul_assoc]; omega
    · have e : pmBit m k = rwx k := by unfold pmBit; rw [if_pos h]
      rw [e, if_pos rfl, ih, h]
      congr 1
      rw [Int.add_mul, Int.mul_comm 2 acc, Int.mul_assoc]; omega
theorem pmMode_show (m : Int) : pmMode (pmShow m) = some (m % 512) := by
  unfold pmMode
  rw [if_pos (pmShow_len m)]
  have := pmRead_showK 9 m 0
  rw [show pmShow m = showK 9 m from rfl, this]
  congr 1
  have e : (2 : Int) ^ 9 = 512 := by decide
  rw [e]; omega
theorem pmRead_is (l : List UInt8) (acc r : Int) (h : pmRead l acc = some r) : ∃ v, 0 ≤ v ∧ v < 2 ^ l.length ∧ r = acc * 2 ^ l.length + v ∧ showK l.length v = l := by
  induction l generalizing acc with
  | nil =>
    simp only [pmRead, Option.some.injEq] at h
    exact ⟨0, by omega, by simp, by simp [h], rfl⟩
  | cons c cs ih =>
    have hp := two_pow_ne cs.length
    simp only [pmRead] at h
    split at h
    · rename_i hc
      obtain ⟨v, h0, h1, h2, h3⟩ := ih _ h
      refine ⟨v + 1 * 2 ^ cs.length, by omega, ?_, ?_, ?_⟩
      · simp only [List.length_cons]; rw [two_pow_succ]; omega
      · simp only [List.length_cons]; rw [h2, two_pow_succ, Int.add_mul, Int.mul_comm 2 acc, Int.mul_assoc]; omega
      · simp only [List.length_cons, showK]
        rw [showK_add _ _ _ _ (Nat.le_refl _), h3]
        congr 1
        unfold pmBit
        rw [Int.add_mul_ediv_right _ _ hp, Int.ediv_eq_zero_of_lt h0 h1, if_pos (by decide), hc]
    · split at h
      · rename_i hc
        obtain ⟨v, h0, h1, h2, h3⟩ := ih _ h
        refine ⟨v, h0, ?_, ?_, ?_⟩
        · simp only [List.length_cons]; rw [two_pow_succ]; omega
        · simp only [List.length_cons]; rw [h2, two_pow_succ, Int.mul_comm 2 acc, Int.mul_assoc]
        · simp only [List.length_cons, showK]
          rw [h3]
          congr 1
          unfold pmBit
          rw [Int.ediv_eq_zero_of_lt h0 h1, if_neg (by decide), hc]
      · exact absurd h (by simp)
/-- What is read is a mode, and its text is what was read. -/
theorem pmMode_is (l : List UInt8) (m : Int) (h : pmMode l = some m) : 0 ≤ m ∧ m < 512 ∧ pmShow m = l := by
  unfold pmMode at h
  split at h
  · rename_i hl
    obtain ⟨v, h0, h1, h2, h3⟩ := pmRead_is l 0 m h
    rw [hl] at h1 h3
    have e : (2 : Int) ^ 9 = 512 := by decide
    rw [Int.zero_mul, Int.zero_add] at h2
    rw [h2]
    exact ⟨h0, by omega, h3⟩
  · exact absurd h (by simp)
theorem pmMode_none (l : List UInt8) (h : pmMode l = none) (m : Int) : pmShow m ≠ l := by
  intro e
  rw [← e, pmMode_show] at h
  exact absurd h (by simp)
end Go.Proofs.Ytinhdabfiahjpaa
