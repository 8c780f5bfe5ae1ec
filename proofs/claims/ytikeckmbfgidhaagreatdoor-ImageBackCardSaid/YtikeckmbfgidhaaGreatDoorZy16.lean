/- Several texts in one: Nm. -/
import Derived.Test.YtikeckmbfgidhaaGreatDoorZy01
import Derived.Test.YtikeckmbfgidhaaGreatDoorZy15
/- Numbers as bytes, and texts as lists: plain lemmas; nothing of the program is named here. -/
namespace Go.Proofs.YtikeckmbfgidhaaGreatDoor
open Go.RowKit
set_option linter.unusedSimpArgs false
set_option linter.unusedVariables false

def num (xs : List UInt8) : Nat := xs.foldl (fun n b => n * 256 + b.toNat) 0
theorem num_snoc (xs : List UInt8) (b : UInt8) : num (xs ++ [b]) = num xs * 256 + b.toNat := by simp [num]
theorem num_lt (xs : List UInt8) : num xs < 256 ^ xs.length := by
  have h : ∀ (xs : List UInt8) (n : Nat), xs.foldl (fun n b => n * 256 + b.toNat) n < (n + 1) * 256 ^ xs.length := by
    intro xs
    induction xs with
    | nil => intro n; simp
    | cons b xs ih =>
      intro n
      have hb : b.toNat < 256 := b.toNat_lt
      have := ih (n * 256 + b.toNat)
      calc _ < (n * 256 + b.toNat + 1) * 256 ^ xs.length := this
        _ ≤ ((n + 1) * 256) * 256 ^ xs.length := Nat.mul_le_mul_right _ (by omega)
        _ = _ := by rw [List.length_cons, Nat.pow_succ]; simp [Nat.mul_assoc, Nat.mul_comm]
  simpa [num] using h xs 0
theorem num4 (s : ByteArray) (h : s.size = 4) : num s.data.toList < 4294967296 := by
  have := num_lt s.data.toList
  rw [show s.data.toList.length = 4 from by simpa using h] at this
  omega
theorem num8 (s : ByteArray) (h : s.size = 8) : num s.data.toList < 18446744073709551616 := by
  have := num_lt s.data.toList
  rw [show s.data.toList.length = 8 from by simpa using h] at this
  omega
theorem num_cons (b : UInt8) (xs : List UInt8) : num (b :: xs) = b.toNat * 256 ^ xs.length + num xs := by
  have h : ∀ (xs : List UInt8) (n : Nat), xs.foldl (fun n b => n * 256 + b.toNat) n = n * 256 ^ xs.length + num xs := by
    intro xs
    induction xs with
    | nil => intro n; simp [num]
    | cons c xs ih =>
      intro n
      have h1 := ih (n * 256 + c.toNat)
      have h2 := ih (0 * 256 + c.toNat)
      have h3 : num (c :: xs) = c.toNat * 256 ^ xs.length + num xs := by simpa [num] using h2
      rw [List.foldl_cons, h1, h3, List.length_cons, Nat.pow_succ, Nat.add_mul, Nat.mul_assoc, Nat.mul_comm 256, Nat.add_assoc]
  have := h xs b.toNat
  simpa [num] using this
theorem be_add : ∀ (k a v : Nat), be k (a * 256 ^ k + v) = be k v
  | 0, _, _ => rfl
  | k + 1, a, v => by
    have e : a * 256 ^ (k + 1) + v = (a * 256) * 256 ^ k + v := by rw [Nat.pow_succ, Nat.mul_assoc, Nat.mul_comm 256]
    have h := be_add k (a * 256) v
    unfold be
    rw [e, h]
    congr 1
    have : (a * 256 * 256 ^ k + v) / 256 ^ k = a * 256 + v / 256 ^ k := by
      rw [Nat.add_comm, Nat.add_mul_div_right _ _ (Nat.pow_pos (by omega)), Nat.add_comm]
    rw [this]
    apply UInt8.toNat_inj.1
    simp [UInt8.toNat_ofNat']
theorem be_num : ∀ (xs : List UInt8), be xs.length (num xs) = xs
  | [] => rfl
  | b :: xs => by
    rw [List.length_cons, num_cons]
    unfold be
    rw [be_add, be_num xs]
    congr 1
    have hlt := num_lt xs
    have : (b.toNat * 256 ^ xs.length + num xs) / 256 ^ xs.length = b.toNat := by
      rw [Nat.add_comm, Nat.add_mul_div_right _ _ (Nat.pow_pos (by omega)), Nat.div_eq_of_lt hlt, Nat.zero_add]
    rw [this]
    simp
theorem cut (s : ByteArray) (n : Nat) (h : n ≤ s.size) : (s.extract 0 n).data.toList ++ (s.extract n s.size).data.toList = s.data.toList := by
  have e1 : (s.extract 0 n).data.toList = s.data.toList.take n := by simp [ByteArray.data_extract]
  have e2 : (s.extract n s.size).data.toList = s.data.toList.drop n := by
    simp [ByteArray.data_extract]
    exact List.take_of_length_le (by simp)
  rw [e1, e2, List.take_append_drop]
theorem size_first (s : ByteArray) (n : Nat) (h : n ≤ s.size) : (s.extract 0 n).size = n := by rw [ByteArray.size_extract]; omega
theorem len_data (s : ByteArray) : s.data.toList.length = s.size := by simp
theorem be_first (s : ByteArray) (n : Nat) (h : n ≤ s.size) : be n (num (s.extract 0 n).data.toList) = (s.extract 0 n).data.toList := by
  have := be_num (s.extract 0 n).data.toList
  rwa [len_data, size_first s n h] at this
theorem num_be : ∀ (k v : Nat), v < 256 ^ k → num (be k v) = v
  | 0, v, h => by
    have : v = 0 := by simpa using h
    subst this; rfl
  | k + 1, v, h => by
    have hp : 0 < 256 ^ k := Nat.pow_pos (by omega)
    have hq : v / 256 ^ k < 256 := by
      rw [Nat.div_lt_iff_lt_mul hp, Nat.mul_comm]
      rwa [Nat.pow_succ] at h
    have hb : (UInt8.ofNat (v / 256 ^ k)).toNat = v / 256 ^ k := by rw [UInt8.toNat_ofNat']; exact Nat.mod_eq_of_lt hq
    have hr : be k v = be k (v % 256 ^ k) := by
      have := be_add k (v / 256 ^ k) (v % 256 ^ k)
      rw [← this]
      congr 1
      rw [Nat.mul_comm]
      exact (Nat.div_add_mod v _).symm
    unfold be
    rw [num_cons, be_length, hb, hr, num_be k _ (Nat.mod_lt _ hp), Nat.mul_comm]
    exact Nat.div_add_mod v _
theorem str_first (xs ys : List UInt8) (n : Nat) (h : xs.length = n) : (str (xs ++ ys)).extract 0 n = str xs := by
  apply ByteArray.ext
  apply Array.toList_inj.1
  simp [str, ByteArray.data_extract, ← h]
theorem str_rest (xs ys : List UInt8) (n : Nat) (h : xs.length = n) : (str (xs ++ ys)).extract n (str (xs ++ ys)).size = str ys := by
  apply ByteArray.ext
  apply Array.toList_inj.1
  rw [str_size]
  simp [str, ByteArray.data_extract, ← h]
theorem str_toList (xs : List UInt8) : (str xs).data.toList = xs := by simp [str]
end Go.Proofs.YtikeckmbfgidhaaGreatDoor
