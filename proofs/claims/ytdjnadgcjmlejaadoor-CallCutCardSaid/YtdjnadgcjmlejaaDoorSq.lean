/- What is written, read: the numbers and bytes alone. -/
import Derived.Test.YtdjnadgcjmlejaaDoorSp
namespace Go.Proofs.YtdjnadgcjmlejaaDoor
open Go.RowKit

theorem num_be : ∀ (k v : Nat), v < 256 ^ k → num (be k v) = v
  | 0, v, h => by
    have : v = 0 := by simpa using h
    subst this; rfl
  | k + 1, v, h => by
    have hp : 0 < 256 ^ k := Nat.pow_pos (by omega)
    have hq : v / 256 ^ k < 256 := by
      rw [Nat.div_lt_iff_lt_mul hp, Nat.mul_comm]
      rwa [Nat.pow_succ] at h
    have hb : (UInt8.ofNat (v / 256 ^ k)).toNat = v / 256 ^ k := by rw [UInt8.toNat_ofNat']; exact Nat.mod_eq_of_lt hq
    have hr : be k v = be k (v % 256 ^ k) := by
      have := be_add k (v / 256 ^ k) (v % 256 ^ k)
      rw [← this]
      congr 1
      rw [Nat.mul_comm]
      exact (Nat.div_add_mod v _).symm
    unfold be
    rw [num_cons, be_length, hb, hr, num_be k _ (Nat.mod_lt _ hp), Nat.mul_comm]
    exact Nat.div_add_mod v _

theorem str_first (xs ys : List UInt8) (n : Nat) (h : xs.length = n) : (str (xs ++ ys)).extract 0 n = str xs := by
  apply ByteArray.ext
  apply Array.toList_inj.1
  simp [str, ByteArray.data_extract, ← h]
theorem str_rest (xs ys : List UInt8) (n : Nat) (h : xs.length = n) : (str (xs ++ ys)).extract n (str (xs ++ ys)).size = str ys := by
  apply ByteArray.ext
  apply Array.toList_inj.1
  rw [str_size]
  simp [str, ByteArray.data_extract, ← h]
theorem str_toList (xs : List UInt8) : (str xs).data.toList = xs := by simp [str]

theorem rdU32_be (v : Nat) (hv : v < 4294967296) (ys : List UInt8) : rdU32 (str (be 4 v ++ ys)) 0 = (str ys, 0, (v : Int)) := by
  unfold rdU32
  rw [if_neg (by simp), if_neg (by rw [str_size]; simp [be_length]), str_first _ _ 4 (be_length _ _), str_rest _ _ 4 (be_length _ _), str_toList, num_be 4 v (by omega)]
theorem rdU64_be (v : Nat) (hv : v ≤ 9223372036854775807) (ys : List UInt8) : rdU64 (str (be 8 v ++ ys)) 0 = (str ys, 0, (v : Int)) := by
  unfold rdU64
  rw [if_neg (by simp), if_neg (by rw [str_size]; simp [be_length]), str_first _ _ 8 (be_length _ _), str_rest _ _ 8 (be_length _ _), str_toList, num_be 8 v (by omega), if_neg (by omega)]
theorem rdBool_be (b : Bool) (ys : List UInt8) : rdBool (str (be 4 (if b then 1 else 0) ++ ys)) 0 = (str ys, 0, b) := by
  unfold rdBool
  rw [if_neg (by simp), if_neg (by rw [str_size]; simp [be_length]), str_first _ _ 4 (be_length _ _), str_rest _ _ 4 (be_length _ _), str_toList, num_be 4 _ (by cases b <;> decide)]
  cases b <;> simp
theorem padded_length (s : ByteArray) : (padded s).length = s.size + padN s.size := by simp [padded]
theorem allZero_replicate (n : Nat) : allZero (List.replicate n 0) = true := by
  unfold allZero
  rw [List.all_eq_true]
  intro b hb
  rw [List.eq_of_mem_replicate hb]
  rfl
theorem rdFixed_pad (s : ByteArray) (ys : List UInt8) : rdFixed s.size (str (padded s ++ ys)) 0 = (str ys, 0, s) := by
  have hl := padded_length s
  have hsz : (str (padded s ++ ys)).size = s.size + padN s.size + ys.length := by rw [str_size, List.length_append, hl]
  have e1 : (str (padded s ++ ys)).extract s.size (s.size + padN s.size) = str (List.replicate (padN s.size) 0) := by
    apply ByteArray.ext
    apply Array.toList_inj.1
    simp [str, ByteArray.data_extract, padded, List.drop_append, List.take_append]
  have e2 : (str (padded s ++ ys)).extract 0 s.size = s := by
    apply ByteArray.ext
    apply Array.toList_inj.1
    simp [str, ByteArray.data_extract, padded, List.take_append]
  unfold rdFixed
  rw [if_neg (by omega), if_neg (by rw [hsz]; omega), if_neg (by simp), if_neg (by rw [Int.toNat_natCast, hsz]; omega), Int.toNat_natCast, e1, str_toList, if_neg (by rw [allZero_replicate]; simp), str_rest _ _ _ hl, e2]

/-- What comes back of a thing. -/
def back (kind n : Int) (is : Bool) (s : ByteArray) : Int × Bool × ByteArray :=
  if kind = 1 ∨ kind = 2 then (n, false, ⟨#[]⟩) else if kind = 3 then (0, is, ⟨#[]⟩) else if kind = 4 ∨ kind = 5 then (0, false, s) else if kind = 6 then (if is then n else 0, is, ⟨#[]⟩) else (0, false, ⟨#[]⟩)

theorem put_take (kind n : Int) (is : Bool) (s : ByteArray) (bs ys : List UInt8) (hs : s.size ≤ 200) (hn : n ≤ 9223372036854775807) (h : thPut kind n is s = (0, bs)) :
    rdTake kind s.size (str (bs ++ ys)) 0 = (str ys, 0, (back kind n is s).1, (back kind n is s).2.1, (back kind n is s).2.2) := by
  rcases kinds kind with rfl | rfl | rfl | rfl | rfl | rfl | ⟨k1, k2, k3, k4, k5, k6⟩
  · have h : putU32 n = (0, bs) := h
    unfold putU32 at h
    split at h
    · cases h
    · obtain ⟨-, rfl⟩ := Prod.mk.inj h
      obtain ⟨m, rfl⟩ : ∃ m : Nat, n = m := ⟨n.toNat, by omega⟩
      show ((rdU32 _ 0).1, (rdU32 _ 0).2.1, (rdU32 _ 0).2.2, false, (⟨#[]⟩ : ByteArray)) = _
      rw [Int.toNat_natCast, rdU32_be m (by omega)]
      rfl
  · have h : putU64 n = (0, bs) := h
    unfold putU64 at h
    split at h
    · cases h
    · obtain ⟨-, rfl⟩ := Prod.mk.inj h
      obtain ⟨m, rfl⟩ : ∃ m : Nat, n = m := ⟨n.toNat, by omega⟩
      show ((rdU64 _ 0).1, (rdU64 _ 0).2.1, (rdU64 _ 0).2.2, false, (⟨#[]⟩ : ByteArray)) = _
      rw [Int.toNat_natCast, rdU64_be m (by omega)]
      rfl
  · have h : putBool is = (0, bs) := h
    obtain ⟨-, rfl⟩ := Prod.mk.inj h
    show ((rdBool _ 0).1, (rdBool _ 0).2.1, (0 : Int), (rdBool _ 0).2.2, (⟨#[]⟩ : ByteArray)) = _
    rw [rdBool_be]
    rfl
  · have h : putFixed s = (0, bs) := h
    unfold putFixed at h
    rw [if_neg (by omega)] at h
    obtain ⟨-, rfl⟩ := Prod.mk.inj h
    show ((rdFixed _ _ 0).1, (rdFixed _ _ 0).2.1, (0 : Int), false, (rdFixed _ _ 0).2.2) = _
    rw [rdFixed_pad]
    rfl
  · have h : putOpaque s = (0, bs) := h
    unfold putOpaque at h
    rw [if_neg (by omega)] at h
    obtain ⟨-, rfl⟩ := Prod.mk.inj h
    have e : rdOpaque s.size (str (be 4 s.size ++ padded s ++ ys)) 0 = (str ys, 0, s) := by
      unfold rdOpaque
      rw [List.append_assoc, rdU32_be s.size (by omega)]
      dsimp only
      rw [if_neg (by omega), rdFixed_pad]
    show ((rdOpaque _ _ 0).1, (rdOpaque _ _ 0).2.1, (0 : Int), false, (rdOpaque _ _ 0).2.2) = _
    rw [e]
    rfl
  · have h : putOpt is n = (0, bs) := h
    show ((rdOpt _ 0).1, (rdOpt _ 0).2.1, (rdOpt _ 0).2.2.2, (rdOpt _ 0).2.2.1, (⟨#[]⟩ : ByteArray)) = _
    unfold putOpt at h
    cases is with
    | false =>
      obtain ⟨-, rfl⟩ := Prod.mk.inj h
      have e : rdOpt (str (be 4 0 ++ ys)) 0 = (str ys, 0, false, 0) := by
        unfold rdOpt
        rw [show be 4 0 = be 4 (if false = true then 1 else 0) from rfl, rdBool_be]
        rfl
      rw [e]
      rfl
    | true =>
      rw [if_pos rfl] at h
      split at h
      · cases h
      · obtain ⟨-, rfl⟩ := Prod.mk.inj h
        obtain ⟨m, rfl⟩ : ∃ m : Nat, n = m := ⟨n.toNat, by omega⟩
        have e : rdOpt (str (be 4 1 ++ be 8 ((m : Int)).toNat ++ ys)) 0 = (str ys, 0, true, (m : Int)) := by
          unfold rdOpt
          rw [List.append_assoc, show be 4 1 = be 4 (if true = true then 1 else 0) from rfl, rdBool_be, Int.toNat_natCast]
          dsimp only
          rw [if_neg (by simp), rdU64_be m (by omega), if_neg (by simp)]
        rw [e]
        rfl
  · have hb : bs = [] := by
      unfold thPut at h
      rw [if_neg k1, if_neg k2, if_neg k3, if_neg k4, if_neg k5, if_neg k6] at h
      exact (Prod.mk.inj h).2.symm
    subst hb
    unfold rdTake back
    rw [if_neg k1, if_neg k2, if_neg k3, if_neg k4, if_neg k5, if_neg k6, if_neg (by omega), if_neg k3, if_neg (by omega), if_neg k6]
    rfl
end Go.Proofs.YtdjnadgcjmlejaaDoor
