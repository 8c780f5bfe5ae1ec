/- What is read, written once more: the numbers and bytes alone. -/
import Derived.Test.YtdjnadgcjmlejaaDoorXt
namespace Go.Proofs.YtdjnadgcjmlejaaDoor
open Go.RowKit

theorem num_cons (b : UInt8) (xs : List UInt8) : num (b :: xs) = b.toNat * 256 ^ xs.length + num xs := by
  have h : ∀ (xs : List UInt8) (n : Nat), xs.foldl (fun n b => n * 256 + b.toNat) n = n * 256 ^ xs.length + num xs := by
    intro xs
    induction xs with
    | nil => intro n; simp [num]
    | cons c xs ih =>
      intro n
      have h1 := ih (n * 256 + c.toNat)
      have h2 := ih (0 * 256 + c.toNat)
      have h3 : num (c :: xs) = c.toNat * 256 ^ xs.length + num xs := by simpa [num] using h2
      rw [List.foldl_cons, h1, h3, List.length_cons, Nat.pow_succ, Nat.add_mul, Nat.mul_assoc, Nat.mul_comm 256, Nat.add_assoc]
  have := h xs b.toNat
  simpa [num] using this

theorem be_add : ∀ (k a v : Nat), be k (a * 256 ^ k + v) = be k v
  | 0, _, _ => rfl
  | k + 1, a, v => by
    have e : a * 256 ^ (k + 1) + v = (a * 256) * 256 ^ k + v := by rw [Nat.pow_succ, Nat.mul_assoc, Nat.mul_comm 256]
    have h := be_add k (a * 256) v
    unfold be
    rw [e, h]
    congr 1
    have : (a * 256 * 256 ^ k + v) / 256 ^ k = a * 256 + v / 256 ^ k := by
      rw [Nat.add_comm, Nat.add_mul_div_right _ _ (Nat.pow_pos (by omega)), Nat.add_comm]
    rw [this]
    apply UInt8.toNat_inj.1
    simp [UInt8.toNat_ofNat']

theorem be_num : ∀ (xs : List UInt8), be xs.length (num xs) = xs
  | [] => rfl
  | b :: xs => by
    rw [List.length_cons, num_cons]
    unfold be
    rw [be_add, be_num xs]
    congr 1
    have hlt := num_lt xs
    have : (b.toNat * 256 ^ xs.length + num xs) / 256 ^ xs.length = b.toNat := by
      rw [Nat.add_comm, Nat.add_mul_div_right _ _ (Nat.pow_pos (by omega)), Nat.div_eq_of_lt hlt, Nat.zero_add]
    rw [this]
    simp

theorem cut (s : ByteArray) (n : Nat) (h : n ≤ s.size) : (s.extract 0 n).data.toList ++ (s.extract n s.size).data.toList = s.data.toList := by
  have e1 : (s.extract 0 n).data.toList = s.data.toList.take n := by simp [ByteArray.data_extract]
  have e2 : (s.extract n s.size).data.toList = s.data.toList.drop n := by
    simp [ByteArray.data_extract]
    exact List.take_of_length_le (by simp)
  rw [e1, e2, List.take_append_drop]

theorem size_first (s : ByteArray) (n : Nat) (h : n ≤ s.size) : (s.extract 0 n).size = n := by rw [ByteArray.size_extract]; omega
theorem len_data (s : ByteArray) : s.data.toList.length = s.size := by simp

theorem be_first (s : ByteArray) (n : Nat) (h : n ≤ s.size) : be n (num (s.extract 0 n).data.toList) = (s.extract 0 n).data.toList := by
  have := be_num (s.extract 0 n).data.toList
  rwa [len_data, size_first s n h] at this

theorem rdU32_ok {s : ByteArray} {e : Int} (h : (rdU32 s e).2.1 = 0) : e = 0 ∧ 4 ≤ s.size ∧ rdU32 s e = (s.extract 4 s.size, 0, (num (s.extract 0 4).data.toList : Int)) := by
  unfold rdU32 at h ⊢
  split at h
  · exact absurd h (by assumption)
  · rename_i he
    have he : e = 0 := by simpa using he
    split at h
    · cases h
    · rename_i hl
      exact ⟨he, by omega, by rw [if_neg (by simpa using he), if_neg hl]⟩
theorem rdU64_ok {s : ByteArray} {e : Int} (h : (rdU64 s e).2.1 = 0) : e = 0 ∧ 8 ≤ s.size ∧ num (s.extract 0 8).data.toList ≤ 9223372036854775807 ∧ rdU64 s e = (s.extract 8 s.size, 0, (num (s.extract 0 8).data.toList : Int)) := by
  unfold rdU64 at h ⊢
  split at h
  · exact absurd h (by assumption)
  · rename_i he
    have he : e = 0 := by simpa using he
    split at h
    · cases h
    · rename_i hl
      split at h
      · cases h
      · rename_i hx
        exact ⟨he, by omega, by omega, by rw [if_neg (by simpa using he), if_neg hl, if_neg hx]⟩
theorem rdBool_ok {s : ByteArray} {e : Int} (h : (rdBool s e).2.1 = 0) : e = 0 ∧ 4 ≤ s.size ∧ num (s.extract 0 4).data.toList ≤ 1 ∧ rdBool s e = (s.extract 4 s.size, 0, (num (s.extract 0 4).data.toList : Int) == 1) := by
  unfold rdBool at h ⊢
  split at h
  · exact absurd h (by assumption)
  · rename_i he
    have he : e = 0 := by simpa using he
    split at h
    · cases h
    · rename_i hl
      split at h
      · cases h
      · rename_i hx
        exact ⟨he, by omega, by omega, by rw [if_neg (by simpa using he), if_neg hl, if_neg hx]⟩
theorem rdFail_no {c : Int} {s : ByteArray} {e : Int} (hc : c ≠ 0) : (rdFail c s e).2 ≠ 0 := by
  unfold rdFail
  split
  · assumption
  · exact hc
theorem rdFixed_ok {n : Int} {s : ByteArray} {e : Int} (h : (rdFixed n s e).2.1 = 0) :
    ∃ m : Nat, n = m ∧ e = 0 ∧ m + padN m ≤ s.size ∧ allZero (s.extract m (m + padN m)).data.toList = true ∧ rdFixed n s e = (s.extract (m + padN m) s.size, 0, s.extract 0 m) := by
  unfold rdFixed at h ⊢
  split at h
  · exact absurd h (rdFail_no (by decide))
  · rename_i h1
    split at h
    · exact absurd h (rdFail_no (by decide))
    · rename_i h2
      split at h
      · exact absurd h (by assumption)
      · rename_i h3
        split at h
        · cases h
        · rename_i h4
          split at h
          · cases h
          · rename_i h5
            obtain ⟨m, rfl⟩ : ∃ m : Nat, n = m := ⟨n.toNat, by omega⟩
            rw [Int.toNat_natCast] at h4 h5
            exact ⟨m, rfl, by simpa using h3, by omega, by simpa using h5, by rw [if_neg h1, if_neg h2, if_neg h3, if_neg (by rw [Int.toNat_natCast]; exact h4), if_neg (by rw [Int.toNat_natCast]; exact h5), Int.toNat_natCast]⟩

theorem zeros (xs : List UInt8) (h : allZero xs = true) : xs = List.replicate xs.length 0 := by
  rw [List.eq_replicate_iff]
  exact ⟨rfl, fun b hb => by simpa using List.all_eq_true.1 h b hb⟩

theorem padded_first (s : ByteArray) (m : Nat) (h : m + padN m ≤ s.size) (hz : allZero (s.extract m (m + padN m)).data.toList = true) :
    padded (s.extract 0 m) ++ (s.extract (m + padN m) s.size).data.toList = s.data.toList := by
  unfold padded
  rw [size_first s m (by omega)]
  have hl : (s.extract m (m + padN m)).data.toList.length = padN m := by rw [len_data, ByteArray.size_extract]; omega
  have hr := zeros _ hz
  rw [hl] at hr
  rw [← hr]
  have hc := cut (s.extract 0 (m + padN m)) m (by rw [size_first s _ h]; omega)
  rw [ext_first s m (m + padN m) (by omega), ext_last s m (m + padN m) h] at hc
  rw [hc]
  exact cut s _ h

/-- What is read of one kind, written once more, is the bytes that were taken. -/
theorem take_put (kind : Int) (n : Int) (s : ByteArray) (hn : n ≤ 200) (h : (rdTake kind n s 0).2.1 = 0) (h1 : 1 ≤ kind) (h2 : kind ≤ 6) :
    ∃ bs, thPut kind (rdTake kind n s 0).2.2.1 (rdTake kind n s 0).2.2.2.1 (rdTake kind n s 0).2.2.2.2 = (0, bs) ∧ bs ++ (rdTake kind n s 0).1.data.toList = s.data.toList := by
  rcases kinds kind with rfl | rfl | rfl | rfl | rfl | rfl | ⟨k1, k2, k3, k4, k5, k6⟩
  · have h : (rdU32 s 0).2.1 = 0 := h
    obtain ⟨_, hl, ed⟩ := rdU32_ok h
    have hn := num4 (s.extract 0 4) (size_first s 4 hl)
    show ∃ bs, putU32 (rdU32 s 0).2.2 = (0, bs) ∧ bs ++ (rdU32 s 0).1.data.toList = s.data.toList
    rw [ed]
    refine ⟨_, by unfold putU32; rw [if_neg (by dsimp only; omega)], ?_⟩
    rw [Int.toNat_natCast, be_first s 4 hl]
    exact cut s 4 hl
  · have h : (rdU64 s 0).2.1 = 0 := h
    obtain ⟨_, hl, hx, ed⟩ := rdU64_ok h
    show ∃ bs, putU64 (rdU64 s 0).2.2 = (0, bs) ∧ bs ++ (rdU64 s 0).1.data.toList = s.data.toList
    rw [ed]
    refine ⟨_, by unfold putU64; rw [if_neg (by dsimp only; omega)], ?_⟩
    rw [Int.toNat_natCast, be_first s 8 hl]
    exact cut s 8 hl
  · have h : (rdBool s 0).2.1 = 0 := h
    obtain ⟨_, hl, hx, ed⟩ := rdBool_ok h
    show ∃ bs, putBool (rdBool s 0).2.2 = (0, bs) ∧ bs ++ (rdBool s 0).1.data.toList = s.data.toList
    rw [ed]
    refine ⟨_, rfl, ?_⟩
    have e : (if ((num (s.extract 0 4).data.toList : Int) == 1) = true then 1 else 0) = num (s.extract 0 4).data.toList := by
      by_cases h1 : num (s.extract 0 4).data.toList = 1
      · rw [h1]; rfl
      · have h0 : num (s.extract 0 4).data.toList = 0 := by omega
        rw [h0]; rfl
    dsimp only
    rw [e, be_first s 4 hl]
    exact cut s 4 hl
  · have h : (rdFixed n s 0).2.1 = 0 := h
    obtain ⟨m, rfl, _, hl, hz, ed⟩ := rdFixed_ok h
    show ∃ bs, putFixed (rdFixed m s 0).2.2 = (0, bs) ∧ bs ++ (rdFixed m s 0).1.data.toList = s.data.toList
    rw [ed]
    refine ⟨_, by unfold putFixed; rw [if_neg (by dsimp only; rw [size_first s m (by omega)]; omega)], ?_⟩
    exact padded_first s m hl hz
  · have h : (rdOpaque n s 0).2.1 = 0 := h
    show ∃ bs, putOpaque (rdOpaque n s 0).2.2 = (0, bs) ∧ bs ++ (rdOpaque n s 0).1.data.toList = s.data.toList
    unfold rdOpaque at h ⊢
    split at h
    · exact absurd h (rdFail_no (by decide))
    · rename_i hm
      obtain ⟨m, hm2, he, hl, hz, ed⟩ := rdFixed_ok h
      obtain ⟨_, hl4, eu⟩ := rdU32_ok he
      rw [if_neg hm, ed]
      rw [eu] at hm hm2 hl hz ⊢
      dsimp only at hm hm2 hl hz ⊢
      have hm3 : num (s.extract 0 4).data.toList = m := by exact_mod_cast hm2
      refine ⟨_, by unfold putOpaque; rw [if_neg (by rw [size_first _ m (by omega)]; omega)], ?_⟩
      rw [size_first _ m (by omega), ← hm3, be_first s 4 hl4, hm3, List.append_assoc, padded_first _ m hl hz]
      exact cut s 4 hl4
  · have h : (rdOpt s 0).2.1 = 0 := h
    show ∃ bs, putOpt (rdOpt s 0).2.2.1 (rdOpt s 0).2.2.2 = (0, bs) ∧ bs ++ (rdOpt s 0).1.data.toList = s.data.toList
    unfold rdOpt at h ⊢
    split at h
    · rename_i hb
      obtain ⟨_, hl, hx, ed⟩ := rdBool_ok h
      rw [if_pos hb]
      rw [ed] at hb ⊢
      dsimp only at hb ⊢
      have h0 : num (s.extract 0 4).data.toList = 0 := by
        have : ¬ num (s.extract 0 4).data.toList = 1 := fun e => by rw [e] at hb; cases hb
        omega
      refine ⟨_, rfl, ?_⟩
      rw [← h0, be_first s 4 hl]
      exact cut s 4 hl
    · rename_i hb
      split at h
      · rename_i hu
        exact absurd h hu
      · rename_i hu
        have hu' : (rdU64 (rdBool s 0).1 (rdBool s 0).2.1).2.1 = 0 := by simpa using hu
        obtain ⟨he, hl8, hx8, eu⟩ := rdU64_ok hu'
        obtain ⟨_, hl, hx, ed⟩ := rdBool_ok he
        rw [if_neg hb, if_neg hu, eu]
        rw [ed] at hb hl8 hx8 ⊢
        dsimp only at hb hl8 hx8 ⊢
        have h1 : num (s.extract 0 4).data.toList = 1 := by
          have : ¬ num (s.extract 0 4).data.toList = 0 := fun e => by rw [e] at hb; exact hb rfl
          omega
        refine ⟨_, by unfold putOpt; rw [if_pos rfl, if_neg (by omega)], ?_⟩
        rw [Int.toNat_natCast, be_first _ 8 hl8, ← h1, be_first s 4 hl, List.append_assoc, cut _ 8 hl8]
        exact cut s 4 hl
  · omega
end Go.Proofs.YtdjnadgcjmlejaaDoor
