/- Messages: plain definitions; what is laid comes back, and what is read was laid; no function of the program is named here. -/
import Derived.Test.YtimbcombhdgjiaaDoorNm
namespace Go.Proofs.YtimbcombhdgjiaaDoor
open Go.RowKit

structure Mg where
  xid : Int
  ans : Bool
  again : Bool
  proc : Int
  client : Int
  seq : Int
  uid : Int
  gid : Int
  accept : Int
  body : ByteArray
deriving DecidableEq
def Mg.zero : Mg := ⟨0, false, false, 0, 0, 0, 0, 0, 0, ⟨#[]⟩⟩
/-- A message's cells. -/
def Mg.arr (m : Mg) : Array Value :=
  #[.int .i64 m.xid, .bool m.ans, .bool m.again, .int .i64 m.proc, .int .i64 m.client, .int .i64 m.seq, .int .i64 m.uid, .int .i64 m.gid, .int .i64 m.accept, .string m.body]
/-- A number of 32 bits, not below another one. -/
def num32 (n least : Int) : Bool := decide (least ≤ n) && decide (n ≤ 4294967295)
/-- May it be whose call it is? -/
def okOwner (c s u g : Int) : Bool := decide (1 ≤ c) && decide (c ≤ 4) && num32 s 1 && num32 u 0 && num32 g 0
/-- May a message be? -/
def okMg (m : Mg) : Bool :=
  num32 m.xid 0 && decide (m.body.size ≤ 2048) && decide (m.body.size % 4 = 0) &&
  (if m.ans then decide (m.proc = 0) && decide (m.client = 0) && decide (m.seq = 0) && decide (m.uid = 0) && decide (m.gid = 0) && decide (0 ≤ m.accept) && decide (m.accept ≤ 4) && (decide (m.accept = 0) || (decide (m.body = ⟨#[]⟩) && !m.again)) && decide (m.body.size ≤ 2024)
   else decide (0 ≤ m.proc) && decide (m.proc ≤ 21) && okOwner m.client m.seq m.uid m.gid && decide (m.accept = 0) && !m.again && decide (m.body.size ≤ 1992))
/-- Numbers of 32 bits, one behind the other. -/
def words (l : List Int) : List UInt8 := l.flatMap fun n => be 4 n.toNat
/-- The numbers ahead of a message's body. -/
def mgHead (m : Mg) : List Int :=
  if m.ans then [m.xid, 1, 0, if m.again then 1 else 0, 0, m.accept] else [m.xid, 0, 2, 100003, 3, m.proc, 1, 16, m.client, m.seq, m.uid, m.gid, 0, 0]
def mgBytes (m : Mg) : List UInt8 := words (mgHead m) ++ m.body.data.toList
/-- The number at a place; below 0: it is missing. -/
def atW (s : ByteArray) (i : Nat) : Int := if s.size < 4 * i + 4 then -1 else num (s.extract (4 * i) (4 * i + 4)).data.toList
/-- What bytes are. -/
def mgGet (s : ByteArray) : Mg × Int :=
  if 2048 < s.size then (Mg.zero, 4)
  else if atW s 1 ≠ 0 ∧ atW s 1 ≠ 1 then (Mg.zero, 14)
  else if atW s 1 = 1 then
    (if atW s 2 ≠ 0 ∨ atW s 3 < 0 ∨ 1 < atW s 3 ∨ atW s 4 ≠ 0 ∨ atW s 5 < 0 then (Mg.zero, 14)
     else if okMg { Mg.zero with xid := atW s 0, ans := true, again := decide (atW s 3 = 1), accept := atW s 5, body := s.extract 24 s.size } then ({ Mg.zero with xid := atW s 0, ans := true, again := decide (atW s 3 = 1), accept := atW s 5, body := s.extract 24 s.size }, 0)
     else (Mg.zero, 14))
  else if atW s 2 ≠ 2 ∨ atW s 3 < 0 then (Mg.zero, 14)
  else if atW s 3 ≠ 100003 then ({ Mg.zero with xid := atW s 0, accept := 1 }, 0)
  else if atW s 4 < 0 then (Mg.zero, 14)
  else if atW s 4 ≠ 3 then ({ Mg.zero with xid := atW s 0, accept := 2 }, 0)
  else if atW s 13 < 0 then (Mg.zero, 14)
  else if 21 < atW s 5 then ({ Mg.zero with xid := atW s 0, accept := 3 }, 0)
  else if atW s 6 ≠ 1 ∨ atW s 7 ≠ 16 ∨ atW s 12 ≠ 0 ∨ atW s 13 ≠ 0 ∨ okOwner (atW s 8) (atW s 9) (atW s 10) (atW s 11) = false ∨ s.size % 4 ≠ 0 then ({ Mg.zero with xid := atW s 0, accept := 4 }, 0)
  else (⟨atW s 0, false, false, atW s 5, atW s 8, atW s 9, atW s 10, atW s 11, 0, s.extract 56 s.size⟩, 0)

theorem words_len : ∀ l : List Int, (words l).length = 4 * l.length
  | [] => rfl
  | n :: l => by
    have := words_len l
    simp only [words, List.flatMap_cons, List.length_append, be_length, List.length_cons] at this ⊢
    omega
theorem words_split (l : List Int) : ∀ (i : Nat) (n : Int), l[i]? = some n → ∀ ys, (((words l ++ ys).drop (4 * i)).take 4) = be 4 n.toNat := by
  induction l with
  | nil => intro i n h; cases h
  | cons a l ih =>
    intro i n h ys
    have e : words (a :: l) = be 4 a.toNat ++ words l := rfl
    cases i with
    | zero =>
      have h : a = n := by simpa using h
      subst h
      rw [e, List.append_assoc, Nat.mul_zero, List.drop_zero]
      exact List.take_left' (be_length _ _)
    | succ j =>
      have h : l[j]? = some n := by simpa using h
      have := ih j n h ys
      rw [e, List.append_assoc]
      rw [show 4 * (j + 1) = 4 + 4 * j from by omega, ← List.drop_drop, List.drop_left' (be_length _ _)]
      exact this
theorem atW_words (l : List Int) (ys : List UInt8) (i : Nat) (n : Int) (h : l[i]? = some n) (h0 : 0 ≤ n) (h1 : n ≤ 4294967295) : atW (str (words l ++ ys)) i = n := by
  have hl : i < l.length := (List.getElem?_eq_some_iff.1 h).1
  have hw := words_len l
  unfold atW
  rw [if_neg (by rw [str_size, List.length_append]; omega)]
  have e : ((str (words l ++ ys)).extract (4 * i) (4 * i + 4)).data.toList = ((words l ++ ys).drop (4 * i)).take 4 := by
    simp only [ByteArray.data_extract, Array.toList_extract, str_toList, List.extract_eq_take_drop]
    congr 1
    omega
  rw [e, words_split l i n h ys, num_be 4 _ (by omega)]
  omega
theorem atW_range (s : ByteArray) (i : Nat) : -1 ≤ atW s i ∧ atW s i ≤ 4294967295 := by
  unfold atW
  split
  · omega
  · rename_i h
    have := num4 (s.extract (4 * i) (4 * i + 4)) (by rw [ByteArray.size_extract]; omega)
    omega
theorem atW_there {s : ByteArray} {i : Nat} (h : 0 ≤ atW s i) : 4 * i + 4 ≤ s.size := by
  unfold atW at h
  split at h
  · omega
  · omega
theorem atW_be {s : ByteArray} {i : Nat} (h : 4 * i + 4 ≤ s.size) : be 4 (atW s i).toNat = (s.data.toList.drop (4 * i)).take 4 := by
  unfold atW
  rw [if_neg (by omega)]
  have e : (s.extract (4 * i) (4 * i + 4)).data.toList = (s.data.toList.drop (4 * i)).take 4 := by
    simp only [ByteArray.data_extract, Array.toList_extract, List.extract_eq_take_drop]
    congr 1
    omega
  have hl : (s.extract (4 * i) (4 * i + 4)).data.toList.length = 4 := by rw [len_data, ByteArray.size_extract]; omega
  have := be_num (s.extract (4 * i) (4 * i + 4)).data.toList
  rw [hl] at this
  rw [Int.toNat_natCast, this, e]
/-- The first k numbers, and the rest. -/
theorem words_of (s : ByteArray) (k : Nat) (h : 4 * k ≤ s.size) : words ((List.range k).map fun i => atW s i) ++ (s.extract (4 * k) s.size).data.toList = s.data.toList := by
  have e2 : (s.extract (4 * k) s.size).data.toList = s.data.toList.drop (4 * k) := by
    simp only [ByteArray.data_extract, Array.toList_extract, List.extract_eq_take_drop]
    rw [List.take_of_length_le]
    rw [List.length_drop, len_data]
    omega
  rw [e2]
  have e1 : ∀ j, j ≤ k → words ((List.range j).map fun i => atW s i) = s.data.toList.take (4 * j) := by
    intro j
    induction j with
    | zero => intro _; simp [words]
    | succ j ih =>
      intro hj
      have := ih (by omega)
      rw [List.range_succ, List.map_append]
      have ew : ∀ a b : List Int, words (a ++ b) = words a ++ words b := fun a b => by simp [words]
      rw [ew, this]
      have e3 : words (List.map (fun i => atW s i) [j]) = be 4 (atW s j).toNat := by simp [words]
      rw [e3, atW_be (by omega), show 4 * (j + 1) = 4 * j + 4 from by omega, List.take_add]
  rw [e1 k (Nat.le_refl _), List.take_append_drop]

/-! ### Messages -/
theorem num32_iff (n l : Int) : num32 n l = true ↔ l ≤ n ∧ n ≤ 4294967295 := by simp [num32]
theorem okOwner_iff (c s u g : Int) : okOwner c s u g = true ↔ (1 ≤ c ∧ c ≤ 4) ∧ (1 ≤ s ∧ s ≤ 4294967295) ∧ (0 ≤ u ∧ u ≤ 4294967295) ∧ (0 ≤ g ∧ g ≤ 4294967295) := by
  simp only [okOwner, Bool.and_eq_true, num32_iff, decide_eq_true_eq]
  exact ⟨fun ⟨⟨⟨⟨a, b⟩, c⟩, d⟩, e⟩ => ⟨⟨a, b⟩, c, d, e⟩, fun ⟨⟨a, b⟩, c, d, e⟩ => ⟨⟨⟨⟨a, b⟩, c⟩, d⟩, e⟩⟩
theorem okMg_call {m : Mg} (ha : m.ans = false) : okMg m = true ↔ (0 ≤ m.xid ∧ m.xid ≤ 4294967295) ∧ m.body.size % 4 = 0 ∧ m.body.size ≤ 1992 ∧ (0 ≤ m.proc ∧ m.proc ≤ 21) ∧ okOwner m.client m.seq m.uid m.gid = true ∧ m.accept = 0 ∧ m.again = false := by
  simp only [okMg, ha, Bool.and_eq_true, num32_iff, decide_eq_true_eq, Bool.false_eq_true, if_false, Bool.not_eq_true']
  constructor
  · rintro ⟨⟨⟨h1, h2⟩, h3⟩, ⟨⟨⟨⟨⟨h4, h5⟩, h6⟩, h7⟩, h8⟩, h9⟩⟩
    exact ⟨h1, h3, h9, ⟨h4, h5⟩, h6, h7, h8⟩
  · rintro ⟨h1, h3, h9, ⟨h4, h5⟩, h6, h7, h8⟩
    exact ⟨⟨⟨h1, by omega⟩, h3⟩, ⟨⟨⟨⟨⟨h4, h5⟩, h6⟩, h7⟩, h8⟩, h9⟩⟩
theorem okMg_ans {m : Mg} (ha : m.ans = true) : okMg m = true ↔ (0 ≤ m.xid ∧ m.xid ≤ 4294967295) ∧ m.body.size % 4 = 0 ∧ m.body.size ≤ 2024 ∧ m.proc = 0 ∧ m.client = 0 ∧ m.seq = 0 ∧ m.uid = 0 ∧ m.gid = 0 ∧ (0 ≤ m.accept ∧ m.accept ≤ 4) ∧ (m.accept = 0 ∨ m.body = ⟨#[]⟩ ∧ m.again = false) := by
  simp only [okMg, ha, Bool.and_eq_true, num32_iff, decide_eq_true_eq, if_true, Bool.not_eq_true', Bool.or_eq_true]
  constructor
  · rintro ⟨⟨⟨h1, h2⟩, h3⟩, ⟨⟨⟨⟨⟨⟨⟨⟨h4, h5⟩, h6⟩, h7⟩, h8⟩, h9⟩, h10⟩, h11⟩, h12⟩⟩
    exact ⟨h1, h3, h12, h4, h5, h6, h7, h8, ⟨h9, h10⟩, h11⟩
  · rintro ⟨h1, h3, h12, h4, h5, h6, h7, h8, ⟨h9, h10⟩, h11⟩
    exact ⟨⟨⟨h1, by omega⟩, h3⟩, ⟨⟨⟨⟨⟨⟨⟨⟨h4, h5⟩, h6⟩, h7⟩, h8⟩, h9⟩, h10⟩, h11⟩, h12⟩⟩
theorem mgBytes_len (m : Mg) : (mgBytes m).length = (if m.ans then 24 else 56) + m.body.size := by
  unfold mgBytes mgHead
  rw [List.length_append, words_len, len_data]
  split <;> rfl
theorem body_at (m : Mg) (k : Nat) (h : 4 * (mgHead m).length = k) : (str (mgBytes m)).extract k (str (mgBytes m)).size = m.body := by
  unfold mgBytes
  rw [str_rest _ _ k (by rw [words_len]; exact h), str_data]
/-- What is laid comes back. -/
theorem mgGet_bytes {m : Mg} (h : okMg m = true) : mgGet (str (mgBytes m)) = (m, 0) := by
  have hl := mgBytes_len m
  obtain ⟨xid, ans, again, proc, client, seq, uid, gid, accept, body⟩ := m
  cases ans
  · obtain ⟨⟨x0, x1⟩, hb, hb2, ⟨p0, p1⟩, ho, rfl, rfl⟩ := (okMg_call rfl).1 h
    dsimp only at *
    obtain ⟨⟨c0, c1⟩, ⟨s0, s1⟩, ⟨u0, u1⟩, ⟨g0, g1⟩⟩ := (okOwner_iff _ _ _ _).1 ho
    have A : ∀ (i : Nat) (n : Int), ([xid, 0, 2, 100003, 3, proc, 1, 16, client, seq, uid, gid, 0, 0] : List Int)[i]? = some n → 0 ≤ n → n ≤ 4294967295 → atW (str (mgBytes ⟨xid, false, false, proc, client, seq, uid, gid, 0, body⟩)) i = n := fun i n h h0 h1 => atW_words _ _ i n h h0 h1
    have a0 := A 0 xid rfl x0 x1
    have a1 := A 1 0 rfl (by decide) (by decide)
    have a2 := A 2 2 rfl (by decide) (by decide)
    have a3 := A 3 100003 rfl (by decide) (by decide)
    have a4 := A 4 3 rfl (by decide) (by decide)
    have a5 := A 5 proc rfl p0 (by omega)
    have a6 := A 6 1 rfl (by decide) (by decide)
    have a7 := A 7 16 rfl (by decide) (by decide)
    have a8 := A 8 client rfl (by omega) (by omega)
    have a9 := A 9 seq rfl (by omega) (by omega)
    have a10 := A 10 uid rfl (by omega) (by omega)
    have a11 := A 11 gid rfl (by omega) (by omega)
    have a12 := A 12 0 rfl (by decide) (by decide)
    have a13 := A 13 0 rfl (by decide) (by decide)
    have hbo := body_at ⟨xid, false, false, proc, client, seq, uid, gid, 0, body⟩ 56 rfl
    simp only [Bool.false_eq_true, if_false] at hl
    have hs : (str (mgBytes ⟨xid, false, false, proc, client, seq, uid, gid, 0, body⟩)).size = 56 + body.size := by rw [str_size, hl]
    generalize str (mgBytes ⟨xid, false, false, proc, client, seq, uid, gid, 0, body⟩) = S at *
    unfold mgGet
    rw [if_neg (by omega), if_neg (by rw [a1]; simp), if_neg (by rw [a1]; decide), if_neg (by rw [a2, a3]; decide), if_neg (by rw [a3]; decide), if_neg (by rw [a4]; decide), if_neg (by rw [a4]; decide), if_neg (by rw [a13]; decide), if_neg (by rw [a5]; omega),
      if_neg (by rw [a6, a7, a12, a13, a8, a9, a10, a11, ho]; simp; omega), a0, a5, a8, a9, a10, a11, hbo]
  · obtain ⟨⟨x0, x1⟩, hb, hb2, rfl, rfl, rfl, rfl, rfl, ⟨c0, c1⟩, ho⟩ := (okMg_ans rfl).1 h
    dsimp only at *
    have A : ∀ (i : Nat) (n : Int), ([xid, 1, 0, if again then 1 else 0, 0, accept] : List Int)[i]? = some n → 0 ≤ n → n ≤ 4294967295 → atW (str (mgBytes ⟨xid, true, again, 0, 0, 0, 0, 0, accept, body⟩)) i = n := fun i n h h0 h1 => atW_words _ _ i n h h0 h1
    have a0 := A 0 xid rfl x0 x1
    have a1 := A 1 1 rfl (by decide) (by decide)
    have a2 := A 2 0 rfl (by decide) (by decide)
    have a3 := A 3 (if again then 1 else 0) rfl (by split <;> decide) (by split <;> decide)
    have a4 := A 4 0 rfl (by decide) (by decide)
    have a5 := A 5 accept rfl c0 (by omega)
    have hbo := body_at ⟨xid, true, again, 0, 0, 0, 0, 0, accept, body⟩ 24 rfl
    simp only [if_true] at hl
    have hs : (str (mgBytes ⟨xid, true, again, 0, 0, 0, 0, 0, accept, body⟩)).size = 24 + body.size := by rw [str_size, hl]
    generalize str (mgBytes ⟨xid, true, again, 0, 0, 0, 0, 0, accept, body⟩) = S at *
    have hag : decide ((if again then (1 : Int) else 0) = 1) = again := by cases again <;> rfl
    have hm : ({ Mg.zero with xid := atW S 0, ans := true, again := decide (atW S 3 = 1), accept := atW S 5, body := S.extract 24 S.size } : Mg) = ⟨xid, true, again, 0, 0, 0, 0, 0, accept, body⟩ := by
      rw [a0, a3, a5, hbo, hag]
      rfl
    unfold mgGet
    rw [if_neg (by omega), if_neg (by rw [a1]; simp), if_pos a1, if_neg (by rw [a2, a3, a4, a5]; cases again <;> simp <;> omega), hm, if_pos h]
/-- What is read is what was laid. -/
theorem mgBytes_get {s : ByteArray} (h : (mgGet s).2 = 0) (h2 : (mgGet s).1.ans = true ∨ (mgGet s).1.accept = 0) : mgBytes (mgGet s).1 = s.data.toList := by
  unfold mgGet at h h2 ⊢
  by_cases k1 : 2048 < s.size
  · rw [if_pos k1] at h; cases h
  rw [if_neg k1] at h h2 ⊢
  by_cases k2 : atW s 1 ≠ 0 ∧ atW s 1 ≠ 1
  · rw [if_pos k2] at h; cases h
  rw [if_neg k2] at h h2 ⊢
  by_cases a1 : atW s 1 = 1
  · rw [if_pos a1] at h h2 ⊢
    by_cases k3 : atW s 2 ≠ 0 ∨ atW s 3 < 0 ∨ 1 < atW s 3 ∨ atW s 4 ≠ 0 ∨ atW s 5 < 0
    · rw [if_pos k3] at h; cases h
    rw [if_neg k3] at h h2 ⊢
    by_cases hok : okMg { Mg.zero with xid := atW s 0, ans := true, again := decide (atW s 3 = 1), accept := atW s 5, body := s.extract 24 s.size } = true
    · rw [if_pos hok]
      have hs := atW_there (s := s) (i := 5) (by omega)
      have := words_of s 6 (by omega)
      rw [← this]
      unfold mgBytes
      congr 1
      have a2 : atW s 2 = 0 := by omega
      have a4 : atW s 4 = 0 := by omega
      have a3 : (if decide (atW s 3 = 1) = true then (1 : Int) else 0) = atW s 3 := by
        by_cases h3 : atW s 3 = 1
        · simp [h3]
        · have : atW s 3 = 0 := by omega
          simp [this]
      simp only [mgHead, if_true, a3]
      simp only [List.range, List.range.loop, List.map_cons, List.map_nil, a1, a2, a4]
    · rw [if_neg hok] at h; cases h
  · rw [if_neg a1] at h h2 ⊢
    by_cases k3 : atW s 2 ≠ 2 ∨ atW s 3 < 0
    · rw [if_pos k3] at h; cases h
    rw [if_neg k3] at h h2 ⊢
    by_cases k4 : atW s 3 ≠ 100003
    · rw [if_pos k4] at h2; rcases h2 with h2 | h2 <;> cases h2
    rw [if_neg k4] at h h2 ⊢
    by_cases k5 : atW s 4 < 0
    · rw [if_pos k5] at h; cases h
    rw [if_neg k5] at h h2 ⊢
    by_cases k6 : atW s 4 ≠ 3
    · rw [if_pos k6] at h2; rcases h2 with h2 | h2 <;> cases h2
    rw [if_neg k6] at h h2 ⊢
    by_cases k7 : atW s 13 < 0
    · rw [if_pos k7] at h; cases h
    rw [if_neg k7] at h h2 ⊢
    by_cases k8 : 21 < atW s 5
    · rw [if_pos k8] at h2; rcases h2 with h2 | h2 <;> cases h2
    rw [if_neg k8] at h h2 ⊢
    by_cases k9 : atW s 6 ≠ 1 ∨ atW s 7 ≠ 16 ∨ atW s 12 ≠ 0 ∨ atW s 13 ≠ 0 ∨ okOwner (atW s 8) (atW s 9) (atW s 10) (atW s 11) = false ∨ s.size % 4 ≠ 0
    · rw [if_pos k9] at h2; rcases h2 with h2 | h2 <;> cases h2
    rw [if_neg k9]
    have hs := atW_there (s := s) (i := 13) (by omega)
    have := words_of s 14 (by omega)
    rw [← this]
    unfold mgBytes
    congr 1
    have b1 : atW s 1 = 0 := by omega
    have b2 : atW s 2 = 2 := by omega
    have b3 : atW s 3 = 100003 := by omega
    have b4 : atW s 4 = 3 := by omega
    simp only [not_or, Decidable.not_not] at k9
    obtain ⟨b6, b7, b12, b13, _, _⟩ := k9
    simp only [mgHead, Bool.false_eq_true, if_false, List.range, List.range.loop, List.map_cons, List.map_nil, b1, b2, b3, b4, b6, b7, b12, b13]
/-- No beginning of a message's bytes is that message. -/
theorem mgGet_cut {m : Mg} (h : okMg m = true) (n : Nat) (hn : n < (mgBytes m).length) : mgGet (str ((mgBytes m).take n)) ≠ (m, 0) := by
  intro e
  have h2 : m.ans = true ∨ m.accept = 0 := by
    cases ha : m.ans
    · exact .inr ((okMg_call ha).1 h).2.2.2.2.2.1
    · exact .inl rfl
  have := mgBytes_get (s := str ((mgBytes m).take n)) (by rw [e]) (by rw [e]; exact h2)
  rw [e, str_toList] at this
  have hl : (mgBytes m).length = ((mgBytes m).take n).length := congrArg List.length this
  rw [List.length_take] at hl
  omega
end Go.Proofs.YtimbcombhdgjiaaDoor
