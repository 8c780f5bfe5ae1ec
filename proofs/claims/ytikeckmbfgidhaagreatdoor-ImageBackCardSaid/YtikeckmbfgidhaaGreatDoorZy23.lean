/- Several texts in one: Crc. -/
import Derived.WalkKit
/- Plain lemmas on the checksum: one step, its linearity, the table of sixteen steps. Nothing of the program is named here. -/
namespace Go.Proofs.YtikeckmbfgidhaaGreatDoor
open Go.RowKit

def poly : BitVec 32 := 2197175160#32

/-- One bit is shifted out. -/
def st (r : BitVec 32) : BitVec 32 := (r >>> 1) ^^^ (if r.getLsbD 0 then poly else 0#32)

theorem shr_xor (a b : BitVec 32) (n : Nat) : (a ^^^ b) >>> n = (a >>> n) ^^^ (b >>> n) := by
  apply BitVec.eq_of_getLsbD_eq
  intro i hi
  simp [BitVec.getLsbD_ushiftRight, BitVec.getLsbD_xor]

theorem shr_add (a : BitVec 32) (n m : Nat) : a >>> (n + m) = a >>> n >>> m := by
  apply BitVec.eq_of_getLsbD_eq
  intro i hi
  simp only [BitVec.getLsbD_ushiftRight]
  congr 1; omega

theorem st_xor (a b : BitVec 32) : st (a ^^^ b) = st a ^^^ st b := by
  unfold st
  rw [shr_xor, BitVec.getLsbD_xor]
  cases a.getLsbD 0 <;> cases b.getLsbD 0 <;> simp
  · ac_rfl
  · ac_rfl
  · rw [show a >>> 1 ^^^ poly ^^^ (b >>> 1 ^^^ poly) = a >>> 1 ^^^ b >>> 1 ^^^ (poly ^^^ poly) from by ac_rfl]; simp

def st2 (r : BitVec 32) : BitVec 32 := st (st r)
def st4 (r : BitVec 32) : BitVec 32 := st2 (st2 r)
def st8 (r : BitVec 32) : BitVec 32 := st4 (st4 r)
theorem st2_xor (a b : BitVec 32) : st2 (a ^^^ b) = st2 a ^^^ st2 b := by unfold st2; rw [st_xor, st_xor]
theorem st4_xor (a b : BitVec 32) : st4 (a ^^^ b) = st4 a ^^^ st4 b := by unfold st4; rw [st2_xor, st2_xor]
theorem st8_xor (a b : BitVec 32) : st8 (a ^^^ b) = st8 a ^^^ st8 b := by unfold st8; rw [st4_xor, st4_xor]

theorem st_even (r : BitVec 32) (h : r.getLsbD 0 = false) : st r = r >>> 1 := by unfold st; rw [h]; simp
theorem st2_even (r : BitVec 32) (h0 : r.getLsbD 0 = false) (h1 : r.getLsbD 1 = false) : st2 r = r >>> 2 := by
  unfold st2
  rw [st_even r h0, st_even _ (by simpa [BitVec.getLsbD_ushiftRight] using h1), ← shr_add]
theorem st4_even (r : BitVec 32) (h0 : r.getLsbD 0 = false) (h1 : r.getLsbD 1 = false) (h2 : r.getLsbD 2 = false) (h3 : r.getLsbD 3 = false) : st4 r = r >>> 4 := by
  unfold st4
  rw [st2_even r h0 h1, st2_even _ (by simpa [BitVec.getLsbD_ushiftRight] using h2) (by simpa [BitVec.getLsbD_ushiftRight] using h3), ← shr_add]

theorem low_split (r : BitVec 32) : r = (r >>> 4) <<< 4 ^^^ (r &&& 15#32) := by
  apply BitVec.eq_of_getLsbD_eq
  intro i hi
  have h15 : (15#32).getLsbD i = decide (i < 4) := by
    match i with
    | 0 | 1 | 2 | 3 => rfl
    | i + 4 =>
      have : (15 : Nat) < 2 ^ (i + 4) := by rw [Nat.pow_add]; have := Nat.one_le_two_pow (n := i); omega
      simp [BitVec.getLsbD_ofNat, Nat.testBit_lt_two_pow this]
  rw [BitVec.getLsbD_xor, BitVec.getLsbD_shiftLeft, BitVec.getLsbD_and, h15, BitVec.getLsbD_ushiftRight]
  by_cases h : i < 4
  · simp [h]
  · simp [h, hi, show 4 + (i - 4) = i by omega]

/-- Four bits at a time, by the table. -/
theorem st4_table (r : BitVec 32) : st4 r = (r >>> 4) ^^^ st4 (r &&& 15#32) := by
  conv => lhs; rw [low_split r, st4_xor]
  rw [st4_even _ (by simp) (by simp) (by simp) (by simp)]
  congr 1
  apply BitVec.eq_of_getLsbD_eq
  intro i hi
  simp only [BitVec.getLsbD_ushiftRight, BitVec.getLsbD_shiftLeft]
  by_cases h : 4 + i < 32
  · simp [h]
  · simp [h, BitVec.getLsbD_of_ge r (4 + i) (by omega)]

/-- One byte more. -/
def upd (r : BitVec 32) (b : UInt8) : BitVec 32 := st8 (r ^^^ BitVec.ofNat 32 b.toNat)
def crc (r : BitVec 32) (l : List UInt8) : BitVec 32 := l.foldl upd r
/-- The sum that goes on from s. -/
def more (s : BitVec 32) (l : List UInt8) : BitVec 32 := ~~~ (crc (~~~ s) l)

theorem crc_snoc (r : BitVec 32) (l : List UInt8) (b : UInt8) : crc r (l ++ [b]) = upd (crc r l) b := by simp [crc]
theorem crc_append (r : BitVec 32) (l m : List UInt8) : crc r (l ++ m) = crc (crc r l) m := by simp [crc]
theorem more_more (s : BitVec 32) (l m : List UInt8) : more (more s l) m = more s (l ++ m) := by
  unfold more
  rw [BitVec.not_not, crc_append]

/-! ### In the walk's spelling: a register as a number of 32 bits -/
def uv (r : BitVec 32) : Value := .int .u32 r.toNat

theorem bits_xor32 (a b : BitVec 32) : bits .xor .u32 (a.toNat : Int) (b.toNat : Int) = ((a ^^^ b).toNat : Int) := by
  show IntKind.u32.wrap ((BitVec.ofInt 32 (a.toNat : Int) ^^^ BitVec.ofInt 32 (b.toNat : Int)).toNat : Int) = _
  rw [BitVec.ofInt_natCast, BitVec.ofInt_natCast, BitVec.ofNat_toNat, BitVec.ofNat_toNat, BitVec.setWidth_eq, BitVec.setWidth_eq, IntKind.wrap_u32]
  have := (a ^^^ b).isLt
  omega
theorem bits_and32 (a b : BitVec 32) : bits .and .u32 (a.toNat : Int) (b.toNat : Int) = ((a &&& b).toNat : Int) := by
  show IntKind.u32.wrap ((BitVec.ofInt 32 (a.toNat : Int) &&& BitVec.ofInt 32 (b.toNat : Int)).toNat : Int) = _
  rw [BitVec.ofInt_natCast, BitVec.ofInt_natCast, BitVec.ofNat_toNat, BitVec.ofNat_toNat, BitVec.setWidth_eq, BitVec.setWidth_eq, IntKind.wrap_u32]
  have := (a &&& b).isLt
  omega

theorem st_nat (r : BitVec 32) : st r = if r.toNat % 2 = 1 then BitVec.ofNat 32 (r.toNat / 2) ^^^ poly else BitVec.ofNat 32 (r.toNat / 2) := by
  have h1 : r >>> 1 = BitVec.ofNat 32 (r.toNat / 2) := by
    apply BitVec.eq_of_toNat_eq
    have := r.isLt
    rw [BitVec.toNat_ushiftRight, BitVec.toNat_ofNat, Nat.shiftRight_eq_div_pow, Nat.mod_eq_of_lt (by omega)]
  have h2 : r.getLsbD 0 = decide (r.toNat % 2 = 1) := by simp [BitVec.getLsbD, Nat.testBit_zero]
  unfold st
  rw [h1, h2]
  by_cases h : r.toNat % 2 = 1 <;> simp [h]

theorem and_one32 (r : BitVec 32) : bits .and .u32 (r.toNat : Int) 1 = ((r.toNat % 2 : Nat) : Int) := by
  have h := bits_and32 r 1#32
  rw [show (((1#32 : BitVec 32).toNat : Nat) : Int) = 1 from rfl] at h
  rw [h, BitVec.toNat_and, show (1#32 : BitVec 32).toNat = 1 from rfl, Nat.and_one_is_mod]

theorem half32 (r : BitVec 32) : ((r.toNat : Int) / 2) = ((BitVec.ofNat 32 (r.toNat / 2)).toNat : Int) := by
  have := r.isLt
  rw [BitVec.toNat_ofNat, Nat.mod_eq_of_lt (by omega)]
  omega

theorem st_odd_walk (r : BitVec 32) (h : (bits .and .u32 (r.toNat : Int) 1 == 1) = true) : Value.int .u32 (bits .xor .u32 ((r.toNat : Int) / 2) 2197175160) = Value.int .u32 (st r).toNat := by
  rw [and_one32, beq_iff_eq] at h
  have h2 : r.toNat % 2 = 1 := by omega
  rw [st_nat, if_pos h2, half32]
  exact congrArg _ (bits_xor32 _ poly)

theorem st_even_walk (r : BitVec 32) (h : (bits .and .u32 (r.toNat : Int) 1 == 1) = false) : Value.int .u32 ((r.toNat : Int) / 2) = Value.int .u32 (st r).toNat := by
  rw [and_one32, beq_eq_false_iff_ne] at h
  have h2 : ¬ r.toNat % 2 = 1 := by omega
  rw [st_nat, if_neg h2, half32]

theorem not32 (r : BitVec 32) : bits .xor .u32 IntKind.u32.max (r.toNat : Int) = ((~~~ r).toNat : Int) := by
  have h := bits_xor32 (BitVec.allOnes 32) r
  rw [show (((BitVec.allOnes 32).toNat : Nat) : Int) = IntKind.u32.max from rfl] at h
  rw [h, BitVec.allOnes_xor]

theorem sixteenth (q : BitVec 32) : (q.toNat : Int) / (16 : Int) = ((q >>> 4).toNat : Int) := by
  rw [BitVec.toNat_ushiftRight, Nat.shiftRight_eq_div_pow]
  omega

/-- What one byte does to a register, in the walk's spelling. -/
theorem byte_round (q : BitVec 32) (b : UInt8) : ∃ q1 q2 q3 t1 t2 : BitVec 32, ∃ m1 m2 : Nat, m1 < 16 ∧ m2 < 16 ∧
    bits .xor .u32 (q.toNat : Int) ((b.toNat : Int) % 4294967296) = (q1.toNat : Int) ∧ bits .and .u32 (q1.toNat : Int) 15 = (m1 : Int) ∧ t1 = st4 (BitVec.ofNat 32 m1) ∧ bits .xor .u32 ((q1.toNat : Int) / 16) (t1.toNat : Int) = (q2.toNat : Int) ∧
    bits .and .u32 (q2.toNat : Int) 15 = (m2 : Int) ∧ t2 = st4 (BitVec.ofNat 32 m2) ∧ bits .xor .u32 ((q2.toNat : Int) / 16) (t2.toNat : Int) = (q3.toNat : Int) ∧ q3 = upd q b := by
  have hand : ∀ x : BitVec 32, bits .and .u32 (x.toNat : Int) 15 = ((x &&& 15#32).toNat : Int) := fun x => by
    have h := bits_and32 x 15#32
    rwa [show (((15#32 : BitVec 32).toNat : Nat) : Int) = 15 from rfl] at h
  have hm : ∀ x : BitVec 32, (x &&& 15#32).toNat < 16 := fun x => by
    rw [BitVec.toNat_and, show (15#32 : BitVec 32).toNat = 2 ^ 4 - 1 from rfl, Nat.and_two_pow_sub_one_eq_mod]
    omega
  have hb : ((b.toNat : Int) % 4294967296) = ((BitVec.ofNat 32 b.toNat).toNat : Int) := by
    have := b.toNat_lt
    rw [BitVec.toNat_ofNat]
    omega
  have hs : ∀ x : BitVec 32, bits .xor .u32 ((x.toNat : Int) / 16) ((st4 (BitVec.ofNat 32 (x &&& 15#32).toNat)).toNat : Int) = ((st4 x).toNat : Int) := fun x => by
    rw [sixteenth, bits_xor32, BitVec.ofNat_toNat, BitVec.setWidth_eq, ← st4_table]
  refine ⟨q ^^^ BitVec.ofNat 32 b.toNat, st4 (q ^^^ BitVec.ofNat 32 b.toNat), upd q b, _, _, _, _, hm _, hm _, ?_, hand _, rfl, hs _, hand _, rfl, hs _, rfl⟩
  rw [hb, bits_xor32]

/-! ### Bit by bit, as the reference does it -/
def stN : Nat → BitVec 32 → BitVec 32
  | 0, r => r
  | j + 1, r => st (stN j r)

theorem st_odd_ref (r : BitVec 32) (h : ((r.toNat : Int) % 2 == 1) = true) : Value.int .u32 (bits .xor .u32 ((r.toNat : Int) / 2) 2197175160) = Value.int .u32 (st r).toNat := by
  rw [beq_iff_eq] at h
  have h2 : r.toNat % 2 = 1 := by omega
  rw [st_nat, if_pos h2, half32]
  exact congrArg _ (bits_xor32 _ poly)
theorem st_even_ref (r : BitVec 32) (h : ((r.toNat : Int) % 2 == 1) = false) : Value.int .u32 ((r.toNat : Int) / 2) = Value.int .u32 (st r).toNat := by
  rw [beq_eq_false_iff_ne] at h
  have h2 : ¬ r.toNat % 2 = 1 := by omega
  rw [st_nat, if_neg h2, half32]

theorem byte_xor (q : BitVec 32) (b : UInt8) : ∃ q1 : BitVec 32, bits .xor .u32 (q.toNat : Int) ((b.toNat : Int) % 4294967296) = (q1.toNat : Int) ∧ stN 8 q1 = upd q b := by
  have hb : ((b.toNat : Int) % 4294967296) = ((BitVec.ofNat 32 b.toNat).toNat : Int) := by
    have := b.toNat_lt
    rw [BitVec.toNat_ofNat]
    omega
  exact ⟨q ^^^ BitVec.ofNat 32 b.toNat, by rw [hb, bits_xor32], rfl⟩

theorem not_sub (r : BitVec 32) : (4294967295 : Int) - (r.toNat : Int) = ((~~~ r).toNat : Int) := by
  rw [BitVec.toNat_not]
  have := r.isLt
  omega

end Go.Proofs.YtikeckmbfgidhaaGreatDoor
