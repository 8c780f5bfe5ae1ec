/- Several texts in one: Wr Wm Xk Pt. -/
import Derived.Test.YtikeckmbfgidhaaGreatDoorRows
import Derived.Handy
import Derived.Deep.DeepMust
import Derived.WalkLawsBesides
import Derived.Test.YtikeckmbfgidhaaGreatDoorZy01
import Derived.Test.YtikeckmbfgidhaaGreatDoorZy15
/- The contracts of a writer's methods. -/
namespace Go.Proofs.YtikeckmbfgidhaaGreatDoor
open Go.RowKit

theorem Tryz.infoU8 : (Tryz.prog.info? 5).map (fun i => (i.zero, i.size, i.bytes)) = some (some (.int .u8 0), 1, 1) := by kernel_rfl

set_option maxRecDepth 100000 in
set_option maxHeartbeats 400000 in
theorem number_any (k : Nat) (r : Option Nat) (xs : List UInt8) (n : Nat) (size : Nat) (w : World) (hs : size ≤ 8) (hl : xs.length ≤ 1073741824)
    (h : Wr 68 5 k r xs w) :
    Calls Tryz.prog 46 #[.pointer (some ⟨k, 0, none⟩), .int .i64 n, .int .i64 size] w fun e w' => e = .returned (.tuple #[]) ∧ Wrote 68 5 k r (xs ++ be size n) w w' := by
  obtain ⟨i0, hi, hz0, hz1, hz2⟩ := info_parts Tryz.infoU8
  go_enter Tryz.func46, Tryz.ntmps46
  go_wp2
  go_loopw [6] (fun s wr => ∃ i j : Nat, i + j = size ∧ s = .int .i64 (8 * ((j : Int) - 1)) ∧ Wrote 68 5 k r (xs ++ (be size n).take i) w wr) (fun s _ => (intOf s + 8).toNat)
  case atStart => exact ⟨0, size, by omega, by go_num, by simpa using Wrote.refl h⟩
  case round =>
    obtain ⟨i, j, hi', rfl, hwr⟩ := hrel
    obtain ⟨r', ⟨v, hb, hown, hv⟩, hkeep, hr'⟩ := hwr
    have hc := cell_of_one hb
    have hf := free_of_one hb
    have HB := Lib.hid hb
    have HV := Lib.hid hv
    clear hb hv
    match j with
    | j + 1 =>
      rw [show ((8 : Int) * (((j + 1 : Nat) : Int) - 1)) = 8 * (j : Int) from by omega]
      go_wp2
      have hlt := lt_of_block HB.out
      have hll : (xs ++ (be size n).take i).length ≤ 1073741832 := by simp [be_length]; omega
      obtain ⟨ys, hys⟩ : ∃ ys, ys = xs ++ (be size n).take i := ⟨_, rfl⟩
      rw [← hys] at hown hll
      have HY := Lib.hid hys
      clear hys
      have hne := own_ne hown
      go_region_law ((refine step_append_lies _ rfl (.tmp 18) (.tmp 23) 54 rfl (k + 1) 5 i0 (.int .u8 0) 1 1 Tryz.underlying54 hi hz0 hz1 hz2 rfl (by decide) v _ _ (by simp [Act.eval]) ((hown.alloc _).drew) ⟨wr.heap.size, 0, none⟩ 1 1 [.int .u8 (IntKind.u8.wrap ((n : Int) / 2 ^ (8 * (j : Int)).toNat))] (by simp [Act.eval]) rfl (cell_one_new _ _ _) (by intro u hu; simp at hu; subst hu; rfl) (by decide) (by unfold maxLen; omega) (by omega) (by simp; omega) _ (by simp; rfl) ?_; intro g cap w2 h1 hg hat hl2; have hb2 := block_grown HB.out (w1 := (wr.alloc _).drew) (fun j hj => Below.heap_alloc wr _ j hj) (by simp) hg hne; have hc2 := cell_of_one hb2; have hf2 := free_of_one hb2))
      all_goals
        have hstep := wr_push (UInt8.ofNat (n / 256 ^ j)) (u8_shift n j) HB.out HV.out hown h1 hg hat
        rw [show ys ++ [UInt8.ofNat (n / 256 ^ j)] = xs ++ (be size n).take (i + 1) from by rw [HY.out, List.append_assoc, be_take _ _ _ (by omega), show size - 1 - i = j from by omega]] at hstep
        have HST := Lib.hid (Wrote.trans hkeep hr' hstep)
        clear hstep hown h1 hat hb2 hkeep hr'
        go_wp2
        go_roundw
        case rel => exact ⟨i + 1, j, by omega, by go_num, HST.out⟩
        case measure => simp [intOf]; omega
    | 0 =>
      have e : (be size n).take i = be size n := List.take_of_length_le (by rw [be_length]; omega)
      rw [e] at hown
      clear e
      go_wp2
      go_end0
      exact ⟨rfl, Wrote.trans hkeep hr' (Wrote.refl ⟨v, HB.out, hown, HV.out⟩)⟩

theorem Pad_small (n : Int) (h : n < 1) (w : World) : Calls Tryz.prog 31 #[.int .i64 n] w fun e w' => e = .returned (.int .i64 0) ∧ w = w' := by
  go_enter Tryz.func31, Tryz.ntmps31
  go_wp2
  go_ret
  exact ⟨rfl, rfl⟩

theorem Pad_any (n : Int) (h : 1 ≤ n) (w : World) : Calls Tryz.prog 31 #[.int .i64 n] w fun e w' => e = .returned (.int .i64 ((4 - n % 4) % 4)) ∧ w = w' := by
  go_enter Tryz.func31, Tryz.ntmps31
  go_wp2
  go_ret
  exact ⟨rfl, rfl⟩

/-- How many zero bytes fill up n bytes. -/
def padN (n : Nat) : Nat := (4 - n % 4) % 4

theorem Pad_nat (n : Nat) (w : World) : Calls Tryz.prog 31 #[.int .i64 n] w fun e w' => e = .returned (.int .i64 (padN n)) ∧ w = w' := by
  by_cases h : (n : Int) < 1
  · obtain rfl : n = 0 := by omega
    exact (Pad_small 0 (by omega) w)
  · refine (Pad_any n (by omega) w).mono ?_
    rintro e w' ⟨rfl, rfl⟩
    refine ⟨?_, rfl⟩
    rw [show ((4 - (n : Int) % 4) % 4) = (padN n : Int) from by unfold padN; omega]

theorem padN_lt (n : Nat) : padN n < 4 := by unfold padN; omega

set_option maxRecDepth 100000 in
set_option maxHeartbeats 400000 in
theorem padded_any (k : Nat) (r : Option Nat) (xs : List UInt8) (s : ByteArray) (w : World) (hs : s.size ≤ 1073741824) (hl : xs.length ≤ 1073741824)
    (h : Wr 68 5 k r xs w) :
    Calls Tryz.prog 49 #[.pointer (some ⟨k, 0, none⟩), .string s] w fun e w' => e = .returned (.tuple #[]) ∧ Wrote 68 5 k r (xs ++ s.data.toList ++ List.replicate (padN s.size) 0) w w' := by
  obtain ⟨i0, hi, hz0, hz1, hz2⟩ := info_parts Tryz.infoU8
  obtain ⟨v, hb, hown, hv⟩ := h
  have hlt := lt_of_block hb
  have hc := cell_of_one hb
  have hf := free_of_one hb
  have HB := Lib.hid hb
  have HV := Lib.hid hv
  have hne := own_ne hown
  clear hb hv
  go_enter Tryz.func49, Tryz.ntmps49
  go_wp2_with (first | (at_builtin; go_must (refine wpList_append_string_lies _ rfl (.tmp 8) (.tmp 9) 54 9 rfl (k + 1) 5 i0 Tryz.underlying54 Tryz.underlying9 hi hz0 hz1 hz2 v _ _ (by simp [Act.eval]) hown s (by simp [Act.eval]) (by unfold maxLen; omega) (by omega) (by omega) ?_); intro v' w2 h1 hg hat; have hb2 := block_grown HB.out (w1 := w) (fun j hj => rfl) (Nat.le_refl _) hg hne; have hc2 := cell_of_one hb2; have hf2 := free_of_one hb2; have HST := Lib.hid (wr_store HB.out HV.out hown (zs := xs ++ s.data.toList) (own_string h1) hg hat); obtain ⟨ao, cap, rfl⟩ := own_slice h1; clear hb2) | (go_at_call 31; refine (Pad_nat _ _).mono ?_; rintro e w3 ⟨rfl, rfl⟩))
  clear hown h1 hat hc hc2 hf hf2 hg hlt hne HB HV
  go_loopw [16] (fun c wr => ∃ i : Nat, i ≤ padN s.size ∧ c = .int .i64 i ∧ Wrote 68 5 k r (xs ++ s.data.toList ++ List.replicate i 0) w wr) (fun c _ => padN s.size - (intOf c).toNat)
  case atStart => exact ⟨0, Nat.zero_le _, rfl, by simpa using HST.out⟩
  case round =>
    obtain ⟨i, hi', rfl, hwr⟩ := hrel
    have hp := padN_lt s.size
    by_cases hlt : i < padN s.size
    · obtain ⟨r', ⟨v, hb, hown, hv⟩, hkeep, hr'⟩ := hwr
      have hc := cell_of_one hb
      have hf := free_of_one hb
      have hltk := lt_of_block hb
      have HB := Lib.hid hb
      have HV := Lib.hid hv
      clear hb hv HST
      have hne := own_ne hown
      have hll : (xs ++ s.data.toList ++ List.replicate i 0).length ≤ 2147483700 := by simp; omega
      obtain ⟨ys, hys⟩ : ∃ ys, ys = xs ++ s.data.toList ++ List.replicate i 0 := ⟨_, rfl⟩
      rw [← hys] at hown hll
      have HY := Lib.hid hys
      clear hys
      go_wp2_with (at_builtin; go_must (refine wpList_append_lies _ rfl (.tmp 22) (.tmp 23) 54 rfl (k + 1) 5 i0 (.int .u8 0) 1 1 Tryz.underlying54 hi hz0 hz1 hz2 rfl (by decide) v _ _ (by simp [Act.eval]) (hown.alloc _) ⟨wr.heap.size, 0, none⟩ 1 1 [.int .u8 0] (by simp [Act.eval]) rfl (cell_one_new _ _ _) (by intro u hu; simp at hu; subst hu; rfl) (by decide) (by unfold maxLen; omega) (by omega) (by simp; omega) _ (by simp; rfl) ?_); intro g cap w2 h1 hg hat hl2; have hb2 := block_grown HB.out (w1 := wr.alloc _) (fun j hj => Below.heap_alloc wr _ j hj) (by simp) hg hne; have hc2 := cell_of_one hb2; have hf2 := free_of_one hb2; have HST := Lib.hid (wr_push0 HB.out HV.out hown h1 hg hat); clear hb2)
      rw [show ys ++ [0] = xs ++ s.data.toList ++ List.replicate (i + 1) 0 from by rw [HY.out, List.append_assoc, ← List.replicate_succ']] at HST
      go_roundw
      case rel => exact ⟨i + 1, by omega, by go_num, Wrote.trans hkeep hr' HST.out⟩
      case measure => simp [intOf]; omega
    · obtain rfl : i = padN s.size := by omega
      go_wp2
      go_end0
      exact ⟨rfl, hwr⟩
end Go.Proofs.YtikeckmbfgidhaaGreatDoor

/- The contracts of a writer's exported methods, at a writer that is there and at none. -/
namespace Go.Proofs.YtikeckmbfgidhaaGreatDoor
open Go.RowKit

def putU32 (n : Int) : Int × List UInt8 := if n < 0 ∨ 4294967295 < n then (3, []) else (0, be 4 n.toNat)
def putU64 (n : Int) : Int × List UInt8 := if n < 0 then (3, []) else (0, be 8 n.toNat)
def putBool (b : Bool) : Int × List UInt8 := (0, be 4 (if b then 1 else 0))
def padded (s : ByteArray) : List UInt8 := s.data.toList ++ List.replicate (padN s.size) 0
def putFixed (s : ByteArray) : Int × List UInt8 := if 1048576 < s.size then (4, []) else (0, padded s)
def putOpaque (s : ByteArray) : Int × List UInt8 := if 1048576 < s.size then (4, []) else (0, be 4 s.size ++ padded s)
def putOpt (is : Bool) (n : Int) : Int × List UInt8 := if is then (if n < 0 then (3, []) else (0, be 4 1 ++ be 8 n.toNat)) else (0, be 4 0)

/-- What a method of a writer does: the error that it returns, and the bytes that it appends. -/
def Puts (k : Nat) (r : Option Nat) (xs : List UInt8) (p : Int × List UInt8) (w : World) (e : Ending) (w' : World) : Prop :=
  e = .returned (.int .i64 p.1) ∧ Wrote 68 5 k r (xs ++ p.2) w w'

theorem puts_none {k : Nat} {r : Option Nat} {xs : List UInt8} {w : World} (h : Wr 68 5 k r xs w) (c : Int) : Puts k r xs (c, []) w (.returned (.int .i64 c)) w :=
  ⟨rfl, by simpa using Wrote.refl h⟩

theorem wU32_any (k : Nat) (r : Option Nat) (xs : List UInt8) (n : Int) (w : World) (hl : xs.length ≤ 1073741824) (h : Wr 68 5 k r xs w) :
    Calls Tryz.prog 34 #[.pointer (some ⟨k, 0, none⟩), .int .i64 n] w (Puts k r xs (putU32 n) w) := by
  unfold putU32
  by_cases h1 : n < 0
  · rw [if_pos (.inl h1)]
    go_enter Tryz.func34, Tryz.ntmps34
    go_wp2
    go_ret
    exact puts_none h 3
  · by_cases h2 : 4294967295 < n
    · rw [if_pos (.inr h2)]
      go_enter Tryz.func34, Tryz.ntmps34
      go_wp2
      go_ret
      exact puts_none h 3
    · rw [if_neg (by omega)]
      obtain ⟨m, rfl⟩ := Int.eq_ofNat_of_zero_le (Int.not_lt.1 h1)
      rw [Int.toNat_natCast]
      go_enter Tryz.func34, Tryz.ntmps34
      go_wp2_with (go_at_call 46; go_must (refine (number_any k r xs m 4 _ (by omega) hl h).mono ?_); rintro e w' ⟨rfl, hw⟩)
      go_ret
      exact ⟨rfl, hw⟩

theorem wFixed_any (k : Nat) (r : Option Nat) (xs : List UInt8) (s : ByteArray) (w : World) (hl : xs.length ≤ 1073741824) (h : Wr 68 5 k r xs w) :
    Calls Tryz.prog 36 #[.pointer (some ⟨k, 0, none⟩), .string s] w (Puts k r xs (putFixed s) w) := by
  unfold putFixed
  by_cases h1 : 1048576 < s.size
  · rw [if_pos h1]
    go_enter Tryz.func36, Tryz.ntmps36
    go_wp2
    go_ret
    exact puts_none h 4
  · rw [if_neg h1]
    go_enter Tryz.func36, Tryz.ntmps36
    go_wp2_with (go_at_call 49; go_must (refine (padded_any k r xs s _ (by omega) hl h).mono ?_); rintro e w' ⟨rfl, hw⟩)
    go_ret
    exact ⟨rfl, by simpa [padded] using hw⟩

theorem wText_any (k : Nat) (r : Option Nat) (xs : List UInt8) (w : World) (h : Wr 68 5 k r xs w) :
    Calls Tryz.prog 37 #[.pointer (some ⟨k, 0, none⟩)] w fun e w' => e = .returned (.string (str xs)) ∧ w = w' := by
  obtain ⟨v, hb, hown, hv⟩ := h
  have hc := cell_of_one hb
  have hconv := own_text (P := Tryz.prog) (src := 54) (dst := 9) hown Tryz.underlying54 Tryz.underlying5 Tryz.underlying9
  clear hb hv hown
  go_enter Tryz.func37, Tryz.ntmps37
  go_wp2
  go_ret
  exact ⟨rfl, rfl⟩

end Go.Proofs.YtikeckmbfgidhaaGreatDoor

/- The fixed calls that end each statement of layer 1. -/
namespace Go.Proofs.YtikeckmbfgidhaaGreatDoor
open Go.RowKit

def kt1 : List UInt8 := [0, 0, 0, 2, 97, 98, 0, 0]
def kt2 : List UInt8 := [0, 0, 0, 2, 97, 98, 0, 0, 0, 0, 0, 1, 0, 0, 0, 0, 0, 0, 0, 5]
theorem kt_one : putOpaque ⟨#[97, 98]⟩ = (0, kt1) := by decide
theorem kt_two : putOpt true 5 = (0, [0, 0, 0, 1, 0, 0, 0, 0, 0, 0, 0, 5]) := by decide

theorem Pad_five (w : World) : Calls Tryz.prog 31 #[.int .i64 5] w fun e w' => e = .returned (.int .i64 3) ∧ w = w' := Pad_nat 5 w

theorem wr_new {T E : TypeId} {w : World} : Wr T E w.heap.size none [] (w.alloc (.cells #[.slice none 0 0] T)) :=
  ⟨_, heap_alloc_new w _, World.ownsRow_nil _ _ _ _, rfl⟩

theorem Keep.new {r : Option Nat} {w w' : World} {o : Obj} (h : Keep w.heap.size r (w.alloc o) w') (hr : ∀ j, r = some j → w.heap.size ≤ j) : Below w.heap.size w w' :=
  ((Below.refl _ _).alloc (Nat.le_refl _) o).trans (h.below (Nat.le_refl _) (by simp) hr)

end Go.Proofs.YtikeckmbfgidhaaGreatDoor

/- The contracts of the law's own writing of a thing, and of its look at sizes. -/
namespace Go.Proofs.YtikeckmbfgidhaaGreatDoor
open Go.RowKit

/-- A thing's error and bytes. -/
def thPut (kind n : Int) (is : Bool) (s : ByteArray) : Int × List UInt8 :=
  if kind = 1 then putU32 n else if kind = 2 then putU64 n else if kind = 3 then putBool is else if kind = 4 then putFixed s else if kind = 5 then putOpaque s else if kind = 6 then putOpt is n else (0, [])

theorem kinds (kind : Int) : kind = 1 ∨ kind = 2 ∨ kind = 3 ∨ kind = 4 ∨ kind = 5 ∨ kind = 6 ∨ (¬ kind = 1 ∧ ¬ kind = 2 ∧ ¬ kind = 3 ∧ ¬ kind = 4 ∧ ¬ kind = 5 ∧ ¬ kind = 6) := by omega

theorem boxed {w w1 : World} {o : Obj} (h : Below (w.alloc o).heap.size (w.alloc o) w1) : Below w.heap.size w w1 := ((Below.refl _ _).alloc (Nat.le_refl _) o).trans (h.mono (by simp))
theorem boxed0 {w : World} {o : Obj} : Below w.heap.size w (w.alloc o) := (Below.refl _ _).alloc (Nat.le_refl _) o

theorem Puts.of_alloc {k : Nat} {r : Option Nat} {xs : List UInt8} {p : Int × List UInt8} {w : World} {o : Obj} {e : Ending} {w' : World} (h : Puts k r xs p (w.alloc o) e w') : Puts k r xs p w e w' := ⟨h.1, h.2.of_alloc⟩

/-! ### A list of things -/
structure Th where
  kind : Int
  n : Int
  is : Bool
  s : ByteArray

/-- The things of a slice, cell by cell. -/
structure Things (b off len : Nat) (ts : List Th) (w : World) : Prop where
  hlen : ts.length = len
  hkind : ∀ (i : Nat) (t : Th), ts[i]? = some t → w.cell? ⟨b, off + i * 4, none⟩ = some (.int .i64 t.kind)
  hn : ∀ (i : Nat) (t : Th), ts[i]? = some t → w.cell? ⟨b, off + i * 4 + 1, none⟩ = some (.int .i64 t.n)
  his : ∀ (i : Nat) (t : Th), ts[i]? = some t → w.cell? ⟨b, off + i * 4 + 2, none⟩ = some (.bool t.is)
  hs : ∀ (i : Nat) (t : Th), ts[i]? = some t → w.cell? ⟨b, off + i * 4 + 3, none⟩ = some (.string t.s)
  hbd : ∀ (i : Nat) (t : Th), ts[i]? = some t → t.n ≤ 9223372036854775807 ∧ t.s.size ≤ 9223372036854775807

theorem Things.below {b off len : Nat} {ts : List Th} {B : Nat} {w w1 : World} (h : Things b off len ts w) (hb : Below B w w1) (hB : b < B) : Things b off len ts w1 :=
  ⟨h.hlen, fun i t e => (hb.cell (p := ⟨b, _, none⟩) hB).trans (h.hkind i t e), fun i t e => (hb.cell (p := ⟨b, _, none⟩) hB).trans (h.hn i t e), fun i t e => (hb.cell (p := ⟨b, _, none⟩) hB).trans (h.his i t e), fun i t e => (hb.cell (p := ⟨b, _, none⟩) hB).trans (h.hs i t e), h.hbd⟩

def small (ts : List Th) : Prop := ts.length ≤ 40 ∧ ∀ (i : Nat) (t : Th), ts[i]? = some t → t.s.size ≤ 200

theorem Things.get {b off len : Nat} {ts : List Th} {w : World} (h : Things b off len ts w) {i : Nat} (hi : i < len) : ∃ t, ts[i]? = some t := ⟨ts[i]'(by rw [h.hlen]; exact hi), List.getElem?_eq_getElem _⟩

end Go.Proofs.YtikeckmbfgidhaaGreatDoor
