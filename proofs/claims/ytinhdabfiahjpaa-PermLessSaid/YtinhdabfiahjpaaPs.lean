/- Permission texts: the program's Show. -/
import Derived.Test.YtinhdabfiahjpaaPr
import Derived.Test.YtinhdabfiahjpaaWr
namespace Go.Proofs.Ytinhdabfiahjpaa
open Go.Joins Go.RowKit

/-- The letters, of which the first i are told. -/
def partly (m : Int) (i : Nat) : List UInt8 := (List.range 9).map fun j => if j < i then pmBit m (8 - j) else rwx (8 - j)
theorem partly_len (m : Int) (i : Nat) : (partly m i).length = 9 := by simp [partly]
theorem partly_get (m : Int) (i j : Nat) : (partly m i)[j]? = if j < 9 then some (if j < i then pmBit m (8 - j) else rwx (8 - j)) else none := by
  unfold partly
  by_cases h : j < 9
  · simp [h, List.getElem?_range]
  · simp [h]
/-- What stands at the place that is next. -/
def pmCell (_m : Int) (i : Nat) : UInt8 := rwx (8 - i)
theorem partly_all (m : Int) : partly m 9 = pmShow m := by
  apply List.ext_getElem?
  intro j
  rw [partly_get]
  by_cases h : j < 9
  · rw [if_pos h, if_pos h]
    exact (showK_get 9 m j h).symm
  · rw [if_neg h, List.getElem?_eq_none (by rw [pmShow_len]; omega)]
theorem partly_on (m : Int) (i : Nat) (h : pmBit m (8 - i) = rwx (8 - i)) : partly m (i + 1) = partly m i := by
  apply List.ext_getElem?
  intro j
  rw [partly_get, partly_get]
  by_cases hj : j = i
  · subst hj
    simp [h]
  · have e : j < i + 1 ↔ j < i := by omega
    simp only [e]
theorem partly_off (m : Int) (i : Nat) (h : pmBit m (8 - i) = 45) : (partly m i).set i 45 = partly m (i + 1) := by
  apply List.ext_getElem?
  intro j
  rw [List.getElem?_set, partly_get, partly_get, partly_len]
  by_cases hj : i = j
  · subst hj
    simp [h]
  · have e : j < i + 1 ↔ j < i := by omega
    rw [if_neg hj]
    simp only [e]
theorem bc_set (xs : List UInt8) (i : Nat) (b : UInt8) : (bc xs).toArray.setIfInBounds i (.int .u8 b.toNat) = (bc (xs.set i b)).toArray := by
  simp [bc, List.map_set]
theorem bit_cases (m : Int) (k : Nat) : (m / 2 ^ k % 2 = 0 ∧ pmBit m k = 45) ∨ (m / 2 ^ k % 2 = 1 ∧ pmBit m k = rwx k) := by
  rcases (show m / 2 ^ k % 2 = 0 ∨ m / 2 ^ k % 2 = 1 by omega) with h | h
  · exact .inl ⟨h, by unfold pmBit; rw [if_neg (by omega)]⟩
  · exact .inr ⟨h, by unfold pmBit; rw [if_pos h]⟩

set_option maxHeartbeats 2000000 in
set_option maxRecDepth 100000 in
theorem pShow_any (mode : Int) (w : World) :
    Calls Try.prog 30 #[.int .i64 mode] w fun e w' => e = .returned (.string (str (pmShow mode))) ∧ Below w.heap.size w w' := by
  have kc := fun (w : World) (C : Array Value) (n c : Nat) => Lib.run_convert_bytes_const (P := Try.prog) w 27 5 C n c Try.underlying27 Try.underlying5
  go_enter Try.func30, Try.ntmps30
  go_wp2_with fail
  clear kc
  have hb0 : (w.alloc (Obj.cells #[Value.int IntKind.u8 114, Value.int IntKind.u8 119, Value.int IntKind.u8 120, Value.int IntKind.u8 114, Value.int IntKind.u8 119, Value.int IntKind.u8 120, Value.int IntKind.u8 114, Value.int IntKind.u8 119, Value.int IntKind.u8 120] 5 (9, 10))).heap[w.heap.size]? = some (.cells (bc (partly mode 0)).toArray 5 (9, 10)) := by
    rw [heap_alloc_new]; rfl
  go_loopw [9] (fun v wr => ∃ i : Nat, i ≤ 9 ∧ v = .int .i64 i ∧ wr.heap[w.heap.size]? = some (.cells (bc (partly mode i)).toArray 5 (9, 10)) ∧ Below w.heap.size w wr) (fun v _ => 9 - (intOf v).toNat)
  case atStart => exact ⟨0, by omega, rfl, hb0, (Below.refl _ w).alloc (Nat.le_refl _) _⟩
  case round =>
    obtain ⟨i, hi, rfl, hb, hbw⟩ := hrel
    by_cases hlt : i < 9
    · have hdl : decide ((i : Int) < 9) = true := by simp; omega
      have hw1 : IntKind.i64.wrap ((8 : Int) - (i : Int)) = ((8 - i : Nat) : Int) := by rw [IntKind.wrap_i64]; omega
      have hb1 : (i : Int) < 9 := by omega
      have hb0 : (0 : Int) ≤ (i : Int) := by omega
      have hw2 : IntKind.i64.wrap ((i : Int) + 1) = (i : Int) + 1 := by rw [IntKind.wrap_i64]; omega
      have hfz : wr.frozen? ⟨w.heap.size, i, none⟩ = false := by simp [World.frozen?, hb]; omega
      have hcl : wr.cell? ⟨w.heap.size, i, none⟩ = some (.int .u8 (pmCell mode i).toNat) := by
        rw [cell_of_block hb]
        simp [bc, partly_get, hlt, pmCell]
      have h1 := and_1 (mode / 2 ^ (8 - i))
      rcases bit_cases mode (8 - i) with ⟨h2, h3⟩ | ⟨h2, h3⟩
      · have hc : (bits .and .i64 (mode / 2 ^ (8 - i)) 1 == 0) = true := by rw [h1, h2]; rfl
        have hb' := block_setCell hb (v := .int .u8 45) (i := i)
        rw [show (Value.int .u8 45) = .int .u8 ((45 : UInt8).toNat : Int) from rfl, bc_set, partly_off mode i h3] at hb'
        have HB := Lib.hid hb'
        have hbw' := Below.setCell hbw (p := ⟨w.heap.size, i, none⟩) (Nat.le_refl _) (.int .u8 45)
        clear h1 h2 h3 hb hb'
        go_wp2_with fail
        go_roundw
        case rel => exact ⟨i + 1, by omega, by go_num, HB.out, hbw'⟩
        case measure => simp [intOf]; omega
      · have hc : (bits .and .i64 (mode / 2 ^ (8 - i)) 1 == 0) = false := by rw [h1, h2]; rfl
        have hb' := hb
        rw [← partly_on mode i h3] at hb'
        have HB := Lib.hid hb'
        clear h1 h2 h3 hb hb'
        go_wp2_with fail
        go_roundw
        case rel => exact ⟨i + 1, by omega, by go_num, HB.out, hbw⟩
        case measure => simp [intOf]; omega
    · obtain rfl : i = 9 := by omega
      have hk := run_convert_bytes_back (P := Try.prog) wr 27 9 5 ⟨w.heap.size, 0, none⟩ 9 (pmShow mode) Try.underlying27 Try.underlying5 Try.underlying9 (fun j hj => by
        have e : (⟨w.heap.size, 0, none⟩ : Addr).add j = ⟨w.heap.size, j, none⟩ := by simp [Addr.add, eq_comm]
        rw [e, cell_of_block hb, partly_all]
        simp [bc, hj])
      rw [pmShow_len] at hk
      have HS := Lib.hid (show (⟨(pmShow mode).toArray⟩ : ByteArray) = str (pmShow mode) from rfl)
      rw [HS.out] at hk
      clear hb
      go_wp2_with fail
      go_ret
      exact ⟨rfl, hbw⟩
end Go.Proofs.Ytinhdabfiahjpaa
