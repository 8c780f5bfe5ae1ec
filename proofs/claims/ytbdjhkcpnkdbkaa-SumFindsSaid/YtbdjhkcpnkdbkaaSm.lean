/- The contracts of a summer: its block of twenty cells, its table, its calls. -/
import Derived.Test.YtbdjhkcpnkdbkaaSa
import Derived.Test.YtbdjhkcpnkdbkaaCrc
namespace Go.Proofs.Ytbdjhkcpnkdbkaa
open Go.RowKit

/-- Block k holds the cells cs. -/
def St (T : TypeId) (k : Nat) (cs : Array Value) (w : World) : Prop := w.heap[k]? = some (.cells cs T (0, 0))

theorem St.cell {T : TypeId} {k : Nat} {cs : Array Value} {w : World} (h : St T k cs w) {j : Nat} {v : Value} (hj : cs[j]? = some v) : w.cell? ⟨k, j, none⟩ = some v := by
  unfold St at h
  simp [World.cell?, h, hj]
theorem St.free {T : TypeId} {k : Nat} {cs : Array Value} {w : World} (h : St T k cs w) (j : Nat) : w.frozen? ⟨k, j, none⟩ = false := by
  unfold St at h
  simp [World.frozen?, h]
theorem St.set {T : TypeId} {k : Nat} {cs : Array Value} {w : World} (h : St T k cs w) (j : Nat) (v : Value) : St T k (cs.setIfInBounds j v) (w.setCell ⟨k, j, none⟩ v) := by
  have hlt := lt_of_block h
  unfold St at h ⊢
  have h' : w.heap[k] = .cells cs T (0, 0) := by simpa [Array.getElem?_eq_getElem hlt] using h
  show (w.heap.modify k _)[k]? = _
  rw [Array.getElem?_eq_getElem (by simpa using hlt), Array.getElem_modify_self, h']
  rfl
theorem St.lt {T : TypeId} {k : Nat} {cs : Array Value} {w : World} (h : St T k cs w) : k < w.heap.size := lt_of_block h
theorem Keep.put {k : Nat} {a b : World} (h : Keep k none a b) (j : Nat) (v : Value) : Keep k none a (b.setCell ⟨k, j, none⟩ v) :=
  ⟨h.os, h.tape, h.output, by simpa [World.setCell] using h.size, fun i hi hk hr => (Below.heap_setCell b _ v i hk).trans (h.block i hi hk hr)⟩

def tab (i : Nat) : Value := uv (st4 (BitVec.ofNat 32 i))
def putF (f : Nat → Value) (cs : Array Value) : Nat → Array Value
  | 0 => cs
  | i + 1 => (putF f cs i).setIfInBounds (3 + i) (f i)
def put (cs : Array Value) (i : Nat) : Array Value := putF tab cs i
theorem put_size (cs : Array Value) : ∀ i, (put cs i).size = cs.size
  | 0 => rfl
  | i + 1 => by
    have h := put_size cs i
    simp [put, putF] at h ⊢
    exact h

set_option maxRecDepth 100000 in
set_option maxHeartbeats 800000 in
theorem build_any (k : Nat) (cs : Array Value) (hcs : cs.size = 20) (w : World) (h : St 79 k cs w) :
    Calls Try.prog 37 #[.pointer (some ⟨k, 0, none⟩)] w fun e w' => e = .returned (.tuple #[]) ∧ St 79 k (put cs 16) w' ∧ Keep k none w w' := by
  have HS := Lib.hid hcs
  clear hcs
  go_enter Try.func37, Try.ntmps37
  go_wp2
  go_loopw [2, 3, 4, 5] (fun _ _ _ c wr => ∃ i : Nat, i ≤ 16 ∧ c = .int .i64 i ∧ St 79 k (put cs i) wr ∧ Keep k none w wr) (fun _ _ _ c _ => 16 - (intOf c).toNat)
  case atStart => exact ⟨0, by omega, rfl, h, Keep.refl _ _ _⟩
  case round =>
    obtain ⟨i, hi, rfl, hst, hk⟩ := hrel
    by_cases hlt : i < 16
    · have hx : IntKind.u32.wrap (i : Int) = ((BitVec.ofNat 32 i).toNat : Int) := by rw [IntKind.wrap_u32, BitVec.toNat_ofNat]; omega
      obtain ⟨x, hxx⟩ : ∃ x, x = BitVec.ofNat 32 i := ⟨_, rfl⟩
      rw [← hxx] at hx
      have HX := Lib.hid hxx
      clear hxx
      have hcell : ∃ v, wr.cell? ⟨k, 3 + i, none⟩ = some v := by
        refine ⟨(put cs i)[3 + i]'(by rw [put_size, HS.out]; omega), hst.cell (by simp)⟩
      obtain ⟨v, hv⟩ := hcell
      have hf := hst.free (3 + i)
      go_wp2
      go_loop [3, 4, 10] (fun r _ c => ∃ j : Nat, j ≤ 4 ∧ c = .int .i64 j ∧ r = .int .u32 (stN j x).toNat) (fun _ _ c => 4 - (intOf c).toNat)
      case atStart => exact ⟨0, by omega, rfl, rfl⟩
      case round =>
        obtain ⟨j, hj, rfl, rfl⟩ := hrel
        by_cases hlj : j < 4
        · obtain ⟨r, hr⟩ : ∃ r, r = stN j x := ⟨_, rfl⟩
          rw [← hr]
          have HR := Lib.hid hr
          clear hr
          go_wp2
          all_goals go_round
          case rel => exact ⟨j + 1, by omega, by go_num, by first | exact (st_odd_walk r (by assumption)).trans (by rw [HR.out]; rfl) | exact (st_even_walk r (by assumption)).trans (by rw [HR.out]; rfl)⟩
          case measure => simp [intOf]; omega
          case rel => exact ⟨j + 1, by omega, by go_num, by first | exact (st_odd_walk r (by assumption)).trans (by rw [HR.out]; rfl) | exact (st_even_walk r (by assumption)).trans (by rw [HR.out]; rfl)⟩
          case measure => simp [intOf]; omega
        · obtain rfl : j = 4 := by omega
          go_wp2
          go_roundw
          case rel => exact ⟨i + 1, by omega, by go_num, by rw [HX.out]; exact hst.set (3 + i) _, Keep.put hk _ _⟩
          case measure => simp [intOf]; omega
    · obtain rfl : i = 16 := by omega
      go_wp2
      go_end0
      exact ⟨rfl, hst, hk⟩
/-- A summer that was not asked yet; one that made its table. n calls. -/
def fresh (n : Int) : Array Value := #[.int .u32 0, .int .i32 0, .int .u32 0, .int .u32 0, .int .u32 0, .int .u32 0, .int .u32 0, .int .u32 0, .int .u32 0, .int .u32 0, .int .u32 0, .int .u32 0, .int .u32 0, .int .u32 0, .int .u32 0, .int .u32 0, .int .u32 0, .int .u32 0, .int .u32 0, .int .i64 n]
def locked (n : Int) : Array Value := #[.int .u32 0, .int .i32 1, .int .u32 0, .int .u32 0, .int .u32 0, .int .u32 0, .int .u32 0, .int .u32 0, .int .u32 0, .int .u32 0, .int .u32 0, .int .u32 0, .int .u32 0, .int .u32 0, .int .u32 0, .int .u32 0, .int .u32 0, .int .u32 0, .int .u32 0, .int .i64 n]
def tabbed (d m : Value) (n : Int) : Array Value := #[d, m, .int .u32 0, tab 0, tab 1, tab 2, tab 3, tab 4, tab 5, tab 6, tab 7, tab 8, tab 9, tab 10, tab 11, tab 12, tab 13, tab 14, tab 15, .int .i64 n]
def made (n : Int) : Array Value := tabbed (.int .u32 1) (.int .i32 0) n

theorem sNew_any (w : World) : Calls Try.prog 18 #[] w fun e w' => e = .returned (.pointer (some ⟨w.heap.size, 0, none⟩)) ∧ w.alloc (.cells (fresh 0) 79) = w' := by
  go_enter Try.func18, Try.ntmps18
  go_wp2
  go_ret
  exact ⟨rfl, rfl⟩

theorem putF_locked (f : Nat → Value) (n : Int) : putF f (locked n) 16 = #[.int .u32 0, .int .i32 1, .int .u32 0, f 0, f 1, f 2, f 3, f 4, f 5, f 6, f 7, f 8, f 9, f 10, f 11, f 12, f 13, f 14, f 15, .int .i64 n] := by simp [putF, locked]
theorem put_locked (n : Int) : put (locked n) 16 = tabbed (.int .u32 0) (.int .i32 1) n := putF_locked tab n
theorem tabbed_done (n : Int) : ((tabbed (.int .u32 0) (.int .i32 1) n).setIfInBounds 0 (.int .u32 1)).setIfInBounds 1 (.int .i32 0) = made n := by
  unfold tabbed made tabbed
  simp

set_option maxRecDepth 100000 in
set_option maxHeartbeats 800000 in
theorem slow_any (k : Nat) (n : Int) (w : World) (h : St 79 k (fresh n) w) :
    Calls Try.prog 43 #[.pointer (some ⟨k, 0, none⟩), .func (.func 37) #[.pointer (some ⟨k, 0, none⟩)] #[]] w fun e w' => e = .returned (.tuple #[]) ∧ St 79 k (made n) w' ∧ Keep k none w w' := by
  have hnot : ∀ (x : Bool) (w : World), (Op.unary .not (.bool x)).run Try.prog w = .ok (.bool (!x)) w := fun _ _ => rfl
  have h1 : St 79 k (locked n) (w.setCell ⟨k, 1, none⟩ (.int .i32 1)) := h.set 1 _
  have k1 : Keep k none w (w.setCell ⟨k, 1, none⟩ (.int .i32 1)) := (Keep.refl _ _ _).put 1 _
  go_enter_defers Try.func43, Try.ntmps43
  go_wp2_with (first | (go_at_call 46; go_must (refine (lock_free ⟨k, 1, none⟩ _ (h.cell rfl) (h.free 1)).mono ?_); rintro e w1 ⟨rfl, rfl⟩) | (go_at_call 42; go_must (refine (bool_load0 ⟨k, 0, none⟩ _ (h1.cell rfl)).mono ?_); rintro e w1 ⟨rfl, rfl⟩) | (go_at_call 37; go_must (refine (build_any k (locked n) rfl _ h1).mono ?_); rintro e w2 ⟨rfl, h2, k2⟩))
  rw [put_locked] at h2
  refine leaves_cons (f := 48) (args := #[.pointer (some ⟨k, 0, none⟩), .bool true]) (by simp) (by simp [go_sem]) ?_
  refine (store_deferred ⟨k, 0, none⟩ (.int .u32 0) .returning _ (h2.cell rfl) (h2.free 0)).mono ?_
  rintro e u' w3 ⟨rfl, rfl, rfl⟩
  have h3 : St 79 k ((tabbed (.int .u32 0) (.int .i32 1) n).setIfInBounds 0 (.int .u32 1)) (w2.drew.setCell ⟨k, 0, none⟩ (.int .u32 1)) := St.set (w := w2.drew) h2 0 _
  have k3 : Keep k none w (w2.drew.setCell ⟨k, 0, none⟩ (.int .u32 1)) := Keep.put (b := w2.drew) (k1.trans k2 (.inl rfl)).drew 0 _
  refine leaves_cons (f := 47) (args := #[.pointer (some ⟨k, 1, none⟩)]) (by simp [settle]) (by simp [go_sem]) ?_
  refine (unlock_deferred ⟨k, 1, none⟩ _ _ (h3.cell rfl) (h3.free 1)).mono ?_
  rintro e u' w4 ⟨rfl, rfl, rfl⟩
  have h4 := h3.set 1 (.int .i32 0)
  rw [tabbed_done] at h4
  have k4 := k3.put 1 (.int .i32 0)
  simp [Leaves, settle, results, Try.results43]
  exact ⟨h4, k4⟩
end Go.Proofs.Ytbdjhkcpnkdbkaa
