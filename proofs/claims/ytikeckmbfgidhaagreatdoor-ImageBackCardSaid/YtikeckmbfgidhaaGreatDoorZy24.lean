/- Several texts in one: Sm Ss Sk. -/
import Derived.Test.YtikeckmbfgidhaaGreatDoorRows
import Derived.Test.YtikeckmbfgidhaaGreatDoorZy02
import Derived.Test.YtikeckmbfgidhaaGreatDoorZy22
import Derived.Test.YtikeckmbfgidhaaGreatDoorZy23
/- The contracts of a summer: its block of twenty cells, its table, its calls. -/
namespace Go.Proofs.YtikeckmbfgidhaaGreatDoor
open Go.RowKit

def tab (i : Nat) : Value := uv (st4 (BitVec.ofNat 32 i))
def putF (f : Nat → Value) (cs : Array Value) : Nat → Array Value
  | 0 => cs
  | i + 1 => (putF f cs i).setIfInBounds (3 + i) (f i)
def put (cs : Array Value) (i : Nat) : Array Value := putF tab cs i
theorem put_size (cs : Array Value) : ∀ i, (put cs i).size = cs.size
  | 0 => rfl
  | i + 1 => by
    have h := put_size cs i
    simp [put, putF] at h ⊢
    exact h

set_option maxRecDepth 100000 in
set_option maxHeartbeats 800000 in
theorem build_any (k : Nat) (cs : Array Value) (hcs : cs.size = 20) (w : World) (h : St 107 k cs w) :
    Calls Tryz.prog 66 #[.pointer (some ⟨k, 0, none⟩)] w fun e w' => e = .returned (.tuple #[]) ∧ St 107 k (put cs 16) w' ∧ Keep k none w w' := by
  have HS := Lib.hid hcs
  clear hcs
  go_enter Tryz.func66, Tryz.ntmps66
  go_wp2
  go_loopw [2, 3, 4, 5] (fun _ _ _ c wr => ∃ i : Nat, i ≤ 16 ∧ c = .int .i64 i ∧ St 107 k (put cs i) wr ∧ Keep k none w wr) (fun _ _ _ c _ => 16 - (intOf c).toNat)
  case atStart => exact ⟨0, by omega, rfl, h, Keep.refl _ _ _⟩
  case round =>
    obtain ⟨i, hi, rfl, hst, hk⟩ := hrel
    by_cases hlt : i < 16
    · have hx : IntKind.u32.wrap (i : Int) = ((BitVec.ofNat 32 i).toNat : Int) := by rw [IntKind.wrap_u32, BitVec.toNat_ofNat]; omega
      obtain ⟨x, hxx⟩ : ∃ x, x = BitVec.ofNat 32 i := ⟨_, rfl⟩
      rw [← hxx] at hx
      have HX := Lib.hid hxx
      clear hxx
      have hcell : ∃ v, wr.cell? ⟨k, 3 + i, none⟩ = some v := by
        refine ⟨(put cs i)[3 + i]'(by rw [put_size, HS.out]; omega), hst.cell (by simp)⟩
      obtain ⟨v, hv⟩ := hcell
      have hf := hst.free (3 + i)
      go_wp2
      go_loop [3, 4, 10] (fun r _ c => ∃ j : Nat, j ≤ 4 ∧ c = .int .i64 j ∧ r = .int .u32 (stN j x).toNat) (fun _ _ c => 4 - (intOf c).toNat)
      case atStart => exact ⟨0, by omega, rfl, rfl⟩
      case round =>
        obtain ⟨j, hj, rfl, rfl⟩ := hrel
        by_cases hlj : j < 4
        · obtain ⟨r, hr⟩ : ∃ r, r = stN j x := ⟨_, rfl⟩
          rw [← hr]
          have HR := Lib.hid hr
          clear hr
          go_wp2
          all_goals go_round
          case rel => exact ⟨j + 1, by omega, by go_num, by first | exact (st_odd_walk r (by assumption)).trans (by rw [HR.out]; rfl) | exact (st_even_walk r (by assumption)).trans (by rw [HR.out]; rfl)⟩
          case measure => simp [intOf]; omega
          case rel => exact ⟨j + 1, by omega, by go_num, by first | exact (st_odd_walk r (by assumption)).trans (by rw [HR.out]; rfl) | exact (st_even_walk r (by assumption)).trans (by rw [HR.out]; rfl)⟩
          case measure => simp [intOf]; omega
        · obtain rfl : j = 4 := by omega
          go_wp2
          go_roundw
          case rel => exact ⟨i + 1, by omega, by go_num, by rw [HX.out]; exact hst.set (3 + i) _, Keep.put hk _ _⟩
          case measure => simp [intOf]; omega
    · obtain rfl : i = 16 := by omega
      go_wp2
      go_end0
      exact ⟨rfl, hst, hk⟩
/-- A summer that was not asked yet; one that made its table. n calls. -/
def fresh (n : Int) : Array Value := #[.int .u32 0, .int .i32 0, .int .u32 0, .int .u32 0, .int .u32 0, .int .u32 0, .int .u32 0, .int .u32 0, .int .u32 0, .int .u32 0, .int .u32 0, .int .u32 0, .int .u32 0, .int .u32 0, .int .u32 0, .int .u32 0, .int .u32 0, .int .u32 0, .int .u32 0, .int .i64 n]
def locked (n : Int) : Array Value := #[.int .u32 0, .int .i32 1, .int .u32 0, .int .u32 0, .int .u32 0, .int .u32 0, .int .u32 0, .int .u32 0, .int .u32 0, .int .u32 0, .int .u32 0, .int .u32 0, .int .u32 0, .int .u32 0, .int .u32 0, .int .u32 0, .int .u32 0, .int .u32 0, .int .u32 0, .int .i64 n]
def tabbed (d m : Value) (n : Int) : Array Value := #[d, m, .int .u32 0, tab 0, tab 1, tab 2, tab 3, tab 4, tab 5, tab 6, tab 7, tab 8, tab 9, tab 10, tab 11, tab 12, tab 13, tab 14, tab 15, .int .i64 n]
def made (n : Int) : Array Value := tabbed (.int .u32 1) (.int .i32 0) n

theorem sNew_any (w : World) : Calls Tryz.prog 47 #[] w fun e w' => e = .returned (.pointer (some ⟨w.heap.size, 0, none⟩)) ∧ w.alloc (.cells (fresh 0) 107) = w' := by
  go_enter Tryz.func47, Tryz.ntmps47
  go_wp2
  go_ret
  exact ⟨rfl, rfl⟩

theorem putF_locked (f : Nat → Value) (n : Int) : putF f (locked n) 16 = #[.int .u32 0, .int .i32 1, .int .u32 0, f 0, f 1, f 2, f 3, f 4, f 5, f 6, f 7, f 8, f 9, f 10, f 11, f 12, f 13, f 14, f 15, .int .i64 n] := by simp [putF, locked]
theorem put_locked (n : Int) : put (locked n) 16 = tabbed (.int .u32 0) (.int .i32 1) n := putF_locked tab n
theorem tabbed_done (n : Int) : ((tabbed (.int .u32 0) (.int .i32 1) n).setIfInBounds 0 (.int .u32 1)).setIfInBounds 1 (.int .i32 0) = made n := by
  unfold tabbed made tabbed
  simp

set_option maxRecDepth 100000 in
set_option maxHeartbeats 800000 in
theorem slow_any (k : Nat) (n : Int) (w : World) (h : St 107 k (fresh n) w) :
    Calls Tryz.prog 72 #[.pointer (some ⟨k, 0, none⟩), .func (.func 66) #[.pointer (some ⟨k, 0, none⟩)] #[]] w fun e w' => e = .returned (.tuple #[]) ∧ St 107 k (made n) w' ∧ Keep k none w w' := by
  have hnot : ∀ (x : Bool) (w : World), (Op.unary .not (.bool x)).run Tryz.prog w = .ok (.bool (!x)) w := fun _ _ => rfl
  have h1 : St 107 k (locked n) (w.setCell ⟨k, 1, none⟩ (.int .i32 1)) := h.set 1 _
  have k1 : Keep k none w (w.setCell ⟨k, 1, none⟩ (.int .i32 1)) := (Keep.refl _ _ _).put 1 _
  go_enter_defers Tryz.func72, Tryz.ntmps72
  go_wp2_with (first | (go_at_call 77; go_must (refine (lock_free ⟨k, 1, none⟩ _ (h.cell rfl) (h.free 1)).mono ?_); rintro e w1 ⟨rfl, rfl⟩) | (go_at_call 71; go_must (refine (bool_load0 ⟨k, 0, none⟩ _ (h1.cell rfl)).mono ?_); rintro e w1 ⟨rfl, rfl⟩) | (go_at_call 66; go_must (refine (build_any k (locked n) rfl _ h1).mono ?_); rintro e w2 ⟨rfl, h2, k2⟩))
  rw [put_locked] at h2
  refine leaves_cons (f := 79) (args := #[.pointer (some ⟨k, 0, none⟩), .bool true]) (by simp) (by simp [go_sem]) ?_
  refine (store_deferred ⟨k, 0, none⟩ (.int .u32 0) .returning _ (h2.cell rfl) (h2.free 0)).mono ?_
  rintro e u' w3 ⟨rfl, rfl, rfl⟩
  have h3 : St 107 k ((tabbed (.int .u32 0) (.int .i32 1) n).setIfInBounds 0 (.int .u32 1)) (w2.drew.setCell ⟨k, 0, none⟩ (.int .u32 1)) := St.set (w := w2.drew) h2 0 _
  have k3 : Keep k none w (w2.drew.setCell ⟨k, 0, none⟩ (.int .u32 1)) := Keep.put (b := w2.drew) (k1.trans k2 (.inl rfl)).drew 0 _
  refine leaves_cons (f := 78) (args := #[.pointer (some ⟨k, 1, none⟩)]) (by simp [settle]) (by simp [go_sem]) ?_
  refine (unlock_deferred ⟨k, 1, none⟩ _ _ (h3.cell rfl) (h3.free 1)).mono ?_
  rintro e u' w4 ⟨rfl, rfl, rfl⟩
  have h4 := h3.set 1 (.int .i32 0)
  rw [tabbed_done] at h4
  have k4 := k3.put 1 (.int .i32 0)
  simp [Leaves, settle, results, Tryz.results72]
  exact ⟨h4, k4⟩
end Go.Proofs.YtikeckmbfgidhaaGreatDoor

/- The contracts of a summer's methods. -/
namespace Go.Proofs.YtikeckmbfgidhaaGreatDoor
open Go.RowKit

/-- A summer at block k that was asked n times. -/
def Smr (k : Nat) (n : Int) (w : World) : Prop := St 107 k (fresh n) w ∨ St 107 k (made n) w

theorem fresh_set (n m : Int) : (fresh n).setIfInBounds 19 (.int .i64 m) = fresh m := by simp [fresh]
theorem made_set (n m : Int) : (made n).setIfInBounds 19 (.int .i64 m) = made m := by simp [made, tabbed]

theorem made_tab (n : Int) (m : Nat) (h : m < 16) : (made n)[3 + m]? = some (tab m) := by
  have : m = 0 ∨ m = 1 ∨ m = 2 ∨ m = 3 ∨ m = 4 ∨ m = 5 ∨ m = 6 ∨ m = 7 ∨ m = 8 ∨ m = 9 ∨ m = 10 ∨ m = 11 ∨ m = 12 ∨ m = 13 ∨ m = 14 ∨ m = 15 := by omega
  rcases this with rfl | rfl | rfl | rfl | rfl | rfl | rfl | rfl | rfl | rfl | rfl | rfl | rfl | rfl | rfl | rfl <;> simp [made, tabbed]

theorem add_at (k : Nat) (n : Int) (w : World) (h1 : n < 9223372036854775807) (h0 : 0 ≤ n) (h : Smr k n w) :
    Calls Tryz.prog 28 #[.pointer (some ⟨k, 19, none⟩), .int .i64 1] w fun e w' => e = .returned (.int .i64 (n + 1)) ∧ Smr k (n + 1) w' ∧ Keep k none w w' := by
  rcases h with h | h
  · refine (i64_add ⟨k, 19, none⟩ n w h1 h0 (h.cell rfl) (h.free 19)).mono ?_
    rintro e w' ⟨rfl, rfl⟩
    refine ⟨rfl, .inl ?_, (Keep.refl _ _ _).put 19 _⟩
    rw [← fresh_set n (n + 1)]
    exact h.set 19 _
  · refine (i64_add ⟨k, 19, none⟩ n w h1 h0 (h.cell rfl) (h.free 19)).mono ?_
    rintro e w' ⟨rfl, rfl⟩
    refine ⟨rfl, .inr ?_, (Keep.refl _ _ _).put 19 _⟩
    rw [← made_set n (n + 1)]
    exact h.set 19 _

set_option maxRecDepth 100000 in
theorem do_any (k : Nat) (n : Int) (w : World) (h : Smr k n w) :
    Calls Tryz.prog 65 #[.pointer (some ⟨k, 0, none⟩), .func (.func 66) #[.pointer (some ⟨k, 0, none⟩)] #[]] w fun e w' => e = .returned (.tuple #[]) ∧ St 107 k (made n) w' ∧ Keep k none w w' := by
  have hnot : ∀ (x : Bool) (w : World), (Op.unary .not (.bool x)).run Tryz.prog w = .ok (.bool (!x)) w := fun _ _ => rfl
  rcases h with h | h
  · go_enter Tryz.func65, Tryz.ntmps65
    go_wp2_with (first | (go_at_call 71; go_must (refine (bool_load0 ⟨k, 0, none⟩ _ (h.cell rfl)).mono ?_); rintro e w1 ⟨rfl, rfl⟩) | (go_at_call 72; go_must (refine (slow_any k n _ h).mono ?_); rintro e w2 ⟨rfl, h2, k2⟩))
    go_end0
    exact ⟨rfl, h2, k2⟩
  · go_enter Tryz.func65, Tryz.ntmps65
    go_wp2_with (go_at_call 71; go_must (refine (bool_load1 ⟨k, 0, none⟩ _ (h.cell rfl)).mono ?_); rintro e w1 ⟨rfl, rfl⟩)
    go_end0
    exact ⟨rfl, h, Keep.refl _ _ _⟩

set_option maxRecDepth 100000 in
set_option maxHeartbeats 800000 in
theorem more_any (k : Nat) (n : Int) (r : BitVec 32) (s : ByteArray) (w : World) (h1 : n < 9223372036854775807) (h0 : 0 ≤ n) (hs : s.size ≤ 9223372036854775807) (h : Smr k n w) :
    Calls Tryz.prog 56 #[.pointer (some ⟨k, 0, none⟩), uv r, .string s] w fun e w' => e = .returned (uv (more r s.data.toList)) ∧ St 107 k (made (n + 1)) w' ∧ Keep k none w w' := by
  have hmf : ∀ (fn : Fn) (first cap : Array Value) (w : World), (Instr.makeFunc fn first cap).run Tryz.prog w = .ok (.func fn first cap) w := fun _ _ _ _ => rfl
  unfold uv
  go_enter Tryz.func56, Tryz.ntmps56
  go_wp2_with (first | (go_at_call 28; go_must (refine (add_at k n _ h1 h0 h).mono ?_); rintro e w1 ⟨rfl, ha, ka⟩) | (go_at_call 65; go_must (refine (do_any k (n + 1) _ ha).mono ?_); rintro e w2 ⟨rfl, hd, kd⟩))
  go_loopw [7, 8, 25] (fun reg _ c wr => wr = w2 ∧ ∃ i : Nat, i ≤ s.size ∧ c = .int .i64 i ∧ reg = .int .u32 (crc (~~~ r) (s.data.toList.take i)).toNat) (fun _ _ c _ => s.size - (intOf c).toNat)
  case atStart => exact ⟨rfl, 0, Nat.zero_le _, rfl, by rw [not32]; rfl⟩
  case round =>
    obtain ⟨hw, i, hi, rfl, rfl⟩ := hrel
    subst hw
    have hfin : more r s.data.toList = ~~~ (crc (~~~ r) (s.data.toList.take s.size)) := by unfold more; rw [List.take_of_length_le (by simp)]
    by_cases hlt : i < s.size
    · obtain ⟨q, hq⟩ : ∃ q, q = crc (~~~ r) (s.data.toList.take i) := ⟨_, rfl⟩
      rw [← hq]
      have hnext : ∀ b, b = s[i] → crc (~~~ r) (s.data.toList.take (i + 1)) = upd q b := fun b hb => by
        have hg : s.data.toList[i]? = some s[i] := by rw [Array.getElem?_toList]; exact Array.getElem?_eq_getElem hlt
        rw [List.take_add_one, hg, hq, hb]
        exact crc_snoc _ _ _
      have HN := Lib.hid hnext
      clear hq hnext hfin
      obtain ⟨q1, q2, q3, t1, t2, m1, m2, hm1, hm2, e1, e2, e3, e4, e5, e6, e7, e8⟩ := byte_round q s[i]
      have c1 := hd.cell (made_tab (n + 1) m1 hm1)
      have c2 := hd.cell (made_tab (n + 1) m2 hm2)
      unfold tab uv at c1 c2
      rw [← e3] at c1
      rw [← e6] at c2
      have H8 := Lib.hid e8
      clear e3 e6 e8
      go_wp2
      go_roundw
      case rel => exact ⟨trivial, i + 1, by omega, by go_num, by rw [HN.out _ rfl, ← H8.out]⟩
      case measure => simp [intOf]; omega
    · obtain rfl : i = s.size := by omega
      obtain ⟨q, hq⟩ : ∃ q, q = crc (~~~ r) (s.data.toList.take s.size) := ⟨_, rfl⟩
      rw [← hq] at hfin ⊢
      have HF := Lib.hid hfin
      have KK := ka.trans kd (.inl rfl)
      clear hfin hq
      go_wp2
      go_ret
      refine ⟨?_, hd, KK⟩
      rw [not32, HF.out]
      rfl
end Go.Proofs.YtikeckmbfgidhaaGreatDoor

/- The sums of the package, the reference's, and the fixed calls that end each statement of layer 2. -/
namespace Go.Proofs.YtikeckmbfgidhaaGreatDoor
open Go.RowKit

/-- The sum of a text. -/
def sumOf (s : ByteArray) : BitVec 32 := more 0#32 s.data.toList

theorem sOfM_any (k : Nat) (n : Int) (s : ByteArray) (w : World) (h1 : n < 9223372036854775807) (h0 : 0 ≤ n) (hs : s.size ≤ 9223372036854775807) (h : Smr k n w) :
    Calls Tryz.prog 48 #[.pointer (some ⟨k, 0, none⟩), .string s] w fun e w' => e = .returned (uv (sumOf s)) ∧ St 107 k (made (n + 1)) w' ∧ Keep k none w w' := by
  go_enter Tryz.func48, Tryz.ntmps48
  go_wp2_with (go_at_call 56; go_must (refine (more_any k n 0#32 s _ h1 h0 hs h).mono ?_); rintro e w1 ⟨rfl, hst, hk⟩)
  go_ret
  exact ⟨rfl, hst, hk⟩

theorem new_below {k : Nat} {w w' : World} {o : Obj} (hk : k = w.heap.size) (h : Keep k none (w.alloc o) w') : Below w.heap.size w w' := by
  subst hk
  exact ((Below.refl _ _).alloc (Nat.le_refl _) o).trans (h.below (Nat.le_refl _) (by simp) (fun j hj => by cases hj))

set_option maxRecDepth 100000 in
theorem sOf_any (s : ByteArray) (w : World) (hs : s.size ≤ 9223372036854775807) :
    Calls Tryz.prog 35 #[.string s] w fun e w' => e = .returned (uv (sumOf s)) ∧ Below w.heap.size w w' := by
  go_enter Tryz.func35, Tryz.ntmps35
  go_wp2_with (first | (go_at_call 47; go_must (refine (sNew_any _).mono ?_); rintro e w1 ⟨rfl, hw1⟩; have h0 : Smr w.heap.size 0 w1 := (by rw [← hw1]; exact .inl (heap_alloc_new w _))) | (go_at_call 48; go_must (refine (sOfM_any w.heap.size 0 s _ (by decide) (by decide) hs h0).mono ?_); rintro e w2 ⟨rfl, hst, hk⟩))
  go_ret
  subst hw1
  exact ⟨rfl, new_below rfl hk⟩

theorem sOfM_nil (s : ByteArray) (w : World) : Calls Tryz.prog 48 #[.pointer none, .string s] w fun e w' => e = .returned (.int .u32 0) ∧ w = w' := by
  go_enter Tryz.func48, Tryz.ntmps48
  go_wp2
  go_ret
  exact ⟨rfl, rfl⟩
theorem sMore_nil (n : Int) (s : ByteArray) (w : World) : Calls Tryz.prog 56 #[.pointer none, .int .u32 n, .string s] w fun e w' => e = .returned (.int .u32 0) ∧ w = w' := by
  go_enter Tryz.func56, Tryz.ntmps56
  go_wp2
  go_ret
  exact ⟨rfl, rfl⟩
theorem sum_nine : sumOf ⟨#[49, 50, 51, 52, 53, 54, 55, 56, 57]⟩ = 3808858755#32 := by decide +kernel
theorem sum_empty : sumOf ⟨#[]⟩ = 0#32 := by decide +kernel

theorem sOf_nine (w : World) : Calls Tryz.prog 35 #[.string ⟨#[49, 50, 51, 52, 53, 54, 55, 56, 57]⟩] w fun e w' => e = .returned (.int .u32 3808858755) ∧ Below w.heap.size w w' := by
  refine (sOf_any ⟨#[49, 50, 51, 52, 53, 54, 55, 56, 57]⟩ w (by decide)).mono ?_
  rintro e w' ⟨rfl, hb⟩
  rw [sum_nine]
  exact ⟨rfl, hb⟩
theorem sOf_empty (w : World) : Calls Tryz.prog 35 #[.string ⟨#[]⟩] w fun e w' => e = .returned (.int .u32 0) ∧ Below w.heap.size w w' := by
  refine (sOf_any ⟨#[]⟩ w (by decide)).mono ?_
  rintro e w' ⟨rfl, hb⟩
  rw [sum_empty]
  exact ⟨rfl, hb⟩

end Go.Proofs.YtikeckmbfgidhaaGreatDoor
