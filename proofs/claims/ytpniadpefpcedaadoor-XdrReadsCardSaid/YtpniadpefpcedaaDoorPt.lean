/- The contracts of the law's own writing of a thing, and of its look at sizes. -/
import Derived.Test.YtpniadpefpcedaaDoorXk
namespace Go.Proofs.YtpniadpefpcedaaDoor
open Go.RowKit

/-- A thing's error and bytes. -/
def thPut (kind n : Int) (is : Bool) (s : ByteArray) : Int × List UInt8 :=
  if kind = 1 then putU32 n else if kind = 2 then putU64 n else if kind = 3 then putBool is else if kind = 4 then putFixed s else if kind = 5 then putOpaque s else if kind = 6 then putOpt is n else (0, [])

theorem kinds (kind : Int) : kind = 1 ∨ kind = 2 ∨ kind = 3 ∨ kind = 4 ∨ kind = 5 ∨ kind = 6 ∨ (¬ kind = 1 ∧ ¬ kind = 2 ∧ ¬ kind = 3 ∧ ¬ kind = 4 ∧ ¬ kind = 5 ∧ ¬ kind = 6) := by omega

theorem boxed {w w1 : World} {o : Obj} (h : Below (w.alloc o).heap.size (w.alloc o) w1) : Below w.heap.size w w1 := ((Below.refl _ _).alloc (Nat.le_refl _) o).trans (h.mono (by simp))
theorem boxed0 {w : World} {o : Obj} : Below w.heap.size w (w.alloc o) := (Below.refl _ _).alloc (Nat.le_refl _) o

theorem Puts.of_alloc {k : Nat} {r : Option Nat} {xs : List UInt8} {p : Int × List UInt8} {w : World} {o : Obj} {e : Ending} {w' : World} (h : Puts k r xs p (w.alloc o) e w') : Puts k r xs p w e w' := ⟨h.1, h.2.of_alloc⟩

set_option maxRecDepth 100000 in
set_option maxHeartbeats 1000000 in
theorem xput_any (k : Nat) (r : Option Nat) (xs : List UInt8) (kind n : Int) (is : Bool) (s : ByteArray) (w : World) (hl : xs.length ≤ 1073741800) (h : Wr 41 5 k r xs w) :
    Calls Tryd.prog 16 #[.pointer (some ⟨k, 0, none⟩), .agg #[.int .i64 kind, .int .i64 n, .bool is, .string s]] w (Puts k r xs (thPut kind n is s) w) := by
  have ha := h.alloc (.cells #[.int .i64 kind, .int .i64 n, .bool is, .string s] 32)
  rcases kinds kind with rfl | rfl | rfl | rfl | rfl | rfl | ⟨k1, k2, k3, k4, k5, k6⟩
  · go_enter Tryd.func16, Tryd.ntmps16
    go_wp2_with (go_at_call 33; go_must (refine (wU32_any k r xs n _ (by omega) ha).mono ?_); rintro e w' ⟨rfl, hw⟩)
    go_ret
    exact ⟨rfl, hw.of_alloc⟩
  · go_enter Tryd.func16, Tryd.ntmps16
    go_wp2_with (go_at_call 34; go_must (refine (wU64_any k r xs n _ (by omega) ha).mono ?_); rintro e w' ⟨rfl, hw⟩)
    go_ret
    exact ⟨rfl, hw.of_alloc⟩
  · go_enter Tryd.func16, Tryd.ntmps16
    go_wp2_with (go_at_call 35; go_must (refine (wBool_any k r xs is _ (by omega) ha).mono ?_); rintro e w' ⟨rfl, hw⟩)
    go_ret
    exact ⟨rfl, hw.of_alloc⟩
  · go_enter Tryd.func16, Tryd.ntmps16
    go_wp2_with (go_at_call 36; go_must (refine (wFixed_any k r xs s _ (by omega) ha).mono ?_); rintro e w' ⟨rfl, hw⟩)
    go_ret
    exact ⟨rfl, hw.of_alloc⟩
  · go_enter Tryd.func16, Tryd.ntmps16
    go_wp2_with (go_at_call 19; go_must (refine (wOpaque_any k r xs s _ (by omega) ha).mono ?_); rintro e w' ⟨rfl, hw⟩)
    go_ret
    exact ⟨rfl, hw.of_alloc⟩
  · go_enter Tryd.func16, Tryd.ntmps16
    go_wp2_with (go_at_call 20; go_must (refine (wOpt_any k r xs is n _ (by omega) ha).mono ?_); rintro e w' ⟨rfl, hw⟩)
    go_ret
    exact ⟨rfl, hw.of_alloc⟩
  · have e : thPut kind n is s = (0, []) := by simp [thPut, k1, k2, k3, k4, k5, k6]
    rw [e]
    go_enter Tryd.func16, Tryd.ntmps16
    go_wp2
    go_ret
    exact (puts_none ha 0).of_alloc

/-! ### A list of things -/
structure Th where
  kind : Int
  n : Int
  is : Bool
  s : ByteArray

/-- The things of a slice, cell by cell. -/
structure Things (b off len : Nat) (ts : List Th) (w : World) : Prop where
  hlen : ts.length = len
  hkind : ∀ (i : Nat) (t : Th), ts[i]? = some t → w.cell? ⟨b, off + i * 4, none⟩ = some (.int .i64 t.kind)
  hn : ∀ (i : Nat) (t : Th), ts[i]? = some t → w.cell? ⟨b, off + i * 4 + 1, none⟩ = some (.int .i64 t.n)
  his : ∀ (i : Nat) (t : Th), ts[i]? = some t → w.cell? ⟨b, off + i * 4 + 2, none⟩ = some (.bool t.is)
  hs : ∀ (i : Nat) (t : Th), ts[i]? = some t → w.cell? ⟨b, off + i * 4 + 3, none⟩ = some (.string t.s)
  hbd : ∀ (i : Nat) (t : Th), ts[i]? = some t → t.n ≤ 9223372036854775807 ∧ t.s.size ≤ 9223372036854775807

theorem Things.below {b off len : Nat} {ts : List Th} {B : Nat} {w w1 : World} (h : Things b off len ts w) (hb : Below B w w1) (hB : b < B) : Things b off len ts w1 :=
  ⟨h.hlen, fun i t e => (hb.cell (p := ⟨b, _, none⟩) hB).trans (h.hkind i t e), fun i t e => (hb.cell (p := ⟨b, _, none⟩) hB).trans (h.hn i t e), fun i t e => (hb.cell (p := ⟨b, _, none⟩) hB).trans (h.his i t e), fun i t e => (hb.cell (p := ⟨b, _, none⟩) hB).trans (h.hs i t e), h.hbd⟩

def small (ts : List Th) : Prop := ts.length ≤ 40 ∧ ∀ (i : Nat) (t : Th), ts[i]? = some t → t.s.size ≤ 200

theorem Things.get {b off len : Nat} {ts : List Th} {w : World} (h : Things b off len ts w) {i : Nat} (hi : i < len) : ∃ t, ts[i]? = some t := ⟨ts[i]'(by rw [h.hlen]; exact hi), List.getElem?_eq_getElem _⟩

set_option maxRecDepth 100000 in
set_option maxHeartbeats 1000000 in
theorem xlarge_small (ao : Option Addr) (b off len cap : Nat) (ts : List Th) (w : World) (hao : 0 < len → ao = some ⟨b, off, none⟩ ∧ b < w.heap.size) (ht : Things b off len ts w) (hs : small ts) :
    Calls Tryd.prog 7 #[.slice ao len cap] w fun e w' => e = .returned (.bool false) ∧ w = w' := by
  have hl : len ≤ 40 := by rw [← ht.hlen]; exact hs.1
  have HA := Lib.hid hao
  clear hao
  go_enter Tryd.func7, Tryd.ntmps7
  go_wp2
  go_loop [3] (fun c => ∃ i : Nat, i ≤ len ∧ c = .int .i64 i) (fun c => len - (intOf c).toNat)
  case atStart => exact ⟨0, Nat.zero_le _, rfl⟩
  case round =>
    obtain ⟨i, hi, rfl⟩ := hrel
    by_cases hlt : i < len
    · obtain ⟨rfl, hb⟩ := HA.out (by omega)
      obtain ⟨t, hti⟩ := ht.get hlt
      have c3 := ht.hs i t hti
      have hsz := hs.2 i t hti
      have h40 : i < 40 := by omega
      clear hti
      go_wp2
      go_round
      case rel => exact ⟨i + 1, by omega, by go_num⟩
      case measure => simp [intOf]; omega
    · obtain rfl : i = len := by omega
      have hd : decide ((40 : Int) < (i : Int)) = false := by simp; omega
      go_wp2
      go_ret
      exact ⟨rfl, rfl⟩

set_option maxRecDepth 100000 in
set_option maxHeartbeats 1000000 in
theorem xlarge_not (ao : Option Addr) (b off len cap : Nat) (ts : List Th) (w : World) (hcap : len ≤ 9223372036854775807) (hao : 0 < len → ao = some ⟨b, off, none⟩ ∧ b < w.heap.size) (ht : Things b off len ts w) (hs : ¬ small ts) :
    Calls Tryd.prog 7 #[.slice ao len cap] w fun e w' => e = .returned (.bool true) ∧ w = w' := by
  have HA := Lib.hid hao
  have HS := Lib.hid hs
  clear hao hs
  go_enter Tryd.func7, Tryd.ntmps7
  go_wp2
  go_loop [3] (fun c => ∃ i : Nat, i ≤ len ∧ i ≤ 40 ∧ c = .int .i64 i ∧ ∀ (j : Nat) (t : Th), j < i → ts[j]? = some t → t.s.size ≤ 200) (fun c => len - (intOf c).toNat)
  case atStart => exact ⟨0, Nat.zero_le _, by omega, rfl, fun j t h => by omega⟩
  case round =>
    obtain ⟨i, hi, hi40, rfl, hall⟩ := hrel
    have HAll := Lib.hid hall
    clear hall
    by_cases hlt : i < len
    · by_cases h40 : i < 40
      · obtain ⟨rfl, hb⟩ := HA.out (by omega)
        obtain ⟨t, hti⟩ := ht.get hlt
        have c3 := ht.hs i t hti
        have HT := Lib.hid hti
        clear hti
        by_cases hbig : 200 < t.s.size
        · go_wp2
          go_ret
          exact ⟨rfl, rfl⟩
        · go_wp2
          go_round
          case rel =>
            refine ⟨i + 1, by omega, by omega, by go_num, fun j u hj hu => ?_⟩
            by_cases e : j = i
            · subst e
              have : u = t := by have h2 := HT.out; rw [hu] at h2; simpa using h2
              rw [this]; omega
            · exact HAll.out j u (by omega) hu
          case measure => simp [intOf]; omega
      · have hd : 40 < len := by
          rcases Nat.lt_or_ge 40 len with h | h
          · exact h
          · omega
        have hd2 : decide ((40 : Int) < (len : Int)) = true := by simp; omega
        go_wp2
        go_ret
        exact ⟨rfl, rfl⟩
    · obtain rfl : i = len := by omega
      exfalso
      refine HS.out ⟨by rw [ht.hlen]; omega, fun j t hj => HAll.out j t ?_ hj⟩
      have := (List.getElem?_eq_some_iff.1 hj).1
      have h2 := ht.hlen
      omega

end Go.Proofs.YtpniadpefpcedaaDoor
