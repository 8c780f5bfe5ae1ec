/- Lemmas for the laws of index. -/
import Derived.Deep.RegionHeld3
import Derived.Deep.WholeRow
import Derived.Laws.AppendOwnNone
import Derived.StillTailTactics
import Derived.Test.YtngfknplljedeaaGreatZr10
import Derived.Test.YtngfknplljedeaaGreatZrHi
namespace Go.Proofs.YtngfknplljedeaaGreat
open Go.RowKit
section
variable {α : Type}
def fnd (p : α → Bool) (xs : List α) : Int :=
 match xs.findIdx? p with
 | some i => (i : Int)
 | none => -1
theorem fnd_hit (p : α → Bool) (xs : List α) (i : Nat) (x : α) (h : xs[i]? = some x) (hp : p x = true) (hn : ∀ j y, j < i → xs[j]? = some y → p y = false) : fnd p xs = i := by
 obtain ⟨hi, e⟩ := List.getElem?_eq_some_iff.1 h
 have : xs.findIdx? p = some i := by
  rw [List.findIdx?_eq_some_iff_getElem]
  refine ⟨hi, by rw [e]; exact hp, fun j hj => ?_⟩
  have := hn j (xs[j]'(by omega)) hj (List.getElem?_eq_getElem (by omega))
  simp [this]
 unfold fnd
 rw [this]
theorem fnd_miss (p : α → Bool) (xs : List α) (h : ∀ (j : Nat) (y : α), j < xs.length → xs[j]? = some y → p y = false) : fnd p xs = -1 := by
 have : xs.findIdx? p = none := by
  rw [List.findIdx?_eq_none_iff]
  intro x hx
  obtain ⟨j, hj⟩ := List.mem_iff_getElem?.1 hx
  exact h j x (List.getElem?_eq_some_iff.1 hj).1 hj
 unfold fnd
 rw [this]
theorem fnd_cases (p : α → Bool) (xs : List α) : (fnd p xs = -1 ∧ ∀ x ∈ xs, p x = false) ∨ ∃ (i : Nat) (x : α), fnd p xs = i ∧ xs[i]? = some x ∧ p x = true ∧ ∀ j y, j < i → xs[j]? = some y → p y = false := by
 unfold fnd
 cases hf : xs.findIdx? p with
 | none =>
  left
  rw [List.findIdx?_eq_none_iff] at hf
  exact ⟨rfl, hf⟩
 | some i =>
  right
  rw [List.findIdx?_eq_some_iff_getElem] at hf
  obtain ⟨hi, h1, h2⟩ := hf
  exact ⟨i, xs[i], rfl, List.getElem?_eq_getElem hi, h1, fun j y hj hy => by
   obtain ⟨hj2, e⟩ := List.getElem?_eq_some_iff.1 hy
   have := h2 j hj
   rw [e] at this
   simpa using this⟩
theorem fnd_step (p : α → Bool) (xs : List α) (i : Nat) (x : α) (h : xs[i]? = some x) (hx : p x = false) (hn : ∀ j y, j < i → xs[j]? = some y → p y = false) : ∀ j y, j < i + 1 → xs[j]? = some y → p y = false := fun j y hj hy => by
 by_cases e : j = i
 · subst e; rw [h] at hy; cases hy; exact hx
 · exact hn j y (by omega) hy
end
end Go.Proofs.YtngfknplljedeaaGreat
namespace Go.Proofs.YtngfknplljedeaaGreat
open Go.RowKit
theorem str_is {x y : ByteArray} (h : x = y) : (x.toList == y.toList) = true := by rw [h]; simp
theorem str_not {x y : ByteArray} (h : x ≠ y) : (x.toList == y.toList) = false := by
 have : ¬ x.toList = y.toList := by
  rw [Lib.toList_data, Lib.toList_data]
  intro e
  exact h (ByteArray.ext (Array.toList_inj.1 e))
 simpa using this
def pHeld (e s : Int) (x : Hd) : Bool := decide (x.epoch = e) && decide (x.serial = s)
def pIssued (u : ByteArray) (x : Hd) : Bool := decide (x.up = u)
def pFile (u : ByteArray) (x : Cd) : Bool := decide (x.up = u)
def pName (d m : ByteArray) (x : Kn) : Bool := decide (x.dir = d) && decide (x.name = m)
def pBlock (u : ByteArray) (no : Int) (x : Bk) : Bool := decide (x.up = u) && decide (x.no = no)
set_option maxRecDepth 100000 in
set_option maxHeartbeats 1000000 in
theorem ixheld_any {B : Nat} (v : Value) (xs : List Hd) (e : Int) (s : Int) (w : World) (h : RowsAt B 3 Hd.vs v xs w) :
 Calls Tryz.prog 48 #[v, .int .i64 e, .int .i64 s] w fun e0 w' => e0 = .returned (.int .i64 (fnd (pHeld e s) xs)) ∧ w = w' := by
 obtain ⟨ao, cap, b, off, rfl, hl, hx⟩ := h.walk
 obtain ⟨n, hn⟩ : ∃ n, n = xs.length := ⟨_, rfl⟩
 rw [← hn] at hl hx ⊢
 obtain ⟨r, hr⟩ : ∃ r : Int, r = fnd (pHeld e s) xs := ⟨_, rfl⟩
 rw [← hr]
 have HN := hI (show (∀ (j : Nat) (y : Hd), j < n → xs[j]? = some y → pHeld e s y = false) → r = -1 from fun h => by rw [hr]; exact fnd_miss _ _ (fun j y hj => h j y (by omega)))
 have HA := hI (show ∀ (i : Nat) x, xs[i]? = some x → pHeld e s x = true → (∀ (j : Nat) (y : Hd), j < i → xs[j]? = some y → pHeld e s y = false) → r = i from fun i x h1 h2 h3 => by rw [hr]; exact fnd_hit _ _ i x h1 h2 h3)
 have HX := hI (show ∀ i, i < n → ∃ x : Hd, xs[i]? = some x ∧ ao = some ⟨b, off, none⟩ ∧ w.rangeAt b (off + i * 3) x.vs from fun i hi => by
  obtain ⟨x, e1, e2, e3, e4⟩ := hx i hi
  exact ⟨x, e1, e2, e4⟩)
 clear hx h hn hr
 go_enter Tryz.func48, Tryz.ntmps48
 go_wp2
 go_loop [7] (fun dv => ∃ i : Nat, i ≤ n ∧ dv = .int .i64 i ∧ ∀ (j : Nat) (y : Hd), j < i → xs[j]? = some y → pHeld e s y = false) (fun dv => n - (intOf dv).toNat)
 case atStart => exact ⟨0, Nat.zero_le _, rfl, fun j y h => by omega⟩
 case round =>
  obtain ⟨i, hi, rfl, hm⟩ := hrel
  have HM := hI hm
  clear hm
  by_cases hlt : i < n
  · obtain ⟨x, hxi, rfl, hr⟩ := HX.out i hlt
    have HS := hI hxi
    clear hxi
    have b0 : (0 : Int) ≤ (i : Int) := by omega
    have b1 : (i : Int) < (n : Int) := by omega
    have k0 : w.cell? ⟨b, off + i * 3, none⟩ = some (.int .i64 x.epoch) := hr 0 _ rfl
    have k1 : w.cell? ⟨b, off + i * 3 + 1, none⟩ = some (.int .i64 x.serial) := hr 1 _ rfl
    clear hr
    by_cases h0 : x.epoch = e
    · have d0 : (x.epoch == e) = true := beq_iff_eq.2 h0
      by_cases h1 : x.serial = s
      · have d1 : (x.serial == s) = true := beq_iff_eq.2 h1
        have HP := hI (show pHeld e s x = true from by unfold pHeld; rw [decide_eq_true h0, decide_eq_true h1]; rfl)
        clear h0 h1
        go_wp2
        go_returns
        rw [HA.out i x HS.out HP.out HM.out]
        exact ⟨rfl, rfl⟩
      · have d1 : (x.serial == s) = false := beq_eq_false_iff_ne.2 h1
        have HP := hI (show pHeld e s x = false from by unfold pHeld; rw [decide_eq_false h1, Bool.and_false])
        clear h0 h1
        go_wp2
        go_round
        case rel => exact ⟨i + 1, by omega, by go_num, fnd_step _ _ i x HS.out HP.out HM.out⟩
        case measure => simp [intOf]; omega
    · have d0 : (x.epoch == e) = false := beq_eq_false_iff_ne.2 h0
      have HP := hI (show pHeld e s x = false from by unfold pHeld; rw [decide_eq_false h0, Bool.false_and])
      clear h0
      go_wp2
      go_round
      case rel => exact ⟨i + 1, by omega, by go_num, fnd_step _ _ i x HS.out HP.out HM.out⟩
      case measure => simp [intOf]; omega
  · obtain rfl : n = i := by omega
    go_wp2
    go_returns
    rw [HN.out HM.out]
    exact ⟨rfl, rfl⟩
set_option maxRecDepth 100000 in
set_option maxHeartbeats 1000000 in
theorem ixIssued_any {B : Nat} (v : Value) (xs : List Hd) (u : ByteArray) (w : World) (h : RowsAt B 3 Hd.vs v xs w) :
 Calls Tryz.prog 24 #[v, .string u] w fun e0 w' => e0 = .returned (.int .i64 (fnd (pIssued u) xs)) ∧ w = w' := by
 obtain ⟨ao, cap, b, off, rfl, hl, hx⟩ := h.walk
 obtain ⟨n, hn⟩ : ∃ n, n = xs.length := ⟨_, rfl⟩
 rw [← hn] at hl hx ⊢
 obtain ⟨r, hr⟩ : ∃ r : Int, r = fnd (pIssued u) xs := ⟨_, rfl⟩
 rw [← hr]
 have HN := hI (show (∀ (j : Nat) (y : Hd), j < n → xs[j]? = some y → pIssued u y = false) → r = -1 from fun h => by rw [hr]; exact fnd_miss _ _ (fun j y hj => h j y (by omega)))
 have HA := hI (show ∀ (i : Nat) x, xs[i]? = some x → pIssued u x = true → (∀ (j : Nat) (y : Hd), j < i → xs[j]? = some y → pIssued u y = false) → r = i from fun i x h1 h2 h3 => by rw [hr]; exact fnd_hit _ _ i x h1 h2 h3)
 have HX := hI (show ∀ i, i < n → ∃ x : Hd, xs[i]? = some x ∧ ao = some ⟨b, off, none⟩ ∧ w.rangeAt b (off + i * 3) x.vs from fun i hi => by
  obtain ⟨x, e1, e2, e3, e4⟩ := hx i hi
  exact ⟨x, e1, e2, e4⟩)
 clear hx h hn hr
 go_enter Tryz.func24, Tryz.ntmps24
 go_wp2
 go_loop [5] (fun dv => ∃ i : Nat, i ≤ n ∧ dv = .int .i64 i ∧ ∀ (j : Nat) (y : Hd), j < i → xs[j]? = some y → pIssued u y = false) (fun dv => n - (intOf dv).toNat)
 case atStart => exact ⟨0, Nat.zero_le _, rfl, fun j y h => by omega⟩
 case round =>
  obtain ⟨i, hi, rfl, hm⟩ := hrel
  have HM := hI hm
  clear hm
  by_cases hlt : i < n
  · obtain ⟨x, hxi, rfl, hr⟩ := HX.out i hlt
    have HS := hI hxi
    clear hxi
    have b0 : (0 : Int) ≤ (i : Int) := by omega
    have b1 : (i : Int) < (n : Int) := by omega
    have k2 : w.cell? ⟨b, off + i * 3 + 2, none⟩ = some (.string x.up) := hr 2 _ rfl
    clear hr
    by_cases h0 : x.up = u
    · have d0 := str_is h0
      have HP := hI (show pIssued u x = true from by unfold pIssued; rw [decide_eq_true h0])
      clear h0
      go_wp2
      go_returns
      rw [HA.out i x HS.out HP.out HM.out]
      exact ⟨rfl, rfl⟩
    · have d0 := str_not h0
      have HP := hI (show pIssued u x = false from by unfold pIssued; rw [decide_eq_false h0])
      clear h0
      go_wp2
      go_round
      case rel => exact ⟨i + 1, by omega, by go_num, fnd_step _ _ i x HS.out HP.out HM.out⟩
      case measure => simp [intOf]; omega
  · obtain rfl : n = i := by omega
    go_wp2
    go_returns
    rw [HN.out HM.out]
    exact ⟨rfl, rfl⟩
set_option maxRecDepth 100000 in
set_option maxHeartbeats 1000000 in
theorem ixFile_any (cs : List Value) (ca : CA) (u : ByteArray) (w : World) (h : CAt w.heap.size cs ca w) :
 Calls Tryz.prog 26 #[.agg cs.toArray, .string u] w fun e0 w' => e0 = .returned (.int .i64 (fnd (pFile u) ca.files)) ∧ Below w.heap.size w w' := by
 obtain ⟨v1, v2, v3, v4, rfl, r1, r2, r3, r4⟩ := h
 obtain ⟨ao, cap, b, off, rfl, hl, hx⟩ := r2.walk
 obtain ⟨n, hn⟩ : ∃ n, n = ca.files.length := ⟨_, rfl⟩
 rw [← hn] at hl hx ⊢
 obtain ⟨r, hr⟩ : ∃ r : Int, r = fnd (pFile u) ca.files := ⟨_, rfl⟩
 rw [← hr]
 have HN := hI (show (∀ (j : Nat) (y : Cd), j < n → ca.files[j]? = some y → pFile u y = false) → r = -1 from fun h => by rw [hr]; exact fnd_miss _ _ (fun j y hj => h j y (by omega)))
 have HA := hI (show ∀ (i : Nat) x, ca.files[i]? = some x → pFile u x = true → (∀ (j : Nat) (y : Cd), j < i → ca.files[j]? = some y → pFile u y = false) → r = i from fun i x h1 h2 h3 => by rw [hr]; exact fnd_hit _ _ i x h1 h2 h3)
 obtain ⟨w1, hw1⟩ : ∃ w1, w1 = w.alloc (.cells #[v1, .slice ao n cap, v3, v4] 27 (0, 0)) := ⟨_, rfl⟩
 have hb1 : Below w.heap.size w w1 := by rw [hw1]; exact (Below.refl _ w).alloc (Nat.le_refl _) _
 have cc : w1.cell? ⟨w.heap.size, 1, none⟩ = some (.slice ao n cap) := by rw [hw1]; exact (St.new w 27 #[v1, .slice ao n cap, v3, v4]).cell rfl
 have HW1 := hI hw1
 have HB1 := hI hb1
 have HX := hI (show ∀ i, i < n → ∃ x : Cd, ca.files[i]? = some x ∧ ao = some ⟨b, off, none⟩ ∧ w1.rangeAt b (off + i * 11) x.vs from fun i hi => by
  obtain ⟨x, e1, e2, e3, e4⟩ := hx i hi
  exact ⟨x, e1, e2, fun j u hu => (hb1.cell (p := ⟨b, off + i * 11 + j, none⟩) e3).trans (e4 j u hu)⟩)
 clear hx r1 r2 r3 r4 hn hr hb1 hw1
 go_enter Tryz.func26, Tryz.ntmps26
 go_wp2
 rw [← HW1.out]
 go_loop [5] (fun dv => ∃ i : Nat, i ≤ n ∧ dv = .int .i64 i ∧ ∀ (j : Nat) (y : Cd), j < i → ca.files[j]? = some y → pFile u y = false) (fun dv => n - (intOf dv).toNat)
 case atStart => exact ⟨0, Nat.zero_le _, rfl, fun j y h => by omega⟩
 case round =>
  obtain ⟨i, hi, rfl, hm⟩ := hrel
  have HM := hI hm
  clear hm
  by_cases hlt : i < n
  · obtain ⟨x, hxi, rfl, hr⟩ := HX.out i hlt
    have HS := hI hxi
    clear hxi
    have b0 : (0 : Int) ≤ (i : Int) := by omega
    have b1 : (i : Int) < (n : Int) := by omega
    have k0 : w1.cell? ⟨b, off + i * 11, none⟩ = some (.string x.up) := hr 0 _ rfl
    clear hr
    by_cases h0 : x.up = u
    · have d0 := str_is h0
      have HP := hI (show pFile u x = true from by unfold pFile; rw [decide_eq_true h0])
      clear h0
      go_wp2
      go_returns
      rw [HA.out i x HS.out HP.out HM.out]
      exact ⟨rfl, HB1.out⟩
    · have d0 := str_not h0
      have HP := hI (show pFile u x = false from by unfold pFile; rw [decide_eq_false h0])
      clear h0
      go_wp2
      go_round
      case rel => exact ⟨i + 1, by omega, by go_num, fnd_step _ _ i x HS.out HP.out HM.out⟩
      case measure => simp [intOf]; omega
  · obtain rfl : n = i := by omega
    go_wp2
    go_returns
    rw [HN.out HM.out]
    exact ⟨rfl, HB1.out⟩
theorem len_dataV (s : ByteArray) : s.data.toList.length = s.size := rfl
def lets (k : Int) : ByteArray :=
 if k = 1 then ⟨#[101, 115, 117]⟩ else
 if k = 2 then ⟨#[101, 115]⟩ else
 if k = 3 then ⟨#[117, 97]⟩ else
 if k = 4 then ⟨#[117]⟩ else
 if k = 5 then ⟨#[117]⟩ else
 if k = 6 then ⟨#[117, 110, 99]⟩ else
 if k = 7 then ⟨#[117, 110]⟩ else
 if k = 8 then ⟨#[117, 98, 116]⟩ else
 if k = 9 then ⟨#[117, 98]⟩ else
 ⟨#[]⟩
def numB (is : Bool) (n lo hi : Int) : Bool := if is then decide (lo ≤ n) && decide (n ≤ hi) else decide (n = 0)
def textB (is : Bool) (s : ByteArray) (lo hi : Int) : Bool := if is then decide (lo ≤ (s.size : Int)) && decide ((s.size : Int) ≤ hi) else decide (s = ⟨#[]⟩)
set_option maxRecDepth 100000 in
set_option maxHeartbeats 1000000 in
theorem rxhas_any (s : ByteArray) (b : UInt8) (w : World) (hs : s.size ≤ 1073741824) : Calls Tryz.prog 105 #[.string s, .int .u8 b.toNat] w fun e w' => e = .returned (.bool (s.data.toList.contains b)) ∧ w = w' := by
 have hno : (∀ (j : Nat) (h : j < s.size), (s[j]'h) ≠ b) → s.data.toList.contains b = false := by
  intro h
  rw [Bool.eq_false_iff]
  intro hc
  rw [List.contains_iff_mem] at hc
  obtain ⟨j, hj⟩ := List.mem_iff_getElem?.1 hc
  have hlt : j < s.size := by
   have := (List.getElem?_eq_some_iff.1 hj).1
   rwa [len_dataV] at this
  refine h j hlt ?_
  have h3 : s.data.toList[j]? = some (s[j]'hlt) := by
   rw [List.getElem?_eq_getElem (by rw [len_dataV]; exact hlt)]
   rfl
  rw [hj] at h3
  exact (Option.some.inj h3).symm
 have hyes : ∀ (j : Nat) (h : j < s.size), (s[j]'h) = b → s.data.toList.contains b = true := by
  intro j h e
  rw [List.contains_iff_mem, ← e]
  have h3 : s.data.toList[j]? = some (s[j]'h) := by
   rw [List.getElem?_eq_getElem (by rw [len_dataV]; exact h)]
   rfl
  exact List.mem_of_getElem? h3
 obtain ⟨q, hq⟩ : ∃ q, q = s.data.toList.contains b := ⟨_, rfl⟩
 rw [← hq] at hno hyes ⊢
 have HN := hI hno
 have HY := hI hyes
 clear hno hyes hq
 go_enter Tryz.func105, Tryz.ntmps105
 go_wp2
 go_loop [5] (fun i => ∃ k : Nat, k ≤ s.size ∧ i = .int .i64 k ∧ ∀ (j : Nat) (h : j < s.size), j < k → (s[j]'h) ≠ b) (fun i => s.size - (intOf i).toNat)
 case atStart => exact ⟨0, Nat.zero_le _, rfl, fun j h hj => by omega⟩
 case round =>
  obtain ⟨k, hk, rfl, hall⟩ := hrel
  have HA := hI hall
  clear hall
  by_cases hlt : k < s.size
  · have b0 : (0 : Int) ≤ (k : Int) := by omega
    by_cases hb : (s[k]'hlt) = b
    · have hqt := HY.out k hlt hb
      subst hqt
      go_wp2
      go_ret
      exact ⟨rfl, rfl⟩
    · have hb2 : ¬ (s[k]'hlt).toNat = b.toNat := fun e => hb (UInt8.toNat_inj.1 e)
      have d1 : (((s[k]'hlt).toNat : Int) == (b.toNat : Int)) = false := by simp; omega
      have d2 : ((s[k]'hlt).toNat == b.toNat) = false := by simpa using hb2
      have d3 : ((s[k]'hlt) == b) = false := by simpa using hb
      have HB := hI hb
      clear hb
      go_wp2
      go_round
      case rel =>
       refine ⟨k + 1, by omega, by go_num, fun j h hj => ?_⟩
       by_cases e : j = k
       · subst e; exact HB.out
       · exact HA.out j h (by omega)
      case measure => simp [intOf]; omega
  · obtain rfl : k = s.size := by omega
    have hqf := HN.out (fun j h => HA.out j h h)
    subst hqf
    go_wp2
    go_ret
    exact ⟨rfl, rfl⟩
set_option maxRecDepth 100000 in
set_option maxHeartbeats 2000000 in
theorem rxLetters_any (k : Int) (w : World) : Calls Tryz.prog 104 #[.int .i64 k] w fun e w' => e = .returned (.string (lets k)) ∧ Below w.heap.size w w' := by
 have HB := hI (Below.refl w.heap.size w)
 by_cases k0 : k = 0
 · subst k0
   rw [show lets 0 = ⟨#[]⟩ from rfl]
   go_enter Tryz.func104, Tryz.ntmps104
   go_wp2
   go_returns
   exact ⟨rfl, HB.out.alloc (Nat.le_refl _) _⟩
 by_cases k1 : k = 1
 · subst k1
   rw [show lets 1 = ⟨#[101, 115, 117]⟩ from rfl]
   go_enter Tryz.func104, Tryz.ntmps104
   go_wp2
   go_returns
   exact ⟨rfl, HB.out.alloc (Nat.le_refl _) _⟩
 by_cases k2 : k = 2
 · subst k2
   rw [show lets 2 = ⟨#[101, 115]⟩ from rfl]
   go_enter Tryz.func104, Tryz.ntmps104
   go_wp2
   go_returns
   exact ⟨rfl, HB.out.alloc (Nat.le_refl _) _⟩
 by_cases k3 : k = 3
 · subst k3
   rw [show lets 3 = ⟨#[117, 97]⟩ from rfl]
   go_enter Tryz.func104, Tryz.ntmps104
   go_wp2
   go_returns
   exact ⟨rfl, HB.out.alloc (Nat.le_refl _) _⟩
 by_cases k4 : k = 4
 · subst k4
   rw [show lets 4 = ⟨#[117]⟩ from rfl]
   go_enter Tryz.func104, Tryz.ntmps104
   go_wp2
   go_returns
   exact ⟨rfl, HB.out.alloc (Nat.le_refl _) _⟩
 by_cases k5 : k = 5
 · subst k5
   rw [show lets 5 = ⟨#[117]⟩ from rfl]
   go_enter Tryz.func104, Tryz.ntmps104
   go_wp2
   go_returns
   exact ⟨rfl, HB.out.alloc (Nat.le_refl _) _⟩
 by_cases k6 : k = 6
 · subst k6
   rw [show lets 6 = ⟨#[117, 110, 99]⟩ from rfl]
   go_enter Tryz.func104, Tryz.ntmps104
   go_wp2
   go_returns
   exact ⟨rfl, HB.out.alloc (Nat.le_refl _) _⟩
 by_cases k7 : k = 7
 · subst k7
   rw [show lets 7 = ⟨#[117, 110]⟩ from rfl]
   go_enter Tryz.func104, Tryz.ntmps104
   go_wp2
   go_returns
   exact ⟨rfl, HB.out.alloc (Nat.le_refl _) _⟩
 by_cases k8 : k = 8
 · subst k8
   rw [show lets 8 = ⟨#[117, 98, 116]⟩ from rfl]
   go_enter Tryz.func104, Tryz.ntmps104
   go_wp2
   go_returns
   exact ⟨rfl, HB.out.alloc (Nat.le_refl _) _⟩
 by_cases k9 : k = 9
 · subst k9
   rw [show lets 9 = ⟨#[117, 98]⟩ from rfl]
   go_enter Tryz.func104, Tryz.ntmps104
   go_wp2
   go_returns
   exact ⟨rfl, HB.out.alloc (Nat.le_refl _) _⟩
 have hl : lets k = ⟨#[]⟩ := by unfold lets; simp only [k1, k2, k3, k4, k5, k6, k7, k8, k9, if_false]
 rw [hl]
 by_cases hn : k < 0
 · have d0 : decide (k < 0) = true := decide_eq_true hn
   clear k0 k1 k2 k3 k4 k5 k6 k7 k8 k9 hl hn
   go_enter Tryz.func104, Tryz.ntmps104
   go_wp2
   go_returns
   exact ⟨rfl, HB.out.alloc (Nat.le_refl _) _⟩
 · have d0 : decide (k < 0) = false := decide_eq_false hn
   have d1 : decide (k ≥ 10) = true := decide_eq_true (by omega)
   clear k0 k1 k2 k3 k4 k5 k6 k7 k8 k9 hl hn
   go_enter Tryz.func104, Tryz.ntmps104
   go_wp2
   go_returns
   exact ⟨rfl, HB.out.alloc (Nat.le_refl _) _⟩
theorem rxnum_any (is : Bool) (n lo hi : Int) (w : World) : Calls Tryz.prog 107 #[.bool is, .int .i64 n, .int .i64 lo, .int .i64 hi] w fun e w' => e = .returned (.bool (numB is n lo hi)) ∧ w = w' := by
 cases is
 · have e : numB false n lo hi = (n == 0) := by unfold numB; simp only [Bool.false_eq_true, if_false]; rfl
   rw [e]
   clear e
   go_enter Tryz.func107, Tryz.ntmps107
   go_wp2
   go_returns
   exact ⟨rfl, rfl⟩
 · by_cases h : lo ≤ n
   · have d : decide (n ≥ lo) = true := decide_eq_true h
     have e : numB true n lo hi = decide (n ≤ hi) := by unfold numB; rw [if_pos rfl, decide_eq_true h, Bool.true_and]
     rw [e]
     clear e h
     go_enter Tryz.func107, Tryz.ntmps107
     go_wp2
     go_returns
     exact ⟨rfl, rfl⟩
   · have d : decide (n ≥ lo) = false := decide_eq_false h
     have e : numB true n lo hi = false := by unfold numB; rw [if_pos rfl, decide_eq_false h, Bool.false_and]
     rw [e]
     clear e h
     go_enter Tryz.func107, Tryz.ntmps107
     go_wp2
     go_returns
     exact ⟨rfl, rfl⟩
theorem rxtext_any (is : Bool) (s : ByteArray) (lo hi : Int) (w : World) : Calls Tryz.prog 108 #[.bool is, .string s, .int .i64 lo, .int .i64 hi] w fun e w' => e = .returned (.bool (textB is s lo hi)) ∧ w = w' := by
 cases is
 · by_cases h : s = ⟨#[]⟩
   · subst h
     go_enter Tryz.func108, Tryz.ntmps108
     go_wp2
     go_returns
     exact ⟨rfl, rfl⟩
   · have hd : textB false s lo hi = false := by unfold textB; simp only [Bool.false_eq_true, if_false]; exact decide_eq_false h
     have hne : ¬ s.toList = [] := by
      rw [Lib.toList_data]
      intro e
      apply h
      apply ByteArray.ext
      exact Array.toList_eq_nil_iff.1 e
     have hemp : s.toList.isEmpty = false := by simpa using hne
     rw [hd]
     clear hd h
     go_enter Tryz.func108, Tryz.ntmps108
     go_wp2
     go_returns
     exact ⟨rfl, rfl⟩
 · obtain ⟨z, hz⟩ : ∃ z : Int, z = (s.size : Int) := ⟨_, rfl⟩
   by_cases h : lo ≤ (s.size : Int)
   · have d : decide ((s.size : Int) ≥ lo) = true := decide_eq_true h
     have e : textB true s lo hi = decide ((s.size : Int) ≤ hi) := by unfold textB; rw [if_pos rfl, decide_eq_true h, Bool.true_and]
     rw [e]
     clear e h hz
     go_enter Tryz.func108, Tryz.ntmps108
     go_wp2
     go_returns
     exact ⟨rfl, rfl⟩
   · have d : decide ((s.size : Int) ≥ lo) = false := decide_eq_false h
     have e : textB true s lo hi = false := by unfold textB; rw [if_pos rfl, decide_eq_false h, Bool.false_and]
     rw [e]
     clear e h hz
     go_enter Tryz.func108, Tryz.ntmps108
     go_wp2
     go_returns
     exact ⟨rfl, rfl⟩
set_option maxRecDepth 100000 in
theorem afIn_at (n most : Int) (w : World) : Calls Tryz.prog 145 #[.int .i64 n, .int .i64 most] w fun e w' => e = .returned (.bool (okIn n most)) ∧ w = w' := by
 by_cases h : 0 ≤ n
 · have d : decide (n ≥ 0) = true := by simpa using h
   go_enter Tryz.func145, Tryz.ntmps145
   go_wp2
   all_goals go_ret
   all_goals exact ⟨by simp [okIn, h], rfl⟩
 · have d : decide (n ≥ 0) = false := by simpa using h
   go_enter Tryz.func145, Tryz.ntmps145
   go_wp2
   all_goals go_ret
   all_goals exact ⟨by simp [okIn]; omega, rfl⟩
set_option maxRecDepth 100000 in
set_option maxHeartbeats 4000000 in
theorem afCheck_any (a : Pa) (w : World) : Calls Tryz.prog 106 #[.agg a.vs.toArray] w fun e w' => e = .returned (.bool (okPa a)) ∧ Below w.heap.size w w' := by
 obtain ⟨ty, mode, nlink, uid, gid, size, id, gen, change, time⟩ := a
 have HB := hI (Below.refl w.heap.size w)
 have hok := okPa_iff ⟨ty, mode, nlink, uid, gid, size, id, gen, change, time⟩
 show Calls Tryz.prog 106 #[.agg #[.int .i64 ty, .int .i64 mode, .int .i64 nlink, .int .i64 uid, .int .i64 gid, .int .i64 size, .int .i64 id, .int .i64 gen, .int .i64 change, .int .i64 time]] w _
 by_cases h0 : 1 ≤ ty
 case neg =>
  have d0 : decide (ty ≥ 1) = false := decide_eq_false h0
  have e : okPa ⟨ty, mode, nlink, uid, gid, size, id, gen, change, time⟩ = false := by
   rw [Bool.eq_false_iff]; intro h; have h2 := hok.1 h; dsimp only at h2; omega
  rw [e]
  clear e hok h0
  go_enter Tryz.func106, Tryz.ntmps106
  go_wp2
  go_returns
  exact ⟨rfl, HB.out.alloc (Nat.le_refl _) _⟩
 have d0 : decide (ty ≥ 1) = true := decide_eq_true h0
 by_cases h1 : ty ≤ 7
 case neg =>
  have d1 : decide (ty ≤ 7) = false := decide_eq_false h1
  have e : okPa ⟨ty, mode, nlink, uid, gid, size, id, gen, change, time⟩ = false := by
   rw [Bool.eq_false_iff]; intro h; have h2 := hok.1 h; dsimp only at h2; omega
  rw [e]
  clear e hok h0 h1
  go_enter Tryz.func106, Tryz.ntmps106
  go_wp2
  go_returns
  exact ⟨rfl, HB.out.alloc (Nat.le_refl _) _⟩
 have d1 : decide (ty ≤ 7) = true := decide_eq_true h1
 by_cases h2 : 0 ≤ mode ∧ mode ≤ 4095
 case neg =>
  have A2 := fun w => afIn_at mode 4095 w
  rw [show okIn mode 4095 = false from by rw [Bool.eq_false_iff]; intro h; exact h2 ((okIn_iff _ _).1 h)] at A2
  have e : okPa ⟨ty, mode, nlink, uid, gid, size, id, gen, change, time⟩ = false := by
   rw [Bool.eq_false_iff]; intro h; have h2 := hok.1 h; dsimp only at h2; omega
  rw [e]
  clear e hok h0 h1 h2
  go_enter Tryz.func106, Tryz.ntmps106
  go_wp2_with (go_at_call 145; go_must (first | (with_reducible refine (A2 _).mono ?_)); rintro e w1 ⟨rfl, rfl⟩)
  go_returns
  exact ⟨rfl, HB.out.alloc (Nat.le_refl _) _⟩
 have A2 := fun w => afIn_at mode 4095 w
 rw [show okIn mode 4095 = true from (okIn_iff _ _).2 h2] at A2
 by_cases h3 : 0 ≤ nlink ∧ nlink ≤ 4294967295
 case neg =>
  have A3 := fun w => afIn_at nlink 4294967295 w
  rw [show okIn nlink 4294967295 = false from by rw [Bool.eq_false_iff]; intro h; exact h3 ((okIn_iff _ _).1 h)] at A3
  have e : okPa ⟨ty, mode, nlink, uid, gid, size, id, gen, change, time⟩ = false := by
   rw [Bool.eq_false_iff]; intro h; have h2 := hok.1 h; dsimp only at h2; omega
  rw [e]
  clear e hok h0 h1 h2 h3
  go_enter Tryz.func106, Tryz.ntmps106
  go_wp2_with (go_at_call 145; go_must (first | (with_reducible refine (A2 _).mono ?_) | (with_reducible refine (A3 _).mono ?_)); rintro e w1 ⟨rfl, rfl⟩)
  go_returns
  exact ⟨rfl, HB.out.alloc (Nat.le_refl _) _⟩
 have A3 := fun w => afIn_at nlink 4294967295 w
 rw [show okIn nlink 4294967295 = true from (okIn_iff _ _).2 h3] at A3
 by_cases h4 : 0 ≤ uid ∧ uid ≤ 4294967295
 case neg =>
  have A4 := fun w => afIn_at uid 4294967295 w
  rw [show okIn uid 4294967295 = false from by rw [Bool.eq_false_iff]; intro h; exact h4 ((okIn_iff _ _).1 h)] at A4
  have e : okPa ⟨ty, mode, nlink, uid, gid, size, id, gen, change, time⟩ = false := by
   rw [Bool.eq_false_iff]; intro h; have h2 := hok.1 h; dsimp only at h2; omega
  rw [e]
  clear e hok h0 h1 h2 h3 h4
  go_enter Tryz.func106, Tryz.ntmps106
  go_wp2_with (go_at_call 145; go_must (first | (with_reducible refine (A2 _).mono ?_) | (with_reducible refine (A3 _).mono ?_) | (with_reducible refine (A4 _).mono ?_)); rintro e w1 ⟨rfl, rfl⟩)
  go_returns
  exact ⟨rfl, HB.out.alloc (Nat.le_refl _) _⟩
 have A4 := fun w => afIn_at uid 4294967295 w
 rw [show okIn uid 4294967295 = true from (okIn_iff _ _).2 h4] at A4
 by_cases h5 : 0 ≤ gid ∧ gid ≤ 4294967295
 case neg =>
  have A5 := fun w => afIn_at gid 4294967295 w
  rw [show okIn gid 4294967295 = false from by rw [Bool.eq_false_iff]; intro h; exact h5 ((okIn_iff _ _).1 h)] at A5
  have e : okPa ⟨ty, mode, nlink, uid, gid, size, id, gen, change, time⟩ = false := by
   rw [Bool.eq_false_iff]; intro h; have h2 := hok.1 h; dsimp only at h2; omega
  rw [e]
  clear e hok h0 h1 h2 h3 h4 h5
  go_enter Tryz.func106, Tryz.ntmps106
  go_wp2_with (go_at_call 145; go_must (first | (with_reducible refine (A2 _).mono ?_) | (with_reducible refine (A3 _).mono ?_) | (with_reducible refine (A4 _).mono ?_) | (with_reducible refine (A5 _).mono ?_)); rintro e w1 ⟨rfl, rfl⟩)
  go_returns
  exact ⟨rfl, HB.out.alloc (Nat.le_refl _) _⟩
 have A5 := fun w => afIn_at gid 4294967295 w
 rw [show okIn gid 4294967295 = true from (okIn_iff _ _).2 h5] at A5
 by_cases h6 : 0 ≤ id ∧ id ≤ 4294967295
 case neg =>
  have A6 := fun w => afIn_at id 4294967295 w
  rw [show okIn id 4294967295 = false from by rw [Bool.eq_false_iff]; intro h; exact h6 ((okIn_iff _ _).1 h)] at A6
  have e : okPa ⟨ty, mode, nlink, uid, gid, size, id, gen, change, time⟩ = false := by
   rw [Bool.eq_false_iff]; intro h; have h2 := hok.1 h; dsimp only at h2; omega
  rw [e]
  clear e hok h0 h1 h2 h3 h4 h5 h6
  go_enter Tryz.func106, Tryz.ntmps106
  go_wp2_with (go_at_call 145; go_must (first | (with_reducible refine (A2 _).mono ?_) | (with_reducible refine (A3 _).mono ?_) | (with_reducible refine (A4 _).mono ?_) | (with_reducible refine (A5 _).mono ?_) | (with_reducible refine (A6 _).mono ?_)); rintro e w1 ⟨rfl, rfl⟩)
  go_returns
  exact ⟨rfl, HB.out.alloc (Nat.le_refl _) _⟩
 have A6 := fun w => afIn_at id 4294967295 w
 rw [show okIn id 4294967295 = true from (okIn_iff _ _).2 h6] at A6
 by_cases h7 : 0 ≤ size
 case neg =>
  have d7 : decide (size ≥ 0) = false := decide_eq_false h7
  have e : okPa ⟨ty, mode, nlink, uid, gid, size, id, gen, change, time⟩ = false := by
   rw [Bool.eq_false_iff]; intro h; have h2 := hok.1 h; dsimp only at h2; omega
  rw [e]
  clear e hok h0 h1 h2 h3 h4 h5 h6 h7
  go_enter Tryz.func106, Tryz.ntmps106
  go_wp2_with (go_at_call 145; go_must (first | (with_reducible refine (A2 _).mono ?_) | (with_reducible refine (A3 _).mono ?_) | (with_reducible refine (A4 _).mono ?_) | (with_reducible refine (A5 _).mono ?_) | (with_reducible refine (A6 _).mono ?_)); rintro e w1 ⟨rfl, rfl⟩)
  go_returns
  exact ⟨rfl, HB.out.alloc (Nat.le_refl _) _⟩
 have d7 : decide (size ≥ 0) = true := decide_eq_true h7
 by_cases h8 : 0 ≤ gen
 case neg =>
  have d8 : decide (gen ≥ 0) = false := decide_eq_false h8
  have e : okPa ⟨ty, mode, nlink, uid, gid, size, id, gen, change, time⟩ = false := by
   rw [Bool.eq_false_iff]; intro h; have h2 := hok.1 h; dsimp only at h2; omega
  rw [e]
  clear e hok h0 h1 h2 h3 h4 h5 h6 h7 h8
  go_enter Tryz.func106, Tryz.ntmps106
  go_wp2_with (go_at_call 145; go_must (first | (with_reducible refine (A2 _).mono ?_) | (with_reducible refine (A3 _).mono ?_) | (with_reducible refine (A4 _).mono ?_) | (with_reducible refine (A5 _).mono ?_) | (with_reducible refine (A6 _).mono ?_)); rintro e w1 ⟨rfl, rfl⟩)
  go_returns
  exact ⟨rfl, HB.out.alloc (Nat.le_refl _) _⟩
 have d8 : decide (gen ≥ 0) = true := decide_eq_true h8
 by_cases h9 : 0 ≤ change
 case neg =>
  have d9 : decide (change ≥ 0) = false := decide_eq_false h9
  have e : okPa ⟨ty, mode, nlink, uid, gid, size, id, gen, change, time⟩ = false := by
   rw [Bool.eq_false_iff]; intro h; have h2 := hok.1 h; dsimp only at h2; omega
  rw [e]
  clear e hok h0 h1 h2 h3 h4 h5 h6 h7 h8 h9
  go_enter Tryz.func106, Tryz.ntmps106
  go_wp2_with (go_at_call 145; go_must (first | (with_reducible refine (A2 _).mono ?_) | (with_reducible refine (A3 _).mono ?_) | (with_reducible refine (A4 _).mono ?_) | (with_reducible refine (A5 _).mono ?_) | (with_reducible refine (A6 _).mono ?_)); rintro e w1 ⟨rfl, rfl⟩)
  go_returns
  exact ⟨rfl, HB.out.alloc (Nat.le_refl _) _⟩
 have d9 : decide (change ≥ 0) = true := decide_eq_true h9
 by_cases h10 : 0 ≤ time
 case neg =>
  have d10 : decide (time ≥ 0) = false := decide_eq_false h10
  have e : okPa ⟨ty, mode, nlink, uid, gid, size, id, gen, change, time⟩ = false := by
   rw [Bool.eq_false_iff]; intro h; have h2 := hok.1 h; dsimp only at h2; omega
  rw [e]
  clear e hok h0 h1 h2 h3 h4 h5 h6 h7 h8 h9 h10
  go_enter Tryz.func106, Tryz.ntmps106
  go_wp2_with (go_at_call 145; go_must (first | (with_reducible refine (A2 _).mono ?_) | (with_reducible refine (A3 _).mono ?_) | (with_reducible refine (A4 _).mono ?_) | (with_reducible refine (A5 _).mono ?_) | (with_reducible refine (A6 _).mono ?_)); rintro e w1 ⟨rfl, rfl⟩)
  go_returns
  exact ⟨rfl, HB.out.alloc (Nat.le_refl _) _⟩
 have d10 : decide (time ≥ 0) = true := decide_eq_true h10
 have e : okPa ⟨ty, mode, nlink, uid, gid, size, id, gen, change, time⟩ = true := by
  rw [hok]; dsimp only; omega
 rw [e]
 clear e hok h0 h1 h2 h3 h4 h5 h6 h7 h8 h9 h10
 go_enter Tryz.func106, Tryz.ntmps106
 go_wp2_with (go_at_call 145; go_must (first | (with_reducible refine (A2 _).mono ?_) | (with_reducible refine (A3 _).mono ?_) | (with_reducible refine (A4 _).mono ?_) | (with_reducible refine (A5 _).mono ?_) | (with_reducible refine (A6 _).mono ?_)); rintro e w1 ⟨rfl, rfl⟩)
 go_returns
 exact ⟨rfl, HB.out.alloc (Nat.le_refl _) _⟩
def ScopeFrom (P : Program) (c : Code) (Q : Exit → Act → World → Prop) : Nat → Exit → Act → World → Prop
 | _, .normal, a, w => Q .normal a w
 | _, .exit i, a, w => Q (.exit i) a w
 | 0, .goto _, _, _ => False
 | n + 1, .goto l, a, w => ∃ rest, findLabel c l = some rest ∧ rest.wp P (ScopeFrom P c Q n) a w
 | _, .ret, a, w => Q .ret a w
 | _, .panic ch, a, w => Q (.panic ch) a w
 | _, .outgrown, a, w => Q .outgrown a w
theorem scopeFrom_ret {P : Program} {c : Code} {Q : Exit → Act → World → Prop} {n : Nat} {a : Act} {w : World} : ScopeFrom P c Q n .ret a w = Q .ret a w := by cases n <;> rfl
theorem scopeFrom_goto {P : Program} {c rest : Code} {Q : Exit → Act → World → Prop} {n l : Nat} {a : Act} {w : World} (hf : findLabel c l = some rest) (h : rest.wp P (ScopeFrom P c Q n) a w) : ScopeFrom P c Q (n + 1) (.goto l) a w := ⟨rest, hf, h⟩
theorem wp_scope_from {P : Program} {c : Code} {Q : Exit → Act → World → Prop} {a : Act} {w : World} (n : Nat) (D : Code) (hD : c = D) (h : c.wp P (ScopeFrom P D Q n) a w) : (Code.scope c).wp P Q a w := by
 subst hD
 intro b k cs
 have key : ∀ n (r : Code) a w, r.wp P (ScopeFrom P c Q n) a w → ∃ e a' w', Q e a' w' ∧ Arrives P (lone (b.at a (.code r :: .inScope c :: k)) cs w) b k cs e a' w' := by
  intro n
  induction n with
  | zero =>
   intro r a w hr
   obtain ⟨e, a₁, w₁, hq, harr⟩ := hr b (.inScope c :: k) cs
   cases e with
   | normal => exact ⟨.normal, a₁, w₁, hq, Steps.trans harr (.one step_inScope)⟩
   | exit id => exact ⟨.exit id, a₁, w₁, hq, fun k' hk => harr k' (by simp [exitTo, hk])⟩
   | goto l' => exact hq.elim
   | ret => exact ⟨_, a₁, w₁, hq, harr⟩
   | panic ch => exact ⟨_, a₁, w₁, hq, harr⟩
   | outgrown => exact ⟨_, a₁, w₁, hq, harr⟩
  | succ n ih =>
   intro r a w hr
   obtain ⟨e, a₁, w₁, hq, harr⟩ := hr b (.inScope c :: k) cs
   cases e with
   | normal => exact ⟨.normal, a₁, w₁, hq, Steps.trans harr (.one step_inScope)⟩
   | exit id => exact ⟨.exit id, a₁, w₁, hq, fun k' hk => harr k' (by simp [exitTo, hk])⟩
   | goto l' =>
    obtain ⟨rest, hf, hr2⟩ := hq
    have hg : gotoIn l' (.inScope c :: k) = some (.code rest :: .inScope c :: k) := by simp [gotoIn, hf]
    obtain ⟨e₂, a₂, w₂, hq₂, harr₂⟩ := ih rest a₁ w₁ hr2
    exact ⟨e₂, a₂, w₂, hq₂, .of_steps (harr _ hg) harr₂⟩
   | ret => exact ⟨_, a₁, w₁, hq, harr⟩
   | panic ch => exact ⟨_, a₁, w₁, hq, harr⟩
   | outgrown => exact ⟨_, a₁, w₁, hq, harr⟩
 obtain ⟨e, a', w', hq, harr⟩ := key n c a w h
 exact ⟨e, a', w', hq, .of_steps (.one step_scope) harr⟩
theorem recC1_any (p : Addr) (w : World) : Calls Tryz.prog 78 #[.pointer (some p)] w fun e w' => e = .returned (.tuple #[]) ∧ w = w' := by
 go_enter Tryz.func78, Tryz.ntmps78
 go_wp2
 go_end0
 exact ⟨rfl, rfl⟩
noncomputable def visC : Code := match Tryz.f77.body with
 | some (.seq _ (.scope c)) => c
 | _ => .skip
def lookFn (g : Nat) : Array Value := #[.func (.func 78) #[] #[], .func (.func 79) #[] #[.pointer (some ⟨g, 0, none⟩)], .func (.func 80) #[] #[.pointer (some ⟨g, 0, none⟩)], .func (.func 81) #[] #[.pointer (some ⟨g, 0, none⟩)], .func (.func 82) #[] #[.pointer (some ⟨g, 0, none⟩)]]
end Go.Proofs.YtngfknplljedeaaGreat
