/- Lemmas for the laws of index. -/
import Derived.Test.YtngfknplljedeaaGreatZr14
import Derived.Test.YtngfknplljedeaaGreatZrHi
namespace Go.Proofs.YtngfknplljedeaaGreat
open Go.RowKit
set_option maxRecDepth 100000 in
set_option maxHeartbeats 1000000 in
theorem ixName_any (cs : List Value) (ca : CA) (d : ByteArray) (m : ByteArray) (w : World) (h : CAt w.heap.size cs ca w) :
 Calls Tryz.prog 28 #[.agg cs.toArray, .string d, .string m] w fun e0 w' => e0 = .returned (.int .i64 (fnd (pName d m) ca.names)) ∧ Below w.heap.size w w' := by
 obtain ⟨v1, v2, v3, v4, rfl, r1, r2, r3, r4⟩ := h
 obtain ⟨ao, cap, b, off, rfl, hl, hx⟩ := r3.walk
 obtain ⟨n, hn⟩ : ∃ n, n = ca.names.length := ⟨_, rfl⟩
 rw [← hn] at hl hx ⊢
 obtain ⟨r, hr⟩ : ∃ r : Int, r = fnd (pName d m) ca.names := ⟨_, rfl⟩
 rw [← hr]
 have HN := hI (show (∀ (j : Nat) (y : Kn), j < n → ca.names[j]? = some y → pName d m y = false) → r = -1 from fun h => by rw [hr]; exact fnd_miss _ _ (fun j y hj => h j y (by omega)))
 have HA := hI (show ∀ (i : Nat) x, ca.names[i]? = some x → pName d m x = true → (∀ (j : Nat) (y : Kn), j < i → ca.names[j]? = some y → pName d m y = false) → r = i from fun i x h1 h2 h3 => by rw [hr]; exact fnd_hit _ _ i x h1 h2 h3)
 obtain ⟨w1, hw1⟩ : ∃ w1, w1 = w.alloc (.cells #[v1, v2, .slice ao n cap, v4] 27 (0, 0)) := ⟨_, rfl⟩
 have hb1 : Below w.heap.size w w1 := by rw [hw1]; exact (Below.refl _ w).alloc (Nat.le_refl _) _
 have cc : w1.cell? ⟨w.heap.size, 2, none⟩ = some (.slice ao n cap) := by rw [hw1]; exact (St.new w 27 #[v1, v2, .slice ao n cap, v4]).cell rfl
 have HW1 := hI hw1
 have HB1 := hI hb1
 have HX := hI (show ∀ i, i < n → ∃ x : Kn, ca.names[i]? = some x ∧ ao = some ⟨b, off, none⟩ ∧ w1.rangeAt b (off + i * 3) x.vs from fun i hi => by
  obtain ⟨x, e1, e2, e3, e4⟩ := hx i hi
  exact ⟨x, e1, e2, fun j u hu => (hb1.cell (p := ⟨b, off + i * 3 + j, none⟩) e3).trans (e4 j u hu)⟩)
 clear hx r1 r2 r3 r4 hn hr hb1 hw1
 go_enter Tryz.func28, Tryz.ntmps28
 go_wp2
 rw [← HW1.out]
 go_loop [7] (fun dv => ∃ i : Nat, i ≤ n ∧ dv = .int .i64 i ∧ ∀ (j : Nat) (y : Kn), j < i → ca.names[j]? = some y → pName d m y = false) (fun dv => n - (intOf dv).toNat)
 case atStart => exact ⟨0, Nat.zero_le _, rfl, fun j y h => by omega⟩
 case round =>
  obtain ⟨i, hi, rfl, hm⟩ := hrel
  have HM := hI hm
  clear hm
  by_cases hlt : i < n
  · obtain ⟨x, hxi, rfl, hr⟩ := HX.out i hlt
    have HS := hI hxi
    clear hxi
    have b0 : (0 : Int) ≤ (i : Int) := by omega
    have b1 : (i : Int) < (n : Int) := by omega
    have k0 : w1.cell? ⟨b, off + i * 3, none⟩ = some (.string x.dir) := hr 0 _ rfl
    have k1 : w1.cell? ⟨b, off + i * 3 + 1, none⟩ = some (.string x.name) := hr 1 _ rfl
    clear hr
    by_cases h0 : x.dir = d
    · have d0 := str_is h0
      by_cases h1 : x.name = m
      · have d1 := str_is h1
        have HP := hI (show pName d m x = true from by unfold pName; rw [decide_eq_true h0, decide_eq_true h1]; rfl)
        clear h0 h1
        go_wp2
        go_returns
        rw [HA.out i x HS.out HP.out HM.out]
        exact ⟨rfl, HB1.out⟩
      · have d1 := str_not h1
        have HP := hI (show pName d m x = false from by unfold pName; rw [decide_eq_false h1, Bool.and_false])
        clear h0 h1
        go_wp2
        go_round
        case rel => exact ⟨i + 1, by omega, by go_num, fnd_step _ _ i x HS.out HP.out HM.out⟩
        case measure => simp [intOf]; omega
    · have d0 := str_not h0
      have HP := hI (show pName d m x = false from by unfold pName; rw [decide_eq_false h0, Bool.false_and])
      clear h0
      go_wp2
      go_round
      case rel => exact ⟨i + 1, by omega, by go_num, fnd_step _ _ i x HS.out HP.out HM.out⟩
      case measure => simp [intOf]; omega
  · obtain rfl : n = i := by omega
    go_wp2
    go_returns
    rw [HN.out HM.out]
    exact ⟨rfl, HB1.out⟩
set_option maxRecDepth 100000 in
set_option maxHeartbeats 1000000 in
theorem ixBlock_any (cs : List Value) (ca : CA) (u : ByteArray) (no : Int) (w : World) (h : CAt w.heap.size cs ca w) :
 Calls Tryz.prog 30 #[.agg cs.toArray, .string u, .int .i64 no] w fun e0 w' => e0 = .returned (.int .i64 (fnd (pBlock u no) ca.blocks)) ∧ Below w.heap.size w w' := by
 obtain ⟨v1, v2, v3, v4, rfl, r1, r2, r3, r4⟩ := h
 obtain ⟨ao, cap, b, off, rfl, hl, hx⟩ := r4.walk
 obtain ⟨n, hn⟩ : ∃ n, n = ca.blocks.length := ⟨_, rfl⟩
 rw [← hn] at hl hx ⊢
 obtain ⟨r, hr⟩ : ∃ r : Int, r = fnd (pBlock u no) ca.blocks := ⟨_, rfl⟩
 rw [← hr]
 have HN := hI (show (∀ (j : Nat) (y : Bk), j < n → ca.blocks[j]? = some y → pBlock u no y = false) → r = -1 from fun h => by rw [hr]; exact fnd_miss _ _ (fun j y hj => h j y (by omega)))
 have HA := hI (show ∀ (i : Nat) x, ca.blocks[i]? = some x → pBlock u no x = true → (∀ (j : Nat) (y : Bk), j < i → ca.blocks[j]? = some y → pBlock u no y = false) → r = i from fun i x h1 h2 h3 => by rw [hr]; exact fnd_hit _ _ i x h1 h2 h3)
 obtain ⟨w1, hw1⟩ : ∃ w1, w1 = w.alloc (.cells #[v1, v2, v3, .slice ao n cap] 27 (0, 0)) := ⟨_, rfl⟩
 have hb1 : Below w.heap.size w w1 := by rw [hw1]; exact (Below.refl _ w).alloc (Nat.le_refl _) _
 have cc : w1.cell? ⟨w.heap.size, 3, none⟩ = some (.slice ao n cap) := by rw [hw1]; exact (St.new w 27 #[v1, v2, v3, .slice ao n cap]).cell rfl
 have HW1 := hI hw1
 have HB1 := hI hb1
 have HX := hI (show ∀ i, i < n → ∃ x : Bk, ca.blocks[i]? = some x ∧ ao = some ⟨b, off, none⟩ ∧ w1.rangeAt b (off + i * 3) x.vs from fun i hi => by
  obtain ⟨x, e1, e2, e3, e4⟩ := hx i hi
  exact ⟨x, e1, e2, fun j u hu => (hb1.cell (p := ⟨b, off + i * 3 + j, none⟩) e3).trans (e4 j u hu)⟩)
 clear hx r1 r2 r3 r4 hn hr hb1 hw1
 go_enter Tryz.func30, Tryz.ntmps30
 go_wp2
 rw [← HW1.out]
 go_loop [7] (fun dv => ∃ i : Nat, i ≤ n ∧ dv = .int .i64 i ∧ ∀ (j : Nat) (y : Bk), j < i → ca.blocks[j]? = some y → pBlock u no y = false) (fun dv => n - (intOf dv).toNat)
 case atStart => exact ⟨0, Nat.zero_le _, rfl, fun j y h => by omega⟩
 case round =>
  obtain ⟨i, hi, rfl, hm⟩ := hrel
  have HM := hI hm
  clear hm
  by_cases hlt : i < n
  · obtain ⟨x, hxi, rfl, hr⟩ := HX.out i hlt
    have HS := hI hxi
    clear hxi
    have b0 : (0 : Int) ≤ (i : Int) := by omega
    have b1 : (i : Int) < (n : Int) := by omega
    have k0 : w1.cell? ⟨b, off + i * 3, none⟩ = some (.string x.up) := hr 0 _ rfl
    have k1 : w1.cell? ⟨b, off + i * 3 + 1, none⟩ = some (.int .i64 x.no) := hr 1 _ rfl
    clear hr
    by_cases h0 : x.up = u
    · have d0 := str_is h0
      by_cases h1 : x.no = no
      · have d1 : (x.no == no) = true := beq_iff_eq.2 h1
        have HP := hI (show pBlock u no x = true from by unfold pBlock; rw [decide_eq_true h0, decide_eq_true h1]; rfl)
        clear h0 h1
        go_wp2
        go_returns
        rw [HA.out i x HS.out HP.out HM.out]
        exact ⟨rfl, HB1.out⟩
      · have d1 : (x.no == no) = false := beq_eq_false_iff_ne.2 h1
        have HP := hI (show pBlock u no x = false from by unfold pBlock; rw [decide_eq_false h1, Bool.and_false])
        clear h0 h1
        go_wp2
        go_round
        case rel => exact ⟨i + 1, by omega, by go_num, fnd_step _ _ i x HS.out HP.out HM.out⟩
        case measure => simp [intOf]; omega
    · have d0 := str_not h0
      have HP := hI (show pBlock u no x = false from by unfold pBlock; rw [decide_eq_false h0, Bool.false_and])
      clear h0
      go_wp2
      go_round
      case rel => exact ⟨i + 1, by omega, by go_num, fnd_step _ _ i x HS.out HP.out HM.out⟩
      case measure => simp [intOf]; omega
  · obtain rfl : n = i := by omega
    go_wp2
    go_returns
    rw [HN.out HM.out]
    exact ⟨rfl, HB1.out⟩
set_option maxRecDepth 100000 in
theorem ixHeld_any (cs : List Value) (ca : CA) (e s : Int) (w : World) (h : CAt w.heap.size cs ca w) :
 Calls Tryz.prog 22 #[.agg cs.toArray, .int .i64 e, .int .i64 s] w fun r w' => r = .returned (.int .i64 (fnd (pHeld e s) ca.helds)) ∧ Below w.heap.size w w' := by
 obtain ⟨v1, v2, v3, v4, rfl, r1, r2, r3, r4⟩ := h
 obtain ⟨w1, hw1⟩ : ∃ w1, w1 = w.alloc (.cells #[v1, v2, v3, v4] 27 (0, 0)) := ⟨_, rfl⟩
 have hb1 : Below w.heap.size w w1 := by rw [hw1]; exact (Below.refl _ w).alloc (Nat.le_refl _) _
 have cc : w1.cell? ⟨w.heap.size, 0, none⟩ = some v1 := by rw [hw1]; exact (St.new w 27 #[v1, v2, v3, v4]).cell rfl
 have HH := hI (ixheld_any v1 ca.helds e s w1 (r1.below hb1))
 have HW1 := hI hw1
 have HB1 := hI hb1
 clear r1 r2 r3 r4 hb1 hw1
 generalize fnd (pHeld e s) ca.helds = r at *
 go_enter Tryz.func22, Tryz.ntmps22
 go_wp2_with (go_at_call 48; rw [← HW1.out]; go_must (with_reducible refine HH.out.mono ?_); rintro e w2 ⟨rfl, rfl⟩)
 go_returns
 exact ⟨rfl, HB1.out⟩
end Go.Proofs.YtngfknplljedeaaGreat
