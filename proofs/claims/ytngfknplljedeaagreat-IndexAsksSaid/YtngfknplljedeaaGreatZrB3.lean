/- Lemmas for the laws of index. -/
import Derived.Test.YtngfknplljedeaaGreatZrB0
import Derived.Test.YtngfknplljedeaaGreatZrHi
namespace Go.Proofs.YtngfknplljedeaaGreat
open Go.RowKit
set_option maxRecDepth 100000 in
set_option maxHeartbeats 2000000 in
theorem ixApply_1a {B : Nat} (cs : List Value) (ca : CA) (x : Ch) (w : World) (h : CAt B cs ca w) (hB : B ≤ w.heap.size) (hm : ca.few) (hok : x.ok = true) (hk : x.kind = 1) (h1 : 0 ≤ fnd (pHeld x.epoch x.serial) ca.helds) :
 Calls Tryz.prog 16 #[.agg cs.toArray, .agg x.vs.toArray] w fun e w' => ∃ cs', e = .returned (.tuple #[.agg cs'.toArray, .bool (ca.apply x).2]) ∧ CKeep B w.heap.size cs' (ca.apply x).1 w' ∧ Below w.heap.size w w' := by
 have HAll := hI (show ∀ W, Below B w W → CAt W.heap.size cs ca W from fun W hW => (h.below hW).raise (Nat.le_trans hB hW.size))
 have HY := hI (show ∀ W wy, Below w.heap.size w W → Frm (fun j => B ≤ j ∧ j < w.heap.size) W wy → Below B w wy from fun W wy h1 h2 => (h1.mono hB).trans (h2.below (Nat.le_trans hB h1.size) fun j e => e.1))
 have HCA := hI (show ∀ W, Below w.heap.size w W → CAt W.heap.size cs ca W from fun W hW => (h.below (hW.mono hB)).raise (Nat.le_trans hB hW.size))
 have HCB := hI (show ∀ W, Below w.heap.size w W → CAt B cs ca W from fun W hW => h.below (hW.mono hB))
 obtain ⟨v1, v2, v3, v4, rfl, r1, r2, r3, r4⟩ := h
 obtain ⟨o1, o2, o3, o4⟩ : v1.oneCell' = true ∧ v2.oneCell' = true ∧ v3.oneCell' = true ∧ v4.oneCell' = true := ⟨r1.one, r2.one, r3.one, r4.one⟩
 obtain ⟨m1, m2, m3, m4⟩ := hm
 have HGN := hI (show ca.apply x = (ca, false) from by unfold CA.apply; rw [if_neg (by rw [hok]; simp), if_pos hk, if_pos (.inl h1)])
 obtain ⟨G, hGG⟩ : ∃ G, G = ca.apply x := ⟨_, rfl⟩
 rw [← hGG] at HGN ⊢
 have HCk := hI (fun W => rxCheck_any x W)
 rw [hok] at HCk
 obtain ⟨f1, hf1⟩ : ∃ f, f = fnd (pHeld x.epoch x.serial) ca.helds := ⟨_, rfl⟩
 have HC1 := hI (show ∀ W, Below w.heap.size w W → Calls Tryz.prog 48 #[v1, .int .i64 x.epoch, .int .i64 x.serial] W fun e w' => e = .returned (.int .i64 f1) ∧ W = w' from fun W hW => by rw [hf1]; exact ixheld_any v1 ca.helds x.epoch x.serial W (r1.below (hW.mono hB)))
 rw [← hf1] at h1
 have d1 : decide (f1 ≥ 0) = true := decide_eq_true (by omega)
 obtain ⟨xk, xe, xs, xu, xn, xc, ⟨a0, a1, a2, a3, a4, a5, a6, a7, a8, a9⟩, xo, xl⟩ := x
 dsimp only at hk
 subst hk
 have HC1 := hI (show ∀ W, Below w.heap.size w W → Calls Tryz.prog 48 #[v1, .int .i64 xe, .int .i64 xs] W fun e w' => e = .returned (.int .i64 f1) ∧ W = w' from HC1.out)
 obtain ⟨w1, hw1⟩ : ∃ w1, w1 = ((w.alloc (.cells #[v1, v2, v3, v4] 27 (0, 0))).alloc (.cells #[.int .i64 1, .int .i64 xe, .int .i64 xs, .string xu, .string xn, .string xc, .int .i64 a0, .int .i64 a1, .int .i64 a2, .int .i64 a3, .int .i64 a4, .int .i64 a5, .int .i64 a6, .int .i64 a7, .int .i64 a8, .int .i64 a9, .int .i64 xo, .int .i64 xl] 40 (0, 0))).alloc (.cells #[.slice none 0 0, .slice none 0 0, .slice none 0 0, .slice none 0 0] 27 (0, 0)) := ⟨_, rfl⟩
 have hb1 : Below w.heap.size w w1 := by rw [hw1]; exact (((Below.refl _ w).alloc (Nat.le_refl _) _).alloc (by simp) _).alloc (by simp; omega) _
 have hs1 : w1.heap.size = w.heap.size + 1 + 1 + 1 := by rw [hw1]; simp
 have st1 : St 27 w.heap.size #[v1, v2, v3, v4] w1 := by rw [hw1]; exact ((St.new w 27 _).alloc _).alloc _
 have st2 : St 40 (w.heap.size + 1) #[.int .i64 1, .int .i64 xe, .int .i64 xs, .string xu, .string xn, .string xc, .int .i64 a0, .int .i64 a1, .int .i64 a2, .int .i64 a3, .int .i64 a4, .int .i64 a5, .int .i64 a6, .int .i64 a7, .int .i64 a8, .int .i64 a9, .int .i64 xo, .int .i64 xl] w1 := by
  rw [hw1]
  refine St.alloc ?_ _
  rw [show w.heap.size + 1 = (w.alloc (.cells #[v1, v2, v3, v4] 27 (0, 0))).heap.size from by simp]; exact St.new _ _ _
 have st3 : St 27 (w.heap.size + 1 + 1) #[.slice none 0 0, .slice none 0 0, .slice none 0 0, .slice none 0 0] w1 := by
  rw [hw1]
  rw [show w.heap.size + 1 + 1 = ((w.alloc (.cells #[v1, v2, v3, v4] 27 (0, 0))).alloc (.cells #[.int .i64 1, .int .i64 xe, .int .i64 xs, .string xu, .string xn, .string xc, .int .i64 a0, .int .i64 a1, .int .i64 a2, .int .i64 a3, .int .i64 a4, .int .i64 a5, .int .i64 a6, .int .i64 a7, .int .i64 a8, .int .i64 a9, .int .i64 xo, .int .i64 xl] 40 (0, 0))).heap.size from by simp]; exact St.new _ _ _
 have ST1 := hI (show ∀ W, Below w1.heap.size w1 W → St 27 w.heap.size #[v1, v2, v3, v4] W from fun W hW => st1.below hW)
 have ST2 := hI (show ∀ W, Below w1.heap.size w1 W → St 40 (w.heap.size + 1) #[.int .i64 1, .int .i64 xe, .int .i64 xs, .string xu, .string xn, .string xc, .int .i64 a0, .int .i64 a1, .int .i64 a2, .int .i64 a3, .int .i64 a4, .int .i64 a5, .int .i64 a6, .int .i64 a7, .int .i64 a8, .int .i64 a9, .int .i64 xo, .int .i64 xl] W from fun W hW => st2.below hW)
 have ST3 := hI (show ∀ W, Below w1.heap.size w1 W → St 27 (w.heap.size + 1 + 1) #[.slice none 0 0, .slice none 0 0, .slice none 0 0, .slice none 0 0] W from fun W hW => st3.below hW)
 have HCall := hI (show Calls Tryz.prog 45 #[.agg #[.int .i64 1, .int .i64 xe, .int .i64 xs, .string xu, .string xn, .string xc, .int .i64 a0, .int .i64 a1, .int .i64 a2, .int .i64 a3, .int .i64 a4, .int .i64 a5, .int .i64 a6, .int .i64 a7, .int .i64 a8, .int .i64 a9, .int .i64 xo, .int .i64 xl]] w1 fun e w' => e = .returned (.bool true) ∧ Below w1.heap.size w1 w' from HCk.out w1)
 have HW1 := hI hw1
 have HB1 := hI hb1
 clear r1 r2 r3 r4 hb1 hw1 st1 st2 st3 hB hGG hok HCk h1 hf1
 show Calls Tryz.prog 16 #[.agg #[v1, v2, v3, v4], .agg #[.int .i64 1, .int .i64 xe, .int .i64 xs, .string xu, .string xn, .string xc, .int .i64 a0, .int .i64 a1, .int .i64 a2, .int .i64 a3, .int .i64 a4, .int .i64 a5, .int .i64 a6, .int .i64 a7, .int .i64 a8, .int .i64 a9, .int .i64 xo, .int .i64 xl]] w _
 go_enter Tryz.func16, Tryz.ntmps16
 go_wp2_with fail
 rw [← HW1.out]
 go_wp2_with (first
  | (go_at_call 45; go_must (with_reducible refine HCall.out.mono ?_); rintro e5 w5 ⟨rfl, b5⟩; have B5w5 := hI (b5); have BBw5 := hI (HB1.out.trans (B5w5.out.mono HB1.out.size)); have cw50 : w5.cell? ⟨w.heap.size, 0, none⟩ = some v1 := (ST1.out w5 B5w5.out).cell rfl; have cw51 : w5.cell? ⟨w.heap.size, 1, none⟩ = some v2 := (ST1.out w5 B5w5.out).cell rfl; have cw52 : w5.cell? ⟨w.heap.size, 2, none⟩ = some v3 := (ST1.out w5 B5w5.out).cell rfl; have cw53 : w5.cell? ⟨w.heap.size, 3, none⟩ = some v4 := (ST1.out w5 B5w5.out).cell rfl; have kw50 : w5.cell? ⟨w.heap.size + 1, 0, none⟩ = some (.int .i64 1) := (ST2.out w5 B5w5.out).cell rfl; have kw51 : w5.cell? ⟨w.heap.size + 1, 1, none⟩ = some (.int .i64 xe) := (ST2.out w5 B5w5.out).cell rfl; have kw52 : w5.cell? ⟨w.heap.size + 1, 2, none⟩ = some (.int .i64 xs) := (ST2.out w5 B5w5.out).cell rfl; have kw53 : w5.cell? ⟨w.heap.size + 1, 3, none⟩ = some (.string xu) := (ST2.out w5 B5w5.out).cell rfl; have kw54 : w5.cell? ⟨w.heap.size + 1, 4, none⟩ = some (.string xn) := (ST2.out w5 B5w5.out).cell rfl; have kw55 : w5.cell? ⟨w.heap.size + 1, 5, none⟩ = some (.string xc) := (ST2.out w5 B5w5.out).cell rfl; have kw516 : w5.cell? ⟨w.heap.size + 1, 16, none⟩ = some (.int .i64 xo) := (ST2.out w5 B5w5.out).cell rfl; have kw517 : w5.cell? ⟨w.heap.size + 1, 17, none⟩ = some (.int .i64 xl) := (ST2.out w5 B5w5.out).cell rfl; clear b5)
  | (go_at_call 48; go_must (with_reducible refine (HC1.out _ BBw5.out).mono ?_); rintro e6 w6 ⟨rfl, rfl⟩)
  | ((with_reducible show wpList _ _ _ ({ dst := some 35, op := .load 27 _, type := _, pos := _, after := _, guard := _ } :: _) _ _); refine wpList_load_st rfl 27 _ rfl w.heap.size (by first | rfl | simp [Act.eval, Act.put]) 27 #[v1, v2, v3, v4] (ST1.out w5 B5w5.out) _ Tryz.underlying27 rfl (by kernel_rfl) ?_)
  | ((with_reducible show wpList _ _ _ ({ dst := _, op := .store 27 _ _, type := _, pos := _, after := _, guard := _ } :: _) _ _); refine wpList_store_st rfl 27 _ _ rfl (w.heap.size + 1 + 1) #[v1, v2, v3, v4] (by first | rfl | simp [Act.eval, Act.put]) (by first | rfl | simp [Act.eval, Act.put]) _ (ST3.out w5 B5w5.out) (by kernel_rfl) rfl (by simp [o1, o2, o3, o4]) ?_; rintro w9 hw9 s9; have S9 := hI s9; have HW9 := hI hw9; clear hw9 s9))
 have hs5 := B5w5.out.size
 have BW : Below w.heap.size w w9 := by rw [HW9.out]; exact below_row BBw5.out (by omega) _
 refine ret_cell2 (r := 4) (t := 5) (x := .bool false) rfl (by simp) (by simp) S9.out Tryz.underlying27 rfl (by kernel_rfl) rfl ?_
 rw [HGN.out]
 exact ⟨[v1, v2, v3, v4], rfl, fun wy hy => HAll.out wy (HY.out w9 wy BW hy), BW⟩
set_option maxRecDepth 100000 in
set_option maxHeartbeats 2000000 in
theorem ixApply_1b {B : Nat} (cs : List Value) (ca : CA) (x : Ch) (w : World) (h : CAt B cs ca w) (hB : B ≤ w.heap.size) (hm : ca.few) (hok : x.ok = true) (hk : x.kind = 1) (h1 : fnd (pHeld x.epoch x.serial) ca.helds < 0) (h2 : 0 ≤ fnd (pIssued x.up) ca.helds) :
 Calls Tryz.prog 16 #[.agg cs.toArray, .agg x.vs.toArray] w fun e w' => ∃ cs', e = .returned (.tuple #[.agg cs'.toArray, .bool (ca.apply x).2]) ∧ CKeep B w.heap.size cs' (ca.apply x).1 w' ∧ Below w.heap.size w w' := by
 have HAll := hI (show ∀ W, Below B w W → CAt W.heap.size cs ca W from fun W hW => (h.below hW).raise (Nat.le_trans hB hW.size))
 have HY := hI (show ∀ W wy, Below w.heap.size w W → Frm (fun j => B ≤ j ∧ j < w.heap.size) W wy → Below B w wy from fun W wy h1 h2 => (h1.mono hB).trans (h2.below (Nat.le_trans hB h1.size) fun j e => e.1))
 have HCA := hI (show ∀ W, Below w.heap.size w W → CAt W.heap.size cs ca W from fun W hW => (h.below (hW.mono hB)).raise (Nat.le_trans hB hW.size))
 have HCB := hI (show ∀ W, Below w.heap.size w W → CAt B cs ca W from fun W hW => h.below (hW.mono hB))
 obtain ⟨v1, v2, v3, v4, rfl, r1, r2, r3, r4⟩ := h
 obtain ⟨o1, o2, o3, o4⟩ : v1.oneCell' = true ∧ v2.oneCell' = true ∧ v3.oneCell' = true ∧ v4.oneCell' = true := ⟨r1.one, r2.one, r3.one, r4.one⟩
 obtain ⟨m1, m2, m3, m4⟩ := hm
 have HGN := hI (show ca.apply x = (ca, false) from by unfold CA.apply; rw [if_neg (by rw [hok]; simp), if_pos hk, if_pos (.inr h2)])
 obtain ⟨G, hGG⟩ : ∃ G, G = ca.apply x := ⟨_, rfl⟩
 rw [← hGG] at HGN ⊢
 have HCk := hI (fun W => rxCheck_any x W)
 rw [hok] at HCk
 obtain ⟨f1, hf1⟩ : ∃ f, f = fnd (pHeld x.epoch x.serial) ca.helds := ⟨_, rfl⟩
 have HC1 := hI (show ∀ W, Below w.heap.size w W → Calls Tryz.prog 48 #[v1, .int .i64 x.epoch, .int .i64 x.serial] W fun e w' => e = .returned (.int .i64 f1) ∧ W = w' from fun W hW => by rw [hf1]; exact ixheld_any v1 ca.helds x.epoch x.serial W (r1.below (hW.mono hB)))
 rw [← hf1] at h1
 have d1 : decide (f1 ≥ 0) = false := decide_eq_false (by omega)
 obtain ⟨f2, hf2⟩ : ∃ f, f = fnd (pIssued x.up) ca.helds := ⟨_, rfl⟩
 have HC2 := hI (show ∀ W, Below w.heap.size w W → Calls Tryz.prog 24 #[v1, .string x.up] W fun e w' => e = .returned (.int .i64 f2) ∧ W = w' from fun W hW => by rw [hf2]; exact ixIssued_any v1 ca.helds x.up W (r1.below (hW.mono hB)))
 rw [← hf2] at h2
 have d2 : decide (f2 ≥ 0) = true := decide_eq_true (by omega)
 obtain ⟨xk, xe, xs, xu, xn, xc, ⟨a0, a1, a2, a3, a4, a5, a6, a7, a8, a9⟩, xo, xl⟩ := x
 dsimp only at hk
 subst hk
 have HC1 := hI (show ∀ W, Below w.heap.size w W → Calls Tryz.prog 48 #[v1, .int .i64 xe, .int .i64 xs] W fun e w' => e = .returned (.int .i64 f1) ∧ W = w' from HC1.out)
 have HC2 := hI (show ∀ W, Below w.heap.size w W → Calls Tryz.prog 24 #[v1, .string xu] W fun e w' => e = .returned (.int .i64 f2) ∧ W = w' from HC2.out)
 obtain ⟨w1, hw1⟩ : ∃ w1, w1 = ((w.alloc (.cells #[v1, v2, v3, v4] 27 (0, 0))).alloc (.cells #[.int .i64 1, .int .i64 xe, .int .i64 xs, .string xu, .string xn, .string xc, .int .i64 a0, .int .i64 a1, .int .i64 a2, .int .i64 a3, .int .i64 a4, .int .i64 a5, .int .i64 a6, .int .i64 a7, .int .i64 a8, .int .i64 a9, .int .i64 xo, .int .i64 xl] 40 (0, 0))).alloc (.cells #[.slice none 0 0, .slice none 0 0, .slice none 0 0, .slice none 0 0] 27 (0, 0)) := ⟨_, rfl⟩
 have hb1 : Below w.heap.size w w1 := by rw [hw1]; exact (((Below.refl _ w).alloc (Nat.le_refl _) _).alloc (by simp) _).alloc (by simp; omega) _
 have hs1 : w1.heap.size = w.heap.size + 1 + 1 + 1 := by rw [hw1]; simp
 have st1 : St 27 w.heap.size #[v1, v2, v3, v4] w1 := by rw [hw1]; exact ((St.new w 27 _).alloc _).alloc _
 have st2 : St 40 (w.heap.size + 1) #[.int .i64 1, .int .i64 xe, .int .i64 xs, .string xu, .string xn, .string xc, .int .i64 a0, .int .i64 a1, .int .i64 a2, .int .i64 a3, .int .i64 a4, .int .i64 a5, .int .i64 a6, .int .i64 a7, .int .i64 a8, .int .i64 a9, .int .i64 xo, .int .i64 xl] w1 := by
  rw [hw1]
  refine St.alloc ?_ _
  rw [show w.heap.size + 1 = (w.alloc (.cells #[v1, v2, v3, v4] 27 (0, 0))).heap.size from by simp]; exact St.new _ _ _
 have st3 : St 27 (w.heap.size + 1 + 1) #[.slice none 0 0, .slice none 0 0, .slice none 0 0, .slice none 0 0] w1 := by
  rw [hw1]
  rw [show w.heap.size + 1 + 1 = ((w.alloc (.cells #[v1, v2, v3, v4] 27 (0, 0))).alloc (.cells #[.int .i64 1, .int .i64 xe, .int .i64 xs, .string xu, .string xn, .string xc, .int .i64 a0, .int .i64 a1, .int .i64 a2, .int .i64 a3, .int .i64 a4, .int .i64 a5, .int .i64 a6, .int .i64 a7, .int .i64 a8, .int .i64 a9, .int .i64 xo, .int .i64 xl] 40 (0, 0))).heap.size from by simp]; exact St.new _ _ _
 have ST1 := hI (show ∀ W, Below w1.heap.size w1 W → St 27 w.heap.size #[v1, v2, v3, v4] W from fun W hW => st1.below hW)
 have ST2 := hI (show ∀ W, Below w1.heap.size w1 W → St 40 (w.heap.size + 1) #[.int .i64 1, .int .i64 xe, .int .i64 xs, .string xu, .string xn, .string xc, .int .i64 a0, .int .i64 a1, .int .i64 a2, .int .i64 a3, .int .i64 a4, .int .i64 a5, .int .i64 a6, .int .i64 a7, .int .i64 a8, .int .i64 a9, .int .i64 xo, .int .i64 xl] W from fun W hW => st2.below hW)
 have ST3 := hI (show ∀ W, Below w1.heap.size w1 W → St 27 (w.heap.size + 1 + 1) #[.slice none 0 0, .slice none 0 0, .slice none 0 0, .slice none 0 0] W from fun W hW => st3.below hW)
 have HCall := hI (show Calls Tryz.prog 45 #[.agg #[.int .i64 1, .int .i64 xe, .int .i64 xs, .string xu, .string xn, .string xc, .int .i64 a0, .int .i64 a1, .int .i64 a2, .int .i64 a3, .int .i64 a4, .int .i64 a5, .int .i64 a6, .int .i64 a7, .int .i64 a8, .int .i64 a9, .int .i64 xo, .int .i64 xl]] w1 fun e w' => e = .returned (.bool true) ∧ Below w1.heap.size w1 w' from HCk.out w1)
 have HW1 := hI hw1
 have HB1 := hI hb1
 clear r1 r2 r3 r4 hb1 hw1 st1 st2 st3 hB hGG hok HCk h1 h2 hf1 hf2
 show Calls Tryz.prog 16 #[.agg #[v1, v2, v3, v4], .agg #[.int .i64 1, .int .i64 xe, .int .i64 xs, .string xu, .string xn, .string xc, .int .i64 a0, .int .i64 a1, .int .i64 a2, .int .i64 a3, .int .i64 a4, .int .i64 a5, .int .i64 a6, .int .i64 a7, .int .i64 a8, .int .i64 a9, .int .i64 xo, .int .i64 xl]] w _
 go_enter Tryz.func16, Tryz.ntmps16
 go_wp2_with fail
 rw [← HW1.out]
 go_wp2_with (first
  | (go_at_call 45; go_must (with_reducible refine HCall.out.mono ?_); rintro e5 w5 ⟨rfl, b5⟩; have B5w5 := hI (b5); have BBw5 := hI (HB1.out.trans (B5w5.out.mono HB1.out.size)); have cw50 : w5.cell? ⟨w.heap.size, 0, none⟩ = some v1 := (ST1.out w5 B5w5.out).cell rfl; have cw51 : w5.cell? ⟨w.heap.size, 1, none⟩ = some v2 := (ST1.out w5 B5w5.out).cell rfl; have cw52 : w5.cell? ⟨w.heap.size, 2, none⟩ = some v3 := (ST1.out w5 B5w5.out).cell rfl; have cw53 : w5.cell? ⟨w.heap.size, 3, none⟩ = some v4 := (ST1.out w5 B5w5.out).cell rfl; have kw50 : w5.cell? ⟨w.heap.size + 1, 0, none⟩ = some (.int .i64 1) := (ST2.out w5 B5w5.out).cell rfl; have kw51 : w5.cell? ⟨w.heap.size + 1, 1, none⟩ = some (.int .i64 xe) := (ST2.out w5 B5w5.out).cell rfl; have kw52 : w5.cell? ⟨w.heap.size + 1, 2, none⟩ = some (.int .i64 xs) := (ST2.out w5 B5w5.out).cell rfl; have kw53 : w5.cell? ⟨w.heap.size + 1, 3, none⟩ = some (.string xu) := (ST2.out w5 B5w5.out).cell rfl; have kw54 : w5.cell? ⟨w.heap.size + 1, 4, none⟩ = some (.string xn) := (ST2.out w5 B5w5.out).cell rfl; have kw55 : w5.cell? ⟨w.heap.size + 1, 5, none⟩ = some (.string xc) := (ST2.out w5 B5w5.out).cell rfl; have kw516 : w5.cell? ⟨w.heap.size + 1, 16, none⟩ = some (.int .i64 xo) := (ST2.out w5 B5w5.out).cell rfl; have kw517 : w5.cell? ⟨w.heap.size + 1, 17, none⟩ = some (.int .i64 xl) := (ST2.out w5 B5w5.out).cell rfl; clear b5)
  | (go_at_call 48; go_must (with_reducible refine (HC1.out _ BBw5.out).mono ?_); rintro e6 w6 ⟨rfl, rfl⟩)
  | (go_at_call 24; go_must (with_reducible refine (HC2.out _ BBw5.out).mono ?_); rintro e7 w7 ⟨rfl, rfl⟩)
  | ((with_reducible show wpList _ _ _ ({ dst := some 35, op := .load 27 _, type := _, pos := _, after := _, guard := _ } :: _) _ _); refine wpList_load_st rfl 27 _ rfl w.heap.size (by first | rfl | simp [Act.eval, Act.put]) 27 #[v1, v2, v3, v4] (ST1.out w5 B5w5.out) _ Tryz.underlying27 rfl (by kernel_rfl) ?_)
  | ((with_reducible show wpList _ _ _ ({ dst := _, op := .store 27 _ _, type := _, pos := _, after := _, guard := _ } :: _) _ _); refine wpList_store_st rfl 27 _ _ rfl (w.heap.size + 1 + 1) #[v1, v2, v3, v4] (by first | rfl | simp [Act.eval, Act.put]) (by first | rfl | simp [Act.eval, Act.put]) _ (ST3.out w5 B5w5.out) (by kernel_rfl) rfl (by simp [o1, o2, o3, o4]) ?_; rintro w9 hw9 s9; have S9 := hI s9; have HW9 := hI hw9; clear hw9 s9))
 have hs5 := B5w5.out.size
 have BW : Below w.heap.size w w9 := by rw [HW9.out]; exact below_row BBw5.out (by omega) _
 refine ret_cell2 (r := 4) (t := 5) (x := .bool false) rfl (by simp) (by simp) S9.out Tryz.underlying27 rfl (by kernel_rfl) rfl ?_
 rw [HGN.out]
 exact ⟨[v1, v2, v3, v4], rfl, fun wy hy => HAll.out wy (HY.out w9 wy BW hy), BW⟩
end Go.Proofs.YtngfknplljedeaaGreat
