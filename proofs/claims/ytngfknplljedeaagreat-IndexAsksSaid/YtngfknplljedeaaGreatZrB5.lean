/- Lemmas for the laws of index. -/
import Derived.Test.YtngfknplljedeaaGreatZrB0
import Derived.Test.YtngfknplljedeaaGreatZrHi
namespace Go.Proofs.YtngfknplljedeaaGreat
open Go.RowKit
set_option maxRecDepth 100000 in
set_option maxHeartbeats 2000000 in
theorem ixApply_6b {B : Nat} (cs : List Value) (ca : CA) (x : Ch) (w : World) (h : CAt B cs ca w) (hB : B ≤ w.heap.size) (hm : ca.few) (hok : x.ok = true) (hk : x.kind = 6) (h1 : 0 ≤ fnd (pFile x.up) ca.files) :
 Calls Tryz.prog 16 #[.agg cs.toArray, .agg x.vs.toArray] w fun e w' => ∃ cs', e = .returned (.tuple #[.agg cs'.toArray, .bool (ca.apply x).2]) ∧ CKeep B w.heap.size cs' (ca.apply x).1 w' ∧ Below w.heap.size w w' := by
 have HAll := hI (show ∀ W, Below B w W → CAt W.heap.size cs ca W from fun W hW => (h.below hW).raise (Nat.le_trans hB hW.size))
 have HY := hI (show ∀ W wy, Below w.heap.size w W → Frm (fun j => B ≤ j ∧ j < w.heap.size) W wy → Below B w wy from fun W wy h1 h2 => (h1.mono hB).trans (h2.below (Nat.le_trans hB h1.size) fun j e => e.1))
 have HCA := hI (show ∀ W, Below w.heap.size w W → CAt W.heap.size cs ca W from fun W hW => (h.below (hW.mono hB)).raise (Nat.le_trans hB hW.size))
 have HCB := hI (show ∀ W, Below w.heap.size w W → CAt B cs ca W from fun W hW => h.below (hW.mono hB))
 obtain ⟨v1, v2, v3, v4, rfl, r1, r2, r3, r4⟩ := h
 obtain ⟨o1, o2, o3, o4⟩ : v1.oneCell' = true ∧ v2.oneCell' = true ∧ v3.oneCell' = true ∧ v4.oneCell' = true := ⟨r1.one, r2.one, r3.one, r4.one⟩
 obtain ⟨m1, m2, m3, m4⟩ := hm
 have HGN := hI (show ca.apply x = (⟨ca.helds, ca.files, putIn (fun y => !ltKn y ⟨x.up, x.name, x.child⟩) (fun y => !(decide (y.dir = x.up) && decide (y.name = x.name))) ⟨x.up, x.name, x.child⟩ ca.names, ca.blocks⟩, true) from by unfold CA.apply; rw [if_neg (by rw [hok]; simp), if_neg (by rw [hk]; decide), if_neg (by rw [hk]; decide), if_pos hk, if_neg (by omega)])
 obtain ⟨G, hGG⟩ : ∃ G, G = ca.apply x := ⟨_, rfl⟩
 rw [← hGG] at HGN ⊢
 have HCk := hI (fun W => rxCheck_any x W)
 rw [hok] at HCk
 obtain ⟨f1, hf1⟩ : ∃ f, f = fnd (pFile x.up) ca.files := ⟨_, rfl⟩
 have HC1 := hI (show ∀ W, Below w.heap.size w W → Calls Tryz.prog 26 #[.agg #[v1, v2, v3, v4], .string x.up] W fun e w' => e = .returned (.int .i64 f1) ∧ Below W.heap.size W w' from fun W hW => by rw [hf1]; exact ixFile_any [v1, v2, v3, v4] ca x.up W (HCA.out W hW))
 rw [← hf1] at h1
 have d1 : decide (f1 < 0) = false := decide_eq_false (by omega)
 obtain ⟨xs', hxs'⟩ : ∃ l, l = putIn (fun y => !ltKn y ⟨x.up, x.name, x.child⟩) (fun y => !(decide (y.dir = x.up) && decide (y.name = x.name))) ⟨x.up, x.name, x.child⟩ ca.names := ⟨_, rfl⟩
 rw [← hxs'] at HGN
 have HP := hI (show ∀ W, Below w.heap.size w W → Calls Tryz.prog 51 #[v3, .agg (Kn.vs ⟨x.up, x.name, x.child⟩).toArray] W fun e w' => ∃ u, e = .returned u ∧ OwnAt 61 3 Kn.vs (W.heap.size + 1) u xs' w' ∧ Below W.heap.size W w' from fun W hW => by rw [hxs']; exact ixputName_any v3 ca.names ⟨x.up, x.name, x.child⟩ W (r3.below (hW.mono hB)) (Nat.le_trans hB hW.size) m3)
 clear hxs'
 obtain ⟨xk, xe, xs, xu, xn, xc, ⟨a0, a1, a2, a3, a4, a5, a6, a7, a8, a9⟩, xo, xl⟩ := x
 dsimp only at hk
 subst hk
 have HC1 := hI (show ∀ W, Below w.heap.size w W → Calls Tryz.prog 26 #[.agg #[v1, v2, v3, v4], .string xu] W fun e w' => e = .returned (.int .i64 f1) ∧ Below W.heap.size W w' from HC1.out)
 have HP := hI (show ∀ W, Below w.heap.size w W → Calls Tryz.prog 51 #[v3, .agg #[.string xu, .string xn, .string xc]] W fun e w' => ∃ u, e = .returned u ∧ OwnAt 61 3 Kn.vs (W.heap.size + 1) u xs' w' ∧ Below W.heap.size W w' from HP.out)
 obtain ⟨w1, hw1⟩ : ∃ w1, w1 = ((w.alloc (.cells #[v1, v2, v3, v4] 27 (0, 0))).alloc (.cells #[.int .i64 6, .int .i64 xe, .int .i64 xs, .string xu, .string xn, .string xc, .int .i64 a0, .int .i64 a1, .int .i64 a2, .int .i64 a3, .int .i64 a4, .int .i64 a5, .int .i64 a6, .int .i64 a7, .int .i64 a8, .int .i64 a9, .int .i64 xo, .int .i64 xl] 40 (0, 0))).alloc (.cells #[.slice none 0 0, .slice none 0 0, .slice none 0 0, .slice none 0 0] 27 (0, 0)) := ⟨_, rfl⟩
 have hb1 : Below w.heap.size w w1 := by rw [hw1]; exact (((Below.refl _ w).alloc (Nat.le_refl _) _).alloc (by simp) _).alloc (by simp; omega) _
 have hs1 : w1.heap.size = w.heap.size + 1 + 1 + 1 := by rw [hw1]; simp
 have st1 : St 27 w.heap.size #[v1, v2, v3, v4] w1 := by rw [hw1]; exact ((St.new w 27 _).alloc _).alloc _
 have st2 : St 40 (w.heap.size + 1) #[.int .i64 6, .int .i64 xe, .int .i64 xs, .string xu, .string xn, .string xc, .int .i64 a0, .int .i64 a1, .int .i64 a2, .int .i64 a3, .int .i64 a4, .int .i64 a5, .int .i64 a6, .int .i64 a7, .int .i64 a8, .int .i64 a9, .int .i64 xo, .int .i64 xl] w1 := by
  rw [hw1]
  refine St.alloc ?_ _
  rw [show w.heap.size + 1 = (w.alloc (.cells #[v1, v2, v3, v4] 27 (0, 0))).heap.size from by simp]; exact St.new _ _ _
 have st3 : St 27 (w.heap.size + 1 + 1) #[.slice none 0 0, .slice none 0 0, .slice none 0 0, .slice none 0 0] w1 := by
  rw [hw1]
  rw [show w.heap.size + 1 + 1 = ((w.alloc (.cells #[v1, v2, v3, v4] 27 (0, 0))).alloc (.cells #[.int .i64 6, .int .i64 xe, .int .i64 xs, .string xu, .string xn, .string xc, .int .i64 a0, .int .i64 a1, .int .i64 a2, .int .i64 a3, .int .i64 a4, .int .i64 a5, .int .i64 a6, .int .i64 a7, .int .i64 a8, .int .i64 a9, .int .i64 xo, .int .i64 xl] 40 (0, 0))).heap.size from by simp]; exact St.new _ _ _
 have ST1 := hI (show ∀ W, Below w1.heap.size w1 W → St 27 w.heap.size #[v1, v2, v3, v4] W from fun W hW => st1.below hW)
 have ST2 := hI (show ∀ W, Below w1.heap.size w1 W → St 40 (w.heap.size + 1) #[.int .i64 6, .int .i64 xe, .int .i64 xs, .string xu, .string xn, .string xc, .int .i64 a0, .int .i64 a1, .int .i64 a2, .int .i64 a3, .int .i64 a4, .int .i64 a5, .int .i64 a6, .int .i64 a7, .int .i64 a8, .int .i64 a9, .int .i64 xo, .int .i64 xl] W from fun W hW => st2.below hW)
 have ST3 := hI (show ∀ W, Below w1.heap.size w1 W → St 27 (w.heap.size + 1 + 1) #[.slice none 0 0, .slice none 0 0, .slice none 0 0, .slice none 0 0] W from fun W hW => st3.below hW)
 have HCall := hI (show Calls Tryz.prog 45 #[.agg #[.int .i64 6, .int .i64 xe, .int .i64 xs, .string xu, .string xn, .string xc, .int .i64 a0, .int .i64 a1, .int .i64 a2, .int .i64 a3, .int .i64 a4, .int .i64 a5, .int .i64 a6, .int .i64 a7, .int .i64 a8, .int .i64 a9, .int .i64 xo, .int .i64 xl]] w1 fun e w' => e = .returned (.bool true) ∧ Below w1.heap.size w1 w' from HCk.out w1)
 have HW1 := hI hw1
 have HB1 := hI hb1
 clear r1 r2 r3 r4 hb1 hw1 st1 st2 st3 hB hGG hok HCk h1 hf1
 show Calls Tryz.prog 16 #[.agg #[v1, v2, v3, v4], .agg #[.int .i64 6, .int .i64 xe, .int .i64 xs, .string xu, .string xn, .string xc, .int .i64 a0, .int .i64 a1, .int .i64 a2, .int .i64 a3, .int .i64 a4, .int .i64 a5, .int .i64 a6, .int .i64 a7, .int .i64 a8, .int .i64 a9, .int .i64 xo, .int .i64 xl]] w _
 go_enter Tryz.func16, Tryz.ntmps16
 go_wp2_with fail
 rw [← HW1.out]
 go_wp2_with (first
  | (go_at_call 45; go_must (with_reducible refine HCall.out.mono ?_); rintro e5 w5 ⟨rfl, b5⟩; have B5w5 := hI (b5); have BBw5 := hI (HB1.out.trans (B5w5.out.mono HB1.out.size)); have cw50 : w5.cell? ⟨w.heap.size, 0, none⟩ = some v1 := (ST1.out w5 B5w5.out).cell rfl; have cw51 : w5.cell? ⟨w.heap.size, 1, none⟩ = some v2 := (ST1.out w5 B5w5.out).cell rfl; have cw52 : w5.cell? ⟨w.heap.size, 2, none⟩ = some v3 := (ST1.out w5 B5w5.out).cell rfl; have cw53 : w5.cell? ⟨w.heap.size, 3, none⟩ = some v4 := (ST1.out w5 B5w5.out).cell rfl; have kw50 : w5.cell? ⟨w.heap.size + 1, 0, none⟩ = some (.int .i64 6) := (ST2.out w5 B5w5.out).cell rfl; have kw51 : w5.cell? ⟨w.heap.size + 1, 1, none⟩ = some (.int .i64 xe) := (ST2.out w5 B5w5.out).cell rfl; have kw52 : w5.cell? ⟨w.heap.size + 1, 2, none⟩ = some (.int .i64 xs) := (ST2.out w5 B5w5.out).cell rfl; have kw53 : w5.cell? ⟨w.heap.size + 1, 3, none⟩ = some (.string xu) := (ST2.out w5 B5w5.out).cell rfl; have kw54 : w5.cell? ⟨w.heap.size + 1, 4, none⟩ = some (.string xn) := (ST2.out w5 B5w5.out).cell rfl; have kw55 : w5.cell? ⟨w.heap.size + 1, 5, none⟩ = some (.string xc) := (ST2.out w5 B5w5.out).cell rfl; have kw516 : w5.cell? ⟨w.heap.size + 1, 16, none⟩ = some (.int .i64 xo) := (ST2.out w5 B5w5.out).cell rfl; have kw517 : w5.cell? ⟨w.heap.size + 1, 17, none⟩ = some (.int .i64 xl) := (ST2.out w5 B5w5.out).cell rfl; clear b5)
  | ((with_reducible show wpList _ _ _ ({ dst := some 60, op := .load 27 _, type := _, pos := _, after := _, guard := _ } :: _) _ _); refine wpList_load_st rfl 27 _ rfl w.heap.size (by first | rfl | simp [Act.eval, Act.put]) 27 #[v1, v2, v3, v4] (ST1.out w5 B5w5.out) _ Tryz.underlying27 rfl (by kernel_rfl) ?_)
  | (go_at_call 26; go_must (with_reducible refine (HC1.out _ BBw5.out).mono ?_); rintro e6 w6 ⟨rfl, b6⟩; have B5w6 := hI (B5w5.out.trans (b6.mono B5w5.out.size)); have BBw6 := hI (HB1.out.trans (B5w6.out.mono HB1.out.size)); have cw60 : w6.cell? ⟨w.heap.size, 0, none⟩ = some v1 := (ST1.out w6 B5w6.out).cell rfl; have cw61 : w6.cell? ⟨w.heap.size, 1, none⟩ = some v2 := (ST1.out w6 B5w6.out).cell rfl; have cw62 : w6.cell? ⟨w.heap.size, 2, none⟩ = some v3 := (ST1.out w6 B5w6.out).cell rfl; have cw63 : w6.cell? ⟨w.heap.size, 3, none⟩ = some v4 := (ST1.out w6 B5w6.out).cell rfl; have kw60 : w6.cell? ⟨w.heap.size + 1, 0, none⟩ = some (.int .i64 6) := (ST2.out w6 B5w6.out).cell rfl; have kw61 : w6.cell? ⟨w.heap.size + 1, 1, none⟩ = some (.int .i64 xe) := (ST2.out w6 B5w6.out).cell rfl; have kw62 : w6.cell? ⟨w.heap.size + 1, 2, none⟩ = some (.int .i64 xs) := (ST2.out w6 B5w6.out).cell rfl; have kw63 : w6.cell? ⟨w.heap.size + 1, 3, none⟩ = some (.string xu) := (ST2.out w6 B5w6.out).cell rfl; have kw64 : w6.cell? ⟨w.heap.size + 1, 4, none⟩ = some (.string xn) := (ST2.out w6 B5w6.out).cell rfl; have kw65 : w6.cell? ⟨w.heap.size + 1, 5, none⟩ = some (.string xc) := (ST2.out w6 B5w6.out).cell rfl; have kw616 : w6.cell? ⟨w.heap.size + 1, 16, none⟩ = some (.int .i64 xo) := (ST2.out w6 B5w6.out).cell rfl; have kw617 : w6.cell? ⟨w.heap.size + 1, 17, none⟩ = some (.int .i64 xl) := (ST2.out w6 B5w6.out).cell rfl; clear b6)
  | (go_at_call 51; go_must (with_reducible refine (HP.out _ BBw6.out).mono ?_); rintro e8 w8 ⟨u, rfl, q8, b8⟩; have ou := q8.one; have B8 := hI (B5w6.out.trans (b8.mono B5w6.out.size)); have BB8 := hI (HB1.out.trans (B8.out.mono HB1.out.size)); have fz := (ST1.out w8 B8.out).free 2; have cz : w8.cell? ⟨w.heap.size, 2, none⟩ = some v3 := (ST1.out w8 B8.out).cell rfl; have SL := hI (show St 27 w.heap.size #[v1, v2, u, v4] (w8.setCell ⟨w.heap.size, 2, none⟩ u) from (ST1.out w8 B8.out).set 2 _); have SD := hI (show St 27 (w.heap.size + 1 + 1) #[.slice none 0 0, .slice none 0 0, .slice none 0 0, .slice none 0 0] (w8.setCell ⟨w.heap.size, 2, none⟩ u) from (ST3.out w8 B8.out).other _ _ _ (by omega)); have Q8 := hI q8; obtain ⟨ua, un, uc, rfl⟩ := q8.slice; clear q8 b8)
  | ((with_reducible show wpList _ _ _ ({ dst := some 101, op := .load 27 _, type := _, pos := _, after := _, guard := _ } :: _) _ _); refine wpList_load_st rfl 27 _ rfl w.heap.size (by first | rfl | simp [Act.eval, Act.put]) 27 #[v1, v2, .slice ua un uc, v4] SL.out _ Tryz.underlying27 rfl (by kernel_rfl) ?_)
  | ((with_reducible show wpList _ _ _ ({ dst := _, op := .store 27 _ _, type := _, pos := _, after := _, guard := _ } :: _) _ _); refine wpList_store_st rfl 27 _ _ rfl (w.heap.size + 1 + 1) #[v1, v2, .slice ua un uc, v4] (by first | rfl | simp [Act.eval, Act.put]) (by first | rfl | simp [Act.eval, Act.put]) _ SD.out (by kernel_rfl) rfl (by simp [o1, o2, o4]; try rfl) ?_; rintro wz hwz sz; have SZ := hI sz; have HWZ := hI hwz; clear hwz sz))
 have FR : Frm (fun j => j = w.heap.size ∨ j = w.heap.size + 1 + 1) w8 wz := by
  rw [HWZ.out]
  exact ((Frm.refl _ w8).setCell (.inl (.inl rfl)) _).next ⟨rfl, rfl, rfl, by simp, fun j hj hn => Go.setRow_other _ _ j _ (fun e => hn (.inr e))⟩
 have hs10 := BB8.out.size
 have hs5 := B5w6.out.size
 have RK := FR.own Q8.out fun k hk e => by
  have := (World.ownsRow.lt Q8.out k hk).1
  rcases e with e | e <;> omega
 have BW : Below w.heap.size w wz := BB8.out.trans (FR.below (by omega) (fun j e => by rcases e with e | e <;> omega))
 refine ret_cell2 (r := 4) (t := 5) (x := .bool true) rfl (by simp) (by simp) SZ.out Tryz.underlying27 rfl (by kernel_rfl) rfl ?_
 rw [HGN.out]
 refine ⟨[v1, v2, .slice ua un uc, v4], rfl, fun wy hy => ?_, BW⟩
 obtain ⟨_, _, _, _, e, q1, q2, _, q4⟩ := HAll.out wy (HY.out wz wy BW hy)
 simp only [List.cons.injEq, and_true] at e
 obtain ⟨rfl, rfl, rfl, rfl⟩ := e
 have RY := hy.own RK fun k hk e => by
  have := (World.ownsRow.lt RK k hk).1
  omega
 exact ⟨_, _, _, _, rfl, q1, q2, RowsAt.own Kn.vs_length RY, q4⟩
set_option maxRecDepth 100000 in
set_option maxHeartbeats 2000000 in
theorem ixApply_8a {B : Nat} (cs : List Value) (ca : CA) (x : Ch) (w : World) (h : CAt B cs ca w) (hB : B ≤ w.heap.size) (hm : ca.few) (hok : x.ok = true) (hk : x.kind = 8) (h1 : fnd (pFile x.up) ca.files < 0) :
 Calls Tryz.prog 16 #[.agg cs.toArray, .agg x.vs.toArray] w fun e w' => ∃ cs', e = .returned (.tuple #[.agg cs'.toArray, .bool (ca.apply x).2]) ∧ CKeep B w.heap.size cs' (ca.apply x).1 w' ∧ Below w.heap.size w w' := by
 have HAll := hI (show ∀ W, Below B w W → CAt W.heap.size cs ca W from fun W hW => (h.below hW).raise (Nat.le_trans hB hW.size))
 have HY := hI (show ∀ W wy, Below w.heap.size w W → Frm (fun j => B ≤ j ∧ j < w.heap.size) W wy → Below B w wy from fun W wy h1 h2 => (h1.mono hB).trans (h2.below (Nat.le_trans hB h1.size) fun j e => e.1))
 have HCA := hI (show ∀ W, Below w.heap.size w W → CAt W.heap.size cs ca W from fun W hW => (h.below (hW.mono hB)).raise (Nat.le_trans hB hW.size))
 have HCB := hI (show ∀ W, Below w.heap.size w W → CAt B cs ca W from fun W hW => h.below (hW.mono hB))
 obtain ⟨v1, v2, v3, v4, rfl, r1, r2, r3, r4⟩ := h
 obtain ⟨o1, o2, o3, o4⟩ : v1.oneCell' = true ∧ v2.oneCell' = true ∧ v3.oneCell' = true ∧ v4.oneCell' = true := ⟨r1.one, r2.one, r3.one, r4.one⟩
 obtain ⟨m1, m2, m3, m4⟩ := hm
 have HGN := hI (show ca.apply x = (ca, false) from by unfold CA.apply; rw [if_neg (by rw [hok]; simp), if_neg (by rw [hk]; decide), if_neg (by rw [hk]; decide), if_neg (by rw [hk]; decide), if_pos hk, if_pos (.inl h1)])
 obtain ⟨G, hGG⟩ : ∃ G, G = ca.apply x := ⟨_, rfl⟩
 rw [← hGG] at HGN ⊢
 have HCk := hI (fun W => rxCheck_any x W)
 rw [hok] at HCk
 obtain ⟨f1, hf1⟩ : ∃ f, f = fnd (pFile x.up) ca.files := ⟨_, rfl⟩
 have HC1 := hI (show ∀ W, Below w.heap.size w W → Calls Tryz.prog 26 #[.agg #[v1, v2, v3, v4], .string x.up] W fun e w' => e = .returned (.int .i64 f1) ∧ Below W.heap.size W w' from fun W hW => by rw [hf1]; exact ixFile_any [v1, v2, v3, v4] ca x.up W (HCA.out W hW))
 rw [← hf1] at h1
 have d1 : decide (f1 < 0) = true := decide_eq_true (by omega)
 obtain ⟨xk, xe, xs, xu, xn, xc, ⟨a0, a1, a2, a3, a4, a5, a6, a7, a8, a9⟩, xo, xl⟩ := x
 dsimp only at hk
 subst hk
 have HC1 := hI (show ∀ W, Below w.heap.size w W → Calls Tryz.prog 26 #[.agg #[v1, v2, v3, v4], .string xu] W fun e w' => e = .returned (.int .i64 f1) ∧ Below W.heap.size W w' from HC1.out)
 obtain ⟨w1, hw1⟩ : ∃ w1, w1 = ((w.alloc (.cells #[v1, v2, v3, v4] 27 (0, 0))).alloc (.cells #[.int .i64 8, .int .i64 xe, .int .i64 xs, .string xu, .string xn, .string xc, .int .i64 a0, .int .i64 a1, .int .i64 a2, .int .i64 a3, .int .i64 a4, .int .i64 a5, .int .i64 a6, .int .i64 a7, .int .i64 a8, .int .i64 a9, .int .i64 xo, .int .i64 xl] 40 (0, 0))).alloc (.cells #[.slice none 0 0, .slice none 0 0, .slice none 0 0, .slice none 0 0] 27 (0, 0)) := ⟨_, rfl⟩
 have hb1 : Below w.heap.size w w1 := by rw [hw1]; exact (((Below.refl _ w).alloc (Nat.le_refl _) _).alloc (by simp) _).alloc (by simp; omega) _
 have hs1 : w1.heap.size = w.heap.size + 1 + 1 + 1 := by rw [hw1]; simp
 have st1 : St 27 w.heap.size #[v1, v2, v3, v4] w1 := by rw [hw1]; exact ((St.new w 27 _).alloc _).alloc _
 have st2 : St 40 (w.heap.size + 1) #[.int .i64 8, .int .i64 xe, .int .i64 xs, .string xu, .string xn, .string xc, .int .i64 a0, .int .i64 a1, .int .i64 a2, .int .i64 a3, .int .i64 a4, .int .i64 a5, .int .i64 a6, .int .i64 a7, .int .i64 a8, .int .i64 a9, .int .i64 xo, .int .i64 xl] w1 := by
  rw [hw1]
  refine St.alloc ?_ _
  rw [show w.heap.size + 1 = (w.alloc (.cells #[v1, v2, v3, v4] 27 (0, 0))).heap.size from by simp]; exact St.new _ _ _
 have st3 : St 27 (w.heap.size + 1 + 1) #[.slice none 0 0, .slice none 0 0, .slice none 0 0, .slice none 0 0] w1 := by
  rw [hw1]
  rw [show w.heap.size + 1 + 1 = ((w.alloc (.cells #[v1, v2, v3, v4] 27 (0, 0))).alloc (.cells #[.int .i64 8, .int .i64 xe, .int .i64 xs, .string xu, .string xn, .string xc, .int .i64 a0, .int .i64 a1, .int .i64 a2, .int .i64 a3, .int .i64 a4, .int .i64 a5, .int .i64 a6, .int .i64 a7, .int .i64 a8, .int .i64 a9, .int .i64 xo, .int .i64 xl] 40 (0, 0))).heap.size from by simp]; exact St.new _ _ _
 have ST1 := hI (show ∀ W, Below w1.heap.size w1 W → St 27 w.heap.size #[v1, v2, v3, v4] W from fun W hW => st1.below hW)
 have ST2 := hI (show ∀ W, Below w1.heap.size w1 W → St 40 (w.heap.size + 1) #[.int .i64 8, .int .i64 xe, .int .i64 xs, .string xu, .string xn, .string xc, .int .i64 a0, .int .i64 a1, .int .i64 a2, .int .i64 a3, .int .i64 a4, .int .i64 a5, .int .i64 a6, .int .i64 a7, .int .i64 a8, .int .i64 a9, .int .i64 xo, .int .i64 xl] W from fun W hW => st2.below hW)
 have ST3 := hI (show ∀ W, Below w1.heap.size w1 W → St 27 (w.heap.size + 1 + 1) #[.slice none 0 0, .slice none 0 0, .slice none 0 0, .slice none 0 0] W from fun W hW => st3.below hW)
 have HCall := hI (show Calls Tryz.prog 45 #[.agg #[.int .i64 8, .int .i64 xe, .int .i64 xs, .string xu, .string xn, .string xc, .int .i64 a0, .int .i64 a1, .int .i64 a2, .int .i64 a3, .int .i64 a4, .int .i64 a5, .int .i64 a6, .int .i64 a7, .int .i64 a8, .int .i64 a9, .int .i64 xo, .int .i64 xl]] w1 fun e w' => e = .returned (.bool true) ∧ Below w1.heap.size w1 w' from HCk.out w1)
 have HW1 := hI hw1
 have HB1 := hI hb1
 clear r1 r2 r3 r4 hb1 hw1 st1 st2 st3 hB hGG hok HCk h1 hf1
 show Calls Tryz.prog 16 #[.agg #[v1, v2, v3, v4], .agg #[.int .i64 8, .int .i64 xe, .int .i64 xs, .string xu, .string xn, .string xc, .int .i64 a0, .int .i64 a1, .int .i64 a2, .int .i64 a3, .int .i64 a4, .int .i64 a5, .int .i64 a6, .int .i64 a7, .int .i64 a8, .int .i64 a9, .int .i64 xo, .int .i64 xl]] w _
 go_enter Tryz.func16, Tryz.ntmps16
 go_wp2_with fail
 rw [← HW1.out]
 go_wp2_with (first
  | (go_at_call 45; go_must (with_reducible refine HCall.out.mono ?_); rintro e5 w5 ⟨rfl, b5⟩; have B5w5 := hI (b5); have BBw5 := hI (HB1.out.trans (B5w5.out.mono HB1.out.size)); have cw50 : w5.cell? ⟨w.heap.size, 0, none⟩ = some v1 := (ST1.out w5 B5w5.out).cell rfl; have cw51 : w5.cell? ⟨w.heap.size, 1, none⟩ = some v2 := (ST1.out w5 B5w5.out).cell rfl; have cw52 : w5.cell? ⟨w.heap.size, 2, none⟩ = some v3 := (ST1.out w5 B5w5.out).cell rfl; have cw53 : w5.cell? ⟨w.heap.size, 3, none⟩ = some v4 := (ST1.out w5 B5w5.out).cell rfl; have kw50 : w5.cell? ⟨w.heap.size + 1, 0, none⟩ = some (.int .i64 8) := (ST2.out w5 B5w5.out).cell rfl; have kw51 : w5.cell? ⟨w.heap.size + 1, 1, none⟩ = some (.int .i64 xe) := (ST2.out w5 B5w5.out).cell rfl; have kw52 : w5.cell? ⟨w.heap.size + 1, 2, none⟩ = some (.int .i64 xs) := (ST2.out w5 B5w5.out).cell rfl; have kw53 : w5.cell? ⟨w.heap.size + 1, 3, none⟩ = some (.string xu) := (ST2.out w5 B5w5.out).cell rfl; have kw54 : w5.cell? ⟨w.heap.size + 1, 4, none⟩ = some (.string xn) := (ST2.out w5 B5w5.out).cell rfl; have kw55 : w5.cell? ⟨w.heap.size + 1, 5, none⟩ = some (.string xc) := (ST2.out w5 B5w5.out).cell rfl; have kw516 : w5.cell? ⟨w.heap.size + 1, 16, none⟩ = some (.int .i64 xo) := (ST2.out w5 B5w5.out).cell rfl; have kw517 : w5.cell? ⟨w.heap.size + 1, 17, none⟩ = some (.int .i64 xl) := (ST2.out w5 B5w5.out).cell rfl; clear b5)
  | ((with_reducible show wpList _ _ _ ({ dst := some 79, op := .load 27 _, type := _, pos := _, after := _, guard := _ } :: _) _ _); refine wpList_load_st rfl 27 _ rfl w.heap.size (by first | rfl | simp [Act.eval, Act.put]) 27 #[v1, v2, v3, v4] (ST1.out w5 B5w5.out) _ Tryz.underlying27 rfl (by kernel_rfl) ?_)
  | (go_at_call 26; go_must (with_reducible refine (HC1.out _ BBw5.out).mono ?_); rintro e6 w6 ⟨rfl, b6⟩; have B5w6 := hI (B5w5.out.trans (b6.mono B5w5.out.size)); have BBw6 := hI (HB1.out.trans (B5w6.out.mono HB1.out.size)); have cw60 : w6.cell? ⟨w.heap.size, 0, none⟩ = some v1 := (ST1.out w6 B5w6.out).cell rfl; have cw61 : w6.cell? ⟨w.heap.size, 1, none⟩ = some v2 := (ST1.out w6 B5w6.out).cell rfl; have cw62 : w6.cell? ⟨w.heap.size, 2, none⟩ = some v3 := (ST1.out w6 B5w6.out).cell rfl; have cw63 : w6.cell? ⟨w.heap.size, 3, none⟩ = some v4 := (ST1.out w6 B5w6.out).cell rfl; have kw60 : w6.cell? ⟨w.heap.size + 1, 0, none⟩ = some (.int .i64 8) := (ST2.out w6 B5w6.out).cell rfl; have kw61 : w6.cell? ⟨w.heap.size + 1, 1, none⟩ = some (.int .i64 xe) := (ST2.out w6 B5w6.out).cell rfl; have kw62 : w6.cell? ⟨w.heap.size + 1, 2, none⟩ = some (.int .i64 xs) := (ST2.out w6 B5w6.out).cell rfl; have kw63 : w6.cell? ⟨w.heap.size + 1, 3, none⟩ = some (.string xu) := (ST2.out w6 B5w6.out).cell rfl; have kw64 : w6.cell? ⟨w.heap.size + 1, 4, none⟩ = some (.string xn) := (ST2.out w6 B5w6.out).cell rfl; have kw65 : w6.cell? ⟨w.heap.size + 1, 5, none⟩ = some (.string xc) := (ST2.out w6 B5w6.out).cell rfl; have kw616 : w6.cell? ⟨w.heap.size + 1, 16, none⟩ = some (.int .i64 xo) := (ST2.out w6 B5w6.out).cell rfl; have kw617 : w6.cell? ⟨w.heap.size + 1, 17, none⟩ = some (.int .i64 xl) := (ST2.out w6 B5w6.out).cell rfl; clear b6)
  | ((with_reducible show wpList _ _ _ ({ dst := some 89, op := .load 27 _, type := _, pos := _, after := _, guard := _ } :: _) _ _); refine wpList_load_st rfl 27 _ rfl w.heap.size (by first | rfl | simp [Act.eval, Act.put]) 27 #[v1, v2, v3, v4] (ST1.out w6 B5w6.out) _ Tryz.underlying27 rfl (by kernel_rfl) ?_)
  | ((with_reducible show wpList _ _ _ ({ dst := _, op := .store 27 _ _, type := _, pos := _, after := _, guard := _ } :: _) _ _); refine wpList_store_st rfl 27 _ _ rfl (w.heap.size + 1 + 1) #[v1, v2, v3, v4] (by first | rfl | simp [Act.eval, Act.put]) (by first | rfl | simp [Act.eval, Act.put]) _ (ST3.out w6 B5w6.out) (by kernel_rfl) rfl (by simp [o1, o2, o3, o4]) ?_; rintro w9 hw9 s9; have S9 := hI s9; have HW9 := hI hw9; clear hw9 s9))
 have hs5 := B5w6.out.size
 have BW : Below w.heap.size w w9 := by rw [HW9.out]; exact below_row BBw6.out (by omega) _
 refine ret_cell2 (r := 4) (t := 5) (x := .bool false) rfl (by simp) (by simp) S9.out Tryz.underlying27 rfl (by kernel_rfl) rfl ?_
 rw [HGN.out]
 exact ⟨[v1, v2, v3, v4], rfl, fun wy hy => HAll.out wy (HY.out w9 wy BW hy), BW⟩
set_option maxRecDepth 100000 in
set_option maxHeartbeats 2000000 in
theorem ixApply_8b {B : Nat} (cs : List Value) (ca : CA) (x : Ch) (w : World) (h : CAt B cs ca w) (hB : B ≤ w.heap.size) (hm : ca.few) (hok : x.ok = true) (hk : x.kind = 8) (h1 : 0 ≤ fnd (pFile x.up) ca.files) (h2 : ca.blocks.any (tkn x) = true) :
 Calls Tryz.prog 16 #[.agg cs.toArray, .agg x.vs.toArray] w fun e w' => ∃ cs', e = .returned (.tuple #[.agg cs'.toArray, .bool (ca.apply x).2]) ∧ CKeep B w.heap.size cs' (ca.apply x).1 w' ∧ Below w.heap.size w w' := by
 have HAll := hI (show ∀ W, Below B w W → CAt W.heap.size cs ca W from fun W hW => (h.below hW).raise (Nat.le_trans hB hW.size))
 have HY := hI (show ∀ W wy, Below w.heap.size w W → Frm (fun j => B ≤ j ∧ j < w.heap.size) W wy → Below B w wy from fun W wy h1 h2 => (h1.mono hB).trans (h2.below (Nat.le_trans hB h1.size) fun j e => e.1))
 have HCA := hI (show ∀ W, Below w.heap.size w W → CAt W.heap.size cs ca W from fun W hW => (h.below (hW.mono hB)).raise (Nat.le_trans hB hW.size))
 have HCB := hI (show ∀ W, Below w.heap.size w W → CAt B cs ca W from fun W hW => h.below (hW.mono hB))
 obtain ⟨v1, v2, v3, v4, rfl, r1, r2, r3, r4⟩ := h
 obtain ⟨o1, o2, o3, o4⟩ : v1.oneCell' = true ∧ v2.oneCell' = true ∧ v3.oneCell' = true ∧ v4.oneCell' = true := ⟨r1.one, r2.one, r3.one, r4.one⟩
 obtain ⟨m1, m2, m3, m4⟩ := hm
 have HGN := hI (show ca.apply x = (ca, false) from by unfold CA.apply; rw [if_neg (by rw [hok]; simp), if_neg (by rw [hk]; decide), if_neg (by rw [hk]; decide), if_neg (by rw [hk]; decide), if_pos hk, if_pos (.inr h2)])
 obtain ⟨G, hGG⟩ : ∃ G, G = ca.apply x := ⟨_, rfl⟩
 rw [← hGG] at HGN ⊢
 have HCk := hI (fun W => rxCheck_any x W)
 rw [hok] at HCk
 obtain ⟨f1, hf1⟩ : ∃ f, f = fnd (pFile x.up) ca.files := ⟨_, rfl⟩
 have HC1 := hI (show ∀ W, Below w.heap.size w W → Calls Tryz.prog 26 #[.agg #[v1, v2, v3, v4], .string x.up] W fun e w' => e = .returned (.int .i64 f1) ∧ Below W.heap.size W w' from fun W hW => by rw [hf1]; exact ixFile_any [v1, v2, v3, v4] ca x.up W (HCA.out W hW))
 rw [← hf1] at h1
 have d1 : decide (f1 < 0) = false := decide_eq_false (by omega)
 have HC2 := hI (show ∀ W, Below w.heap.size w W → Calls Tryz.prog 52 #[.agg #[v1, v2, v3, v4], .agg x.vs.toArray] W fun e w' => e = .returned (.bool true) ∧ Below W.heap.size W w' from fun W hW => by rw [← h2]; exact ixtaken_any [v1, v2, v3, v4] ca x W (HCB.out W hW) (Nat.le_trans hB hW.size))
 obtain ⟨xk, xe, xs, xu, xn, xc, ⟨a0, a1, a2, a3, a4, a5, a6, a7, a8, a9⟩, xo, xl⟩ := x
 dsimp only at hk
 subst hk
 have HC1 := hI (show ∀ W, Below w.heap.size w W → Calls Tryz.prog 26 #[.agg #[v1, v2, v3, v4], .string xu] W fun e w' => e = .returned (.int .i64 f1) ∧ Below W.heap.size W w' from HC1.out)
 have HC2 := hI (show ∀ W, Below w.heap.size w W → Calls Tryz.prog 52 #[.agg #[v1, v2, v3, v4], .agg #[.int .i64 8, .int .i64 xe, .int .i64 xs, .string xu, .string xn, .string xc, .int .i64 a0, .int .i64 a1, .int .i64 a2, .int .i64 a3, .int .i64 a4, .int .i64 a5, .int .i64 a6, .int .i64 a7, .int .i64 a8, .int .i64 a9, .int .i64 xo, .int .i64 xl]] W fun e w' => e = .returned (.bool true) ∧ Below W.heap.size W w' from HC2.out)
 obtain ⟨w1, hw1⟩ : ∃ w1, w1 = ((w.alloc (.cells #[v1, v2, v3, v4] 27 (0, 0))).alloc (.cells #[.int .i64 8, .int .i64 xe, .int .i64 xs, .string xu, .string xn, .string xc, .int .i64 a0, .int .i64 a1, .int .i64 a2, .int .i64 a3, .int .i64 a4, .int .i64 a5, .int .i64 a6, .int .i64 a7, .int .i64 a8, .int .i64 a9, .int .i64 xo, .int .i64 xl] 40 (0, 0))).alloc (.cells #[.slice none 0 0, .slice none 0 0, .slice none 0 0, .slice none 0 0] 27 (0, 0)) := ⟨_, rfl⟩
 have hb1 : Below w.heap.size w w1 := by rw [hw1]; exact (((Below.refl _ w).alloc (Nat.le_refl _) _).alloc (by simp) _).alloc (by simp; omega) _
 have hs1 : w1.heap.size = w.heap.size + 1 + 1 + 1 := by rw [hw1]; simp
 have st1 : St 27 w.heap.size #[v1, v2, v3, v4] w1 := by rw [hw1]; exact ((St.new w 27 _).alloc _).alloc _
 have st2 : St 40 (w.heap.size + 1) #[.int .i64 8, .int .i64 xe, .int .i64 xs, .string xu, .string xn, .string xc, .int .i64 a0, .int .i64 a1, .int .i64 a2, .int .i64 a3, .int .i64 a4, .int .i64 a5, .int .i64 a6, .int .i64 a7, .int .i64 a8, .int .i64 a9, .int .i64 xo, .int .i64 xl] w1 := by
  rw [hw1]
  refine St.alloc ?_ _
  rw [show w.heap.size + 1 = (w.alloc (.cells #[v1, v2, v3, v4] 27 (0, 0))).heap.size from by simp]; exact St.new _ _ _
 have st3 : St 27 (w.heap.size + 1 + 1) #[.slice none 0 0, .slice none 0 0, .slice none 0 0, .slice none 0 0] w1 := by
  rw [hw1]
  rw [show w.heap.size + 1 + 1 = ((w.alloc (.cells #[v1, v2, v3, v4] 27 (0, 0))).alloc (.cells #[.int .i64 8, .int .i64 xe, .int .i64 xs, .string xu, .string xn, .string xc, .int .i64 a0, .int .i64 a1, .int .i64 a2, .int .i64 a3, .int .i64 a4, .int .i64 a5, .int .i64 a6, .int .i64 a7, .int .i64 a8, .int .i64 a9, .int .i64 xo, .int .i64 xl] 40 (0, 0))).heap.size from by simp]; exact St.new _ _ _
 have ST1 := hI (show ∀ W, Below w1.heap.size w1 W → St 27 w.heap.size #[v1, v2, v3, v4] W from fun W hW => st1.below hW)
 have ST2 := hI (show ∀ W, Below w1.heap.size w1 W → St 40 (w.heap.size + 1) #[.int .i64 8, .int .i64 xe, .int .i64 xs, .string xu, .string xn, .string xc, .int .i64 a0, .int .i64 a1, .int .i64 a2, .int .i64 a3, .int .i64 a4, .int .i64 a5, .int .i64 a6, .int .i64 a7, .int .i64 a8, .int .i64 a9, .int .i64 xo, .int .i64 xl] W from fun W hW => st2.below hW)
 have ST3 := hI (show ∀ W, Below w1.heap.size w1 W → St 27 (w.heap.size + 1 + 1) #[.slice none 0 0, .slice none 0 0, .slice none 0 0, .slice none 0 0] W from fun W hW => st3.below hW)
 have HCall := hI (show Calls Tryz.prog 45 #[.agg #[.int .i64 8, .int .i64 xe, .int .i64 xs, .string xu, .string xn, .string xc, .int .i64 a0, .int .i64 a1, .int .i64 a2, .int .i64 a3, .int .i64 a4, .int .i64 a5, .int .i64 a6, .int .i64 a7, .int .i64 a8, .int .i64 a9, .int .i64 xo, .int .i64 xl]] w1 fun e w' => e = .returned (.bool true) ∧ Below w1.heap.size w1 w' from HCk.out w1)
 have HW1 := hI hw1
 have HB1 := hI hb1
 clear r1 r2 r3 r4 hb1 hw1 st1 st2 st3 hB hGG hok HCk h1 h2 hf1
 show Calls Tryz.prog 16 #[.agg #[v1, v2, v3, v4], .agg #[.int .i64 8, .int .i64 xe, .int .i64 xs, .string xu, .string xn, .string xc, .int .i64 a0, .int .i64 a1, .int .i64 a2, .int .i64 a3, .int .i64 a4, .int .i64 a5, .int .i64 a6, .int .i64 a7, .int .i64 a8, .int .i64 a9, .int .i64 xo, .int .i64 xl]] w _
 go_enter Tryz.func16, Tryz.ntmps16
 go_wp2_with fail
 rw [← HW1.out]
 go_wp2_with (first
  | (go_at_call 45; go_must (with_reducible refine HCall.out.mono ?_); rintro e5 w5 ⟨rfl, b5⟩; have B5w5 := hI (b5); have BBw5 := hI (HB1.out.trans (B5w5.out.mono HB1.out.size)); have cw50 : w5.cell? ⟨w.heap.size, 0, none⟩ = some v1 := (ST1.out w5 B5w5.out).cell rfl; have cw51 : w5.cell? ⟨w.heap.size, 1, none⟩ = some v2 := (ST1.out w5 B5w5.out).cell rfl; have cw52 : w5.cell? ⟨w.heap.size, 2, none⟩ = some v3 := (ST1.out w5 B5w5.out).cell rfl; have cw53 : w5.cell? ⟨w.heap.size, 3, none⟩ = some v4 := (ST1.out w5 B5w5.out).cell rfl; have kw50 : w5.cell? ⟨w.heap.size + 1, 0, none⟩ = some (.int .i64 8) := (ST2.out w5 B5w5.out).cell rfl; have kw51 : w5.cell? ⟨w.heap.size + 1, 1, none⟩ = some (.int .i64 xe) := (ST2.out w5 B5w5.out).cell rfl; have kw52 : w5.cell? ⟨w.heap.size + 1, 2, none⟩ = some (.int .i64 xs) := (ST2.out w5 B5w5.out).cell rfl; have kw53 : w5.cell? ⟨w.heap.size + 1, 3, none⟩ = some (.string xu) := (ST2.out w5 B5w5.out).cell rfl; have kw54 : w5.cell? ⟨w.heap.size + 1, 4, none⟩ = some (.string xn) := (ST2.out w5 B5w5.out).cell rfl; have kw55 : w5.cell? ⟨w.heap.size + 1, 5, none⟩ = some (.string xc) := (ST2.out w5 B5w5.out).cell rfl; have kw516 : w5.cell? ⟨w.heap.size + 1, 16, none⟩ = some (.int .i64 xo) := (ST2.out w5 B5w5.out).cell rfl; have kw517 : w5.cell? ⟨w.heap.size + 1, 17, none⟩ = some (.int .i64 xl) := (ST2.out w5 B5w5.out).cell rfl; clear b5)
  | ((with_reducible show wpList _ _ _ ({ dst := some 79, op := .load 27 _, type := _, pos := _, after := _, guard := _ } :: _) _ _); refine wpList_load_st rfl 27 _ rfl w.heap.size (by first | rfl | simp [Act.eval, Act.put]) 27 #[v1, v2, v3, v4] (ST1.out w5 B5w5.out) _ Tryz.underlying27 rfl (by kernel_rfl) ?_)
  | (go_at_call 26; go_must (with_reducible refine (HC1.out _ BBw5.out).mono ?_); rintro e6 w6 ⟨rfl, b6⟩; have B5w6 := hI (B5w5.out.trans (b6.mono B5w5.out.size)); have BBw6 := hI (HB1.out.trans (B5w6.out.mono HB1.out.size)); have cw60 : w6.cell? ⟨w.heap.size, 0, none⟩ = some v1 := (ST1.out w6 B5w6.out).cell rfl; have cw61 : w6.cell? ⟨w.heap.size, 1, none⟩ = some v2 := (ST1.out w6 B5w6.out).cell rfl; have cw62 : w6.cell? ⟨w.heap.size, 2, none⟩ = some v3 := (ST1.out w6 B5w6.out).cell rfl; have cw63 : w6.cell? ⟨w.heap.size, 3, none⟩ = some v4 := (ST1.out w6 B5w6.out).cell rfl; have kw60 : w6.cell? ⟨w.heap.size + 1, 0, none⟩ = some (.int .i64 8) := (ST2.out w6 B5w6.out).cell rfl; have kw61 : w6.cell? ⟨w.heap.size + 1, 1, none⟩ = some (.int .i64 xe) := (ST2.out w6 B5w6.out).cell rfl; have kw62 : w6.cell? ⟨w.heap.size + 1, 2, none⟩ = some (.int .i64 xs) := (ST2.out w6 B5w6.out).cell rfl; have kw63 : w6.cell? ⟨w.heap.size + 1, 3, none⟩ = some (.string xu) := (ST2.out w6 B5w6.out).cell rfl; have kw64 : w6.cell? ⟨w.heap.size + 1, 4, none⟩ = some (.string xn) := (ST2.out w6 B5w6.out).cell rfl; have kw65 : w6.cell? ⟨w.heap.size + 1, 5, none⟩ = some (.string xc) := (ST2.out w6 B5w6.out).cell rfl; have kw616 : w6.cell? ⟨w.heap.size + 1, 16, none⟩ = some (.int .i64 xo) := (ST2.out w6 B5w6.out).cell rfl; have kw617 : w6.cell? ⟨w.heap.size + 1, 17, none⟩ = some (.int .i64 xl) := (ST2.out w6 B5w6.out).cell rfl; clear b6)
  | ((with_reducible show wpList _ _ _ ({ dst := some 85, op := .load 27 _, type := _, pos := _, after := _, guard := _ } :: _) _ _); refine wpList_load_stg (by rfl) 27 _ rfl w.heap.size (by first | rfl | simp [Act.eval, Act.put]) 27 #[v1, v2, v3, v4] (ST1.out w6 B5w6.out) _ Tryz.underlying27 rfl (by kernel_rfl) ?_)
  | ((with_reducible show wpList _ _ _ ({ dst := some 86, op := .load 40 _, type := _, pos := _, after := _, guard := _ } :: _) _ _); refine wpList_load_stg (by rfl) 40 _ rfl (w.heap.size + 1) (by first | rfl | simp [Act.eval, Act.put]) 40 #[.int .i64 8, .int .i64 xe, .int .i64 xs, .string xu, .string xn, .string xc, .int .i64 a0, .int .i64 a1, .int .i64 a2, .int .i64 a3, .int .i64 a4, .int .i64 a5, .int .i64 a6, .int .i64 a7, .int .i64 a8, .int .i64 a9, .int .i64 xo, .int .i64 xl] (ST2.out w6 B5w6.out) _ Tryz.underlying40 rfl (by kernel_rfl) ?_)
  | (go_at_call 52; go_must (with_reducible refine (HC2.out _ BBw6.out).mono ?_); rintro e7 w7 ⟨rfl, b7⟩; have B5w7 := hI (B5w6.out.trans (b7.mono B5w6.out.size)); have BBw7 := hI (HB1.out.trans (B5w7.out.mono HB1.out.size)); have cw70 : w7.cell? ⟨w.heap.size, 0, none⟩ = some v1 := (ST1.out w7 B5w7.out).cell rfl; have cw71 : w7.cell? ⟨w.heap.size, 1, none⟩ = some v2 := (ST1.out w7 B5w7.out).cell rfl; have cw72 : w7.cell? ⟨w.heap.size, 2, none⟩ = some v3 := (ST1.out w7 B5w7.out).cell rfl; have cw73 : w7.cell? ⟨w.heap.size, 3, none⟩ = some v4 := (ST1.out w7 B5w7.out).cell rfl; have kw70 : w7.cell? ⟨w.heap.size + 1, 0, none⟩ = some (.int .i64 8) := (ST2.out w7 B5w7.out).cell rfl; have kw71 : w7.cell? ⟨w.heap.size + 1, 1, none⟩ = some (.int .i64 xe) := (ST2.out w7 B5w7.out).cell rfl; have kw72 : w7.cell? ⟨w.heap.size + 1, 2, none⟩ = some (.int .i64 xs) := (ST2.out w7 B5w7.out).cell rfl; have kw73 : w7.cell? ⟨w.heap.size + 1, 3, none⟩ = some (.string xu) := (ST2.out w7 B5w7.out).cell rfl; have kw74 : w7.cell? ⟨w.heap.size + 1, 4, none⟩ = some (.string xn) := (ST2.out w7 B5w7.out).cell rfl; have kw75 : w7.cell? ⟨w.heap.size + 1, 5, none⟩ = some (.string xc) := (ST2.out w7 B5w7.out).cell rfl; have kw716 : w7.cell? ⟨w.heap.size + 1, 16, none⟩ = some (.int .i64 xo) := (ST2.out w7 B5w7.out).cell rfl; have kw717 : w7.cell? ⟨w.heap.size + 1, 17, none⟩ = some (.int .i64 xl) := (ST2.out w7 B5w7.out).cell rfl; clear b7)
  | ((with_reducible show wpList _ _ _ ({ dst := some 89, op := .load 27 _, type := _, pos := _, after := _, guard := _ } :: _) _ _); refine wpList_load_st rfl 27 _ rfl w.heap.size (by first | rfl | simp [Act.eval, Act.put]) 27 #[v1, v2, v3, v4] (ST1.out w7 B5w7.out) _ Tryz.underlying27 rfl (by kernel_rfl) ?_)
  | ((with_reducible show wpList _ _ _ ({ dst := _, op := .store 27 _ _, type := _, pos := _, after := _, guard := _ } :: _) _ _); refine wpList_store_st rfl 27 _ _ rfl (w.heap.size + 1 + 1) #[v1, v2, v3, v4] (by first | rfl | simp [Act.eval, Act.put]) (by first | rfl | simp [Act.eval, Act.put]) _ (ST3.out w7 B5w7.out) (by kernel_rfl) rfl (by simp [o1, o2, o3, o4]) ?_; rintro w9 hw9 s9; have S9 := hI s9; have HW9 := hI hw9; clear hw9 s9))
 have hs5 := B5w7.out.size
 have BW : Below w.heap.size w w9 := by rw [HW9.out]; exact below_row BBw7.out (by omega) _
 refine ret_cell2 (r := 4) (t := 5) (x := .bool false) rfl (by simp) (by simp) S9.out Tryz.underlying27 rfl (by kernel_rfl) rfl ?_
 rw [HGN.out]
 exact ⟨[v1, v2, v3, v4], rfl, fun wy hy => HAll.out wy (HY.out w9 wy BW hy), BW⟩
set_option maxRecDepth 100000 in
set_option maxHeartbeats 2000000 in
theorem ixApply_8c {B : Nat} (cs : List Value) (ca : CA) (x : Ch) (w : World) (h : CAt B cs ca w) (hB : B ≤ w.heap.size) (hm : ca.few) (hok : x.ok = true) (hk : x.kind = 8) (h1 : 0 ≤ fnd (pFile x.up) ca.files) (h2 : ca.blocks.any (tkn x) = false) :
 Calls Tryz.prog 16 #[.agg cs.toArray, .agg x.vs.toArray] w fun e w' => ∃ cs', e = .returned (.tuple #[.agg cs'.toArray, .bool (ca.apply x).2]) ∧ CKeep B w.heap.size cs' (ca.apply x).1 w' ∧ Below w.heap.size w w' := by
 have HAll := hI (show ∀ W, Below B w W → CAt W.heap.size cs ca W from fun W hW => (h.below hW).raise (Nat.le_trans hB hW.size))
 have HY := hI (show ∀ W wy, Below w.heap.size w W → Frm (fun j => B ≤ j ∧ j < w.heap.size) W wy → Below B w wy from fun W wy h1 h2 => (h1.mono hB).trans (h2.below (Nat.le_trans hB h1.size) fun j e => e.1))
 have HCA := hI (show ∀ W, Below w.heap.size w W → CAt W.heap.size cs ca W from fun W hW => (h.below (hW.mono hB)).raise (Nat.le_trans hB hW.size))
 have HCB := hI (show ∀ W, Below w.heap.size w W → CAt B cs ca W from fun W hW => h.below (hW.mono hB))
 obtain ⟨v1, v2, v3, v4, rfl, r1, r2, r3, r4⟩ := h
 obtain ⟨o1, o2, o3, o4⟩ : v1.oneCell' = true ∧ v2.oneCell' = true ∧ v3.oneCell' = true ∧ v4.oneCell' = true := ⟨r1.one, r2.one, r3.one, r4.one⟩
 obtain ⟨m1, m2, m3, m4⟩ := hm
 have HGN := hI (show ca.apply x = (⟨ca.helds, ca.files, ca.names, putIn (fun y => !ltBk y ⟨x.up, x.no, x.slot⟩) (fun y => !(decide (y.up = x.up) && decide (y.no = x.no))) ⟨x.up, x.no, x.slot⟩ ca.blocks⟩, true) from by unfold CA.apply; rw [if_neg (by rw [hok]; simp), if_neg (by rw [hk]; decide), if_neg (by rw [hk]; decide), if_neg (by rw [hk]; decide), if_pos hk, if_neg (by rw [h2]; rintro (e | e); omega; cases e)])
 obtain ⟨G, hGG⟩ : ∃ G, G = ca.apply x := ⟨_, rfl⟩
 rw [← hGG] at HGN ⊢
 have HCk := hI (fun W => rxCheck_any x W)
 rw [hok] at HCk
 obtain ⟨f1, hf1⟩ : ∃ f, f = fnd (pFile x.up) ca.files := ⟨_, rfl⟩
 have HC1 := hI (show ∀ W, Below w.heap.size w W → Calls Tryz.prog 26 #[.agg #[v1, v2, v3, v4], .string x.up] W fun e w' => e = .returned (.int .i64 f1) ∧ Below W.heap.size W w' from fun W hW => by rw [hf1]; exact ixFile_any [v1, v2, v3, v4] ca x.up W (HCA.out W hW))
 rw [← hf1] at h1
 have d1 : decide (f1 < 0) = false := decide_eq_false (by omega)
 have HC2 := hI (show ∀ W, Below w.heap.size w W → Calls Tryz.prog 52 #[.agg #[v1, v2, v3, v4], .agg x.vs.toArray] W fun e w' => e = .returned (.bool false) ∧ Below W.heap.size W w' from fun W hW => by rw [← h2]; exact ixtaken_any [v1, v2, v3, v4] ca x W (HCB.out W hW) (Nat.le_trans hB hW.size))
 obtain ⟨xs', hxs'⟩ : ∃ l, l = putIn (fun y => !ltBk y ⟨x.up, x.no, x.slot⟩) (fun y => !(decide (y.up = x.up) && decide (y.no = x.no))) ⟨x.up, x.no, x.slot⟩ ca.blocks := ⟨_, rfl⟩
 rw [← hxs'] at HGN
 have HP := hI (show ∀ W, Below w.heap.size w W → Calls Tryz.prog 53 #[v4, .agg (Bk.vs ⟨x.up, x.no, x.slot⟩).toArray] W fun e w' => ∃ u, e = .returned u ∧ OwnAt 66 3 Bk.vs (W.heap.size + 1) u xs' w' ∧ Below W.heap.size W w' from fun W hW => by rw [hxs']; exact ixputBlock_any v4 ca.blocks ⟨x.up, x.no, x.slot⟩ W (r4.below (hW.mono hB)) (Nat.le_trans hB hW.size) m4)
 clear hxs'
 obtain ⟨xk, xe, xs, xu, xn, xc, ⟨a0, a1, a2, a3, a4, a5, a6, a7, a8, a9⟩, xo, xl⟩ := x
 dsimp only at hk
 subst hk
 have HC1 := hI (show ∀ W, Below w.heap.size w W → Calls Tryz.prog 26 #[.agg #[v1, v2, v3, v4], .string xu] W fun e w' => e = .returned (.int .i64 f1) ∧ Below W.heap.size W w' from HC1.out)
 have HC2 := hI (show ∀ W, Below w.heap.size w W → Calls Tryz.prog 52 #[.agg #[v1, v2, v3, v4], .agg #[.int .i64 8, .int .i64 xe, .int .i64 xs, .string xu, .string xn, .string xc, .int .i64 a0, .int .i64 a1, .int .i64 a2, .int .i64 a3, .int .i64 a4, .int .i64 a5, .int .i64 a6, .int .i64 a7, .int .i64 a8, .int .i64 a9, .int .i64 xo, .int .i64 xl]] W fun e w' => e = .returned (.bool false) ∧ Below W.heap.size W w' from HC2.out)
 have HP := hI (show ∀ W, Below w.heap.size w W → Calls Tryz.prog 53 #[v4, .agg #[.string xu, .int .i64 xo, .int .i64 xl]] W fun e w' => ∃ u, e = .returned u ∧ OwnAt 66 3 Bk.vs (W.heap.size + 1) u xs' w' ∧ Below W.heap.size W w' from HP.out)
 obtain ⟨w1, hw1⟩ : ∃ w1, w1 = ((w.alloc (.cells #[v1, v2, v3, v4] 27 (0, 0))).alloc (.cells #[.int .i64 8, .int .i64 xe, .int .i64 xs, .string xu, .string xn, .string xc, .int .i64 a0, .int .i64 a1, .int .i64 a2, .int .i64 a3, .int .i64 a4, .int .i64 a5, .int .i64 a6, .int .i64 a7, .int .i64 a8, .int .i64 a9, .int .i64 xo, .int .i64 xl] 40 (0, 0))).alloc (.cells #[.slice none 0 0, .slice none 0 0, .slice none 0 0, .slice none 0 0] 27 (0, 0)) := ⟨_, rfl⟩
 have hb1 : Below w.heap.size w w1 := by rw [hw1]; exact (((Below.refl _ w).alloc (Nat.le_refl _) _).alloc (by simp) _).alloc (by simp; omega) _
 have hs1 : w1.heap.size = w.heap.size + 1 + 1 + 1 := by rw [hw1]; simp
 have st1 : St 27 w.heap.size #[v1, v2, v3, v4] w1 := by rw [hw1]; exact ((St.new w 27 _).alloc _).alloc _
 have st2 : St 40 (w.heap.size + 1) #[.int .i64 8, .int .i64 xe, .int .i64 xs, .string xu, .string xn, .string xc, .int .i64 a0, .int .i64 a1, .int .i64 a2, .int .i64 a3, .int .i64 a4, .int .i64 a5, .int .i64 a6, .int .i64 a7, .int .i64 a8, .int .i64 a9, .int .i64 xo, .int .i64 xl] w1 := by
  rw [hw1]
  refine St.alloc ?_ _
  rw [show w.heap.size + 1 = (w.alloc (.cells #[v1, v2, v3, v4] 27 (0, 0))).heap.size from by simp]; exact St.new _ _ _
 have st3 : St 27 (w.heap.size + 1 + 1) #[.slice none 0 0, .slice none 0 0, .slice none 0 0, .slice none 0 0] w1 := by
  rw [hw1]
  rw [show w.heap.size + 1 + 1 = ((w.alloc (.cells #[v1, v2, v3, v4] 27 (0, 0))).alloc (.cells #[.int .i64 8, .int .i64 xe, .int .i64 xs, .string xu, .string xn, .string xc, .int .i64 a0, .int .i64 a1, .int .i64 a2, .int .i64 a3, .int .i64 a4, .int .i64 a5, .int .i64 a6, .int .i64 a7, .int .i64 a8, .int .i64 a9, .int .i64 xo, .int .i64 xl] 40 (0, 0))).heap.size from by simp]; exact St.new _ _ _
 have ST1 := hI (show ∀ W, Below w1.heap.size w1 W → St 27 w.heap.size #[v1, v2, v3, v4] W from fun W hW => st1.below hW)
 have ST2 := hI (show ∀ W, Below w1.heap.size w1 W → St 40 (w.heap.size + 1) #[.int .i64 8, .int .i64 xe, .int .i64 xs, .string xu, .string xn, .string xc, .int .i64 a0, .int .i64 a1, .int .i64 a2, .int .i64 a3, .int .i64 a4, .int .i64 a5, .int .i64 a6, .int .i64 a7, .int .i64 a8, .int .i64 a9, .int .i64 xo, .int .i64 xl] W from fun W hW => st2.below hW)
 have ST3 := hI (show ∀ W, Below w1.heap.size w1 W → St 27 (w.heap.size + 1 + 1) #[.slice none 0 0, .slice none 0 0, .slice none 0 0, .slice none 0 0] W from fun W hW => st3.below hW)
 have HCall := hI (show Calls Tryz.prog 45 #[.agg #[.int .i64 8, .int .i64 xe, .int .i64 xs, .string xu, .string xn, .string xc, .int .i64 a0, .int .i64 a1, .int .i64 a2, .int .i64 a3, .int .i64 a4, .int .i64 a5, .int .i64 a6, .int .i64 a7, .int .i64 a8, .int .i64 a9, .int .i64 xo, .int .i64 xl]] w1 fun e w' => e = .returned (.bool true) ∧ Below w1.heap.size w1 w' from HCk.out w1)
 have HW1 := hI hw1
 have HB1 := hI hb1
 clear r1 r2 r3 r4 hb1 hw1 st1 st2 st3 hB hGG hok HCk h1 h2 hf1
 show Calls Tryz.prog 16 #[.agg #[v1, v2, v3, v4], .agg #[.int .i64 8, .int .i64 xe, .int .i64 xs, .string xu, .string xn, .string xc, .int .i64 a0, .int .i64 a1, .int .i64 a2, .int .i64 a3, .int .i64 a4, .int .i64 a5, .int .i64 a6, .int .i64 a7, .int .i64 a8, .int .i64 a9, .int .i64 xo, .int .i64 xl]] w _
 go_enter Tryz.func16, Tryz.ntmps16
 go_wp2_with fail
 rw [← HW1.out]
 go_wp2_with (first
  | (go_at_call 45; go_must (with_reducible refine HCall.out.mono ?_); rintro e5 w5 ⟨rfl, b5⟩; have B5w5 := hI (b5); have BBw5 := hI (HB1.out.trans (B5w5.out.mono HB1.out.size)); have cw50 : w5.cell? ⟨w.heap.size, 0, none⟩ = some v1 := (ST1.out w5 B5w5.out).cell rfl; have cw51 : w5.cell? ⟨w.heap.size, 1, none⟩ = some v2 := (ST1.out w5 B5w5.out).cell rfl; have cw52 : w5.cell? ⟨w.heap.size, 2, none⟩ = some v3 := (ST1.out w5 B5w5.out).cell rfl; have cw53 : w5.cell? ⟨w.heap.size, 3, none⟩ = some v4 := (ST1.out w5 B5w5.out).cell rfl; have kw50 : w5.cell? ⟨w.heap.size + 1, 0, none⟩ = some (.int .i64 8) := (ST2.out w5 B5w5.out).cell rfl; have kw51 : w5.cell? ⟨w.heap.size + 1, 1, none⟩ = some (.int .i64 xe) := (ST2.out w5 B5w5.out).cell rfl; have kw52 : w5.cell? ⟨w.heap.size + 1, 2, none⟩ = some (.int .i64 xs) := (ST2.out w5 B5w5.out).cell rfl; have kw53 : w5.cell? ⟨w.heap.size + 1, 3, none⟩ = some (.string xu) := (ST2.out w5 B5w5.out).cell rfl; have kw54 : w5.cell? ⟨w.heap.size + 1, 4, none⟩ = some (.string xn) := (ST2.out w5 B5w5.out).cell rfl; have kw55 : w5.cell? ⟨w.heap.size + 1, 5, none⟩ = some (.string xc) := (ST2.out w5 B5w5.out).cell rfl; have kw516 : w5.cell? ⟨w.heap.size + 1, 16, none⟩ = some (.int .i64 xo) := (ST2.out w5 B5w5.out).cell rfl; have kw517 : w5.cell? ⟨w.heap.size + 1, 17, none⟩ = some (.int .i64 xl) := (ST2.out w5 B5w5.out).cell rfl; clear b5)
  | ((with_reducible show wpList _ _ _ ({ dst := some 79, op := .load 27 _, type := _, pos := _, after := _, guard := _ } :: _) _ _); refine wpList_load_st rfl 27 _ rfl w.heap.size (by first | rfl | simp [Act.eval, Act.put]) 27 #[v1, v2, v3, v4] (ST1.out w5 B5w5.out) _ Tryz.underlying27 rfl (by kernel_rfl) ?_)
  | (go_at_call 26; go_must (with_reducible refine (HC1.out _ BBw5.out).mono ?_); rintro e6 w6 ⟨rfl, b6⟩; have B5w6 := hI (B5w5.out.trans (b6.mono B5w5.out.size)); have BBw6 := hI (HB1.out.trans (B5w6.out.mono HB1.out.size)); have cw60 : w6.cell? ⟨w.heap.size, 0, none⟩ = some v1 := (ST1.out w6 B5w6.out).cell rfl; have cw61 : w6.cell? ⟨w.heap.size, 1, none⟩ = some v2 := (ST1.out w6 B5w6.out).cell rfl; have cw62 : w6.cell? ⟨w.heap.size, 2, none⟩ = some v3 := (ST1.out w6 B5w6.out).cell rfl; have cw63 : w6.cell? ⟨w.heap.size, 3, none⟩ = some v4 := (ST1.out w6 B5w6.out).cell rfl; have kw60 : w6.cell? ⟨w.heap.size + 1, 0, none⟩ = some (.int .i64 8) := (ST2.out w6 B5w6.out).cell rfl; have kw61 : w6.cell? ⟨w.heap.size + 1, 1, none⟩ = some (.int .i64 xe) := (ST2.out w6 B5w6.out).cell rfl; have kw62 : w6.cell? ⟨w.heap.size + 1, 2, none⟩ = some (.int .i64 xs) := (ST2.out w6 B5w6.out).cell rfl; have kw63 : w6.cell? ⟨w.heap.size + 1, 3, none⟩ = some (.string xu) := (ST2.out w6 B5w6.out).cell rfl; have kw64 : w6.cell? ⟨w.heap.size + 1, 4, none⟩ = some (.string xn) := (ST2.out w6 B5w6.out).cell rfl; have kw65 : w6.cell? ⟨w.heap.size + 1, 5, none⟩ = some (.string xc) := (ST2.out w6 B5w6.out).cell rfl; have kw616 : w6.cell? ⟨w.heap.size + 1, 16, none⟩ = some (.int .i64 xo) := (ST2.out w6 B5w6.out).cell rfl; have kw617 : w6.cell? ⟨w.heap.size + 1, 17, none⟩ = some (.int .i64 xl) := (ST2.out w6 B5w6.out).cell rfl; clear b6)
  | ((with_reducible show wpList _ _ _ ({ dst := some 85, op := .load 27 _, type := _, pos := _, after := _, guard := _ } :: _) _ _); refine wpList_load_stg (by rfl) 27 _ rfl w.heap.size (by first | rfl | simp [Act.eval, Act.put]) 27 #[v1, v2, v3, v4] (ST1.out w6 B5w6.out) _ Tryz.underlying27 rfl (by kernel_rfl) ?_)
  | ((with_reducible show wpList _ _ _ ({ dst := some 86, op := .load 40 _, type := _, pos := _, after := _, guard := _ } :: _) _ _); refine wpList_load_stg (by rfl) 40 _ rfl (w.heap.size + 1) (by first | rfl | simp [Act.eval, Act.put]) 40 #[.int .i64 8, .int .i64 xe, .int .i64 xs, .string xu, .string xn, .string xc, .int .i64 a0, .int .i64 a1, .int .i64 a2, .int .i64 a3, .int .i64 a4, .int .i64 a5, .int .i64 a6, .int .i64 a7, .int .i64 a8, .int .i64 a9, .int .i64 xo, .int .i64 xl] (ST2.out w6 B5w6.out) _ Tryz.underlying40 rfl (by kernel_rfl) ?_)
  | (go_at_call 52; go_must (with_reducible refine (HC2.out _ BBw6.out).mono ?_); rintro e7 w7 ⟨rfl, b7⟩; have B5w7 := hI (B5w6.out.trans (b7.mono B5w6.out.size)); have BBw7 := hI (HB1.out.trans (B5w7.out.mono HB1.out.size)); have cw70 : w7.cell? ⟨w.heap.size, 0, none⟩ = some v1 := (ST1.out w7 B5w7.out).cell rfl; have cw71 : w7.cell? ⟨w.heap.size, 1, none⟩ = some v2 := (ST1.out w7 B5w7.out).cell rfl; have cw72 : w7.cell? ⟨w.heap.size, 2, none⟩ = some v3 := (ST1.out w7 B5w7.out).cell rfl; have cw73 : w7.cell? ⟨w.heap.size, 3, none⟩ = some v4 := (ST1.out w7 B5w7.out).cell rfl; have kw70 : w7.cell? ⟨w.heap.size + 1, 0, none⟩ = some (.int .i64 8) := (ST2.out w7 B5w7.out).cell rfl; have kw71 : w7.cell? ⟨w.heap.size + 1, 1, none⟩ = some (.int .i64 xe) := (ST2.out w7 B5w7.out).cell rfl; have kw72 : w7.cell? ⟨w.heap.size + 1, 2, none⟩ = some (.int .i64 xs) := (ST2.out w7 B5w7.out).cell rfl; have kw73 : w7.cell? ⟨w.heap.size + 1, 3, none⟩ = some (.string xu) := (ST2.out w7 B5w7.out).cell rfl; have kw74 : w7.cell? ⟨w.heap.size + 1, 4, none⟩ = some (.string xn) := (ST2.out w7 B5w7.out).cell rfl; have kw75 : w7.cell? ⟨w.heap.size + 1, 5, none⟩ = some (.string xc) := (ST2.out w7 B5w7.out).cell rfl; have kw716 : w7.cell? ⟨w.heap.size + 1, 16, none⟩ = some (.int .i64 xo) := (ST2.out w7 B5w7.out).cell rfl; have kw717 : w7.cell? ⟨w.heap.size + 1, 17, none⟩ = some (.int .i64 xl) := (ST2.out w7 B5w7.out).cell rfl; clear b7)
  | (go_at_call 53; go_must (with_reducible refine (HP.out _ BBw7.out).mono ?_); rintro e8 w8 ⟨u, rfl, q8, b8⟩; have ou := q8.one; have B8 := hI (B5w7.out.trans (b8.mono B5w7.out.size)); have BB8 := hI (HB1.out.trans (B8.out.mono HB1.out.size)); have fz := (ST1.out w8 B8.out).free 3; have cz : w8.cell? ⟨w.heap.size, 3, none⟩ = some v4 := (ST1.out w8 B8.out).cell rfl; have SL := hI (show St 27 w.heap.size #[v1, v2, v3, u] (w8.setCell ⟨w.heap.size, 3, none⟩ u) from (ST1.out w8 B8.out).set 3 _); have SD := hI (show St 27 (w.heap.size + 1 + 1) #[.slice none 0 0, .slice none 0 0, .slice none 0 0, .slice none 0 0] (w8.setCell ⟨w.heap.size, 3, none⟩ u) from (ST3.out w8 B8.out).other _ _ _ (by omega)); have Q8 := hI q8; obtain ⟨ua, un, uc, rfl⟩ := q8.slice; clear q8 b8)
  | ((with_reducible show wpList _ _ _ ({ dst := some 101, op := .load 27 _, type := _, pos := _, after := _, guard := _ } :: _) _ _); refine wpList_load_st rfl 27 _ rfl w.heap.size (by first | rfl | simp [Act.eval, Act.put]) 27 #[v1, v2, v3, .slice ua un uc] SL.out _ Tryz.underlying27 rfl (by kernel_rfl) ?_)
  | ((with_reducible show wpList _ _ _ ({ dst := _, op := .store 27 _ _, type := _, pos := _, after := _, guard := _ } :: _) _ _); refine wpList_store_st rfl 27 _ _ rfl (w.heap.size + 1 + 1) #[v1, v2, v3, .slice ua un uc] (by first | rfl | simp [Act.eval, Act.put]) (by first | rfl | simp [Act.eval, Act.put]) _ SD.out (by kernel_rfl) rfl (by simp [o1, o2, o3]; try rfl) ?_; rintro wz hwz sz; have SZ := hI sz; have HWZ := hI hwz; clear hwz sz))
 have FR : Frm (fun j => j = w.heap.size ∨ j = w.heap.size + 1 + 1) w8 wz := by
  rw [HWZ.out]
  exact ((Frm.refl _ w8).setCell (.inl (.inl rfl)) _).next ⟨rfl, rfl, rfl, by simp, fun j hj hn => Go.setRow_other _ _ j _ (fun e => hn (.inr e))⟩
 have hs10 := BB8.out.size
 have hs5 := B5w7.out.size
 have RK := FR.own Q8.out fun k hk e => by
  have := (World.ownsRow.lt Q8.out k hk).1
  rcases e with e | e <;> omega
 have BW : Below w.heap.size w wz := BB8.out.trans (FR.below (by omega) (fun j e => by rcases e with e | e <;> omega))
 refine ret_cell2 (r := 4) (t := 5) (x := .bool true) rfl (by simp) (by simp) SZ.out Tryz.underlying27 rfl (by kernel_rfl) rfl ?_
 rw [HGN.out]
 refine ⟨[v1, v2, v3, .slice ua un uc], rfl, fun wy hy => ?_, BW⟩
 obtain ⟨_, _, _, _, e, q1, q2, q3, _⟩ := HAll.out wy (HY.out wz wy BW hy)
 simp only [List.cons.injEq, and_true] at e
 obtain ⟨rfl, rfl, rfl, rfl⟩ := e
 have RY := hy.own RK fun k hk e => by
  have := (World.ownsRow.lt RK k hk).1
  omega
 exact ⟨_, _, _, _, rfl, q1, q2, q3, RowsAt.own Bk.vs_length RY⟩
end Go.Proofs.YtngfknplljedeaaGreat
