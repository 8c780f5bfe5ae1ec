/- Lemmas for the laws of index. -/
import Derived.Test.YtngfknplljedeaaGreatZrB0
import Derived.Test.YtngfknplljedeaaGreatZrC2
import Derived.Test.YtngfknplljedeaaGreatZrC7
import Derived.Test.YtngfknplljedeaaGreatZrC9
import Derived.Test.YtngfknplljedeaaGreatZrC4
import Derived.Test.YtngfknplljedeaaGreatZrHi
namespace Go.Proofs.YtngfknplljedeaaGreat
open Go.RowKit
set_option maxRecDepth 100000 in
set_option maxHeartbeats 2000000 in
theorem ixApply_no {B : Nat} (cs : List Value) (ca : CA) (x : Ch) (w : World) (h : CAt B cs ca w) (hB : B ≤ w.heap.size) (hk : x.ok = false) :
 Calls Tryz.prog 16 #[.agg cs.toArray, .agg x.vs.toArray] w fun e w' => ∃ cs', e = .returned (.tuple #[.agg cs'.toArray, .bool (ca.apply x).2]) ∧ CKeep B w.heap.size cs' (ca.apply x).1 w' ∧ Below w.heap.size w w' := by
 have HAll := hI (show ∀ W, Below B w W → CAt W.heap.size cs ca W from fun W hW => (h.below hW).raise (Nat.le_trans hB hW.size))
 have HY := hI (show ∀ W wy, Below w.heap.size w W → Frm (fun j => B ≤ j ∧ j < w.heap.size) W wy → Below B w wy from fun W wy h1 h2 => (h1.mono hB).trans (h2.below (Nat.le_trans hB h1.size) fun j e => e.1))
 obtain ⟨v1, v2, v3, v4, rfl, r1, r2, r3, r4⟩ := h
 obtain ⟨o1, o2, o3, o4⟩ : v1.oneCell' = true ∧ v2.oneCell' = true ∧ v3.oneCell' = true ∧ v4.oneCell' = true := ⟨r1.one, r2.one, r3.one, r4.one⟩
 have HGN := hI (show ca.apply x = (ca, false) from by unfold CA.apply; rw [if_pos hk])
 obtain ⟨G, hGG⟩ : ∃ G, G = ca.apply x := ⟨_, rfl⟩
 rw [← hGG] at HGN ⊢
 have HCk := hI (fun W => rxCheck_any x W)
 rw [hk] at HCk
 obtain ⟨xk, xe, xs, xu, xn, xc, ⟨a0, a1, a2, a3, a4, a5, a6, a7, a8, a9⟩, xo, xl⟩ := x
 obtain ⟨w1, hw1⟩ : ∃ w1, w1 = ((w.alloc (.cells #[v1, v2, v3, v4] 27 (0, 0))).alloc (.cells #[.int .i64 xk, .int .i64 xe, .int .i64 xs, .string xu, .string xn, .string xc, .int .i64 a0, .int .i64 a1, .int .i64 a2, .int .i64 a3, .int .i64 a4, .int .i64 a5, .int .i64 a6, .int .i64 a7, .int .i64 a8, .int .i64 a9, .int .i64 xo, .int .i64 xl] 40 (0, 0))).alloc (.cells #[.slice none 0 0, .slice none 0 0, .slice none 0 0, .slice none 0 0] 27 (0, 0)) := ⟨_, rfl⟩
 have hb1 : Below w.heap.size w w1 := by rw [hw1]; exact (((Below.refl _ w).alloc (Nat.le_refl _) _).alloc (by simp) _).alloc (by simp; omega) _
 have hs1 : w1.heap.size = w.heap.size + 1 + 1 + 1 := by rw [hw1]; simp
 have st1 : St 27 w.heap.size #[v1, v2, v3, v4] w1 := by rw [hw1]; exact ((St.new w 27 _).alloc _).alloc _
 have st3 : St 27 (w.heap.size + 1 + 1) #[.slice none 0 0, .slice none 0 0, .slice none 0 0, .slice none 0 0] w1 := by
  rw [hw1]
  rw [show w.heap.size + 1 + 1 = ((w.alloc (.cells #[v1, v2, v3, v4] 27 (0, 0))).alloc (.cells #[.int .i64 xk, .int .i64 xe, .int .i64 xs, .string xu, .string xn, .string xc, .int .i64 a0, .int .i64 a1, .int .i64 a2, .int .i64 a3, .int .i64 a4, .int .i64 a5, .int .i64 a6, .int .i64 a7, .int .i64 a8, .int .i64 a9, .int .i64 xo, .int .i64 xl] 40 (0, 0))).heap.size from by simp]; exact St.new _ _ _
 have ST1 := hI (show ∀ W, Below w1.heap.size w1 W → St 27 w.heap.size #[v1, v2, v3, v4] W from fun W hW => st1.below hW)
 have ST3 := hI (show ∀ W, Below w1.heap.size w1 W → St 27 (w.heap.size + 1 + 1) #[.slice none 0 0, .slice none 0 0, .slice none 0 0, .slice none 0 0] W from fun W hW => st3.below hW)
 have HCall := hI (show Calls Tryz.prog 45 #[.agg #[.int .i64 xk, .int .i64 xe, .int .i64 xs, .string xu, .string xn, .string xc, .int .i64 a0, .int .i64 a1, .int .i64 a2, .int .i64 a3, .int .i64 a4, .int .i64 a5, .int .i64 a6, .int .i64 a7, .int .i64 a8, .int .i64 a9, .int .i64 xo, .int .i64 xl]] w1 fun e w' => e = .returned (.bool false) ∧ Below w1.heap.size w1 w' from HCk.out w1)
 have HW1 := hI hw1
 have HB1 := hI hb1
 clear r1 r2 r3 r4 hb1 hw1 st1 st3 hB hGG hk HCk
 show Calls Tryz.prog 16 #[.agg #[v1, v2, v3, v4], .agg #[.int .i64 xk, .int .i64 xe, .int .i64 xs, .string xu, .string xn, .string xc, .int .i64 a0, .int .i64 a1, .int .i64 a2, .int .i64 a3, .int .i64 a4, .int .i64 a5, .int .i64 a6, .int .i64 a7, .int .i64 a8, .int .i64 a9, .int .i64 xo, .int .i64 xl]] w _
 go_enter Tryz.func16, Tryz.ntmps16
 go_wp2_with fail
 rw [← HW1.out]
 go_wp2_with (first
  | (go_at_call 45; go_must (with_reducible refine HCall.out.mono ?_); rintro e5 w5 ⟨rfl, b5⟩; have B5 := hI b5; have HL := hI (ST1.out w5 b5); have HD := hI (ST3.out w5 b5); clear b5)
  | ((with_reducible show wpList _ _ _ ({ dst := _, op := .load 27 _, type := _, pos := _, after := _, guard := _ } :: _) _ _); refine wpList_load_st rfl 27 _ rfl w.heap.size (by simp [Act.eval]) 27 #[v1, v2, v3, v4] HL.out _ Tryz.underlying27 rfl (by kernel_rfl) ?_)
  | ((with_reducible show wpList _ _ _ ({ dst := _, op := .store 27 _ _, type := _, pos := _, after := _, guard := _ } :: _) _ _); refine wpList_store_st rfl 27 _ _ rfl (w.heap.size + 1 + 1) #[v1, v2, v3, v4] (by simp [Act.eval, Act.put]) (by simp [Act.eval, Act.put]) _ HD.out (by kernel_rfl) rfl (by simp [o1, o2, o3, o4]) ?_; rintro w9 hw9 s9; have S9 := hI s9; have HW9 := hI hw9; clear hw9 s9))
 have hs5 := B5.out.size
 have BW : Below w.heap.size w w9 := by rw [HW9.out]; exact below_row (HB1.out.trans (B5.out.mono HB1.out.size)) (by omega) _
 refine ret_cell2 (r := 4) (t := 5) (x := .bool false) rfl (by simp) (by simp) S9.out Tryz.underlying27 rfl (by kernel_rfl) rfl ?_
 rw [HGN.out]
 exact ⟨[v1, v2, v3, v4], rfl, fun wy hy => HAll.out wy (HY.out w9 wy BW hy), BW⟩
theorem ixgoes_any {B : Nat} (cs : List Value) (ca : CA) (x : Ch) (w : World) (h : CAt B cs ca w) (hB : B ≤ w.heap.size) (hm : ca.few) :
 Calls Tryz.prog 54 #[.agg cs.toArray, .agg x.vs.toArray] w fun e w' => ∃ cs', e = .returned (.tuple #[.agg cs'.toArray, .bool (ca.goes x).2]) ∧ CKeep B w.heap.size cs' (ca.goes x).1 w' ∧ Below w.heap.size w w' := by
 obtain ⟨m1, m2, m3, m4⟩ := hm
 by_cases k2 : x.kind = 2
 · exact ixgoes_2 cs ca x w h hB m1 k2
 by_cases k4 : x.kind = 4
 · exact ixgoes_4 cs ca x w h hB m2 m3 m4 k4
 by_cases k5 : x.kind = 5
 · exact ixgoes_5 cs ca x w h hB m3 m4 k5
 by_cases k7 : x.kind = 7
 · exact ixgoes_7 cs ca x w h hB m3 k7
 exact ixgoes_9 cs ca x w h hB m4 k2 k4 k5 k7
end Go.Proofs.YtngfknplljedeaaGreat
