/- Lemmas for the laws of index. -/
import Derived.Test.YtngfknplljedeaaGreatZr21
import Derived.Test.YtngfknplljedeaaGreatZrB3
import Derived.Test.YtngfknplljedeaaGreatZrB4
import Derived.Test.YtngfknplljedeaaGreatZrB5
import Derived.Test.YtngfknplljedeaaGreatZrHi
namespace Go.Proofs.YtngfknplljedeaaGreat
open Go.RowKit
set_option maxRecDepth 100000 in
set_option maxHeartbeats 2000000 in
theorem ixApply_go {B : Nat} (cs : List Value) (ca : CA) (x : Ch) (w : World) (h : CAt B cs ca w) (hB : B ≤ w.heap.size) (hm : ca.few) (hk : x.ok = true) (h1 : x.kind ≠ 1) (h3 : x.kind ≠ 3) (h6 : x.kind ≠ 6) (h8 : x.kind ≠ 8) :
 Calls Tryz.prog 16 #[.agg cs.toArray, .agg x.vs.toArray] w fun e w' => ∃ cs', e = .returned (.tuple #[.agg cs'.toArray, .bool (ca.apply x).2]) ∧ CKeep B w.heap.size cs' (ca.apply x).1 w' ∧ Below w.heap.size w w' := by
 have HAll := hI (show ∀ W, Below B w W → CAt W.heap.size cs ca W from fun W hW => (h.below hW).raise (Nat.le_trans hB hW.size))
 have HY := hI (show ∀ W wy, Below w.heap.size w W → Frm (fun j => B ≤ j ∧ j < w.heap.size) W wy → Below B w wy from fun W wy h1 h2 => (h1.mono hB).trans (h2.below (Nat.le_trans hB h1.size) fun j e => e.1))
 obtain ⟨v1, v2, v3, v4, rfl, r1, r2, r3, r4⟩ := h
 obtain ⟨o1, o2, o3, o4⟩ : v1.oneCell' = true ∧ v2.oneCell' = true ∧ v3.oneCell' = true ∧ v4.oneCell' = true := ⟨r1.one, r2.one, r3.one, r4.one⟩
 have HGN := hI (show ca.apply x = ca.goes x from by unfold CA.apply; rw [if_neg (by rw [hk]; simp), if_neg h1, if_neg h3, if_neg h6, if_neg h8])
 obtain ⟨G, hGG⟩ : ∃ G, G = ca.apply x := ⟨_, rfl⟩
 rw [← hGG] at HGN ⊢
 have HCk := hI (fun W => rxCheck_any x W)
 have HGo := hI (show ∀ W, Below B w W → B ≤ W.heap.size → Calls Tryz.prog 54 #[.agg #[v1, v2, v3, v4], .agg x.vs.toArray] W fun e w' => ∃ cs', e = .returned (.tuple #[.agg cs'.toArray, .bool G.2]) ∧ CKeep B W.heap.size cs' G.1 w' ∧ Below W.heap.size W w' from fun W hW hBW => by rw [HGN.out]; exact ixgoes_any [v1, v2, v3, v4] ca x W ((show CAt B [v1, v2, v3, v4] ca w from ⟨v1, v2, v3, v4, rfl, r1, r2, r3, r4⟩).below hW) hBW hm)
 rw [hk] at HCk
 obtain ⟨xk, xe, xs, xu, xn, xc, ⟨a0, a1, a2, a3, a4, a5, a6, a7, a8, a9⟩, xo, xl⟩ := x
 dsimp only at h1 h3 h6 h8
 have e1 : (xk == 1) = false := beq_eq_false_iff_ne.2 h1
 have e3 : (xk == 3) = false := beq_eq_false_iff_ne.2 h3
 have e6 : (xk == 6) = false := beq_eq_false_iff_ne.2 h6
 have e8 : (xk == 8) = false := beq_eq_false_iff_ne.2 h8
 obtain ⟨w1, hw1⟩ : ∃ w1, w1 = ((w.alloc (.cells #[v1, v2, v3, v4] 27 (0, 0))).alloc (.cells #[.int .i64 xk, .int .i64 xe, .int .i64 xs, .string xu, .string xn, .string xc, .int .i64 a0, .int .i64 a1, .int .i64 a2, .int .i64 a3, .int .i64 a4, .int .i64 a5, .int .i64 a6, .int .i64 a7, .int .i64 a8, .int .i64 a9, .int .i64 xo, .int .i64 xl] 40 (0, 0))).alloc (.cells #[.slice none 0 0, .slice none 0 0, .slice none 0 0, .slice none 0 0] 27 (0, 0)) := ⟨_, rfl⟩
 have hb1 : Below w.heap.size w w1 := by rw [hw1]; exact (((Below.refl _ w).alloc (Nat.le_refl _) _).alloc (by simp) _).alloc (by simp; omega) _
 have hs1 : w1.heap.size = w.heap.size + 1 + 1 + 1 := by rw [hw1]; simp
 have st1 : St 27 w.heap.size #[v1, v2, v3, v4] w1 := by rw [hw1]; exact ((St.new w 27 _).alloc _).alloc _
 have st2 : St 40 (w.heap.size + 1) #[.int .i64 xk, .int .i64 xe, .int .i64 xs, .string xu, .string xn, .string xc, .int .i64 a0, .int .i64 a1, .int .i64 a2, .int .i64 a3, .int .i64 a4, .int .i64 a5, .int .i64 a6, .int .i64 a7, .int .i64 a8, .int .i64 a9, .int .i64 xo, .int .i64 xl] w1 := by
  rw [hw1]
  refine St.alloc ?_ _
  rw [show w.heap.size + 1 = (w.alloc (.cells #[v1, v2, v3, v4] 27 (0, 0))).heap.size from by simp]; exact St.new _ _ _
 have st3 : St 27 (w.heap.size + 1 + 1) #[.slice none 0 0, .slice none 0 0, .slice none 0 0, .slice none 0 0] w1 := by
  rw [hw1]
  rw [show w.heap.size + 1 + 1 = ((w.alloc (.cells #[v1, v2, v3, v4] 27 (0, 0))).alloc (.cells #[.int .i64 xk, .int .i64 xe, .int .i64 xs, .string xu, .string xn, .string xc, .int .i64 a0, .int .i64 a1, .int .i64 a2, .int .i64 a3, .int .i64 a4, .int .i64 a5, .int .i64 a6, .int .i64 a7, .int .i64 a8, .int .i64 a9, .int .i64 xo, .int .i64 xl] 40 (0, 0))).heap.size from by simp]; exact St.new _ _ _
 have ST1 := hI (show ∀ W, Below w1.heap.size w1 W → St 27 w.heap.size #[v1, v2, v3, v4] W from fun W hW => st1.below hW)
 have ST2 := hI (show ∀ W, Below w1.heap.size w1 W → St 40 (w.heap.size + 1) #[.int .i64 xk, .int .i64 xe, .int .i64 xs, .string xu, .string xn, .string xc, .int .i64 a0, .int .i64 a1, .int .i64 a2, .int .i64 a3, .int .i64 a4, .int .i64 a5, .int .i64 a6, .int .i64 a7, .int .i64 a8, .int .i64 a9, .int .i64 xo, .int .i64 xl] W from fun W hW => st2.below hW)
 have ST3 := hI (show ∀ W, Below w1.heap.size w1 W → St 27 (w.heap.size + 1 + 1) #[.slice none 0 0, .slice none 0 0, .slice none 0 0, .slice none 0 0] W from fun W hW => st3.below hW)
 have HCall := hI (show Calls Tryz.prog 45 #[.agg #[.int .i64 xk, .int .i64 xe, .int .i64 xs, .string xu, .string xn, .string xc, .int .i64 a0, .int .i64 a1, .int .i64 a2, .int .i64 a3, .int .i64 a4, .int .i64 a5, .int .i64 a6, .int .i64 a7, .int .i64 a8, .int .i64 a9, .int .i64 xo, .int .i64 xl]] w1 fun e w' => e = .returned (.bool true) ∧ Below w1.heap.size w1 w' from HCk.out w1)
 have HW1 := hI hw1
 have HB1 := hI hb1
 have HBw := hI hB
 have HGl := hI (show ∀ W, Below B w W → B ≤ W.heap.size → Calls Tryz.prog 54 #[.agg #[v1, v2, v3, v4], .agg #[.int .i64 xk, .int .i64 xe, .int .i64 xs, .string xu, .string xn, .string xc, .int .i64 a0, .int .i64 a1, .int .i64 a2, .int .i64 a3, .int .i64 a4, .int .i64 a5, .int .i64 a6, .int .i64 a7, .int .i64 a8, .int .i64 a9, .int .i64 xo, .int .i64 xl]] W fun e w' => ∃ cs', e = .returned (.tuple #[.agg cs'.toArray, .bool G.2]) ∧ CKeep B W.heap.size cs' G.1 w' ∧ Below W.heap.size W w' from HGo.out)
 clear r1 r2 r3 r4 hb1 hw1 st1 st2 st3 hB hGG hk HCk h1 h3 h6 h8 HGo
 obtain ⟨g1, gb⟩ := G
 dsimp only at HGl ⊢
 show Calls Tryz.prog 16 #[.agg #[v1, v2, v3, v4], .agg #[.int .i64 xk, .int .i64 xe, .int .i64 xs, .string xu, .string xn, .string xc, .int .i64 a0, .int .i64 a1, .int .i64 a2, .int .i64 a3, .int .i64 a4, .int .i64 a5, .int .i64 a6, .int .i64 a7, .int .i64 a8, .int .i64 a9, .int .i64 xo, .int .i64 xl]] w _
 go_enter Tryz.func16, Tryz.ntmps16
 go_wp2_with fail
 rw [← HW1.out]
 go_wp2_with (first
  | (go_at_call 45; go_must (with_reducible refine HCall.out.mono ?_); rintro e5 w5 ⟨rfl, b5⟩; have B5 := hI b5; have HL := hI (ST1.out w5 b5); have HL2 := hI (ST2.out w5 b5); have HD := hI (ST3.out w5 b5); have BB5 := hI (HB1.out.trans (b5.mono HB1.out.size)); have c50 : w5.cell? ⟨w.heap.size + 1, 0, none⟩ = some (.int .i64 xk) := (ST2.out w5 b5).cell rfl; clear b5)
  | (go_at_call 54; go_must (with_reducible refine (HGl.out _ (BB5.out.mono HBw.out) (Nat.le_trans HBw.out BB5.out.size)).mono ?_); rintro e6 w6 ⟨cs6, rfl, k6, b6⟩; have hh := k6 w6 (Frm.refl _ _); obtain ⟨u1, u2, u3, u4, rfl, h1, h2, h3, h4⟩ := hh; have K6 := hI k6; have B6 := hI b6; have p1 := h1.one; have p2 := h2.one; have p3 := h3.one; have p4 := h4.one; have HD6 := hI (HD.out.below b6); clear k6 b6 h1 h2 h3 h4)
  | ((with_reducible show wpList _ _ _ ({ dst := _, op := .load 27 _, type := _, pos := _, after := _, guard := _ } :: _) _ _); refine wpList_load_st rfl 27 _ rfl w.heap.size (by simp [Act.eval]) 27 #[v1, v2, v3, v4] HL.out _ Tryz.underlying27 rfl (by kernel_rfl) ?_)
  | ((with_reducible show wpList _ _ _ ({ dst := _, op := .load 40 _, type := _, pos := _, after := _, guard := _ } :: _) _ _); refine wpList_load_st rfl 40 _ rfl (w.heap.size + 1) (by simp [Act.eval, Act.put]) 40 #[.int .i64 xk, .int .i64 xe, .int .i64 xs, .string xu, .string xn, .string xc, .int .i64 a0, .int .i64 a1, .int .i64 a2, .int .i64 a3, .int .i64 a4, .int .i64 a5, .int .i64 a6, .int .i64 a7, .int .i64 a8, .int .i64 a9, .int .i64 xo, .int .i64 xl] HL2.out _ Tryz.underlying40 rfl (by kernel_rfl) ?_)
  | ((with_reducible show wpList _ _ _ ({ dst := _, op := .store 27 _ _, type := _, pos := _, after := _, guard := _ } :: _) _ _); refine wpList_store_st rfl 27 _ _ rfl (w.heap.size + 1 + 1) #[u1, u2, u3, u4] (by simp [Act.eval]) (by simp [Act.eval]) _ HD6.out (by kernel_rfl) rfl (by simp [p1, p2, p3, p4]) ?_; rintro w9 hw9 s9; have S9 := hI s9; have HW9 := hI hw9; clear hw9 s9))
 have hs5 := B5.out.size
 have F1 : Frm (fun j => B ≤ j ∧ j < w5.heap.size) w6 w9 := by
  rw [HW9.out]
  exact ⟨rfl, rfl, rfl, by simp, fun j hj hn => Go.setRow_other _ _ j _ (fun e => hn (by have := HBw.out; omega))⟩
 have BW : Below w.heap.size w w9 := by rw [HW9.out]; exact below_row (BB5.out.trans (B6.out.mono BB5.out.size)) (by omega) _
 refine ret_cell2 (r := 4) (t := 5) (x := .bool gb) rfl (by simp) (by simp) S9.out Tryz.underlying27 rfl (by kernel_rfl) rfl ?_
 exact ⟨[u1, u2, u3, u4], rfl, fun wy hy => K6.out wy (F1.next (hy.wide fun j e => ⟨e.1, by omega⟩)), BW⟩
theorem ixApply_any {B : Nat} (cs : List Value) (ca : CA) (x : Ch) (w : World) (h : CAt B cs ca w) (hB : B ≤ w.heap.size) (hm : ca.few) :
 Calls Tryz.prog 16 #[.agg cs.toArray, .agg x.vs.toArray] w fun e w' => ∃ cs', e = .returned (.tuple #[.agg cs'.toArray, .bool (ca.apply x).2]) ∧ CKeep B w.heap.size cs' (ca.apply x).1 w' ∧ Below w.heap.size w w' := by
 cases hok : x.ok with
 | false => exact ixApply_no cs ca x w h hB hok
 | true =>
  by_cases k1 : x.kind = 1
  · by_cases f1 : fnd (pHeld x.epoch x.serial) ca.helds < 0
    · by_cases f2 : fnd (pIssued x.up) ca.helds < 0
      · exact ixApply_1c cs ca x w h hB hm hok k1 f1 f2
      · exact ixApply_1b cs ca x w h hB hm hok k1 f1 (by omega)
    · exact ixApply_1a cs ca x w h hB hm hok k1 (by omega)
  by_cases k3 : x.kind = 3
  · exact ixApply_3a cs ca x w h hB hm hok k3
  by_cases k6 : x.kind = 6
  · by_cases f1 : fnd (pFile x.up) ca.files < 0
    · exact ixApply_6a cs ca x w h hB hm hok k6 f1
    · exact ixApply_6b cs ca x w h hB hm hok k6 (by omega)
  by_cases k8 : x.kind = 8
  · by_cases f1 : fnd (pFile x.up) ca.files < 0
    · exact ixApply_8a cs ca x w h hB hm hok k8 f1
    · cases f2 : ca.blocks.any (tkn x) with
      | true => exact ixApply_8b cs ca x w h hB hm hok k8 (by omega) f2
      | false => exact ixApply_8c cs ca x w h hB hm hok k8 (by omega) f2
  · exact ixApply_go cs ca x w h hB hm hok k1 k3 k6 k8
end Go.Proofs.YtngfknplljedeaaGreat
namespace Go.Proofs.YtngfknplljedeaaGreat
def CA.made (l : List Ch) : CA := l.foldl (fun c x => (c.apply x).1) CA.none
theorem CA.Ok.foldl : ∀ (l : List Ch) {c : CA} (_ : c.Ok), (l.foldl (fun c x => (c.apply x).1) c).Ok
 | [], _, h => h
 | x :: l, _, h => CA.Ok.foldl l (h.apply x)
theorem CA.made_ok (l : List Ch) : (CA.made l).Ok := CA.Ok.foldl l CA.none_ok
theorem CA.lens.foldl : ∀ (l : List Ch) {n : Nat} {c : CA} (_ : c.lens n), (l.foldl (fun c x => (c.apply x).1) c).lens (n + l.length)
 | [], n, c, h => h
 | x :: l, n, c, h => by
  have := CA.lens.foldl l (h.apply x)
  rw [List.length_cons, show n + (l.length + 1) = n + 1 + l.length from by omega]
  exact this
theorem CA.made_lens (l : List Ch) : (CA.made l).lens l.length := by
 have := CA.lens.foldl l (n := 0) (c := CA.none) ⟨Nat.le_refl _, Nat.le_refl _, Nat.le_refl _, Nat.le_refl _⟩
 rwa [Nat.zero_add] at this
end Go.Proofs.YtngfknplljedeaaGreat
namespace Go.Proofs.YtngfknplljedeaaGreat
open Go.RowKit
section
variable {α : Type}
theorem RowsAt.keep {B k : Nat} {f : α → List Value} {v : Value} {xs : List α} {w wy : World} {T : TypeId} {p : Nat} {old : Array Value} (hf : ∀ x : α, ∃ u, (f x)[0]? = some u ∧ ∀ a n c, u ≠ .slice a n c) (h : RowsAt B k f v xs w)
 (hp : St T p old w) (ho : ∀ (j : Nat) (u : Value), old[j]? = some u → ∃ a n c, u = .slice a n c) (hB : B ≤ w.heap.size) (hF : Frm (fun j => j = p) w wy) : RowsAt B k f v xs wy := by
 obtain ⟨ao, cap, b, off, rfl, hl, hao, hx⟩ := h
 refine ⟨ao, cap, b, off, rfl, hl, hao, fun i x hi j u hu => ?_⟩
 have h0 : 0 < xs.length := by have := (List.getElem?_eq_some_iff.1 hi).1; omega
 have hbp : b ≠ p := by
  rintro rfl
  obtain ⟨u0, e0, n0⟩ := hf xs[0]
  have := hx 0 xs[0] (List.getElem?_eq_getElem h0) 0 u0 e0
  rw [Nat.zero_mul, Nat.add_zero] at this
  unfold St at hp
  simp [World.cell?, hp] at this
  obtain ⟨a, n, c, e⟩ := ho _ _ this
  exact n0 _ _ _ e
 exact (hF.cell (q := ⟨b, off + i * k + j, none⟩) (Nat.lt_of_lt_of_le (hao h0).2 hB) hbp).trans (hx i x hi j u hu)
end
end Go.Proofs.YtngfknplljedeaaGreat
namespace Go.Proofs.YtngfknplljedeaaGreat
open Go.RowKit
theorem CAt.keep {B : Nat} {cs : List Value} {c : CA} {w wy : World} {T : TypeId} {p : Nat} {old : Array Value} (h : CAt B cs c w)
 (hp : St T p old w) (ho : ∀ (j : Nat) (u : Value), old[j]? = some u → ∃ a n c, u = .slice a n c) (hB : B ≤ w.heap.size) (hF : Frm (fun j => j = p) w wy) : CAt B cs c wy := by
 obtain ⟨v1, v2, v3, v4, e, h1, h2, h3, h4⟩ := h
 refine ⟨v1, v2, v3, v4, e, h1.keep (fun x => ⟨_, rfl, by intro a n c e; cases e⟩) hp ho hB hF, h2.keep (fun x => ⟨_, rfl, by intro a n c e; cases e⟩) hp ho hB hF, h3.keep (fun x => ⟨_, rfl, by intro a n c e; cases e⟩) hp ho hB hF, h4.keep (fun x => ⟨_, rfl, by intro a n c e; cases e⟩) hp ho hB hF⟩
theorem slices4 {a1 a2 a3 a4 : Option Addr} {n1 n2 n3 n4 c1 c2 c3 c4 : Nat} : ∀ (j : Nat) (u : Value), (#[.slice a1 n1 c1, .slice a2 n2 c2, .slice a3 n3 c3, .slice a4 n4 c4] : Array Value)[j]? = some u → ∃ a n c, u = .slice a n c := by
 intro j u hu
 match j, hu with
 | 0, hu => cases hu; exact ⟨_, _, _, rfl⟩
 | 1, hu => cases hu; exact ⟨_, _, _, rfl⟩
 | 2, hu => cases hu; exact ⟨_, _, _, rfl⟩
 | 3, hu => cases hu; exact ⟨_, _, _, rfl⟩
 | n + 4, hu => simp at hu
theorem CAt.len {B : Nat} {cs : List Value} {c : CA} {w : World} (h : CAt B cs c w) : cs.toArray.size = 4 := by
 obtain ⟨a1, n1, c1, a2, n2, c2, a3, n3, c3, a4, n4, c4, e⟩ := h.slices
 rw [e]; rfl
theorem CAt.ones {B : Nat} {cs : List Value} {c : CA} {w : World} (h : CAt B cs c w) : cs.toArray.all (·.oneCell') = true := by
 obtain ⟨a1, n1, c1, a2, n2, c2, a3, n3, c3, a4, n4, c4, e⟩ := h.slices
 rw [e]; simp [Value.oneCell']
structure InBox (T : TypeId) (p : Nat) (cs : List Value) (c : CA) (w : World) : Prop where
 st : St T p cs.toArray w
 at' : CAt w.heap.size cs c w
theorem InBox.below {T : TypeId} {p : Nat} {cs : List Value} {c : CA} {w w' : World} (h : InBox T p cs c w) (hb : Below w.heap.size w w') : InBox T p cs c w' := ⟨h.st.below hb, (h.at'.below hb).raise hb.size⟩
theorem InBox.put {T : TypeId} {p : Nat} {cs ds : List Value} {c d : CA} {w : World} (h : InBox T p cs c w) (hd : CAt w.heap.size ds d w) : InBox T p ds d (w.setRow p ds.toArray) := by
 obtain ⟨a1, n1, c1, a2, n2, c2, a3, n3, c3, a4, n4, c4, e⟩ := h.at'.slices
 have hF : Frm (fun j => j = p) w (w.setRow p ds.toArray) := ⟨rfl, rfl, rfl, by simp, fun j hj hn => Go.setRow_other _ _ j _ hn⟩
 refine ⟨h.st.row, ?_⟩
 have := hd.keep h.st (by rw [e]; exact slices4) (Nat.le_refl _) hF
 exact this.raise hF.size
theorem CA.lens.few {n : Nat} {c : CA} (h : c.lens n) (hn : n ≤ 1073741823) : c.few := ⟨Nat.le_trans h.1 hn, Nat.le_trans h.2.1 hn, Nat.le_trans h.2.2.1 hn, Nat.le_trans h.2.2.2 hn⟩
theorem ixApply_at (cs : List Value) (ca : CA) (x : Ch) (w : World) (h : CAt w.heap.size cs ca w) (hm : ca.few) :
 Calls Tryz.prog 16 #[.agg cs.toArray, .agg x.vs.toArray] w fun e w' => ∃ cs', e = .returned (.tuple #[.agg cs'.toArray, .bool (ca.apply x).2]) ∧ CAt w'.heap.size cs' (ca.apply x).1 w' ∧ Below w.heap.size w w' :=
 (ixApply_any cs ca x w h (Nat.le_refl _) hm).mono fun _ w' ⟨cs', he, hk, hb⟩ => ⟨cs', he, hk w' (Frm.refl _ _), hb⟩
theorem infoCa : (Tryz.prog.info? 27).map (·.size) = some 4 := by kernel_rfl
theorem CA.made_take (xs : List Ch) (i : Nat) (x : Ch) (h : xs[i]? = some x) : CA.made (xs.take (i + 1)) = ((CA.made (xs.take i)).apply x).1 := by
 unfold CA.made
 rw [take_one xs i x h, List.foldl_append]
 rfl
end Go.Proofs.YtngfknplljedeaaGreat
