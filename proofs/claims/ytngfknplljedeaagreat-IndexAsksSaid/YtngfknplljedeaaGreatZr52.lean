/- Lemmas for the laws of index. -/
import Derived.Test.YtngfknplljedeaaGreatZr51
import Derived.Test.YtngfknplljedeaaGreatZrTk
import Derived.Test.YtngfknplljedeaaGreatZrHi
namespace Go.Proofs.YtngfknplljedeaaGreat
open Go.RowKit
set_option maxRecDepth 100000 in
set_option maxHeartbeats 2000000 in
theorem inClone_any (cs : List Value) (ca : CA) (w : World) (h : CAt w.heap.size cs ca w) (hm : ca.lens 1073741823) :
 Calls Tryz.prog 32 #[.agg cs.toArray] w fun e w' => ∃ v1 v2 v3 v4, e = .returned (.agg #[v1, v2, v3, v4]) ∧ Own4 w.heap.size v1 v2 v3 v4 ca w' ∧ Below w.heap.size w w' := by
 obtain ⟨v1, v2, v3, v4, rfl, r1, r2, r3, r4⟩ := h
 show Calls Tryz.prog 32 #[.agg #[v1, v2, v3, v4]] w _
 obtain ⟨w1, hw1⟩ : ∃ w1, w1 = (w.alloc (.cells #[v1, v2, v3, v4] 27 (0, 0))).alloc (.cells #[.slice none 0 0, .slice none 0 0, .slice none 0 0, .slice none 0 0] 27 (0, 0)) := ⟨_, rfl⟩
 have hb1 : Below w.heap.size w w1 := by rw [hw1]; exact ((Below.refl _ w).alloc (Nat.le_refl _) _).alloc (by simp) _
 have hs1 : w1.heap.size = w.heap.size + 2 := by rw [hw1]; simp
 have hst : St 27 w.heap.size #[v1, v2, v3, v4] w1 := by rw [hw1]; exact (St.new w 27 _).alloc _
 have hnt : St 27 (w.heap.size + 1) #[.slice none 0 0, .slice none 0 0, .slice none 0 0, .slice none 0 0] w1 := by
  rw [hw1, show w.heap.size + 1 = (w.alloc (.cells #[v1, v2, v3, v4] 27 (0, 0))).heap.size from by simp]; exact St.new _ _ _
 have up : ∀ {α : Type} {k : Nat} {f : α → List Value} {v : Value} {xs : List α}, RowsAt w.heap.size k f v xs w → ∀ W, Below w1.heap.size w1 W → RowsAt W.heap.size k f v xs W := fun r W hW => (r.below (hb1.trans (hW.mono hb1.size))).raise (Nat.le_trans hb1.size hW.size)
 have HC1 := hI (fun W hW => sxClHeld_any v1 ca.helds W (up r1 W hW) hm.1)
 have HC2 := hI (fun W hW => sxClCached_any v2 ca.files W (up r2 W hW) hm.2.1)
 have HC3 := hI (fun W hW => sxClKnown_any v3 ca.names W (up r3 W hW) hm.2.2.1)
 have HC4 := hI (fun W hW => sxClPlaced_any v4 ca.blocks W (up r4 W hW) hm.2.2.2)
 have HS := hI (show ∀ W, Below w1.heap.size w1 W → W.cell? ⟨w.heap.size, 0, none⟩ = some v1 ∧ W.cell? ⟨w.heap.size, 1, none⟩ = some v2 ∧ W.cell? ⟨w.heap.size, 2, none⟩ = some v3 ∧ W.cell? ⟨w.heap.size, 3, none⟩ = some v4 from fun W hW => ⟨(hst.below hW).cell rfl, (hst.below hW).cell rfl, (hst.below hW).cell rfl, (hst.below hW).cell rfl⟩)
 have HT := hI (show ∀ W, Below w1.heap.size w1 W → St 27 (w.heap.size + 1) #[.slice none 0 0, .slice none 0 0, .slice none 0 0, .slice none 0 0] W from fun W hW => hnt.below hW)
 have HSt := hI (show ∀ W, Below w1.heap.size w1 W → St 27 w.heap.size #[v1, v2, v3, v4] W from fun W hW => hst.below hW)
 have HW1 := hI hw1
 have HB1 := hI hb1
 have HZ1 := hI hs1
 clear hst hnt hw1 hb1 hs1 r1 r2 r3 r4 hm up
 go_enter Tryz.func32, Tryz.ntmps32
 go_wp2_with fail
 rw [← HW1.out]
 have HBD := hI (show Below w1.heap.size w1 w1.drew from (Below.refl _ _).drew)
 have C0 := hI (HS.out _ HBD.out)
 refine wp_region_held (S := (fun W => W.cell? ⟨w.heap.size, 0, none⟩ = some v1 ∧ W.cell? ⟨w.heap.size, 1, none⟩ = some v2 ∧ W.cell? ⟨w.heap.size, 2, none⟩ = some v3 ∧ W.cell? ⟨w.heap.size, 3, none⟩ = some v4)) (by kernel_rfl) ?_
 change wpAnyH _ _ _ _ _ _ _ _ (World.drew _)
 generalize World.drew w1 = WD at HBD C0 ⊢
 refine tkp 0 (.pointer (some ⟨w.heap.size, 0, none⟩)) rfl (by kernel_rfl) q3 (fun w' hS => ?_) C0.out ?_
 · clear hS; go_simp
 try go_simp
 refine tkp 1 (v1) rfl (by kernel_rfl) q3 (fun w' hS => ?_) C0.out ?_
 · obtain ⟨s0, s1, s2, s3⟩ := hS; go_simp
 try go_simp
 refine tkp 3 (.pointer (some ⟨w.heap.size, 1, none⟩)) rfl (by kernel_rfl) q3 (fun w' hS => ?_) C0.out ?_
 · clear hS; go_simp
 try go_simp
 refine tkp 4 (v2) rfl (by kernel_rfl) q3 (fun w' hS => ?_) C0.out ?_
 · obtain ⟨s0, s1, s2, s3⟩ := hS; go_simp
 try go_simp
 refine tkp 6 (.pointer (some ⟨w.heap.size, 2, none⟩)) rfl (by kernel_rfl) q3 (fun w' hS => ?_) C0.out ?_
 · clear hS; go_simp
 try go_simp
 refine tkp 7 (v3) rfl (by kernel_rfl) q3 (fun w' hS => ?_) C0.out ?_
 · obtain ⟨s0, s1, s2, s3⟩ := hS; go_simp
 try go_simp
 refine tkp 9 (.pointer (some ⟨w.heap.size, 3, none⟩)) rfl (by kernel_rfl) q3 (fun w' hS => ?_) C0.out ?_
 · clear hS; go_simp
 try go_simp
 refine tkp 10 (v4) rfl (by kernel_rfl) q3 (fun w' hS => ?_) C0.out ?_
 · obtain ⟨s0, s1, s2, s3⟩ := hS; go_simp
 try go_simp
 refine rd1 2 (by kernel_rfl) rfl fun K hK => ?_
 go_simp
 refine (HC1.out _ HBD.out).mono ?_
 rintro e wc1 ⟨u1, rfl, ho, hb⟩
 obtain ⟨a1, n1, c1, rfl⟩ := ho.slice
 have O1 := hI (ho.low HBD.out.size)
 clear ho
 have Bc1 := hI (HBD.out.trans (hb.mono HBD.out.size))
 clear hb
 go_simp
 refine hK.out _ _ (HS.out _ Bc1.out) (fun S1 => ?_)
 clear hK K S1
 refine rd1 5 (by kernel_rfl) rfl fun K hK => ?_
 go_simp
 refine (HC2.out _ Bc1.out).mono ?_
 rintro e wc2 ⟨u2, rfl, ho, hb⟩
 obtain ⟨a2, n2, c2, rfl⟩ := ho.slice
 have O2 := hI (ho.low Bc1.out.size)
 replace O1 := hI (O1.out.below hb)
 clear ho
 have Bc2 := hI (Bc1.out.trans (hb.mono Bc1.out.size))
 clear hb
 go_simp
 refine hK.out _ _ (HS.out _ Bc2.out) (fun S1 => ?_)
 clear hK K S1
 refine rd1 8 (by kernel_rfl) rfl fun K hK => ?_
 go_simp
 refine (HC3.out _ Bc2.out).mono ?_
 rintro e wc3 ⟨u3, rfl, ho, hb⟩
 obtain ⟨a3, n3, c3, rfl⟩ := ho.slice
 have O3 := hI (ho.low Bc2.out.size)
 replace O1 := hI (O1.out.below hb)
 replace O2 := hI (O2.out.below hb)
 clear ho
 have Bc3 := hI (Bc2.out.trans (hb.mono Bc2.out.size))
 clear hb
 go_simp
 refine hK.out _ _ (HS.out _ Bc3.out) (fun S1 => ?_)
 clear hK K S1
 refine rd1 11 (by kernel_rfl) rfl fun K hK => ?_
 go_simp
 refine (HC4.out _ Bc3.out).mono ?_
 rintro e wc4 ⟨u4, rfl, ho, hb⟩
 obtain ⟨a4, n4, c4, rfl⟩ := ho.slice
 have O4 := hI (ho.low Bc3.out.size)
 replace O1 := hI (O1.out.below hb)
 replace O2 := hI (O2.out.below hb)
 replace O3 := hI (O3.out.below hb)
 clear ho
 have Bc4 := hI (Bc3.out.trans (hb.mono Bc3.out.size))
 clear hb
 go_simp
 refine hK.out _ _ (HS.out _ Bc4.out) (fun S1 => ?_)
 clear hK K S1
 refine tkp 12 (.agg #[.slice a1 n1 c1, .slice a2 n2 c2, .slice a3 n3 c3, .slice a4 n4 c4]) rfl (by kernel_rfl) q3 (fun w' hS => ?_) (HS.out _ Bc4.out) ?_
 · clear hS; go_simp
 try go_simp
 refine rd1 13 (by kernel_rfl) rfl fun K hK => ?_
 have O := hI (show Own4 w1.heap.size (.slice a1 n1 c1) (.slice a2 n2 c2) (.slice a3 n3 c3) (.slice a4 n4 c4) ca wc4 from ⟨O1.out, O2.out, O3.out, O4.out⟩)
 refine step_store_row rfl 27 (.tmp 2) (.tmp 15) rfl (w.heap.size + 1) #[.slice a1 n1 c1, .slice a2 n2 c2, .slice a3 n3 c3, .slice a4 n4 c4] (by first | rfl | simp [Act.eval, Act.put]) (by first | rfl | simp [Act.eval, Act.put]) 27 #[.slice none 0 0, .slice none 0 0, .slice none 0 0, .slice none 0 0] (HT.out _ Bc4.out) (by kernel_rfl) rfl (by simp [Value.oneCell']) ?_
 obtain ⟨w9, hw9⟩ : ∃ w9, w9 = wc4.setRow (w.heap.size + 1) #[.slice a1 n1 c1, .slice a2 n2 c2, .slice a3 n3 c3, .slice a4 n4 c4] := ⟨_, rfl⟩
 rw [← hw9]
 have N9 := hI (show St 27 (w.heap.size + 1) #[.slice a1 n1 c1, .slice a2 n2 c2, .slice a3 n3 c3, .slice a4 n4 c4] w9 from by rw [hw9]; exact St.row (HT.out _ Bc4.out))
 have A9 := hI (show Below w.heap.size w w9 from by rw [hw9]; exact below_row (HB1.out.trans (Bc4.out.mono HB1.out.size)) (by omega) _)
 have T9 := hI (show St 27 w.heap.size #[v1, v2, v3, v4] w9 from by rw [hw9]; exact (HSt.out _ Bc4.out).setRow_other (by omega) _)
 have C9 := hI (show w9.cell? ⟨w.heap.size, 0, none⟩ = some v1 ∧ w9.cell? ⟨w.heap.size, 1, none⟩ = some v2 ∧ w9.cell? ⟨w.heap.size, 2, none⟩ = some v3 ∧ w9.cell? ⟨w.heap.size, 3, none⟩ = some v4 from ⟨T9.out.cell rfl, T9.out.cell rfl, T9.out.cell rfl, T9.out.cell rfl⟩)
 have P9 := hI (show Own4 w.heap.size (.slice a1 n1 c1) (.slice a2 n2 c2) (.slice a3 n3 c3) (.slice a4 n4 c4) ca w9 from by rw [hw9]; exact (O.out.row (by have := HZ1.out; omega) _).low HB1.out.size)
 clear hw9
 go_simp
 refine hK.out _ _ C9.out (fun S1 => ?_)
 clear hK K S1
 refine wpAnyH_done (by kernel_rfl) ?_ _
 go_wp2
 refine ret_cell rfl (by simp) N9.out Tryz.underlying27 rfl (by kernel_rfl) rfl ?_
 exact ⟨_, _, _, _, rfl, P9.out, A9.out⟩
set_option maxRecDepth 100000 in
set_option maxHeartbeats 4000000 in
theorem inAll_any (cs : List Value) (ca : CA) (v : Value) (xs : List Ch) (w : World) (h : CAt w.heap.size cs ca w) (ho : ca.Ok) (m : Nat) (hm : ca.lens m) (hv : RowsAt w.heap.size 18 Ch.vs v xs w) (hn : m + xs.length ≤ 1073741000) (hx : ∀ x ∈ xs, x.num) :
 Calls Tryz.prog 19 #[.agg cs.toArray, v] w fun e w' => ∃ ds, e = .returned (.tuple #[.agg ds.toArray, .bool (ca.all xs).2]) ∧ CAt w'.heap.size ds (ca.all xs).1 w' ∧ Below w.heap.size w w' := by
 obtain ⟨ao, cap, b, off, rfl, hl, hx0⟩ := hv.walk
 obtain ⟨n, hnn⟩ : ∃ n, n = xs.length := ⟨_, rfl⟩
 rw [← hnn] at hl hx0 hn ⊢
 obtain ⟨cf, hcf⟩ : ∃ c, c = (ca.all xs).1 := ⟨_, rfl⟩
 obtain ⟨rb, hrb⟩ : ∃ r, r = (ca.all xs).2 := ⟨_, rfl⟩
 have HRES := hI (show ca.all xs = (cf, rb) from by rw [hcf, hrb])
 rw [← hcf, ← hrb]
 clear hcf hrb
 have HX := hI (show ∀ W, Below w.heap.size w W → ∀ i, i < n → ∃ x : Ch, xs[i]? = some x ∧ ao = some ⟨b, off, none⟩ ∧ W.rangeAt b (off + i * 18) x.vs ∧ x.num from fun W hW i hi => by
  obtain ⟨x, e1, e2, e3, e4⟩ := hx0 i hi
  exact ⟨x, e1, e2, fun j u hu => (hW.cell (p := ⟨b, off + i * 18 + j, none⟩) e3).trans (e4 j u hu), hx x (List.mem_of_getElem? e1)⟩)
 have HCL := hI (show ∀ W, Below w.heap.size w W → Calls Tryz.prog 32 #[.agg cs.toArray] W fun e w' => ∃ a1 n1 c1 a2 n2 c2 a3 n3 c3 a4 n4 c4, e = .returned (.agg #[.slice a1 n1 c1, .slice a2 n2 c2, .slice a3 n3 c3, .slice a4 n4 c4]) ∧ Own4 W.heap.size (.slice a1 n1 c1) (.slice a2 n2 c2) (.slice a3 n3 c3) (.slice a4 n4 c4) ca w' ∧ Below W.heap.size W w' from fun W hW => (inClone_any cs ca W ((h.below hW).raise hW.size) (hm.mono (by omega))).mono fun e w' ⟨v1, v2, v3, v4, he, ho, hb⟩ => by
  obtain ⟨a1, n1, c1, rfl⟩ := ho.1.slice
  obtain ⟨a2, n2, c2, rfl⟩ := ho.2.1.slice
  obtain ⟨a3, n3, c3, rfl⟩ := ho.2.2.1.slice
  obtain ⟨a4, n4, c4, rfl⟩ := ho.2.2.2.slice
  exact ⟨_, _, _, _, _, _, _, _, _, _, _, _, he, ho, hb⟩)
 obtain ⟨p1, t1, k1, p2, t2, k2, p3, t3, k3, p4, t4, k4, rfl⟩ := h.slices
 obtain ⟨w1, hw1⟩ : ∃ w1, w1 = (w.alloc (.cells #[.slice p1 t1 k1, .slice p2 t2 k2, .slice p3 t3 k3, .slice p4 t4 k4] 27 (0, 0))).alloc (.cells #[.slice none 0 0, .slice none 0 0, .slice none 0 0, .slice none 0 0] 27 (0, 0)) := ⟨_, rfl⟩
 have hb1 : Below w.heap.size w w1 := by rw [hw1]; exact ((Below.refl _ w).alloc (Nat.le_refl _) _).alloc (by simp) _
 have hs1 : w1.heap.size = w.heap.size + 1 + 1 := by rw [hw1]; simp
 have st0 : St 27 w.heap.size #[.slice p1 t1 k1, .slice p2 t2 k2, .slice p3 t3 k3, .slice p4 t4 k4] w1 := by rw [hw1]; exact (St.new w _ _).alloc _
 have st1 : St 27 (w.heap.size + 1) #[.slice none 0 0, .slice none 0 0, .slice none 0 0, .slice none 0 0] w1 := by rw [hw1]; exact St.new1 _ _ _ _
 have HB1 := hI hb1
 have HW1 := hI hw1
 have HZ1 := hI hs1
 have HS0 := hI (show ∀ W, Below w1.heap.size w1 W → St 27 w.heap.size #[.slice p1 t1 k1, .slice p2 t2 k2, .slice p3 t3 k3, .slice p4 t4 k4] W from fun W hW => st0.below hW)
 have HS1 := hI (show ∀ W, Below w1.heap.size w1 W → St 27 (w.heap.size + 1) #[.slice none 0 0, .slice none 0 0, .slice none 0 0, .slice none 0 0] W from fun W hW => st1.below hW)
 have HN := hI hnn
 have HMm := hI hm
 have HO := hI ho
 have HL := hI hn
 clear h hx hx0 hv hb1 st0 st1 hw1 hs1 hnn hm ho hn
 have HC1 := hI (HCL.out w1 HB1.out)
 show Calls Tryz.prog 19 #[.agg #[.slice p1 t1 k1, .slice p2 t2 k2, .slice p3 t3 k3, .slice p4 t4 k4], .slice ao n cap] w _
 go_enter Tryz.func19, Tryz.ntmps19
 go_wp2_with (first
  | (rw [← HW1.out]; (with_reducible refine HC1.out.mono ?_); rintro e w5 ⟨a1, n1, c1, a2, n2, c2, a3, n3, c3, a4, n4, c4, rfl, o5, b5⟩; have O5 := hI o5; have B5 := hI b5; clear o5 b5))
 obtain ⟨q, hq⟩ : ∃ q, q = w5.heap.size := ⟨_, rfl⟩
 obtain ⟨w6, hw6⟩ : ∃ W, W = w5.alloc (.cells #[.slice a1 n1 c1, .slice a2 n2 c2, .slice a3 n3 c3, .slice a4 n4 c4] 27 (0, 0)) := ⟨_, rfl⟩
 have HQ := hI (show w1.heap.size ≤ q from by rw [hq]; exact B5.out.size)
 have B6 := hI (show Below w1.heap.size w1 w6 from by rw [hw6]; exact B5.out.alloc B5.out.size _)
 have O6 := hI (show OwnC w1.heap.size q [.slice a1 n1 c1, .slice a2 n2 c2, .slice a3 n3 c3, .slice a4 n4 c4] ca w6 from by
  have hb : Below w5.heap.size w5 w6 := by rw [hw6]; exact (Below.refl _ _).alloc (Nat.le_refl _) _
  obtain ⟨o1, o2, o3, o4⟩ := O5.out
  exact ⟨_, _, _, _, rfl, by rw [hq, hw6]; exact St.new _ _ _, o1.below hb, o2.below hb, o3.below hb, o4.below hb⟩)
 have HW6 := hI hw6
 have HQ5 := hI hq
 rw [← HQ5.out, ← HW6.out]
 clear hw6 hq
 go_loopw [13] (fun c wr => ∃ (i : Nat) (us : List Value), i ≤ n ∧ c = .int .i64 i ∧ (ca.allFrom (xs.take i)).2 = true ∧ OwnC w1.heap.size q us (ca.allFrom (xs.take i)).1 wr ∧ Below w1.heap.size w1 wr) (fun c _ => n - (intOf c).toNat)
 case atStart => exact ⟨0, _, Nat.zero_le _, rfl, rfl, O6.out, B6.out⟩
 case round =>
  obtain ⟨i, us, hi, rfl, htr, hin, hbel⟩ := hrel
  have HI := hI hin
  have HT := hI htr
  have HB := hI hbel
  clear hin hbel htr
  by_cases hlt : i < n
  · obtain ⟨x, hxi, rfl, hr, hnum⟩ := HX.out wr (HB1.out.trans (HB.out.mono HB1.out.size)) i hlt
    have hle := CA.lens.allFrom (xs.take i) HMm.out
    rw [List.length_take] at hle
    have HSt := hI (CA.allFrom_take ca xs i x hxi HT.out)
    have hok := HO.out.allFrom (xs.take i)
    obtain ⟨cc, hc1⟩ : ∃ c1, c1 = (ca.allFrom (xs.take i)).1 := ⟨_, rfl⟩
    rw [← hc1] at HI hle HSt hok
    obtain ⟨g, hg⟩ : ∃ g, g = (cc.apply x).2 := ⟨_, rfl⟩
    obtain ⟨cd, hc2⟩ : ∃ c2, c2 = (cc.apply x).1 := ⟨_, rfl⟩
    rw [← hg, ← hc2] at HSt
    obtain ⟨xv, hxv⟩ : ∃ xv, xv = x.vs := ⟨_, rfl⟩
    have HR := hI (show wr.rangeAt b (off + i * 18) xv from by rw [hxv]; exact hr)
    have HV := hI (show xv.length = 18 from by rw [hxv]; rfl)
    have HV1 := hI (show xv.toArray.all (·.oneCell') = true from by rw [hxv]; exact all_oneCell_toArray (Ch.one x))
    have i0 : (0 : Int) ≤ (i : Int) := by omega
    have i1 : (i : Int) < (n : Int) := by omega
    obtain ⟨w7, hw7⟩ : ∃ W, W = wr.alloc (.cells xv.toArray 40 (0, 0)) := ⟨_, rfl⟩
    have b7 : Below wr.heap.size wr w7 := by rw [hw7]; exact (Below.refl _ _).alloc (Nat.le_refl _) _
    have S7 := hI (show St 40 wr.heap.size xv.toArray w7 from by rw [hw7]; exact St.new _ _ _)
    have B7 := hI (show Below w1.heap.size w1 w7 from HB.out.trans (b7.mono HB.out.size))
    have HCh := hI (show Calls Tryz.prog 56 #[.pointer (some ⟨q, 0, none⟩), .agg xv.toArray] w7 fun e w' => e = .returned (.bool g) ∧ (g = true → ∃ vs, OwnC w1.heap.size q vs cd w') ∧ Below w1.heap.size w7 w' from by
     have hl2 := HL.out
     have := inChange_any us cc x w7 (HI.out.below b7) HQ.out (hle.mono (by omega)) hnum hok
     unfold Did at this
     rw [← hg, ← hc2, ← hxv] at this
     exact this)
    have HW7 := hI hw7
    have HG := hI (And.intro hg hc2)
    clear hr hxi hxv hg hle hc2 hok hnum b7 hw7
    cases g with
    | true =>
     go_wp2_with (first
      | ((with_reducible show wpList _ _ _ ({ dst := some 16, op := .load 40 _, type := _, pos := _, after := _, guard := _ } :: _) _ _); refine wpList_load_mid rfl 40 _ rfl b (off + i * 18) (by first | rfl | simp [Act.eval, Act.put]) xv _ HR.out Tryz.underlying40 rfl (by rw [HV.out]; kernel_rfl) ?_)
      | ((with_reducible show wpList _ _ _ ({ dst := _, op := .store 40 (.tmp 8) _, type := _, pos := _, after := _, guard := _ } :: _) _ _); refine wpList_store_st rfl 40 _ _ rfl wr.heap.size xv.toArray (by first | rfl | simp [Act.eval, Act.put]) (by first | rfl | simp [Act.eval, Act.put]) _ (St.new wr _ _) (by simp only [List.size_toArray, HV.out]; kernel_rfl) (by simp only [List.size_toArray, HV.out]; rfl) HV1.out ?_; rintro wq rfl -; rw [alloc_row, ← HW7.out])
      | ((with_reducible show wpList _ _ _ ({ dst := some 17, op := .load 40 _, type := _, pos := _, after := _, guard := _ } :: _) _ _); refine wpList_load_st rfl 40 _ rfl wr.heap.size (by first | rfl | simp [Act.eval, Act.put]) 40 xv.toArray S7.out _ Tryz.underlying40 rfl (by simp only [List.size_toArray, HV.out]; kernel_rfl) ?_)
      | ((with_reducible refine HCh.out.mono ?_); rintro e w8 ⟨rfl, h8, b8⟩; obtain ⟨us8, o8⟩ := h8 rfl; have O8 := hI o8; have B8 := hI (B7.out.trans b8); clear h8 b8 o8))
     go_roundw
     case rel => exact ⟨i + 1, us8, hlt, by go_num, by rw [HSt.out]; rfl, by rw [HSt.out]; exact O8.out, B8.out⟩
     case measure => simp [intOf]; omega
    | false =>
     go_wp2_with (first
      | ((with_reducible show wpList _ _ _ ({ dst := some 16, op := .load 40 _, type := _, pos := _, after := _, guard := _ } :: _) _ _); refine wpList_load_mid rfl 40 _ rfl b (off + i * 18) (by first | rfl | simp [Act.eval, Act.put]) xv _ HR.out Tryz.underlying40 rfl (by rw [HV.out]; kernel_rfl) ?_)
      | ((with_reducible show wpList _ _ _ ({ dst := _, op := .store 40 (.tmp 8) _, type := _, pos := _, after := _, guard := _ } :: _) _ _); refine wpList_store_st rfl 40 _ _ rfl wr.heap.size xv.toArray (by first | rfl | simp [Act.eval, Act.put]) (by first | rfl | simp [Act.eval, Act.put]) _ (St.new wr _ _) (by simp only [List.size_toArray, HV.out]; kernel_rfl) (by simp only [List.size_toArray, HV.out]; rfl) HV1.out ?_; rintro wq rfl -; rw [alloc_row, ← HW7.out])
      | ((with_reducible show wpList _ _ _ ({ dst := some 17, op := .load 40 _, type := _, pos := _, after := _, guard := _ } :: _) _ _); refine wpList_load_st rfl 40 _ rfl wr.heap.size (by first | rfl | simp [Act.eval, Act.put]) 40 xv.toArray S7.out _ Tryz.underlying40 rfl (by simp only [List.size_toArray, HV.out]; kernel_rfl) ?_)
      | ((with_reducible refine HCh.out.mono ?_); rintro e w8 ⟨rfl, h8, b8⟩; have B8 := hI (B7.out.trans b8); clear h8 b8)
      | ((with_reducible show wpList _ _ _ ({ dst := some 20, op := .load 27 _, type := _, pos := _, after := _, guard := _ } :: _) _ _); refine wpList_load_st rfl 27 _ rfl (w.heap.size) (by first | rfl | simp [Act.eval, Act.put]) 27 #[.slice p1 t1 k1, .slice p2 t2 k2, .slice p3 t3 k3, .slice p4 t4 k4] (HS0.out _ B8.out) _ Tryz.underlying27 rfl (by kernel_rfl) ?_)
      | ((with_reducible refine (HCL.out _ (HB1.out.trans (B8.out.mono HB1.out.size))).mono ?_); rintro e w9 ⟨a1', n1', c1', a2', n2', c2', a3', n3', c3', a4', n4', c4', rfl, o9, b9⟩; have O9 := hI o9; have B9 := hI (B8.out.trans (b9.mono B8.out.size)); have L9 := hI (Nat.le_trans B8.out.size (Nat.le_refl w8.heap.size)); clear o9 b9)
      | ((with_reducible show wpList _ _ _ ({ dst := _, op := .store 27 (.tmp 4) _, type := _, pos := _, after := _, guard := _ } :: _) _ _); refine wpList_store_st rfl 27 _ _ rfl (w.heap.size + 1) #[.slice a1' n1' c1', .slice a2' n2' c2', .slice a3' n3' c3', .slice a4' n4' c4'] (by first | rfl | simp [Act.eval, Act.put]) (by first | rfl | simp [Act.eval, Act.put]) _ (HS1.out _ B9.out) (by kernel_rfl) rfl (by simp [Value.oneCell']) ?_; rintro w10 hw10 sw10; have Hw10 := hI hw10; have Sw10 := hI sw10; clear hw10 sw10))
     refine ret_cell2 (r := 4) (t := 5) (x := .bool false) rfl (by first | (simp; done) | simp [Act.put]) (by first | (simp; done) | simp [Act.put]) Sw10.out Tryz.underlying27 rfl (by kernel_rfl) rfl ?_
     obtain ⟨hcf, hrb⟩ := Prod.mk.inj (HRES.out.symm.trans (CA.all_stop ca xs (i + 1) (by rw [HSt.out]; rfl)))
     rw [hcf, hrb]
     refine ⟨[.slice a1' n1' c1', .slice a2' n2' c2', .slice a3' n3' c3', .slice a4' n4' c4'], rfl, ?_, by rw [Hw10.out]; exact below_row (HB1.out.trans (B9.out.mono HB1.out.size)) (by omega) _⟩
     have hz := HZ1.out
     have hl9 := L9.out
     rw [Hw10.out]
     exact (O9.out.row (by omega) _).at'
  · obtain rfl : i = n := by omega
    have htk := HT.out
    have hA := HI.out
    rw [HN.out, List.take_length] at htk hA
    have hall : ca.all xs = ((ca.allFrom xs).1, true) := by unfold CA.all; rw [htk]; rfl
    obtain ⟨hcf, hrb⟩ := Prod.mk.inj (HRES.out.symm.trans hall)
    have HCF := hI hcf
    have HRB := hI hrb
    clear hcf hrb
    obtain ⟨f1, f2, f3, f4, rfl, sq, o1, o2, o3, o4⟩ := hA
    obtain ⟨a1', n1', c1', rfl⟩ := o1.slice
    obtain ⟨a2', n2', c2', rfl⟩ := o2.slice
    obtain ⟨a3', n3', c3', rfl⟩ := o3.slice
    obtain ⟨a4', n4', c4', rfl⟩ := o4.slice
    have SQ := hI sq
    have OO := hI (show Own4 w1.heap.size (.slice a1' n1' c1') (.slice a2' n2' c2') (.slice a3' n3' c3') (.slice a4' n4' c4') (ca.allFrom xs).1 wr from ⟨o1, o2, o3, o4⟩)
    clear sq o1 o2 o3 o4 htk hall
    go_wp2_with (first
     | ((with_reducible show wpList _ _ _ ({ dst := some 23, op := .load 27 _, type := _, pos := _, after := _, guard := _ } :: _) _ _); refine wpList_load_st rfl 27 _ rfl (q) (by first | rfl | simp [Act.eval, Act.put]) 27 #[.slice a1' n1' c1', .slice a2' n2' c2', .slice a3' n3' c3', .slice a4' n4' c4'] (SQ.out) _ Tryz.underlying27 rfl (by kernel_rfl) ?_)
     | ((with_reducible show wpList _ _ _ ({ dst := _, op := .store 27 (.tmp 4) _, type := _, pos := _, after := _, guard := _ } :: _) _ _); refine wpList_store_st rfl 27 _ _ rfl (w.heap.size + 1) #[.slice a1' n1' c1', .slice a2' n2' c2', .slice a3' n3' c3', .slice a4' n4' c4'] (by first | rfl | simp [Act.eval, Act.put]) (by first | rfl | simp [Act.eval, Act.put]) _ (HS1.out _ HB.out) (by kernel_rfl) rfl (by simp [Value.oneCell']) ?_; rintro w10 hw10 sw10; have Hw10 := hI hw10; have Sw10 := hI sw10; clear hw10 sw10))
    refine ret_cell2 (r := 4) (t := 5) (x := .bool true) rfl (by first | (simp; done) | simp [Act.put]) (by first | (simp; done) | simp [Act.put]) Sw10.out Tryz.underlying27 rfl (by kernel_rfl) rfl ?_
    rw [HCF.out, HRB.out]
    refine ⟨[.slice a1' n1' c1', .slice a2' n2' c2', .slice a3' n3' c3', .slice a4' n4' c4'], rfl, ?_, by rw [Hw10.out]; exact below_row (HB1.out.trans (HB.out.mono HB1.out.size)) (by omega) _⟩
    have hz := HZ1.out
    rw [Hw10.out]
    exact (OO.out.row (by omega) _).at'
theorem RowsAt.made {α : Type} {k : Nat} {T : TypeId} {f : α → List Value} {b : Nat} {xs : List α} {w : World} (hf : ∀ x, (f x).length = k) (h : St T b (xs.flatMap f).toArray w) (hl : xs.length ≤ 9223372036854775807) : RowsAt w.heap.size k f (.slice (some ⟨b, 0, none⟩) xs.length xs.length) xs w := by
 refine ⟨_, _, b, 0, rfl, ⟨hl, Nat.le_refl _⟩, fun _ => ⟨rfl, h.lt⟩, fun i x hi j u hu => ?_⟩
 have hj : j < k := by have := (List.getElem?_eq_some_iff.1 hu).1; rwa [hf] at this
 have := flat_at hf xs i x hi j hj
 rw [Nat.zero_add]
 refine h.cell ?_
 rw [List.getElem?_toArray, this]
 exact hu
end Go.Proofs.YtngfknplljedeaaGreat
