/- Lemmas for the laws of index. -/
import Derived.Test.YtngfknplljedeaaGreatZr23
import Derived.Test.YtngfknplljedeaaGreatZr35
import Derived.Test.YtngfknplljedeaaGreatZr53
import Derived.Test.YtngfknplljedeaaGreatZr59
import Derived.Test.YtngfknplljedeaaGreatZr58
import Derived.Test.YtngfknplljedeaaGreatZrTk
import Derived.Test.YtngfknplljedeaaGreatZrHi
namespace Go.Proofs.YtngfknplljedeaaGreat
open Go.RowKit
set_option maxRecDepth 100000 in
set_option maxHeartbeats 400000 in
theorem inLostc_any (W : World) (x : Bk) : Calls Tryz.prog 74 #[.agg (Bk.vs x).toArray] W fun e w' => e = .returned (.int .i64 x.slot) ∧ Below W.heap.size W w' := by
 obtain ⟨x0, x1, x2⟩ := x
 show Calls Tryz.prog 74 #[.agg #[.string x0, .int .i64 x1, .int .i64 x2]] W fun e w' => e = .returned (.int .i64 x2) ∧ _
 go_enter Tryz.func74, Tryz.ntmps74
 go_wp2
 go_ret
 exact ⟨rfl, (Below.refl _ W).alloc (Nat.le_refl _) _⟩
end Go.Proofs.YtngfknplljedeaaGreat
namespace Go.Proofs.YtngfknplljedeaaGreat
open Go.RowKit Go.Sort
theorem CA.Ok.slot {c : CA} (h : c.Ok) {x : Bk} (hx : x ∈ c.blocks) : 0 ≤ x.slot ∧ x.slot ≤ 65535 := by
 have := h.chs x.ch (CA.mem_changes.2 (.inr (.inr (.inr ⟨x, hx, rfl⟩))))
 have h8 := (Ch.ok_parts this).2.2.2.2.2.2.2
 have : numB true x.slot 0 65535 = true := h8
 simp only [numB, if_true, Bool.and_eq_true, decide_eq_true_eq] at this
 exact this
theorem lost_eq (a b : CA) (ha : a.Ok) : ((valsI (a.blocks.map fun x => x.slot)).filter fun x => !decide (x ∈ valsI (b.blocks.map fun x => x.slot))) = a.lost b := by
 have m1 := (valsI_of (a.blocks.map fun x => x.slot)).2.1
 have m2 := (valsI_of (b.blocks.map fun x => x.slot)).2.1
 refine rise_eq ((valsI_of _).1.filter _) ?_ fun x => ?_
 · unfold CA.lost lostTo
   rw [List.pairwise_map]
   exact (List.pairwise_lt_range.filter _).imp fun h => by omega
 · unfold CA.lost lostTo
   rw [List.mem_filter, List.mem_map, m1, Bool.not_eq_true', decide_eq_false_iff_not, m2, List.mem_map, List.mem_map]
   constructor
   · rintro ⟨⟨y, hy, rfl⟩, hn⟩
     obtain ⟨l, u⟩ := ha.slot hy
     refine ⟨y.slot.toNat, List.mem_filter.2 ⟨List.mem_range.2 (by omega), ?_⟩, by omega⟩
     unfold isLost
     have e : ((y.slot.toNat : Nat) : Int) = y.slot := by omega
     rw [e, Bool.and_eq_true, Bool.not_eq_true', List.any_eq_true, List.any_eq_false]
     exact ⟨⟨y, hy, by simp⟩, fun z hz hs => hn ⟨z, hz, by simpa using hs⟩⟩
   · rintro ⟨s, hs, rfl⟩
     have h2 := (List.mem_filter.1 hs).2
     unfold isLost at h2
     rw [Bool.and_eq_true, Bool.not_eq_true', List.any_eq_true, List.any_eq_false] at h2
     obtain ⟨⟨y, hy, e⟩, h3⟩ := h2
     exact ⟨⟨y, hy, by simpa using e⟩, fun ⟨z, hz, e⟩ => h3 z hz (by simpa using e)⟩
set_option maxRecDepth 100000 in
set_option maxHeartbeats 2000000 in
theorem inLost_any (cs ds : List Value) (ca cb : CA) (w : World) (h : CAt w.heap.size cs ca w) (h' : CAt w.heap.size ds cb w) (ho : ca.Ok) (hm : ca.lens 1073741823) (hm' : cb.lens 1073741823) :
 Calls Tryz.prog 35 #[.agg cs.toArray, .agg ds.toArray] w fun e w' => (∃ v, e = .returned v ∧ Ints (fun j => w.heap.size ≤ j) v (ca.lost cb) w') ∧ Below w.heap.size w w' := by
 obtain ⟨v1, v2, v3, v4, rfl, r1, r2, r3, r4⟩ := h
 obtain ⟨u1, u2, u3, u4, rfl, s1, s2, s3, s4⟩ := h'
 show Calls Tryz.prog 35 #[.agg #[v1, v2, v3, v4], .agg #[u1, u2, u3, u4]] w _
 obtain ⟨w1, hw1⟩ : ∃ w1, w1 = (w.alloc (.cells #[v1, v2, v3, v4] 27 (0, 0))).alloc (.cells #[u1, u2, u3, u4] 27 (0, 0)) := ⟨_, rfl⟩
 have hb1 : Below w.heap.size w w1 := by rw [hw1]; exact ((Below.refl _ w).alloc (Nat.le_refl _) _).alloc (by simp) _
 have st0 : St 27 w.heap.size #[v1, v2, v3, v4] w1 := by rw [hw1]; exact (St.new w 27 _).alloc _
 have st1 : St 27 (w.heap.size + 1) #[u1, u2, u3, u4] w1 := by rw [hw1]; exact St.new1 _ _ _ _
 have up : ∀ {α : Type} {k : Nat} {f : α → List Value} {v : Value} {xs : List α}, RowsAt w.heap.size k f v xs w → ∀ W, Below w1.heap.size w1 W → RowsAt W.heap.size k f v xs W := fun r W hW => (r.below (hb1.trans (hW.mono hb1.size))).raise (Nat.le_trans hb1.size hW.size)
 obtain ⟨AL, hAL⟩ : ∃ l, l = valsI (ca.blocks.map fun x => x.slot) := ⟨_, rfl⟩
 obtain ⟨qA, hqA⟩ : ∃ q, q = AL.length := ⟨_, rfl⟩
 have lA : AL.length ≤ 1073741823 := by
  rw [hAL]
  refine Nat.le_trans (Lib.compact_length_le _) ?_
  rw [List.length_mergeSort, List.length_map]
  exact hm.2.2.2
 have pA : AL.Pairwise (· < ·) := by rw [hAL]; exact (valsI_of _).1
 have HVA := hI (show ∀ W, Below w1.heap.size w1 W → Calls Tryz.prog 76 #[v4, .func (.func 74) #[] #[]] W fun e w' => ∃ b cap, e = .returned (.slice (some ⟨b, 0, none⟩) qA cap) ∧ w'.ownsRow W.heap.size 3 1 (.slice (some ⟨b, 0, none⟩) qA cap) qA (AL.map (Value.int .i64)) ∧ Below W.heap.size W w' from fun W hW => by
  rw [hqA, hAL]
  exact inValPlacedI_any v4 ca.blocks (fun x => x.slot) 74 W (up r4 W hW) hm.2.2.2 (enters_of Tryz.func74 (by kernel_rfl) rfl) (fun W x => inLostc_any W x))
 obtain ⟨BL, hBL⟩ : ∃ l, l = valsI (cb.blocks.map fun x => x.slot) := ⟨_, rfl⟩
 obtain ⟨qB, hqB⟩ : ∃ q, q = BL.length := ⟨_, rfl⟩
 have lB : BL.length ≤ 1073741823 := by
  rw [hBL]
  refine Nat.le_trans (Lib.compact_length_le _) ?_
  rw [List.length_mergeSort, List.length_map]
  exact hm'.2.2.2
 have pB : BL.Pairwise (· < ·) := by rw [hBL]; exact (valsI_of _).1
 have HVB := hI (show ∀ W, Below w1.heap.size w1 W → Calls Tryz.prog 76 #[u4, .func (.func 74) #[] #[]] W fun e w' => ∃ b cap, e = .returned (.slice (some ⟨b, 0, none⟩) qB cap) ∧ w'.ownsRow W.heap.size 3 1 (.slice (some ⟨b, 0, none⟩) qB cap) qB (BL.map (Value.int .i64)) ∧ Below W.heap.size W w' from fun W hW => by
  rw [hqB, hBL]
  exact inValPlacedI_any u4 cb.blocks (fun x => x.slot) 74 W (up s4 W hW) hm'.2.2.2 (enters_of Tryz.func74 (by kernel_rfl) rfl) (fun W x => inLostc_any W x))
 have HO := hI (show ∀ W B B2 g g2 cap cap2, W.ownsRow B 3 1 (.slice (some ⟨g, 0, none⟩) qA cap) qA (AL.map (Value.int .i64)) → W.ownsRow B2 3 1 (.slice (some ⟨g2, 0, none⟩) qB cap2) qB (BL.map (Value.int .i64)) → g2 ≠ g → w1.heap.size ≤ B → B ≤ W.heap.size → Calls Tryz.prog 75 #[.slice (some ⟨g, 0, none⟩) qA cap, .slice (some ⟨g2, 0, none⟩) qB cap2] W fun e w' => (∃ v, e = .returned v ∧ Ints (fun j => w.heap.size ≤ j) v (ca.lost cb) w') ∧ Below w1.heap.size W w' from fun W B B2 g g2 cap cap2 h h2 hne hB1 hB2 => by
  have hle := hb1.size
  have hg := (ownsRow_at (by rw [hqA] at h; exact h)).2.1
  rw [hqA] at h ⊢
  rw [hqB] at h2 ⊢
  refine (inWithoutI_any W h h2 hne lA lB pB).mono ?_
  rintro e w' ⟨he, hr, hf⟩
  rw [hAL, hBL] at he hr
  refine ⟨⟨_, he, ?_⟩, hf.below (Nat.le_trans hB1 hB2) fun j e => by have : j = g := e; omega⟩
  rw [lost_eq ca cb ho] at hr
  rw [lost_eq ca cb ho]
  exact (ints_row hr rfl).imp fun j hj => by omega)
 have HS := hI (show ∀ W, Below w1.heap.size w1 W → W.cell? ⟨w.heap.size, 3, none⟩ = some v4 ∧ W.cell? ⟨w.heap.size + 1, 3, none⟩ = some u4 from fun W hW => ⟨(st0.below hW).cell rfl, (st1.below hW).cell rfl⟩)
 obtain ⟨G, hG⟩ : ∃ G, G = ca.lost cb := ⟨_, rfl⟩
 rw [← hG] at HO ⊢
 have HW1 := hI hw1
 have HB1 := hI hb1
 clear hw1 hb1 st0 st1 up r1 r2 r3 r4 s1 s2 s3 s4 hqA hqB hAL hBL lA lB pA pB hm hm' ho hG
 go_enter Tryz.func35, Tryz.ntmps35
 go_wp2_with fail
 rw [← HW1.out]
 have HBD := hI (show Below w1.heap.size w1 w1.drew from (Below.refl _ _).drew)
 have C0 := hI (HS.out _ HBD.out)
 refine wp_region_held (S := (fun W => W.cell? ⟨w.heap.size, 3, none⟩ = some v4 ∧ W.cell? ⟨w.heap.size + 1, 3, none⟩ = some u4)) (by kernel_rfl) ?_
 change wpAnyH _ _ _ _ _ _ _ _ (World.drew _)
 generalize World.drew w1 = WD at HBD C0 ⊢
 refine tkp 0 (.pointer (some ⟨w.heap.size, 3, none⟩)) rfl (by kernel_rfl) q3 (fun w' hS => ?_) C0.out ?_
 · clear hS; go_simp
 try go_simp
 refine tkp 1 (v4) rfl (by kernel_rfl) q3 (fun w' hS => ?_) C0.out ?_
 · obtain ⟨s0, s1⟩ := hS; go_simp
 try go_simp
 refine tkp 2 (.func (.func 74) #[] #[]) rfl (by kernel_rfl) q3 (fun w' hS => ?_) C0.out ?_
 · clear hS; go_simp
 try go_simp
 refine tkp 4 (.pointer (some ⟨w.heap.size + 1, 3, none⟩)) rfl (by kernel_rfl) q3 (fun w' hS => ?_) C0.out ?_
 · clear hS; go_simp
 try go_simp
 refine tkp 5 (u4) rfl (by kernel_rfl) q3 (fun w' hS => ?_) C0.out ?_
 · obtain ⟨s0, s1⟩ := hS; go_simp
 try go_simp
 refine tkp 6 (.func (.func 74) #[] #[]) rfl (by kernel_rfl) q3 (fun w' hS => ?_) C0.out ?_
 · clear hS; go_simp
 try go_simp
 refine rd1 3 (by kernel_rfl) rfl fun K hK => ?_
 go_simp
 refine (HVA.out _ HBD.out).mono ?_
 rintro e w5 ⟨ba, ka, rfl, h3, hb⟩
 have RA := hI h3
 have ZA := hI hb.size
 have B0le := hI HBD.out.size
 clear h3
 have B5 := hI (HBD.out.trans (hb.mono HBD.out.size))
 clear hb
 go_simp
 refine hK.out _ _ (HS.out _ B5.out) (fun S1 => ?_)
 clear hK K S1
 refine rd1 7 (by kernel_rfl) rfl fun K hK => ?_
 go_simp
 refine (HVB.out _ B5.out).mono ?_
 rintro e w7 ⟨bb, kb, rfl, h7, hb⟩
 have RB7 := hI h7
 have RA7 := hI (row_frm RA.out (Frm.of_below (F := fun _ => False) hb) id)
 have NE := hI (show bb ≠ ba from fun e => by have := (ownsRow_at RA.out).1; have := (ownsRow_at h7).2.1; omega)
 have B1le := hI (Nat.le_trans ZA.out hb.size)
 clear h7
 have B7 := hI (B5.out.trans (hb.mono B5.out.size))
 clear hb
 go_simp
 refine hK.out _ _ (HS.out _ B7.out) (fun S1 => ?_)
 clear hK K S1
 refine rd1 8 (by kernel_rfl) rfl fun K hK => ?_
 go_simp
 refine (HO.out _ _ _ _ _ _ _ RA7.out RB7.out NE.out B0le.out B1le.out).mono ?_
 rintro e w9 ⟨⟨v9, rfl, h9⟩, hb⟩
 have H9 := hI h9
 have B9 := hI (B7.out.trans hb)
 clear hb h9
 go_simp
 refine hK.out _ _ (HS.out _ B9.out) (fun S1 => ?_)
 clear hK K S1
 refine rd1 9 (by kernel_rfl) rfl fun K hK => ?_
 go_simp
 refine hK.out _ _ (HS.out _ B9.out) (fun S1 => ?_)
 clear hK K S1
 refine wpAnyH_done (by kernel_rfl) ?_ _
 go_wp2
 go_ret
 exact ⟨⟨_, rfl, H9.out⟩, HB1.out.trans (B9.out.mono HB1.out.size)⟩
end Go.Proofs.YtngfknplljedeaaGreat
namespace Go.Proofs.YtngfknplljedeaaGreat
open Go.RowKit
set_option maxRecDepth 100000 in
set_option maxHeartbeats 8000000 in
theorem ilost_walk (v u : Value) (xs ys : List Ch) (w : World) (h : RowsAt w.heap.size 18 Ch.vs v xs w) (h' : RowsAt w.heap.size 18 Ch.vs u ys w) : Calls Tryz.prog 8 #[v, u] w fun e w' => e = .returned (.bool true) ∧ Below w.heap.size w w' := by
 have HLg := hI (rxLarge_any v xs w h)
 have HLg' := hI (rxLarge_any u ys w h')
 have HKn := hI (fun W => ixknown_any W)
 have HRv := hI (show ∀ W, Below w.heap.size w W → RowsAt W.heap.size 18 Ch.vs v xs W from fun W hW => (h.below hW).raise hW.size)
 have HRu := hI (show ∀ W, Below w.heap.size w W → RowsAt W.heap.size 18 Ch.vs u ys W from fun W hW => (h'.below hW).raise hW.size)
 have HMa := hI (show xs.length ≤ 40 → ∀ W, Below w.heap.size w W → Calls Tryz.prog 18 #[v] W fun e w' => ∃ cs, e = .returned (.agg cs.toArray) ∧ CAt w'.heap.size cs (CA.made xs) w' ∧ Below W.heap.size W w' from fun hn W hW => ixMade_any v xs W (HRv.out W hW) (by omega))
 have HMb := hI (show ys.length ≤ 40 → ∀ W, Below w.heap.size w W → Calls Tryz.prog 18 #[u] W fun e w' => ∃ cs, e = .returned (.agg cs.toArray) ∧ CAt w'.heap.size cs (CA.made ys) w' ∧ Below W.heap.size W w' from fun hn W hW => ixMade_any u ys W (HRu.out W hW) (by omega))
 clear h h'
 go_enter Tryz.func8, Tryz.ntmps8
 go_wp2_with (first
  | (go_at_call 14; (with_reducible refine HLg.out.mono ?_); rintro e5 w5 ⟨⟨r, rfl, hr⟩, rfl⟩; have HR := hI hr; clear hr; cases r)
  | (go_at_call 14; (with_reducible refine HLg'.out.mono ?_); rintro e5 w5 ⟨⟨r', rfl, hr⟩, rfl⟩; have HR' := hI hr; clear hr; cases r')
  | (go_at_call 10; go_must (with_reducible refine (HKn.out _).mono ?_); rintro e6 w6 ⟨rfl, b6⟩))
 · have h1 := (HR.out (by trivial)).1
   have h2 := (HR'.out (by trivial)).1
   have HMa := hI (HMa.out h1)
   have HMb := hI (HMb.out h2)
   have hok := CA.made_ok xs
   have hok' := CA.made_ok ys
   have hle := (CA.made_lens xs).mono h1
   have hle' := (CA.made_lens ys).mono h2
   obtain ⟨c, hc⟩ : ∃ c, c = CA.made xs := ⟨_, rfl⟩
   obtain ⟨d, hd⟩ : ∃ c, c = CA.made ys := ⟨_, rfl⟩
   rw [← hc] at HMa hok hle
   rw [← hd] at HMb hok' hle'
   have HPa := hI (show ∀ (es fs : List Value) W, CAt W.heap.size es c W → CAt W.heap.size fs d W → Calls Tryz.prog 35 #[.agg es.toArray, .agg fs.toArray] W fun e w' => (∃ v, e = .returned v ∧ Ints (fun _ => True) v (c.lost d) w') ∧ Below W.heap.size W w' from fun es fs W q1 q2 => (inLost_any es fs c d W q1 q2 hok (hle.mono (by omega)) (hle'.mono (by omega))).mono fun e w' ⟨⟨v, he, hi⟩, hb⟩ => ⟨⟨v, he, hi.imp fun _ _ => trivial⟩, hb⟩)
   have HPb := hI (show ∀ (es fs : List Value) W, CAt W.heap.size es c W → CAt W.heap.size fs d W → Calls Tryz.prog 36 #[.agg es.toArray, .agg fs.toArray] W fun e w' => (∃ v, e = .returned v ∧ Ints (fun _ => True) v (c.lost d) w') ∧ Below W.heap.size W w' from fun es fs W q1 q2 => (ixLost_any es fs c d W q1 q2 (by have := hle.2.2.2; omega)).mono fun e w' ⟨⟨v, he, hi⟩, hb⟩ => ⟨⟨v, he, hi.imp fun _ _ => trivial⟩, hb⟩)
   have HIn := hI (show ∀ (a b : Value) W, Ints (fun _ => True) a (c.lost d) W → Ints (fun _ => True) b (c.lost d) W → Calls Tryz.prog 34 #[a, b] W fun e w' => e = .returned (.bool true) ∧ Below W.heap.size W w' from fun a b W q1 q2 => by
    have := ixInts_any a b _ _ W q1 q2
    rw [decide_eq_true rfl] at this
    exact this)
   clear hok hle hok' hle' hc hd h1 h2
   have HMw := hI (HMa.out w (Below.refl _ _))
   go_wp2_with (first
    | (go_at_call 18; (with_reducible refine HMw.out.mono ?_); rintro e5 w5 ⟨cs, rfl, h5, b5⟩; have H5 := hI h5; have B5 := hI b5; clear h5 b5)
    | (go_at_call 18; (with_reducible refine (HMb.out w5 B5.out).mono ?_); rintro e6 w6 ⟨ds, rfl, h6, b6⟩; have H6 := hI h6; have B6 := hI (B5.out.trans (b6.mono B5.out.size)); have H56 := hI ((H5.out.below b6).raise b6.size); have L5 := hI H5.out.len; have L6 := hI h6.len; have O5 := hI H5.out.ones; have O6 := hI h6.ones; obtain ⟨W1, hW1⟩ : ∃ W, W = (w6.alloc (.cells #[.slice none 0 0, .slice none 0 0, .slice none 0 0, .slice none 0 0] 27 (0, 0))).alloc (.cells #[.slice none 0 0, .slice none 0 0, .slice none 0 0, .slice none 0 0] 27 (0, 0)) := ⟨_, rfl⟩; have bW1 : Below w6.heap.size w6 W1 := (by rw [hW1]; exact ((Below.refl _ _).alloc (Nat.le_refl _) _).alloc (by simp) _); have I1 := hI (show InBox 27 w6.heap.size [.slice none 0 0, .slice none 0 0, .slice none 0 0, .slice none 0 0] CA.none W1 from ⟨by rw [hW1]; exact (St.new _ _ _).alloc _, zero_at _ _⟩); have J1 := hI (show InBox 27 (w6.heap.size + 1) [.slice none 0 0, .slice none 0 0, .slice none 0 0, .slice none 0 0] CA.none W1 from ⟨by rw [hW1]; exact St.new1 w6 _ _ _, zero_at _ _⟩); have C1 := hI ((H56.out.below bW1).raise bW1.size); have D1 := hI ((h6.below bW1).raise bW1.size); have BW1 := hI (B6.out.trans (bW1.mono B6.out.size)); have HW1 := hI hW1; clear h6 b6 bW1 hW1)
    | ((with_reducible show wpList _ _ _ ({ dst := _, op := .store 27 (.tmp 5) _, type := _, pos := _, after := _, guard := _ } :: _) _ _); rw [← HW1.out]; refine wpList_store_st rfl 27 _ _ rfl w6.heap.size cs.toArray (by first | rfl | simp [Act.eval, Act.put]) (by first | rfl | simp [Act.eval, Act.put]) _ I1.out.st (by rw [L5.out]; exact infoCa) (by rw [L5.out]; rfl) O5.out ?_; rintro u1 hu1 -; have I2 := hI (show InBox 27 w6.heap.size cs c u1 from by rw [hu1]; exact I1.out.put C1.out); have J2 := hI (show InBox 27 (w6.heap.size + 1) _ CA.none u1 from by rw [hu1]; exact J1.out.beside I1.out (by omega) _); have D2 := hI (show CAt u1.heap.size ds d u1 from by rw [hu1]; exact (CAt.over I1.out (Nat.le_refl _) D1.out cs.toArray).raise (show W1.heap.size ≤ (W1.setRow w6.heap.size cs.toArray).heap.size from by simp)); have BU1 := hI (show Below w.heap.size w u1 from by rw [hu1]; exact below_row BW1.out B6.out.size _); clear hu1)
    | ((with_reducible show wpList _ _ _ ({ dst := _, op := .store 27 (.tmp 6) _, type := _, pos := _, after := _, guard := _ } :: _) _ _); refine wpList_store_st rfl 27 _ _ rfl (w6.heap.size + 1) ds.toArray (by first | rfl | simp [Act.eval, Act.put]) (by first | rfl | simp [Act.eval, Act.put]) _ J2.out.st (by rw [L6.out]; exact infoCa) (by rw [L6.out]; rfl) O6.out ?_; rintro u2 hu2 -; have I3 := hI (show InBox 27 w6.heap.size cs c u2 from by rw [hu2]; exact I2.out.beside J2.out (by omega) _); have J3 := hI (show InBox 27 (w6.heap.size + 1) ds d u2 from by rw [hu2]; exact J2.out.put D2.out); have BU2 := hI (show Below w.heap.size w u2 from by rw [hu2]; exact below_row BU1.out (by have := B6.out.size; omega) _); clear hu2))
   have HI := hI (show ∀ W, Below u2.heap.size u2 W → InBox 27 w6.heap.size cs c W ∧ InBox 27 (w6.heap.size + 1) ds d W from fun W hW => ⟨I3.out.below hW, J3.out.below hW⟩)
   have HS := hI (show ∀ W, Below u2.heap.size u2 W → St 27 w6.heap.size cs.toArray W ∧ St 27 (w6.heap.size + 1) ds.toArray W from fun W hW => ⟨(HI.out W hW).1.st, (HI.out W hW).2.st⟩)
   have HBD := hI (show Below u2.heap.size u2 u2.drew from (Below.refl _ _).drew)
   have C0 := hI (HS.out _ HBD.out)
   refine wp_region_held (S := fun w' => St 27 w6.heap.size cs.toArray w' ∧ St 27 (w6.heap.size + 1) ds.toArray w') (by kernel_rfl) ?_
   change wpAnyH _ _ _ _ _ _ _ _ (World.drew _)
   generalize World.drew u2 = WD at HBD C0 ⊢
   refine tkl 0 (.agg cs.toArray) rfl (by kernel_rfl) q3 (yld_box (by kernel_rfl) 27 (.tmp 5) rfl (w6.heap.size) (by first | rfl | simp [Act.eval, Act.put]) 27 cs.toArray (fun w' hS => hS.1) _ Tryz.underlying27 rfl (by rw [L5.out]; exact infoCa)) C0.out ?_
   try go_simp
   refine tkl 1 (.agg ds.toArray) rfl (by kernel_rfl) q3 (yld_box (by kernel_rfl) 27 (.tmp 6) rfl (w6.heap.size + 1) (by first | rfl | simp [Act.eval, Act.put]) 27 ds.toArray (fun w' hS => hS.2) _ Tryz.underlying27 rfl (by rw [L6.out]; exact infoCa)) C0.out ?_
   try go_simp
   refine tkl 3 (.agg cs.toArray) rfl (by kernel_rfl) q3 (yld_box (by kernel_rfl) 27 (.tmp 5) rfl (w6.heap.size) (by first | rfl | simp [Act.eval, Act.put]) 27 cs.toArray (fun w' hS => hS.1) _ Tryz.underlying27 rfl (by rw [L5.out]; exact infoCa)) C0.out ?_
   try go_simp
   refine tkl 4 (.agg ds.toArray) rfl (by kernel_rfl) q3 (yld_box (by kernel_rfl) 27 (.tmp 6) rfl (w6.heap.size + 1) (by first | rfl | simp [Act.eval, Act.put]) 27 ds.toArray (fun w' hS => hS.2) _ Tryz.underlying27 rfl (by rw [L6.out]; exact infoCa)) C0.out ?_
   try go_simp
   refine rd1 2 (by kernel_rfl) rfl fun K hK => ?_
   go_simp
   refine (HPa.out cs ds _ (HI.out _ HBD.out).1.at' (HI.out _ HBD.out).2.at').mono ?_
   rintro e7 w7 ⟨⟨va, rfl, ha⟩, b7⟩
   have B7 := hI (HBD.out.trans (b7.mono HBD.out.size))
   have C7 := hI (HS.out _ B7.out)
   have HA7 := hI ha
   clear b7 ha
   go_simp
   refine hK.out _ _ C7.out (fun S1 => ?_)
   clear hK K S1
   refine rd1 5 (by kernel_rfl) rfl fun K hK => ?_
   go_simp
   refine (HPb.out cs ds _ (HI.out _ B7.out).1.at' (HI.out _ B7.out).2.at').mono ?_
   rintro e8 w8 ⟨⟨vb, rfl, hb⟩, b8⟩
   have B8 := hI (B7.out.trans (b8.mono B7.out.size))
   have C8 := hI (HS.out _ B8.out)
   have HB8 := hI hb
   have HA8 := hI (HA7.out.frm (Frm.of_below (F := fun _ => False) b8) fun _ _ e => e)
   clear b8 hb
   go_simp
   refine hK.out _ _ C8.out (fun S1 => ?_)
   clear hK K S1
   refine rd1 6 (by kernel_rfl) rfl fun K hK => ?_
   go_simp
   refine (HIn.out va vb _ HA8.out HB8.out).mono ?_
   rintro e9 w9 ⟨rfl, b9⟩
   have B9 := hI (B8.out.trans (b9.mono B8.out.size))
   have C9 := hI (HS.out _ B9.out)
   clear b9
   go_simp
   refine hK.out _ _ C9.out (fun S1 => ?_)
   clear hK K S1
   refine tkp 7 (.bool true) rfl (by kernel_rfl) q3 (fun w' hS => ?_) C9.out ?_
   · clear hS; go_simp
   try go_simp
   refine rd1 8 (by kernel_rfl) rfl fun K hK => ?_
   go_simp
   refine (HKn.out _).mono ?_
   rintro e10 w10 ⟨rfl, b10⟩
   have B10 := hI (B9.out.trans (b10.mono B9.out.size))
   have C10 := hI (HS.out _ B10.out)
   clear b10
   go_simp
   refine hK.out _ _ C10.out (fun S1 => ?_)
   clear hK K S1
   refine tkp 9 (.bool true) rfl (by kernel_rfl) q3 (fun w' hS => ?_) C10.out ?_
   · clear hS; go_simp
   try go_simp
   refine rd1 10 (by kernel_rfl) rfl fun K hK => ?_
   go_simp
   refine hK.out _ _ C10.out (fun S1 => ?_)
   clear hK K S1
   refine wpAnyH_done (by kernel_rfl) ?_ _
   go_wp2_with fail
   go_ret
   exact ⟨rfl, BU2.out.trans (B10.out.mono BU2.out.size)⟩
 · go_ret
   exact ⟨rfl, b6⟩
 · go_ret
   exact ⟨rfl, b6⟩
end Go.Proofs.YtngfknplljedeaaGreat
