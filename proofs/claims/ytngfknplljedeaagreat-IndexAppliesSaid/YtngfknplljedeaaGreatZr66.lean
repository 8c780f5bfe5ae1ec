/- Lemmas for the laws of index. -/
import Derived.Test.YtngfknplljedeaaGreatZr22
import Derived.Test.YtngfknplljedeaaGreatZr56
import Derived.Test.YtngfknplljedeaaGreatZr58
import Derived.Test.YtngfknplljedeaaGreatZr60
import Derived.Test.YtngfknplljedeaaGreatZrTk
import Derived.Test.YtngfknplljedeaaGreatZrHi
namespace Go.Proofs.YtngfknplljedeaaGreat
open Go.RowKit
theorem CA.same_self (c : CA) : decide (c.changes = c.changes) = true := decide_eq_true rfl
set_option maxRecDepth 100000 in
set_option maxHeartbeats 8000000 in
theorem iapplies_walk (v : Value) (xs : List Ch) (w : World) (h : RowsAt w.heap.size 18 Ch.vs v xs w) (hn : ∀ x ∈ xs, x.num) : Calls Tryz.prog 4 #[v] w fun e w' => e = .returned (.bool true) ∧ Below w.heap.size w w' := by
 have HLg := hI (rxLarge_any v xs w h)
 have HNm := hI hn
 clear hn
 obtain ⟨ao, cap, b, off, rfl, hl, hx⟩ := h.walk
 obtain ⟨n, hnn⟩ : ∃ n, n = xs.length := ⟨_, rfl⟩
 rw [← hnn] at hl hx HLg ⊢
 have HX := hI (show ∀ W, Below w.heap.size w W → ∀ i, i < n → ∃ x : Ch, xs[i]? = some x ∧ ao = some ⟨b, off, none⟩ ∧ W.rangeAt b (off + i * 18) x.vs from fun W hW i hi => by
  obtain ⟨x, e1, e2, e3, e4⟩ := hx i hi
  exact ⟨x, e1, e2, fun j u hu => (hW.cell (p := ⟨b, off + i * 18 + j, none⟩) e3).trans (e4 j u hu)⟩)
 have HKn := hI (fun W => ixknown_any W)
 obtain ⟨w1, hw1⟩ : ∃ w1, w1 = (w.alloc (.cells #[.slice none 0 0, .slice none 0 0, .slice none 0 0, .slice none 0 0] 27 (0, 0))).alloc (.cells #[.slice none 0 0, .slice none 0 0, .slice none 0 0, .slice none 0 0] 27 (0, 0)) := ⟨_, rfl⟩
 have hb1 : Below w.heap.size w w1 := by rw [hw1]; exact ((Below.refl _ w).alloc (Nat.le_refl _) _).alloc (by simp) _
 have hs1 : w1.heap.size = w.heap.size + 1 + 1 := by rw [hw1]; simp
 have st0 : St 27 w.heap.size #[.slice none 0 0, .slice none 0 0, .slice none 0 0, .slice none 0 0] w1 := by rw [hw1]; exact (St.new w _ _).alloc _
 have st1 : St 27 (w.heap.size + 1) #[.slice none 0 0, .slice none 0 0, .slice none 0 0, .slice none 0 0] w1 := by
  rw [hw1, show w.heap.size + 1 = (w.alloc (.cells #[.slice none 0 0, .slice none 0 0, .slice none 0 0, .slice none 0 0] 27 (0, 0))).heap.size from by simp]; exact St.new _ _ _
 have HI0 := hI (show InBox 27 w.heap.size [.slice none 0 0, .slice none 0 0, .slice none 0 0, .slice none 0 0] (CA.made (xs.take 0)) w1 from ⟨st0, zero_at _ _⟩)
 have HI1 := hI (show InBox 27 (w.heap.size + 1) [.slice none 0 0, .slice none 0 0, .slice none 0 0, .slice none 0 0] (CA.made (xs.take 0)) w1 from ⟨st1, zero_at _ _⟩)
 have HB1 := hI hb1
 have HW1 := hI hw1
 have HN := hI hnn
 clear h hx hb1 st0 st1 hw1 hnn
 go_enter Tryz.func4, Tryz.ntmps4
 go_wp2_with (first
  | (go_at_call 14; go_must (with_reducible refine HLg.out.mono ?_); rintro e5 w5 ⟨⟨r, rfl, hr⟩, rfl⟩; have HR := hI hr; clear hr; cases r)
  | (go_at_call 10; go_must (with_reducible refine (HKn.out _).mono ?_); rintro e6 w6 ⟨rfl, b6⟩))
 · have HL40 := hI (show n ≤ 40 from (HR.out (by trivial)).1)
   rw [← HW1.out]
   go_loopw [5] (fun c wr => ∃ (i : Nat) (cs ds : List Value), i ≤ n ∧ c = .int .i64 i ∧ InBox 27 w.heap.size cs (CA.made (xs.take i)) wr ∧ InBox 27 (w.heap.size + 1) ds (CA.made (xs.take i)) wr ∧ Below w.heap.size w wr ∧ w1.heap.size ≤ wr.heap.size) (fun c _ => n - (intOf c).toNat)
   case atStart => exact ⟨0, _, _, Nat.zero_le _, rfl, HI0.out, HI1.out, HB1.out, Nat.le_refl _⟩
   case round =>
    obtain ⟨i, cs, ds, hi, rfl, hin0, hin1, hbel, hsz⟩ := hrel
    have HI0 := hI hin0
    have HI1 := hI hin1
    have HB := hI hbel
    have L0 := hI hin0.at'.len
    have L1 := hI hin1.at'.len
    have O0 := hI hin0.at'.ones
    clear hin0 hin1 hbel
    by_cases hlt : i < n
    · obtain ⟨x, hxi, rfl, hr⟩ := HX.out wr HB.out i hlt
      have HM := hI (CA.made_take xs i x hxi)
      have hle := CA.made_lens (xs.take i)
      rw [List.length_take] at hle
      have hOk := CA.made_ok (xs.take i)
      have hOk2 := CA.made_ok (xs.take (i + 1))
      have hNm2 := CA.made_num (xs.take (i + 1)) (fun x hx => HNm.out x (List.mem_of_mem_take hx))
      have h40 := HL40.out
      obtain ⟨c1, hc1⟩ : ∃ c1, c1 = CA.made (xs.take i) := ⟨_, rfl⟩
      obtain ⟨c2, hc2⟩ : ∃ c2, c2 = CA.made (xs.take (i + 1)) := ⟨_, rfl⟩
      rw [← hc1] at HI0 HI1 HM hle hOk
      rw [← hc2] at HM hOk2 hNm2
      have hle1 : c1.lens 40 := hle.mono (by omega)
      have hle2 : c2.lens 41 := by rw [HM.out]; exact hle1.apply x
      obtain ⟨g, hg⟩ : ∃ g, g = (c1.apply x).2 := ⟨_, rfl⟩
      obtain ⟨xv, hxv⟩ : ∃ xv, xv = x.vs := ⟨_, rfl⟩
      have HV := hI (show xv.length = 18 from by rw [hxv]; rfl)
      have i0 : (0 : Int) ≤ (i : Int) := by omega
      have i1 : (i : Int) < (n : Int) := by omega
      -- the copy of what it was
      obtain ⟨W1, hW1⟩ : ∃ W1, W1 = wr.alloc (.cells cs.toArray 27 (0, 0)) := ⟨_, rfl⟩
      have bW1 : Below wr.heap.size wr W1 := by rw [hW1]; exact (Below.refl _ _).alloc (Nat.le_refl _) _
      have IW0 := hI (show ∀ W, Below W1.heap.size W1 W → InBox 27 w.heap.size cs c1 W from fun W hW => (HI0.out.below bW1).below hW)
      have IW1 := hI (show ∀ W, Below W1.heap.size W1 W → InBox 27 (w.heap.size + 1) ds c1 W from fun W hW => (HI1.out.below bW1).below hW)
      have IWw := hI (show ∀ W, Below W1.heap.size W1 W → InBox 27 wr.heap.size cs c1 W from fun W hW => (show InBox 27 wr.heap.size cs c1 W1 from ⟨by rw [hW1]; exact St.new _ _ _, (HI0.out.below bW1).at'⟩).below hW)
      have HWb := hI (show Below w.heap.size w W1 from HB.out.trans (bW1.mono HB.out.size))
      have hsW1 : W1.heap.size = wr.heap.size + 1 := by rw [hW1]; simp
      have HXv := hI (show ∀ W, Below W1.heap.size W1 W → W.rangeAt b (off + i * 18) xv from fun W hW => by
       obtain ⟨y, y1, _, y3⟩ := HX.out W (HWb.out.trans (hW.mono HWb.out.size)) i hlt
       rw [hxi] at y1
       cases y1
       rw [hxv]
       exact y3)
      have HSA := hI (show ∀ W, Below W1.heap.size W1 W → St 27 w.heap.size cs.toArray W ∧ W.rangeAt b (off + i * 18) xv from fun W hW => ⟨(IW0.out W hW).st, HXv.out W hW⟩)
      have HSB := hI (show ∀ W, Below W1.heap.size W1 W → St 27 (w.heap.size + 1) ds.toArray W ∧ W.rangeAt b (off + i * 18) xv from fun W hW => ⟨(IW1.out W hW).st, HXv.out W hW⟩)
      have HAp := hI (show ∀ W, Below W1.heap.size W1 W → Calls Tryz.prog 15 #[.agg cs.toArray, .agg xv.toArray] W fun e w' => ∃ cs', e = .returned (.tuple #[.agg cs'.toArray, .bool g]) ∧ CAt w'.heap.size cs' c2 w' ∧ Below W.heap.size W w' from fun W hW => by
       have := inApply_any cs c1 x W (IW0.out W hW).at' hOk (hle1.mono (by omega)) (HNm.out x (List.mem_of_getElem? hxi))
       rw [← hg, ← HM.out, ← hxv] at this
       exact this)
      have HXp := hI (show ∀ W, Below W1.heap.size W1 W → Calls Tryz.prog 16 #[.agg ds.toArray, .agg xv.toArray] W fun e w' => ∃ cs', e = .returned (.tuple #[.agg cs'.toArray, .bool g]) ∧ CAt w'.heap.size cs' c2 w' ∧ Below W.heap.size W w' from fun W hW => by
       have := ixApply_at ds c1 x W (IW1.out W hW).at' (hle1.few (by omega))
       rw [← hg, ← HM.out, ← hxv] at this
       exact this)
      have HSm := hI (show ∀ (c : CA) (es fs : List Value) W, c.lens 41 → CAt W.heap.size es c W → CAt W.heap.size fs c W → Calls Tryz.prog 17 #[.agg es.toArray, .agg fs.toArray] W fun e w' => e = .returned (.bool true) ∧ Below W.heap.size W w' from fun c es fs W hl h1 h2 => by
       have hs : c.helds.length + c.files.length + c.names.length + c.blocks.length ≤ 1073741824 := by obtain ⟨q1, q2, q3, q4⟩ := hl; omega
       have := ixSame_any es fs c c W h1 h2 (Nat.le_refl _) hs hs
       rw [CA.same_self] at this
       exact this)
      have HCk := hI (show ∀ (es : List Value) W, CAt W.heap.size es c2 W → Calls Tryz.prog 11 #[.agg es.toArray] W fun e w' => e = .returned (.int .i64 0) ∧ Below W.heap.size W w' from fun es W h1 => (inCheck_any es c2 W h1 (hle2.mono (by omega)) hNm2).mono fun e w' ⟨⟨r, he, _, h3⟩, hb⟩ => ⟨by rw [he, h3.2 hOk2], hb⟩)
      have HLe := hI (And.intro (hle1.mono (show 40 ≤ 41 by omega)) hle2)
      have HWW := hI hW1
      have HC2 := hI hc2
      have BBa := hI (Below.refl W1.heap.size W1)
      clear hr hxi hxv hg hle hOk hOk2 hNm2 hc1 hc2 hle1 hle2 bW1 hW1 h40
      go_wp2_with (first
       | ((with_reducible show wpList _ _ _ ({ dst := some 20, op := .load 27 _, type := _, pos := _, after := _, guard := _ } :: _) _ _); refine wpList_load_st rfl 27 _ rfl w.heap.size rfl 27 cs.toArray HI0.out.st _ Tryz.underlying27 rfl (by rw [L0.out]; exact infoCa) ?_)
       | ((with_reducible show wpList _ _ _ ({ dst := _, op := .store 27 (.tmp 6) _, type := _, pos := _, after := _, guard := _ } :: _) _ _); refine wpList_store_st rfl 27 _ _ rfl wr.heap.size cs.toArray (by first | rfl | simp [Act.eval, Act.put]) (by first | rfl | simp [Act.eval, Act.put]) _ (St.new wr _ _) (by rw [L0.out]; exact infoCa) (by rw [L0.out]; rfl) O0.out ?_; rintro w6 rfl -; rw [alloc_row, ← HWW.out]))
      have HBDa := hI (show Below W1.heap.size W1 W1.drew from BBa.out.drew)
      have C0a := hI (HSA.out _ HBDa.out)
      refine wp_region_held (S := fun w' => St 27 w.heap.size cs.toArray w' ∧ w'.rangeAt b (off + i * 18) xv) (by kernel_rfl) ?_
      change wpAnyH _ _ _ _ _ _ _ _ (World.drew _)
      generalize World.drew W1 = WDa at HBDa C0a ⊢
      refine tkl 0 (.agg cs.toArray) rfl (by kernel_rfl) q3 (yld_box (by kernel_rfl) 27 (.tmp 3) rfl (w.heap.size) (by first | rfl | simp [Act.eval, Act.put]) 27 cs.toArray (fun w' hS => hS.1) _ Tryz.underlying27 rfl (by rw [L0.out]; exact infoCa)) C0a.out ?_
      try go_simp
      refine tkp 1 (.slice (some ⟨b, off, none⟩) n cap) rfl (by kernel_rfl) q3 (fun w' hS => ?_) C0a.out ?_
      · clear hS; go_simp
      try go_simp
      refine tkp 2 (.int .i64 i) rfl (by kernel_rfl) q3 (fun w' hS => ?_) C0a.out ?_
      · clear hS; go_simp
      try go_simp
      refine tkp 3 (.pointer (some ⟨b, off + i * 18, none⟩)) rfl (by kernel_rfl) q3 (fun w' hS => ?_) C0a.out ?_
      · clear hS; go_simp
      try go_simp
      refine tkl 4 (.agg xv.toArray) rfl (by kernel_rfl) q3 (yieldsIf_load_mid (by kernel_rfl) 40 (.tmp 25) rfl b (off + i * 18) (by first | rfl | simp [Act.eval, Act.put]) xv _ (fun w' hS => hS.2) Tryz.underlying40 rfl (by rw [HV.out]; kernel_rfl)) C0a.out ?_
      try go_simp
      refine wpAnyH_ready (rs := [5, 9]) (by kernel_rfl) (by simp) ?_
      refine AllReadyH.cons rfl (fun K hK => ?_) (AllReadyH.cons rfl (fun K hK => ?_) AllReadyH.nil)
      go_simp
      refine (HAp.out _ HBDa.out).mono ?_
      rintro e w5a ⟨cs5a, rfl, h5, b5⟩
      have H5a := hI h5
      have B5a := hI (HBDa.out.trans (b5.mono HBDa.out.size))
      clear h5 b5
      go_simp
      refine hK.out _ _ (HSA.out _ B5a.out) (fun S1 => ?_)
      clear hK K S1
      refine tkp 6 (.tuple #[.agg cs5a.toArray, .bool g]) rfl (by kernel_rfl) q3 (fun w' hS => ?_) (HSA.out _ B5a.out) ?_
      · clear hS; go_simp
      try go_simp
      refine tkp 7 (.agg cs5a.toArray) rfl (by kernel_rfl) q3 (fun w' hS => ?_) (HSA.out _ B5a.out) ?_
      · clear hS; go_simp
      try go_simp
      refine tkp 8 (.bool g) rfl (by kernel_rfl) q3 (fun w' hS => ?_) (HSA.out _ B5a.out) ?_
      · clear hS; go_simp
      try go_simp
      refine rd1 9 (by kernel_rfl) rfl fun K hK => ?_
      go_simp
      obtain ⟨w6a, hw6a⟩ : ∃ W, W = w5a.alloc (.cells #[.slice none 0 0, .slice none 0 0, .slice none 0 0, .slice none 0 0] 27 (0, 0)) := ⟨_, rfl⟩
      have H5a := hI (show CAt w6a.heap.size cs5a c2 w6a from (H5a.out.below (show Below w5a.heap.size w5a w6a from by rw [hw6a]; exact (Below.refl _ _).alloc (Nat.le_refl _) _)).raise (show w5a.heap.size ≤ w6a.heap.size from by rw [hw6a]; simp))
      have B6a := hI (show Below W1.heap.size W1 w6a from by rw [hw6a]; exact B5a.out.alloc B5a.out.size _)
      have NBa := hI (show St 27 w5a.heap.size #[.slice none 0 0, .slice none 0 0, .slice none 0 0, .slice none 0 0] w6a from by rw [hw6a]; exact St.new _ _ _)
      obtain ⟨qa, hq⟩ : ∃ q, q = w5a.heap.size := ⟨_, rfl⟩
      have QGa := hI (show W1.heap.size ≤ qa from by rw [hq]; exact B5a.out.size)
      rw [← hw6a, ← hq]
      rw [← hq] at NBa
      clear hw6a hq
      refine hK.out _ _ (HSA.out _ B6a.out) (fun S1 => ?_)
      clear hK K S1
      refine rd1 10 (by kernel_rfl) rfl fun K hK => ?_
      refine step_store_row rfl 27 (.tmp 7) (.tmp 28) rfl qa cs5a.toArray (by first | rfl | simp [Act.eval, Act.put]) (by first | rfl | simp [Act.eval, Act.put]) 27 #[.slice none 0 0, .slice none 0 0, .slice none 0 0, .slice none 0 0] NBa.out (by rw [H5a.out.len]; exact infoCa) (by rw [H5a.out.len]; rfl) H5a.out.ones ?_
      obtain ⟨w9a, hw9⟩ : ∃ w9, w9 = w6a.setRow qa cs5a.toArray := ⟨_, rfl⟩
      rw [← hw9]
      have Z9a := hI (show InBox 27 qa cs5a c2 w9a from by rw [hw9]; exact InBox.put (c := CA.none) ⟨NBa.out, zero_at _ _⟩ H5a.out)
      have B9a := hI (show Below W1.heap.size W1 w9a from by rw [hw9]; exact below_row B6a.out QGa.out _)
      clear hw9
      go_simp
      refine hK.out _ _ (HSA.out _ B9a.out) (fun S1 => ?_)
      clear hK K S1
      refine rd1 11 (by kernel_rfl) rfl fun K hK => ?_
      go_simp
      refine hK.out _ _ (HSA.out _ B9a.out) (fun S1 => ?_)
      clear hK K S1
      refine wpAnyH_done (by kernel_rfl) ?_ _
      rotate_left
      go_simp
      obtain ⟨w6a, hw6a⟩ : ∃ W, W = WDa.alloc (.cells #[.slice none 0 0, .slice none 0 0, .slice none 0 0, .slice none 0 0] 27 (0, 0)) := ⟨_, rfl⟩
      have B6a := hI (show Below W1.heap.size W1 w6a from by rw [hw6a]; exact HBDa.out.alloc HBDa.out.size _)
      have NBa := hI (show St 27 WDa.heap.size #[.slice none 0 0, .slice none 0 0, .slice none 0 0, .slice none 0 0] w6a from by rw [hw6a]; exact St.new _ _ _)
      obtain ⟨qa, hq⟩ : ∃ q, q = WDa.heap.size := ⟨_, rfl⟩
      have QGa := hI (show W1.heap.size ≤ qa from by rw [hq]; exact HBDa.out.size)
      rw [← hw6a, ← hq]
      rw [← hq] at NBa
      clear hw6a hq
      refine hK.out _ _ (HSA.out _ B6a.out) (fun S1 => ?_)
      clear hK K S1
      refine rd1 5 (by kernel_rfl) rfl fun K hK => ?_
      go_simp
      refine (HAp.out _ B6a.out).mono ?_
      rintro e w5a ⟨cs5a, rfl, h5, b5⟩
      have H5a := hI h5
      have B5a := hI (B6a.out.trans (b5.mono B6a.out.size))
      have NBa := hI (NBa.out.below b5)
      clear h5 b5
      go_simp
      refine hK.out _ _ (HSA.out _ B5a.out) (fun S1 => ?_)
      clear hK K S1
      refine tkp 6 (.tuple #[.agg cs5a.toArray, .bool g]) rfl (by kernel_rfl) q3 (fun w' hS => ?_) (HSA.out _ B5a.out) ?_
      · clear hS; go_simp
      try go_simp
      refine tkp 7 (.agg cs5a.toArray) rfl (by kernel_rfl) q3 (fun w' hS => ?_) (HSA.out _ B5a.out) ?_
      · clear hS; go_simp
      try go_simp
      refine tkp 8 (.bool g) rfl (by kernel_rfl) q3 (fun w' hS => ?_) (HSA.out _ B5a.out) ?_
      · clear hS; go_simp
      try go_simp
      refine rd1 10 (by kernel_rfl) rfl fun K hK => ?_
      refine step_store_row rfl 27 (.tmp 7) (.tmp 28) rfl qa cs5a.toArray (by first | rfl | simp [Act.eval, Act.put]) (by first | rfl | simp [Act.eval, Act.put]) 27 #[.slice none 0 0, .slice none 0 0, .slice none 0 0, .slice none 0 0] NBa.out (by rw [H5a.out.len]; exact infoCa) (by rw [H5a.out.len]; rfl) H5a.out.ones ?_
      obtain ⟨w9a, hw9⟩ : ∃ w9, w9 = w5a.setRow qa cs5a.toArray := ⟨_, rfl⟩
      rw [← hw9]
      have Z9a := hI (show InBox 27 qa cs5a c2 w9a from by rw [hw9]; exact InBox.put (c := CA.none) ⟨NBa.out, zero_at _ _⟩ H5a.out)
      have B9a := hI (show Below W1.heap.size W1 w9a from by rw [hw9]; exact below_row B5a.out QGa.out _)
      clear hw9
      go_simp
      refine hK.out _ _ (HSA.out _ B9a.out) (fun S1 => ?_)
      clear hK K S1
      refine rd1 11 (by kernel_rfl) rfl fun K hK => ?_
      go_simp
      refine hK.out _ _ (HSA.out _ B9a.out) (fun S1 => ?_)
      clear hK K S1
      refine wpAnyH_done (by kernel_rfl) ?_ _
      all_goals (
       have BBb := hI (Below.refl w9a.heap.size w9a)
       have HSB2 := hI (show ∀ W, Below w9a.heap.size w9a W → St 27 (w.heap.size + 1) ds.toArray W ∧ W.rangeAt b (off + i * 18) xv from fun W hW => HSB.out W (B9a.out.trans (hW.mono B9a.out.size)))
       have HXp2 := hI (show ∀ W, Below w9a.heap.size w9a W → Calls Tryz.prog 16 #[.agg ds.toArray, .agg xv.toArray] W fun e w' => ∃ cs', e = .returned (.tuple #[.agg cs'.toArray, .bool g]) ∧ CAt w'.heap.size cs' c2 w' ∧ Below W.heap.size W w' from fun W hW => HXp.out W (B9a.out.trans (hW.mono B9a.out.size)))
       go_wp2_with fail
       have HBDb := hI (show Below w9a.heap.size w9a w9a.drew from BBb.out.drew)
       have C0b := hI (HSB2.out _ HBDb.out)
       refine wp_region_held (S := fun w' => St 27 (w.heap.size + 1) ds.toArray w' ∧ w'.rangeAt b (off + i * 18) xv) (by kernel_rfl) ?_
       change wpAnyH _ _ _ _ _ _ _ _ (World.drew _)
       generalize World.drew w9a = WDb at HBDb C0b ⊢
       refine tkl 0 (.agg ds.toArray) rfl (by kernel_rfl) q3 (yld_box (by kernel_rfl) 27 (.tmp 4) rfl (w.heap.size + 1) (by first | rfl | simp [Act.eval, Act.put]) 27 ds.toArray (fun w' hS => hS.1) _ Tryz.underlying27 rfl (by rw [L1.out]; exact infoCa)) C0b.out ?_
       try go_simp
       refine tkp 1 (.slice (some ⟨b, off, none⟩) n cap) rfl (by kernel_rfl) q3 (fun w' hS => ?_) C0b.out ?_
       · clear hS; go_simp
       try go_simp
       refine tkp 2 (.int .i64 i) rfl (by kernel_rfl) q3 (fun w' hS => ?_) C0b.out ?_
       · clear hS; go_simp
       try go_simp
       refine tkp 3 (.pointer (some ⟨b, off + i * 18, none⟩)) rfl (by kernel_rfl) q3 (fun w' hS => ?_) C0b.out ?_
       · clear hS; go_simp
       try go_simp
       refine tkl 4 (.agg xv.toArray) rfl (by kernel_rfl) q3 (yieldsIf_load_mid (by kernel_rfl) 40 (.tmp 34) rfl b (off + i * 18) (by first | rfl | simp [Act.eval, Act.put]) xv _ (fun w' hS => hS.2) Tryz.underlying40 rfl (by rw [HV.out]; kernel_rfl)) C0b.out ?_
       try go_simp
       refine wpAnyH_ready (rs := [5, 9]) (by kernel_rfl) (by simp) ?_
       refine AllReadyH.cons rfl (fun K hK => ?_) (AllReadyH.cons rfl (fun K hK => ?_) AllReadyH.nil)
       go_simp
       refine (HXp2.out _ HBDb.out).mono ?_
       rintro e w5b ⟨cs5b, rfl, h5, b5⟩
       have H5b := hI h5
       have B5b := hI (HBDb.out.trans (b5.mono HBDb.out.size))
       clear h5 b5
       go_simp
       refine hK.out _ _ (HSB2.out _ B5b.out) (fun S1 => ?_)
       clear hK K S1
       refine tkp 6 (.tuple #[.agg cs5b.toArray, .bool g]) rfl (by kernel_rfl) q3 (fun w' hS => ?_) (HSB2.out _ B5b.out) ?_
       · clear hS; go_simp
       try go_simp
       refine tkp 7 (.agg cs5b.toArray) rfl (by kernel_rfl) q3 (fun w' hS => ?_) (HSB2.out _ B5b.out) ?_
       · clear hS; go_simp
       try go_simp
       refine tkp 8 (.bool g) rfl (by kernel_rfl) q3 (fun w' hS => ?_) (HSB2.out _ B5b.out) ?_
       · clear hS; go_simp
       try go_simp
       refine rd1 9 (by kernel_rfl) rfl fun K hK => ?_
       go_simp
       obtain ⟨w6b, hw6b⟩ : ∃ W, W = w5b.alloc (.cells #[.slice none 0 0, .slice none 0 0, .slice none 0 0, .slice none 0 0] 27 (0, 0)) := ⟨_, rfl⟩
       have H5b := hI (show CAt w6b.heap.size cs5b c2 w6b from (H5b.out.below (show Below w5b.heap.size w5b w6b from by rw [hw6b]; exact (Below.refl _ _).alloc (Nat.le_refl _) _)).raise (show w5b.heap.size ≤ w6b.heap.size from by rw [hw6b]; simp))
       have B6b := hI (show Below w9a.heap.size w9a w6b from by rw [hw6b]; exact B5b.out.alloc B5b.out.size _)
       have NBb := hI (show St 27 w5b.heap.size #[.slice none 0 0, .slice none 0 0, .slice none 0 0, .slice none 0 0] w6b from by rw [hw6b]; exact St.new _ _ _)
       obtain ⟨qb, hq⟩ : ∃ q, q = w5b.heap.size := ⟨_, rfl⟩
       have QGb := hI (show w9a.heap.size ≤ qb from by rw [hq]; exact B5b.out.size)
       rw [← hw6b, ← hq]
       rw [← hq] at NBb
       clear hw6b hq
       refine hK.out _ _ (HSB2.out _ B6b.out) (fun S1 => ?_)
       clear hK K S1
       refine rd1 10 (by kernel_rfl) rfl fun K hK => ?_
       refine step_store_row rfl 27 (.tmp 9) (.tmp 37) rfl qb cs5b.toArray (by first | rfl | simp [Act.eval, Act.put]) (by first | rfl | simp [Act.eval, Act.put]) 27 #[.slice none 0 0, .slice none 0 0, .slice none 0 0, .slice none 0 0] NBb.out (by rw [H5b.out.len]; exact infoCa) (by rw [H5b.out.len]; rfl) H5b.out.ones ?_
       obtain ⟨w9b, hw9⟩ : ∃ w9, w9 = w6b.setRow qb cs5b.toArray := ⟨_, rfl⟩
       rw [← hw9]
       have Z9b := hI (show InBox 27 qb cs5b c2 w9b from by rw [hw9]; exact InBox.put (c := CA.none) ⟨NBb.out, zero_at _ _⟩ H5b.out)
       have B9b := hI (show Below w9a.heap.size w9a w9b from by rw [hw9]; exact below_row B6b.out QGb.out _)
       clear hw9
       go_simp
       refine hK.out _ _ (HSB2.out _ B9b.out) (fun S1 => ?_)
       clear hK K S1
       refine rd1 11 (by kernel_rfl) rfl fun K hK => ?_
       go_simp
       refine hK.out _ _ (HSB2.out _ B9b.out) (fun S1 => ?_)
       clear hK K S1
       refine wpAnyH_done (by kernel_rfl) ?_ _
       rotate_left
       go_simp
       obtain ⟨w6b, hw6b⟩ : ∃ W, W = WDb.alloc (.cells #[.slice none 0 0, .slice none 0 0, .slice none 0 0, .slice none 0 0] 27 (0, 0)) := ⟨_, rfl⟩
       have B6b := hI (show Below w9a.heap.size w9a w6b from by rw [hw6b]; exact HBDb.out.alloc HBDb.out.size _)
       have NBb := hI (show St 27 WDb.heap.size #[.slice none 0 0, .slice none 0 0, .slice none 0 0, .slice none 0 0] w6b from by rw [hw6b]; exact St.new _ _ _)
       obtain ⟨qb, hq⟩ : ∃ q, q = WDb.heap.size := ⟨_, rfl⟩
       have QGb := hI (show w9a.heap.size ≤ qb from by rw [hq]; exact HBDb.out.size)
       rw [← hw6b, ← hq]
       rw [← hq] at NBb
       clear hw6b hq
       refine hK.out _ _ (HSB2.out _ B6b.out) (fun S1 => ?_)
       clear hK K S1
       refine rd1 5 (by kernel_rfl) rfl fun K hK => ?_
       go_simp
       refine (HXp2.out _ B6b.out).mono ?_
       rintro e w5b ⟨cs5b, rfl, h5, b5⟩
       have H5b := hI h5
       have B5b := hI (B6b.out.trans (b5.mono B6b.out.size))
       have NBb := hI (NBb.out.below b5)
       clear h5 b5
       go_simp
       refine hK.out _ _ (HSB2.out _ B5b.out) (fun S1 => ?_)
       clear hK K S1
       refine tkp 6 (.tuple #[.agg cs5b.toArray, .bool g]) rfl (by kernel_rfl) q3 (fun w' hS => ?_) (HSB2.out _ B5b.out) ?_
       · clear hS; go_simp
       try go_simp
       refine tkp 7 (.agg cs5b.toArray) rfl (by kernel_rfl) q3 (fun w' hS => ?_) (HSB2.out _ B5b.out) ?_
       · clear hS; go_simp
       try go_simp
       refine tkp 8 (.bool g) rfl (by kernel_rfl) q3 (fun w' hS => ?_) (HSB2.out _ B5b.out) ?_
       · clear hS; go_simp
       try go_simp
       refine rd1 10 (by kernel_rfl) rfl fun K hK => ?_
       refine step_store_row rfl 27 (.tmp 9) (.tmp 37) rfl qb cs5b.toArray (by first | rfl | simp [Act.eval, Act.put]) (by first | rfl | simp [Act.eval, Act.put]) 27 #[.slice none 0 0, .slice none 0 0, .slice none 0 0, .slice none 0 0] NBb.out (by rw [H5b.out.len]; exact infoCa) (by rw [H5b.out.len]; rfl) H5b.out.ones ?_
       obtain ⟨w9b, hw9⟩ : ∃ w9, w9 = w5b.setRow qb cs5b.toArray := ⟨_, rfl⟩
       rw [← hw9]
       have Z9b := hI (show InBox 27 qb cs5b c2 w9b from by rw [hw9]; exact InBox.put (c := CA.none) ⟨NBb.out, zero_at _ _⟩ H5b.out)
       have B9b := hI (show Below w9a.heap.size w9a w9b from by rw [hw9]; exact below_row B5b.out QGb.out _)
       clear hw9
       go_simp
       refine hK.out _ _ (HSB2.out _ B9b.out) (fun S1 => ?_)
       clear hK K S1
       refine rd1 11 (by kernel_rfl) rfl fun K hK => ?_
       go_simp
       refine hK.out _ _ (HSB2.out _ B9b.out) (fun S1 => ?_)
       clear hK K S1
       refine wpAnyH_done (by kernel_rfl) ?_ _
       all_goals (
        have Ia := hI (Z9a.out.below (show Below w9a.heap.size w9a w9b from B9b.out))
        have BWb := hI (B9a.out.trans (B9b.out.mono B9a.out.size))
        cases g <;>
        (go_wp2_with (first
         | ((with_reducible show wpList _ _ _ ({ dst := some 43, op := .load 27 _, type := _, pos := _, after := _, guard := _ } :: _) _ _); refine wpList_load_stg (by rfl) 27 _ rfl (qa) (by first | rfl | simp [Act.eval, Act.put]) 27 cs5a.toArray (Ia.out.st) _ Tryz.underlying27 rfl (by rw [Ia.out.at'.len]; exact infoCa) ?_)
         | ((with_reducible show wpList _ _ _ ({ dst := some 44, op := .load 27 _, type := _, pos := _, after := _, guard := _ } :: _) _ _); refine wpList_load_stg (by rfl) 27 _ rfl (qb) (by first | rfl | simp [Act.eval, Act.put]) 27 cs5b.toArray (Z9b.out.st) _ Tryz.underlying27 rfl (by rw [Z9b.out.at'.len]; exact infoCa) ?_)
         | (go_at_call 17; (with_reducible refine (HSm.out c2 cs5a cs5b _ HLe.out.2 Ia.out.at' Z9b.out.at').mono ?_); rintro e7 w7 ⟨rfl, b7⟩; have Ia7 := hI (Ia.out.below b7); have Ib7 := hI (Z9b.out.below b7); have B7 := hI (BWb.out.trans (b7.mono BWb.out.size)); clear b7)
         | ((with_reducible show wpList _ _ _ ({ dst := some 49, op := .load 27 _, type := _, pos := _, after := _, guard := _ } :: _) _ _); refine wpList_load_stg (by rfl) 27 _ rfl (wr.heap.size) (by first | rfl | simp [Act.eval, Act.put]) 27 cs.toArray ((IWw.out _ B7.out).st) _ Tryz.underlying27 rfl (by rw [L0.out]; exact infoCa) ?_)
         | ((with_reducible show wpList _ _ _ ({ dst := some 50, op := .load 27 _, type := _, pos := _, after := _, guard := _ } :: _) _ _); refine wpList_load_stg (by rfl) 27 _ rfl (w.heap.size + 1) (by first | rfl | simp [Act.eval, Act.put]) 27 ds.toArray ((IW1.out _ B7.out).st) _ Tryz.underlying27 rfl (by rw [L1.out]; exact infoCa) ?_)
         | (go_at_call 17; (with_reducible refine (HSm.out c1 cs ds _ HLe.out.1 (IWw.out _ B7.out).at' (IW1.out _ B7.out).at').mono ?_); rintro e8 w8 ⟨rfl, b8⟩; have Ia8 := hI (Ia7.out.below b8); have Ib8 := hI (Ib7.out.below b8); have B8 := hI (B7.out.trans (b8.mono B7.out.size)); clear b8)
         | ((with_reducible show wpList _ _ _ ({ dst := some 55, op := .load 27 _, type := _, pos := _, after := _, guard := _ } :: _) _ _); refine wpList_load_stg (by rfl) 27 _ rfl (qa) (by first | rfl | simp [Act.eval, Act.put]) 27 cs5a.toArray (Ia8.out.st) _ Tryz.underlying27 rfl (by rw [Ia8.out.at'.len]; exact infoCa) ?_)
         | (go_at_call 11; go_must (with_reducible refine (HCk.out cs5a _ Ia8.out.at').mono ?_); rintro e9 w9 ⟨rfl, b9⟩; have Ia9 := hI (Ia8.out.below b9); have Ib9 := hI (Ib8.out.below b9); have B9 := hI (B8.out.trans (b9.mono B8.out.size)); clear b9)))
        all_goals (
         have J0 := hI (show InBox 27 w.heap.size cs c1 w9.drew from IW0.out _ B9.out.drew)
         have J1 := hI (show InBox 27 (w.heap.size + 1) ds c1 w9.drew from IW1.out _ B9.out.drew)
         have Ja := hI (show InBox 27 qa cs5a c2 w9.drew from ⟨Ia9.out.st, Ia9.out.at'⟩)
         have Jb := hI (show InBox 27 qb cs5b c2 w9.drew from ⟨Ib9.out.st, Ib9.out.at'⟩)
         have BWd := hI (show Below w.heap.size w w9.drew from (HWb.out.trans (B9.out.mono HWb.out.size)).drew)
         have hq1 := QGa.out
         have hq2 := QGb.out
         have hq3 := B9a.out.size
         have hq4 := B9.out.size
         have hq5 : W1.heap.size ≤ w9.drew.heap.size := hq4
         refine wp_region_held (S := fun w' => St 27 qa cs5a.toArray w' ∧ St 27 qb cs5b.toArray w') (by kernel_rfl) ?_
         change wpAnyH _ _ _ _ _ _ _ _ (World.drew _)
         generalize World.drew w9 = WZ at J0 J1 Ja Jb BWd hq5 ⊢
         have S0 := hI (And.intro Ja.out.st Jb.out.st)
         refine tkl 0 (.agg cs5a.toArray) rfl (by kernel_rfl) q3 (yld_box (by kernel_rfl) 27 (.tmp 7) rfl (qa) (by first | rfl | simp [Act.eval, Act.put]) 27 cs5a.toArray (fun w' hS => hS.1) _ Tryz.underlying27 rfl (by rw [Ja.out.at'.len]; exact infoCa)) S0.out ?_
         try go_simp
         refine tkl 1 (.agg cs5b.toArray) rfl (by kernel_rfl) q3 (yld_box (by kernel_rfl) 27 (.tmp 9) rfl (qb) (by first | rfl | simp [Act.eval, Act.put]) 27 cs5b.toArray (fun w' hS => hS.2) _ Tryz.underlying27 rfl (by rw [Jb.out.at'.len]; exact infoCa)) S0.out ?_
         try go_simp
         refine rd1 2 (by kernel_rfl) rfl fun K hK => ?_
         refine step_store_row rfl 27 (.tmp 3) (.tmp 59) rfl w.heap.size cs5a.toArray (by first | rfl | simp [Act.eval, Act.put]) (by first | rfl | simp [Act.eval, Act.put]) 27 cs.toArray J0.out.st (by rw [Ja.out.at'.len]; exact infoCa) (by rw [L0.out, Ja.out.at'.len]) Ja.out.at'.ones ?_
         obtain ⟨u1, hu1⟩ : ∃ u, u = WZ.setRow w.heap.size cs5a.toArray := ⟨_, rfl⟩
         rw [← hu1]
         have K0 := hI (show InBox 27 w.heap.size cs5a c2 u1 from by rw [hu1]; exact J0.out.put Ja.out.at')
         have K1 := hI (show InBox 27 (w.heap.size + 1) ds c1 u1 from by rw [hu1]; exact J1.out.beside J0.out (by omega) _)
         have Ka := hI (show InBox 27 qa cs5a c2 u1 from by rw [hu1]; exact Ja.out.beside J0.out (by omega) _)
         have Kb := hI (show InBox 27 qb cs5b c2 u1 from by rw [hu1]; exact Jb.out.beside J0.out (by omega) _)
         have BU1 := hI (show Below w.heap.size w u1 from by rw [hu1]; exact below_row BWd.out (Nat.le_refl _) _)
         have hu2 : W1.heap.size ≤ u1.heap.size := by rw [hu1]; simpa using hq5
         clear hu1
         go_simp
         refine hK.out _ _ ⟨Ka.out.st, Kb.out.st⟩ (fun S1 => ?_)
         clear hK K S1
         refine rd1 3 (by kernel_rfl) rfl fun K hK => ?_
         refine step_store_row rfl 27 (.tmp 4) (.tmp 60) rfl (w.heap.size + 1) cs5b.toArray (by first | rfl | simp [Act.eval, Act.put]) (by first | rfl | simp [Act.eval, Act.put]) 27 ds.toArray K1.out.st (by rw [Kb.out.at'.len]; exact infoCa) (by rw [L1.out, Kb.out.at'.len]) Kb.out.at'.ones ?_
         obtain ⟨u2, hv2⟩ : ∃ u, u = u1.setRow (w.heap.size + 1) cs5b.toArray := ⟨_, rfl⟩
         rw [← hv2]
         have M0 := hI (show InBox 27 w.heap.size cs5a c2 u2 from by rw [hv2]; exact K0.out.beside K1.out (by omega) _)
         have M1 := hI (show InBox 27 (w.heap.size + 1) cs5b c2 u2 from by rw [hv2]; exact K1.out.put Kb.out.at')
         have Ma := hI (show InBox 27 qa cs5a c2 u2 from by rw [hv2]; exact Ka.out.beside K1.out (by omega) _)
         have Mb := hI (show InBox 27 qb cs5b c2 u2 from by rw [hv2]; exact Kb.out.beside K1.out (by omega) _)
         have BU2 := hI (show Below w.heap.size w u2 from by rw [hv2]; exact below_row BU1.out (by omega) _)
         have hv3 : W1.heap.size ≤ u2.heap.size := by rw [hv2]; simpa using hu2
         clear hv2
         go_simp
         refine hK.out _ _ ⟨Ma.out.st, Mb.out.st⟩ (fun S1 => ?_)
         clear hK K S1
         refine wpAnyH_done (by kernel_rfl) ?_ _
         go_wp2_with fail
         go_roundw
         case rel => exact ⟨i + 1, cs5a, cs5b, hlt, by go_num, by rw [← HC2.out]; exact M0.out, by rw [← HC2.out]; exact M1.out, BU2.out, by omega⟩
         case measure => simp [intOf]; omega)))
    · obtain rfl : i = n := by omega
      go_wp2_with (first
       | (go_at_call 10; go_must (with_reducible refine (HKn.out _).mono ?_); rintro e6 w6 ⟨rfl, b6⟩))
      go_ret
      exact ⟨rfl, HB.out.trans (b6.mono HB.out.size)⟩
 · go_ret
   exact ⟨rfl, b6⟩
end Go.Proofs.YtngfknplljedeaaGreat
