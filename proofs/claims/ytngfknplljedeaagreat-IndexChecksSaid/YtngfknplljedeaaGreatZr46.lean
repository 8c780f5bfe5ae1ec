/- Lemmas for the laws of index. -/
import Derived.Test.YtngfknplljedeaaGreatZr13
import Derived.Test.YtngfknplljedeaaGreatZr18
import Derived.Test.YtngfknplljedeaaGreatZrTk
import Derived.Test.YtngfknplljedeaaGreatZrHi
namespace Go.Proofs.YtngfknplljedeaaGreat
open Go.RowKit
def hGood (xs : List Hd) (i : Nat) : Prop := (∀ x y, 0 < i → xs[i - 1]? = some y → xs[i]? = some x → ltHd y x = true) ∧ ∀ x, xs[i]? = some x → fnd (pIssued x.up) xs = i
theorem hGood_all (xs : List Hd) : (∀ i, i < xs.length → hGood xs i) ↔ (xs.Pairwise fun a b => ltHd a b = true) ∧ xs.Pairwise fun a b => a.up ≠ b.up := by
 constructor
 · intro h
   refine ⟨rises_of ltHd_trans fun i x y hy hx => (h (i + 1) (List.getElem?_eq_some_iff.1 hx).1).1 x y (Nat.succ_pos _) (by simpa using hy) hx, ?_⟩
   rw [List.pairwise_iff_getElem]
   intro i j hi hj hij e
   have h1 := (h i hi).2 _ (List.getElem?_eq_getElem hi)
   have h2 := (h j hj).2 _ (List.getElem?_eq_getElem hj)
   rw [e, h2] at h1
   omega
 · rintro ⟨h1, h2⟩ i hi
   refine ⟨fun x y h0 hy hx => rises_at h1 (by omega) hy hx, fun x hx => ?_⟩
   refine fnd_hit _ _ i x hx (by simp [pIssued]) fun j y hj hy => ?_
   exact decide_eq_false (rises_at h2 hj hy hx)
set_option maxRecDepth 100000 in
set_option maxHeartbeats 4000000 in
theorem ixhandles_any {B : Nat} (v : Value) (xs : List Hd) (w : World) (h : RowsAt B 3 Hd.vs v xs w) (hB : B ≤ w.heap.size) :
 Calls Tryz.prog 46 #[v] w fun e w' => (∃ r, e = .returned (.bool r) ∧ (r = true ↔ ∀ i, i < xs.length → hGood xs i)) ∧ Below w.heap.size w w' := by
 have HIs := hI (show ∀ (u : ByteArray) W, Below w.heap.size w W → Calls Tryz.prog 24 #[v, .string u] W fun e w' => e = .returned (.int .i64 (fnd (pIssued u) xs)) ∧ W = w' from fun u W hW => ixIssued_any v xs u W (h.below (hW.mono hB)))
 obtain ⟨ao, cap, b, off, rfl, hl, hx⟩ := h.walk
 obtain ⟨n, hnn⟩ : ∃ n, n = xs.length := ⟨_, rfl⟩
 rw [← hnn] at hl hx HIs ⊢
 have HX := hI (show ∀ W, Below w.heap.size w W → ∀ i, i < n → ∃ x : Hd, xs[i]? = some x ∧ ao = some ⟨b, off, none⟩ ∧ W.rangeAt b (off + i * 3) x.vs from fun W hW i hi => by
  obtain ⟨x, e1, e2, e3, e4⟩ := hx i hi
  exact ⟨x, e1, e2, fun j u hu => (hW.cell (p := ⟨b, off + i * 3 + j, none⟩) (Nat.lt_of_lt_of_le e3 hB)).trans (e4 j u hu)⟩)
 have HLs := hI (fun (y x : Hd) W => ixlessHeld_any y x W)
 clear hx h hB hnn
 go_enter Tryz.func46, Tryz.ntmps46
 go_wp2_with fail
 go_loopw [3] (fun c wr => ∃ i : Nat, i ≤ n ∧ c = .int .i64 i ∧ (∀ j, j < i → hGood xs j) ∧ Below w.heap.size w wr) (fun c _ => n - (intOf c).toNat)
 case atStart => exact ⟨0, Nat.zero_le _, rfl, fun j hj => absurd hj (Nat.not_lt_zero _), Below.refl _ _⟩
 case round =>
  obtain ⟨i, hi, rfl, hall, hbel⟩ := hrel
  have HAll := hI hall
  have HB := hI hbel
  clear hall hbel
  by_cases hlt : i < n
  · obtain ⟨x, hxi, rfl, hr⟩ := HX.out wr HB.out i hlt
    have HXi := hI hxi
    have i0 : (0 : Int) ≤ (i : Int) := by omega
    have i1 : (i : Int) < (n : Int) := by omega
    have KX := hI (show ∀ W, Below w.heap.size w W → W.rangeAt b (off + i * 3) x.vs from fun W hW => by
     obtain ⟨y, y1, _, y3⟩ := HX.out W hW i hlt
     rw [HXi.out] at y1
     cases y1
     exact y3)
    clear hr hxi
    obtain ⟨f, hf⟩ : ∃ f, f = fnd (pIssued x.up) xs := ⟨_, rfl⟩
    have HI := hI (show ∀ W, Below w.heap.size w W → Calls Tryz.prog 24 #[.slice (some ⟨b, off, none⟩) n cap, .string x.up] W fun e w' => e = .returned (.int .i64 f) ∧ W = w' from fun W hW => by rw [hf]; exact HIs.out x.up W hW)
    have HF := hI hf
    clear hf
    have HBD := hI (show Below w.heap.size w wr.drew from HB.out.drew)
    cases i with
    | zero =>
     obtain ⟨x0, x1, x2⟩ := x
     have k2 : wr.cell? ⟨b, off + 0 * 3 + 2, none⟩ = some (.string x2) := KX.out wr HB.out 2 _ rfl
     have k2' : wr.cell? ⟨b, off + 2, none⟩ = some (.string x2) := by simpa using k2
     clear k2
     have HI := hI (show ∀ q, Calls Tryz.prog 24 #[.slice (some ⟨b, off, none⟩) n cap, .string x2] (wr.drewN q) fun e w' => e = .returned (.int .i64 f) ∧ w' = wr.drewN q from fun q => (HI.out _ (below_drewN HB.out q)).mono fun e w' ⟨h1, h2⟩ => ⟨h1, h2.symm⟩)
     by_cases hg : f = 0
     · have d : (f != 0) = false := by rw [bne_eq_false_iff_eq]; exact hg
       have HG := hI hg
       clear hg
       go_wp2_with fail
       go_quiet (first | (go_at_call 24; with_reducible exact Calls.quiet_of_same (HI.out _)))
       go_wp2_with fail
       go_roundw
       case rel =>
        refine ⟨1, hlt, by go_num, fun j hj => ?_, below_drewN HB.out _⟩
        obtain rfl : j = 0 := by omega
        refine ⟨fun _ _ h0 => absurd h0 (Nat.lt_irrefl _), fun y hy => ?_⟩
        rw [HXi.out] at hy
        cases hy
        rw [← HF.out, HG.out]
        rfl
       case measure => simp [intOf]; omega
     · have d : (f != 0) = true := by rw [bne_iff_ne]; exact hg
       have HG := hI hg
       clear hg
       go_wp2_with fail
       go_quiet (first | (go_at_call 24; with_reducible exact Calls.quiet_of_same (HI.out _)))
       go_wp2_with fail
       go_ret
       refine ⟨⟨false, rfl, ?_⟩, below_drewN HB.out _⟩
       constructor
       · intro e; cases e
       · intro h
         have := (h 0 hlt).2 _ HXi.out
         rw [← HF.out] at this
         exact absurd this HG.out
    | succ k =>
     obtain ⟨y, hyk, _, hry⟩ := HX.out wr HB.out k (by omega)
     have HYk := hI hyk
     have KY := hI (show ∀ W, Below w.heap.size w W → W.rangeAt b (off + k * 3) y.vs from fun W hW => by
      obtain ⟨z, z1, _, z3⟩ := HX.out W hW k (by omega)
      rw [HYk.out] at z1
      cases z1
      exact z3)
     clear hyk hry
     have HLy := hI (show ∀ W, Calls Tryz.prog 109 #[.agg y.vs.toArray, .agg x.vs.toArray] W fun e w' => e = .returned (.bool (ltHd y x)) ∧ Below W.heap.size W w' from fun W => HLs.out y x W)
     obtain ⟨g, hg⟩ : ∃ g, g = ltHd y x := ⟨_, rfl⟩
     rw [← hg] at HLy
     have HGl := hI hg
     clear hg
     obtain ⟨x0, x1, x2⟩ := x
     obtain ⟨y0, y1, y2⟩ := y
     have HLy := hI (show ∀ W, Calls Tryz.prog 109 #[.agg #[.int .i64 y0, .int .i64 y1, .string y2], .agg #[.int .i64 x0, .int .i64 x1, .string x2]] W fun e w' => e = .returned (.bool g) ∧ Below W.heap.size W w' from HLy.out)
     have HI := hI (show ∀ W, Below w.heap.size w W → Calls Tryz.prog 24 #[.slice (some ⟨b, off, none⟩) n cap, .string x2] W fun e w' => e = .returned (.int .i64 f) ∧ W = w' from HI.out)
     have HKC := hI (show ∀ W, Below w.heap.size w W → W.cell? ⟨b, off + (k + 1) * 3, none⟩ = some (.int .i64 x0) ∧ W.cell? ⟨b, off + (k + 1) * 3 + 1, none⟩ = some (.int .i64 x1) ∧ W.cell? ⟨b, off + (k + 1) * 3 + 2, none⟩ = some (.string x2) ∧ W.cell? ⟨b, off + k * 3, none⟩ = some (.int .i64 y0) ∧ W.cell? ⟨b, off + k * 3 + 1, none⟩ = some (.int .i64 y1) ∧ W.cell? ⟨b, off + k * 3 + 2, none⟩ = some (.string y2) from fun W hW =>
      ⟨KX.out W hW 0 _ rfl, KX.out W hW 1 _ rfl, KX.out W hW 2 _ rfl, KY.out W hW 0 _ rfl, KY.out W hW 1 _ rfl, KY.out W hW 2 _ rfl⟩)
     have j0 : (0 : Int) ≤ (k : Int) := by omega
     have j1 : (k : Int) < (n : Int) := by omega
     have j2 : (0 : Int) ≤ (k : Int) + 1 := by omega
     have j3 : (k : Int) + 1 < (n : Int) := by omega
     have j4 : ((k : Int) + 1).toNat = k + 1 := by omega
     have j5 : IntKind.i64.wrap ((k : Int) + 1 - 1) = (k : Int) := by rw [IntKind.wrap_i64]; omega
     have j6 : IntKind.i64.wrap (k : Int) = (k : Int) := by rw [IntKind.wrap_i64]; omega
     clear i0 i1
     have dk : decide (((k + 1 : Nat) : Int) > 0) = true := decide_eq_true (by omega)
     cases g with
     | true =>
      by_cases hg : f = ((k + 1 : Nat) : Int)
      · have d : (f != ((k : Int) + 1)) = false := by rw [bne_eq_false_iff_eq]; omega
        have HG := hI hg
        clear hg
        go_wp2_with fail
        go_region_held3 (fun W => W.cell? ⟨b, off + (k + 1) * 3, none⟩ = some (.int .i64 x0) ∧ W.cell? ⟨b, off + (k + 1) * 3 + 1, none⟩ = some (.int .i64 x1) ∧ W.cell? ⟨b, off + (k + 1) * 3 + 2, none⟩ = some (.string x2) ∧ W.cell? ⟨b, off + k * 3, none⟩ = some (.int .i64 y0) ∧ W.cell? ⟨b, off + k * 3 + 1, none⟩ = some (.int .i64 y1) ∧ W.cell? ⟨b, off + k * 3 + 2, none⟩ = some (.string y2)) (first | exact HKC.out _ HBD.out | exact C6.out) (first
         | (go_at_call 109; (refine (HLy.out _).mono ?_); rintro e6 w6 ⟨rfl, b6⟩; have B6 := hI (HBD.out.trans (b6.mono HBD.out.size)); have C6 := hI (HKC.out _ B6.out); clear b6)
         | (go_at_call 24; (refine (HI.out _ B6.out).mono ?_); rintro e7 w7 ⟨rfl, rfl⟩))
        all_goals (
         go_wp2_with fail
         go_roundw
         case rel =>
          refine ⟨k + 1 + 1, hlt, by go_num, fun j hj => ?_, B6.out⟩
          by_cases hjk : j < k + 1
          · exact HAll.out j hjk
          · obtain rfl : j = k + 1 := by omega
            refine ⟨fun u z _ hz hu => ?_, fun z hz => ?_⟩
            · rw [HXi.out] at hu
              rw [Nat.add_sub_cancel, HYk.out] at hz
              cases hu
              cases hz
              exact HGl.out.symm
            · rw [HXi.out] at hz
              cases hz
              rw [← HF.out, HG.out]
         case measure => simp [intOf]; omega)
      · have d : (f != ((k : Int) + 1)) = true := by rw [bne_iff_ne]; omega
        have HG := hI hg
        clear hg
        go_wp2_with fail
        go_region_held3 (fun W => W.cell? ⟨b, off + (k + 1) * 3, none⟩ = some (.int .i64 x0) ∧ W.cell? ⟨b, off + (k + 1) * 3 + 1, none⟩ = some (.int .i64 x1) ∧ W.cell? ⟨b, off + (k + 1) * 3 + 2, none⟩ = some (.string x2) ∧ W.cell? ⟨b, off + k * 3, none⟩ = some (.int .i64 y0) ∧ W.cell? ⟨b, off + k * 3 + 1, none⟩ = some (.int .i64 y1) ∧ W.cell? ⟨b, off + k * 3 + 2, none⟩ = some (.string y2)) (first | exact HKC.out _ HBD.out | exact C6.out) (first
         | (go_at_call 109; (refine (HLy.out _).mono ?_); rintro e6 w6 ⟨rfl, b6⟩; have B6 := hI (HBD.out.trans (b6.mono HBD.out.size)); have C6 := hI (HKC.out _ B6.out); clear b6)
         | (go_at_call 24; (refine (HI.out _ B6.out).mono ?_); rintro e7 w7 ⟨rfl, rfl⟩))
        all_goals (
         go_wp2_with fail
         go_ret
         refine ⟨⟨false, rfl, ?_⟩, B6.out⟩
         constructor
         · intro e; cases e
         · intro h
           have := (h (k + 1) hlt).2 _ HXi.out
           rw [← HF.out] at this
           exact absurd this HG.out)
     | false =>
      go_wp2_with fail
      have C0 := hI (HKC.out _ HBD.out)
      refine wp_region_held (S := fun W => W.cell? ⟨b, off + (k + 1) * 3, none⟩ = some (.int .i64 x0) ∧ W.cell? ⟨b, off + (k + 1) * 3 + 1, none⟩ = some (.int .i64 x1) ∧ W.cell? ⟨b, off + (k + 1) * 3 + 2, none⟩ = some (.string x2) ∧ W.cell? ⟨b, off + k * 3, none⟩ = some (.int .i64 y0) ∧ W.cell? ⟨b, off + k * 3 + 1, none⟩ = some (.int .i64 y1) ∧ W.cell? ⟨b, off + k * 3 + 2, none⟩ = some (.string y2)) (by kernel_rfl) ?_
      change wpAnyH _ _ _ _ _ _ _ _ (World.drew _)
      generalize World.drew wr = WD at HBD C0 ⊢
      refine rd1 0 (by kernel_rfl) rfl fun K hK => ?_
      go_simp
      refine hK.out _ _ C0.out (fun S1 => ?_)
      clear hK K S1
      refine rd1 1 (by kernel_rfl) rfl fun K hK => ?_
      go_simp
      refine hK.out _ _ C0.out (fun S1 => ?_)
      clear hK K S1
      refine rd1 2 (by kernel_rfl) rfl fun K hK => ?_
      go_simp
      refine hK.out _ _ C0.out (fun S1 => ?_)
      clear hK K S1
      refine tkp 3 (.slice (some ⟨b, off, none⟩) n cap) rfl (by kernel_rfl) q3 (fun w' hS => ?_) C0.out ?_
      · clear hS; go_simp
      try go_simp
      refine tkp 4 (.int .i64 ((k : Int) + 1)) rfl (by kernel_rfl) q3 (fun w' hS => ?_) C0.out ?_
      · clear hS; go_simp
      try go_simp
      refine tkp 5 (.int .i64 (k : Int)) rfl (by kernel_rfl) q3 (fun w' hS => ?_) C0.out ?_
      · clear hS; go_simp
      try go_simp
      refine tkp 6 (.pointer (some ⟨b, off + k * 3, none⟩)) rfl (by kernel_rfl) q3 (fun w' hS => ?_) C0.out ?_
      · clear hS; go_simp
      try go_simp
      refine tkp 7 (.agg #[.int .i64 y0, .int .i64 y1, .string y2]) rfl (by kernel_rfl) q3 (fun w' hS => ?_) C0.out ?_
      · obtain ⟨s0, s1, s2, s3, s4, s5⟩ := hS; go_simp
      try go_simp
      refine tkp 8 (.slice (some ⟨b, off, none⟩) n cap) rfl (by kernel_rfl) q3 (fun w' hS => ?_) C0.out ?_
      · clear hS; go_simp
      try go_simp
      refine tkp 9 (.int .i64 ((k : Int) + 1)) rfl (by kernel_rfl) q3 (fun w' hS => ?_) C0.out ?_
      · clear hS; go_simp
      try go_simp
      refine tkp 10 (.pointer (some ⟨b, off + (k + 1) * 3, none⟩)) rfl (by kernel_rfl) q3 (fun w' hS => ?_) C0.out ?_
      · clear hS; go_simp
      try go_simp
      refine tkp 11 (.agg #[.int .i64 x0, .int .i64 x1, .string x2]) rfl (by kernel_rfl) q3 (fun w' hS => ?_) C0.out ?_
      · obtain ⟨s0, s1, s2, s3, s4, s5⟩ := hS; go_simp
      try go_simp
      refine rd1 12 (by kernel_rfl) rfl fun K hK => ?_
      go_simp
      refine (HLy.out _).mono ?_
      rintro e6 w6 ⟨rfl, b6⟩
      have B6 := hI (HBD.out.trans (b6.mono HBD.out.size))
      have C6 := hI (HKC.out _ B6.out)
      clear b6
      go_simp
      refine hK.out _ _ C6.out (fun S1 => ?_)
      clear hK K S1
      refine tkp 13 (.bool true) rfl (by kernel_rfl) q3 (fun w' hS => ?_) C6.out ?_
      · clear hS; go_simp
      try go_simp
      refine tkp 14 (.bool true) rfl (by kernel_rfl) q3 (fun w' hS => ?_) C6.out ?_
      · clear hS; go_simp
      refine tkp 15 (.bool true) rfl (by kernel_rfl) q3 (fun w' hS => ?_) C6.out ?_
      · clear hS; go_simp
      try go_simp
      refine tku 16 rfl (by kernel_rfl) q3 C6.out ?_
      refine tku 17 rfl (by kernel_rfl) q3 C6.out ?_
      try go_simp
      refine tku 18 rfl (by kernel_rfl) q3 C6.out ?_
      refine tku 19 rfl (by kernel_rfl) q3 C6.out ?_
      try go_simp
      refine tku 20 rfl (by kernel_rfl) q3 C6.out ?_
      refine tku 21 rfl (by kernel_rfl) q3 C6.out ?_
      try go_simp
      refine tku 22 rfl (by kernel_rfl) q3 C6.out ?_
      refine tku 23 rfl (by kernel_rfl) q3 C6.out ?_
      try go_simp
      refine tku 24 rfl (by kernel_rfl) q3 C6.out ?_
      refine tkp 25 (.bool true) rfl (by kernel_rfl) q3 (fun w' hS => ?_) C6.out ?_
      · clear hS; go_simp
      try go_simp
      refine wpAnyH_done (by kernel_rfl) ?_ _
      all_goals (
       go_wp2_with fail
       go_ret
       refine ⟨⟨false, rfl, ?_⟩, B6.out⟩
       constructor
       · intro e; cases e
       · intro h
         have := (h (k + 1) hlt).1 _ _ (Nat.succ_pos _) (by rw [Nat.add_sub_cancel]; exact HYk.out) HXi.out
         rw [← HGl.out] at this
         cases this)
  · obtain rfl : i = n := by omega
    go_wp2_with fail
    go_ret
    exact ⟨⟨true, rfl, ⟨fun _ => HAll.out, fun _ => rfl⟩⟩, HB.out⟩
def bOne (c : CA) (i : Nat) : Prop := (∀ x y, 0 < i → c.blocks[i - 1]? = some y → c.blocks[i]? = some x → ltBk y x = true) ∧ ∀ x, c.blocks[i]? = some x → ¬ fnd (pFile x.up) c.files < 0
def bGood (c : CA) (i : Nat) : Prop := bOne c i ∧ ∀ k x y, k < i → c.blocks[k]? = some y → c.blocks[i]? = some x → y.slot ≠ x.slot
set_option maxRecDepth 100000 in
set_option maxHeartbeats 8000000 in
theorem ixblocks_any (cs : List Value) (ca : CA) (w : World) (h : CAt w.heap.size cs ca w) :
 Calls Tryz.prog 47 #[.agg cs.toArray] w fun e w' => (∃ r, e = .returned (.bool r) ∧ (r = true ↔ ∀ i, i < ca.blocks.length → bGood ca i)) ∧ Below w.heap.size w w' := by
 have HCC := hI (show ∀ W, Below w.heap.size w W → CAt W.heap.size cs ca W from fun W hW => (h.below hW).raise hW.size)
 obtain ⟨v1, v2, v3, v4, rfl, r1, r2, r3, r4⟩ := h
 obtain ⟨ao, cap, b, off, rfl, hl, hx⟩ := r4.walk
 obtain ⟨n, hnn⟩ : ∃ n, n = ca.blocks.length := ⟨_, rfl⟩
 rw [← hnn] at hl hx HCC ⊢
 obtain ⟨w1, hw1⟩ : ∃ w1, w1 = w.alloc (.cells #[v1, v2, v3, .slice ao n cap] 27 (0, 0)) := ⟨_, rfl⟩
 have hb1 : Below w.heap.size w w1 := by rw [hw1]; exact (Below.refl _ w).alloc (Nat.le_refl _) _
 have hs1 : w1.heap.size = w.heap.size + 1 := by rw [hw1]; simp
 have hst : St 27 w.heap.size #[v1, v2, v3, .slice ao n cap] w1 := by rw [hw1]; exact St.new w 27 _
 have HX := hI (show ∀ W, Below w1.heap.size w1 W → ∀ i, i < n → ∃ x : Bk, ca.blocks[i]? = some x ∧ ao = some ⟨b, off, none⟩ ∧ W.rangeAt b (off + i * 3) x.vs from fun W hW i hi => by
  obtain ⟨x, e1, e2, e3, e4⟩ := hx i hi
  exact ⟨x, e1, e2, fun j u hu => ((hb1.trans (hW.mono hb1.size)).cell (p := ⟨b, off + i * 3 + j, none⟩) e3).trans (e4 j u hu)⟩)
 have HFs := hI (show ∀ u W, Below w1.heap.size w1 W → Calls Tryz.prog 26 #[.agg #[v1, v2, v3, .slice ao n cap], .string u] W fun e w' => e = .returned (.int .i64 (fnd (pFile u) ca.files)) ∧ Below W.heap.size W w' from fun u W hW => ixFile_any [v1, v2, v3, .slice ao n cap] ca u W (HCC.out W (hb1.trans (hW.mono hb1.size))))
 have HCb := hI (show ∀ W, Below w1.heap.size w1 W → W.cell? ⟨w.heap.size, 0, none⟩ = some v1 ∧ W.cell? ⟨w.heap.size, 1, none⟩ = some v2 ∧ W.cell? ⟨w.heap.size, 2, none⟩ = some v3 ∧ W.cell? ⟨w.heap.size, 3, none⟩ = some (.slice ao n cap) from fun W hW => by
  have := hst.below hW
  exact ⟨this.cell rfl, this.cell rfl, this.cell rfl, this.cell rfl⟩)
 have HW1 := hI hw1
 have HB1 := hI hb1
 obtain ⟨e1, e2, e3, e4⟩ := HCb.out w1 (Below.refl _ _)
 clear hx r1 r2 r3 r4 hb1 hw1 hst HCC hnn
 show Calls Tryz.prog 47 #[.agg #[v1, v2, v3, .slice ao n cap]] w _
 go_enter Tryz.func47, Tryz.ntmps47
 go_wp2_with fail
 rw [← HW1.out]
 go_wp2_with fail
 clear e1 e2 e3 e4
 go_loopw [4] (fun c wr => ∃ i : Nat, i ≤ n ∧ c = .int .i64 i ∧ (∀ j, j < i → bGood ca j) ∧ Below w1.heap.size w1 wr) (fun c _ => n - (intOf c).toNat)
 case atStart => exact ⟨0, Nat.zero_le _, rfl, fun j hj => absurd hj (Nat.not_lt_zero _), Below.refl _ _⟩
 case round =>
  obtain ⟨i, hi, rfl, hall, hbel⟩ := hrel
  have HAll := hI hall
  have HB := hI hbel
  clear hall hbel
  by_cases hlt : i < n
  · obtain ⟨x, hxi, rfl, hr⟩ := HX.out wr HB.out i hlt
    have HXi := hI hxi
    have i0 : (0 : Int) ≤ (i : Int) := by omega
    have i1 : (i : Int) < (n : Int) := by omega
    have KX := hI (show ∀ W, Below w1.heap.size w1 W → W.rangeAt b (off + i * 3) x.vs from fun W hW => by
     obtain ⟨y, y1, _, y3⟩ := HX.out W hW i hlt
     rw [HXi.out] at y1
     cases y1
     exact y3)
    clear hr hxi
    obtain ⟨f, hf⟩ : ∃ f, f = fnd (pFile x.up) ca.files := ⟨_, rfl⟩
    have HFi := hI (show ∀ W, Below w1.heap.size w1 W → Calls Tryz.prog 26 #[.agg #[v1, v2, v3, .slice (some ⟨b, off, none⟩) n cap], .string x.up] W fun e w' => e = .returned (.int .i64 f) ∧ Below W.heap.size W w' from fun W hW => by rw [hf]; exact HFs.out x.up W hW)
    have HF := hI hf
    clear hf
    obtain ⟨r, hr⟩ : ∃ r, r = decide (f < 0) := ⟨_, rfl⟩
    have dr := hr.symm
    have HRr := hI hr
    clear hr
    have HBD := hI (show Below w1.heap.size w1 wr.drew from HB.out.drew)
    cases i with
    | zero =>
     obtain ⟨x0, x1, x2⟩ := x
     have HFi := hI (show ∀ W, Below w1.heap.size w1 W → Calls Tryz.prog 26 #[.agg #[v1, v2, v3, .slice (some ⟨b, off, none⟩) n cap], .string x0] W fun e w' => e = .returned (.int .i64 f) ∧ Below W.heap.size W w' from HFi.out)
     have HKC := hI (show ∀ W, Below w1.heap.size w1 W → W.cell? ⟨w.heap.size, 0, none⟩ = some v1 ∧ W.cell? ⟨w.heap.size, 1, none⟩ = some v2 ∧ W.cell? ⟨w.heap.size, 2, none⟩ = some v3 ∧ W.cell? ⟨w.heap.size, 3, none⟩ = some (.slice (some ⟨b, off, none⟩) n cap) ∧ W.cell? ⟨b, off, none⟩ = some (.string x0) from fun W hW => by
      have k0 := KX.out W hW 0 _ rfl
      rw [Nat.zero_mul, Nat.add_zero] at k0
      obtain ⟨c1, c2, c3, c4⟩ := HCb.out W hW
      exact ⟨c1, c2, c3, c4, k0⟩)
     have C0 := hI (HKC.out _ HBD.out)
     cases r with
     | true =>
      go_wp2_with fail
      refine wp_region_held (S := fun W => W.cell? ⟨w.heap.size, 0, none⟩ = some v1 ∧ W.cell? ⟨w.heap.size, 1, none⟩ = some v2 ∧ W.cell? ⟨w.heap.size, 2, none⟩ = some v3 ∧ W.cell? ⟨w.heap.size, 3, none⟩ = some (.slice (some ⟨b, off, none⟩) n cap) ∧ W.cell? ⟨b, off, none⟩ = some (.string x0)) (by kernel_rfl) ?_
      change wpAnyH _ _ _ _ _ _ _ _ (World.drew _)
      generalize World.drew wr = WD at HBD C0 ⊢
      refine rd1 0 (by kernel_rfl) rfl fun K hK => ?_
      go_simp
      refine hK.out _ _ C0.out (fun S1 => ?_)
      clear hK K S1
      refine rd1 1 (by kernel_rfl) rfl fun K hK => ?_
      go_simp
      refine hK.out _ _ C0.out (fun S1 => ?_)
      clear hK K S1
      refine rd1 2 (by kernel_rfl) rfl fun K hK => ?_
      go_simp
      refine hK.out _ _ C0.out (fun S1 => ?_)
      clear hK K S1
      refine tku 3 rfl (by kernel_rfl) q3 C0.out ?_
      try go_simp
      refine tku 4 rfl (by kernel_rfl) q3 C0.out ?_
      refine tku 5 rfl (by kernel_rfl) q3 C0.out ?_
      try go_simp
      refine tku 6 rfl (by kernel_rfl) q3 C0.out ?_
      refine tku 7 rfl (by kernel_rfl) q3 C0.out ?_
      try go_simp
      refine tku 8 rfl (by kernel_rfl) q3 C0.out ?_
      refine tku 9 rfl (by kernel_rfl) q3 C0.out ?_
      try go_simp
      refine tku 10 rfl (by kernel_rfl) q3 C0.out ?_
      refine tku 11 rfl (by kernel_rfl) q3 C0.out ?_
      try go_simp
      refine tku 12 rfl (by kernel_rfl) q3 C0.out ?_
      refine tku 13 rfl (by kernel_rfl) q3 C0.out ?_
      try go_simp
      refine tkp 14 (.bool false) rfl (by kernel_rfl) q3 (fun w' hS => ?_) C0.out ?_
      · clear hS; go_simp
      try go_simp
      refine tkp 15 (.bool false) rfl (by kernel_rfl) q3 (fun w' hS => ?_) C0.out ?_
      · clear hS; go_simp
      try go_simp
      refine tkp 16 (.agg #[v1, v2, v3, .slice (some ⟨b, off, none⟩) n cap]) rfl (by kernel_rfl) q3 (fun w' hS => ?_) C0.out ?_
      · obtain ⟨s0, s1, s2, s3, s4⟩ := hS; go_simp
      try go_simp
      refine tkp 17 (.slice (some ⟨b, off, none⟩) n cap) rfl (by kernel_rfl) q3 (fun w' hS => ?_) C0.out ?_
      · clear hS; go_simp
      try go_simp
      refine tkp 18 (.int .i64 0) rfl (by kernel_rfl) q3 (fun w' hS => ?_) C0.out ?_
      · clear hS; go_simp
      try go_simp
      refine tkp 19 (.pointer (some ⟨b, off, none⟩)) rfl (by kernel_rfl) q3 (fun w' hS => ?_) C0.out ?_
      · clear hS; go_simp
      try go_simp
      refine tkp 20 (.pointer (some ⟨b, off, none⟩)) rfl (by kernel_rfl) q3 (fun w' hS => ?_) C0.out ?_
      · clear hS; go_simp
      try go_simp
      refine tkp 21 (.string x0) rfl (by kernel_rfl) q3 (fun w' hS => ?_) C0.out ?_
      · obtain ⟨s0, s1, s2, s3, s4⟩ := hS; go_simp
      try go_simp
      refine rd1 22 (by kernel_rfl) rfl fun K hK => ?_
      go_simp
      refine (HFi.out _ HBD.out).mono ?_
      rintro e7 w7 ⟨rfl, b7⟩
      have B7 := hI (HBD.out.trans (b7.mono HBD.out.size))
      have C7 := hI (HKC.out _ B7.out)
      clear b7
      go_simp
      refine hK.out _ _ C7.out (fun S1 => ?_)
      clear hK K S1
      refine tkp 23 (.bool true) rfl (by kernel_rfl) q3 (fun w' hS => ?_) C7.out ?_
      · clear hS; go_simp
      try go_simp
      refine tkp 24 (.bool true) rfl (by kernel_rfl) q3 (fun w' hS => ?_) C7.out ?_
      · clear hS; go_simp
      try go_simp
      refine wpAnyH_done (by kernel_rfl) ?_ _
      go_wp2_with fail
      go_ret
      refine ⟨⟨false, rfl, ?_⟩, HB1.out.trans (B7.out.mono HB1.out.size)⟩
      constructor
      · intro e; cases e
      · intro h
        have h1 := (h 0 hlt).1.2 _ HXi.out
        have h2 := of_decide_eq_true HRr.out.symm
        rw [HF.out] at h2
        exact absurd h2 h1
     | false =>
      go_wp2_with fail
      refine wp_region_held (S := fun W => W.cell? ⟨w.heap.size, 0, none⟩ = some v1 ∧ W.cell? ⟨w.heap.size, 1, none⟩ = some v2 ∧ W.cell? ⟨w.heap.size, 2, none⟩ = some v3 ∧ W.cell? ⟨w.heap.size, 3, none⟩ = some (.slice (some ⟨b, off, none⟩) n cap) ∧ W.cell? ⟨b, off, none⟩ = some (.string x0)) (by kernel_rfl) ?_
      change wpAnyH _ _ _ _ _ _ _ _ (World.drew _)
      generalize World.drew wr = WD at HBD C0 ⊢
      refine rd1 0 (by kernel_rfl) rfl fun K hK => ?_
      go_simp
      refine hK.out _ _ C0.out (fun S1 => ?_)
      clear hK K S1
      refine rd1 1 (by kernel_rfl) rfl fun K hK => ?_
      go_simp
      refine hK.out _ _ C0.out (fun S1 => ?_)
      clear hK K S1
      refine rd1 2 (by kernel_rfl) rfl fun K hK => ?_
      go_simp
      refine hK.out _ _ C0.out (fun S1 => ?_)
      clear hK K S1
      refine tku 3 rfl (by kernel_rfl) q3 C0.out ?_
      try go_simp
      refine tku 4 rfl (by kernel_rfl) q3 C0.out ?_
      refine tku 5 rfl (by kernel_rfl) q3 C0.out ?_
      try go_simp
      refine tku 6 rfl (by kernel_rfl) q3 C0.out ?_
      refine tku 7 rfl (by kernel_rfl) q3 C0.out ?_
      try go_simp
      refine tku 8 rfl (by kernel_rfl) q3 C0.out ?_
      refine tku 9 rfl (by kernel_rfl) q3 C0.out ?_
      try go_simp
      refine tku 10 rfl (by kernel_rfl) q3 C0.out ?_
      refine tku 11 rfl (by kernel_rfl) q3 C0.out ?_
      try go_simp
      refine tku 12 rfl (by kernel_rfl) q3 C0.out ?_
      refine tku 13 rfl (by kernel_rfl) q3 C0.out ?_
      try go_simp
      refine tkp 14 (.bool false) rfl (by kernel_rfl) q3 (fun w' hS => ?_) C0.out ?_
      · clear hS; go_simp
      try go_simp
      refine tkp 15 (.bool false) rfl (by kernel_rfl) q3 (fun w' hS => ?_) C0.out ?_
      · clear hS; go_simp
      try go_simp
      refine tkp 16 (.agg #[v1, v2, v3, .slice (some ⟨b, off, none⟩) n cap]) rfl (by kernel_rfl) q3 (fun w' hS => ?_) C0.out ?_
      · obtain ⟨s0, s1, s2, s3, s4⟩ := hS; go_simp
      try go_simp
      refine tkp 17 (.slice (some ⟨b, off, none⟩) n cap) rfl (by kernel_rfl) q3 (fun w' hS => ?_) C0.out ?_
      · clear hS; go_simp
      try go_simp
      refine tkp 18 (.int .i64 0) rfl (by kernel_rfl) q3 (fun w' hS => ?_) C0.out ?_
      · clear hS; go_simp
      try go_simp
      refine tkp 19 (.pointer (some ⟨b, off, none⟩)) rfl (by kernel_rfl) q3 (fun w' hS => ?_) C0.out ?_
      · clear hS; go_simp
      try go_simp
      refine tkp 20 (.pointer (some ⟨b, off, none⟩)) rfl (by kernel_rfl) q3 (fun w' hS => ?_) C0.out ?_
      · clear hS; go_simp
      try go_simp
      refine tkp 21 (.string x0) rfl (by kernel_rfl) q3 (fun w' hS => ?_) C0.out ?_
      · obtain ⟨s0, s1, s2, s3, s4⟩ := hS; go_simp
      try go_simp
      refine rd1 22 (by kernel_rfl) rfl fun K hK => ?_
      go_simp
      refine (HFi.out _ HBD.out).mono ?_
      rintro e7 w7 ⟨rfl, b7⟩
      have B7 := hI (HBD.out.trans (b7.mono HBD.out.size))
      have C7 := hI (HKC.out _ B7.out)
      clear b7
      go_simp
      refine hK.out _ _ C7.out (fun S1 => ?_)
      clear hK K S1
      refine tkp 23 (.bool false) rfl (by kernel_rfl) q3 (fun w' hS => ?_) C7.out ?_
      · clear hS; go_simp
      try go_simp
      refine tkp 24 (.bool false) rfl (by kernel_rfl) q3 (fun w' hS => ?_) C7.out ?_
      · clear hS; go_simp
      try go_simp
      refine wpAnyH_done (by kernel_rfl) ?_ _
      have HOne := hI (show bOne ca 0 from ⟨fun u z h0 hz hu => by
       exact absurd h0 (Nat.lt_irrefl _), fun z hz => by
       rw [HXi.out] at hz
       cases hz
       have h2 := of_decide_eq_false HRr.out.symm
       rw [HF.out] at h2
       exact h2⟩)
      have K2 := hI (show ∀ W, Below w1.heap.size w1 W → W.cell? ⟨b, off + 2, none⟩ = some (.int .i64 x2) from fun W hW => by have := KX.out W hW 2 _ rfl; rw [Nat.zero_mul, Nat.add_zero] at this; exact this)
      clear C0 C7 KX HKC HFi
      go_wp2_with fail
      go_loopw [5] (fun c wq => ∃ m : Nat, m ≤ 0 ∧ c = .int .i64 m ∧ (∀ j y, j < m → ca.blocks[j]? = some y → y.slot ≠ x2) ∧ Below w1.heap.size w1 wq) (fun c _ => 0 - (intOf c).toNat)
      case atStart => exact ⟨0, Nat.zero_le _, rfl, fun j y hj => absurd hj (Nat.not_lt_zero _), B7.out⟩
      case round =>
       obtain ⟨m, hm, rfl, hsl, hbq⟩ := hrel
       have HSl := hI hsl
       have HBq := hI hbq
       clear hsl hbq
       by_cases hmi : m < 0
       · exact absurd hmi (Nat.not_lt_zero _)
       · obtain rfl : m = 0 := by omega
         go_wp2_with fail
         go_roundw
         case rel =>
          refine ⟨0 + 1, hlt, by go_num, fun j hj => ?_, HBq.out⟩
          by_cases hji : j < 0
          · exact HAll.out j hji
          · obtain rfl : j = 0 := by omega
            refine ⟨HOne.out, fun a u z ha hz hu => ?_⟩
            rw [HXi.out] at hu
            cases hu
            exact HSl.out a z ha hz
         case measure => simp [intOf]; omega
    | succ k =>
     obtain ⟨y, hyk, _, hry⟩ := HX.out wr HB.out k (by omega)
     have HYk := hI hyk
     have KY := hI (show ∀ W, Below w1.heap.size w1 W → W.rangeAt b (off + k * 3) y.vs from fun W hW => by
      obtain ⟨z, z1, _, z3⟩ := HX.out W hW k (by omega)
      rw [HYk.out] at z1
      cases z1
      exact z3)
     clear hyk hry
     have HLy := hI (show ∀ W, Calls Tryz.prog 110 #[.agg y.vs.toArray, .agg x.vs.toArray] W fun e w' => e = .returned (.bool (ltBk y x)) ∧ Below W.heap.size W w' from fun W => ixlessPlaced_any y x W)
     obtain ⟨g, hg⟩ : ∃ g, g = ltBk y x := ⟨_, rfl⟩
     rw [← hg] at HLy
     have HGl := hI hg
     clear hg
     obtain ⟨x0, x1, x2⟩ := x
     obtain ⟨y0, y1, y2⟩ := y
     have HLy := hI (show ∀ W, Calls Tryz.prog 110 #[.agg #[.string y0, .int .i64 y1, .int .i64 y2], .agg #[.string x0, .int .i64 x1, .int .i64 x2]] W fun e w' => e = .returned (.bool g) ∧ Below W.heap.size W w' from HLy.out)
     have HFi := hI (show ∀ W, Below w1.heap.size w1 W → Calls Tryz.prog 26 #[.agg #[v1, v2, v3, .slice (some ⟨b, off, none⟩) n cap], .string x0] W fun e w' => e = .returned (.int .i64 f) ∧ Below W.heap.size W w' from HFi.out)
     have HKC := hI (show ∀ W, Below w1.heap.size w1 W → W.cell? ⟨w.heap.size, 0, none⟩ = some v1 ∧ W.cell? ⟨w.heap.size, 1, none⟩ = some v2 ∧ W.cell? ⟨w.heap.size, 2, none⟩ = some v3 ∧ W.cell? ⟨w.heap.size, 3, none⟩ = some (.slice (some ⟨b, off, none⟩) n cap) ∧ W.cell? ⟨b, off + (k + 1) * 3, none⟩ = some (.string x0) ∧ W.cell? ⟨b, off + (k + 1) * 3 + 1, none⟩ = some (.int .i64 x1) ∧ W.cell? ⟨b, off + (k + 1) * 3 + 2, none⟩ = some (.int .i64 x2) ∧ W.cell? ⟨b, off + k * 3, none⟩ = some (.string y0) ∧ W.cell? ⟨b, off + k * 3 + 1, none⟩ = some (.int .i64 y1) ∧ W.cell? ⟨b, off + k * 3 + 2, none⟩ = some (.int .i64 y2) from fun W hW => by
      obtain ⟨c1, c2, c3, c4⟩ := HCb.out W hW
      exact ⟨c1, c2, c3, c4, KX.out W hW 0 _ rfl, KX.out W hW 1 _ rfl, KX.out W hW 2 _ rfl, KY.out W hW 0 _ rfl, KY.out W hW 1 _ rfl, KY.out W hW 2 _ rfl⟩)
     have j0 : (0 : Int) ≤ (k : Int) := by omega
     have j1 : (k : Int) < (n : Int) := by omega
     have j2 : (0 : Int) ≤ (k : Int) + 1 := by omega
     have j3 : (k : Int) + 1 < (n : Int) := by omega
     have j4 : ((k : Int) + 1).toNat = k + 1 := by omega
     have j5 : IntKind.i64.wrap ((k : Int) + 1 - 1) = (k : Int) := by rw [IntKind.wrap_i64]; omega
     have j6 : IntKind.i64.wrap (k : Int) = (k : Int) := by rw [IntKind.wrap_i64]; omega
     have dk : decide (((k + 1 : Nat) : Int) > 0) = true := decide_eq_true (by omega)
     clear i0 i1
     have C0 := hI (HKC.out _ HBD.out)
     cases g with
     | false =>
      go_wp2_with fail
      refine wp_region_held (S := fun W => W.cell? ⟨w.heap.size, 0, none⟩ = some v1 ∧ W.cell? ⟨w.heap.size, 1, none⟩ = some v2 ∧ W.cell? ⟨w.heap.size, 2, none⟩ = some v3 ∧ W.cell? ⟨w.heap.size, 3, none⟩ = some (.slice (some ⟨b, off, none⟩) n cap) ∧ W.cell? ⟨b, off + (k + 1) * 3, none⟩ = some (.string x0) ∧ W.cell? ⟨b, off + (k + 1) * 3 + 1, none⟩ = some (.int .i64 x1) ∧ W.cell? ⟨b, off + (k + 1) * 3 + 2, none⟩ = some (.int .i64 x2) ∧ W.cell? ⟨b, off + k * 3, none⟩ = some (.string y0) ∧ W.cell? ⟨b, off + k * 3 + 1, none⟩ = some (.int .i64 y1) ∧ W.cell? ⟨b, off + k * 3 + 2, none⟩ = some (.int .i64 y2)) (by kernel_rfl) ?_
      change wpAnyH _ _ _ _ _ _ _ _ (World.drew _)
      generalize World.drew wr = WD at HBD C0 ⊢
      refine rd1 0 (by kernel_rfl) rfl fun K hK => ?_
      go_simp
      refine hK.out _ _ C0.out (fun S1 => ?_)
      clear hK K S1
      refine rd1 1 (by kernel_rfl) rfl fun K hK => ?_
      go_simp
      refine hK.out _ _ C0.out (fun S1 => ?_)
      clear hK K S1
      refine rd1 2 (by kernel_rfl) rfl fun K hK => ?_
      go_simp
      refine hK.out _ _ C0.out (fun S1 => ?_)
      clear hK K S1
      refine tkp 3 (.slice (some ⟨b, off, none⟩) n cap) rfl (by kernel_rfl) q3 (fun w' hS => ?_) C0.out ?_
      · clear hS; go_simp
      try go_simp
      refine tkp 4 (.int .i64 ((k : Int) + 1)) rfl (by kernel_rfl) q3 (fun w' hS => ?_) C0.out ?_
      · clear hS; go_simp
      try go_simp
      refine tkp 5 (.int .i64 (k : Int)) rfl (by kernel_rfl) q3 (fun w' hS => ?_) C0.out ?_
      · clear hS; go_simp
      try go_simp
      refine tkp 6 (.pointer (some ⟨b, off + k * 3, none⟩)) rfl (by kernel_rfl) q3 (fun w' hS => ?_) C0.out ?_
      · clear hS; go_simp
      try go_simp
      refine tkp 7 (.agg #[.string y0, .int .i64 y1, .int .i64 y2]) rfl (by kernel_rfl) q3 (fun w' hS => ?_) C0.out ?_
      · obtain ⟨s0, s1, s2, s3, s4, s5, s6, s7, s8, s9⟩ := hS; go_simp
      try go_simp
      refine tkp 8 (.slice (some ⟨b, off, none⟩) n cap) rfl (by kernel_rfl) q3 (fun w' hS => ?_) C0.out ?_
      · clear hS; go_simp
      try go_simp
      refine tkp 9 (.int .i64 ((k : Int) + 1)) rfl (by kernel_rfl) q3 (fun w' hS => ?_) C0.out ?_
      · clear hS; go_simp
      try go_simp
      refine tkp 10 (.pointer (some ⟨b, off + (k + 1) * 3, none⟩)) rfl (by kernel_rfl) q3 (fun w' hS => ?_) C0.out ?_
      · clear hS; go_simp
      try go_simp
      refine tkp 11 (.agg #[.string x0, .int .i64 x1, .int .i64 x2]) rfl (by kernel_rfl) q3 (fun w' hS => ?_) C0.out ?_
      · obtain ⟨s0, s1, s2, s3, s4, s5, s6, s7, s8, s9⟩ := hS; go_simp
      try go_simp
      refine rd1 12 (by kernel_rfl) rfl fun K hK => ?_
      go_simp
      refine (HLy.out _).mono ?_
      rintro e6 w6 ⟨rfl, b6⟩
      have B6 := hI (HBD.out.trans (b6.mono HBD.out.size))
      have C6 := hI (HKC.out _ B6.out)
      clear b6
      go_simp
      refine hK.out _ _ C6.out (fun S1 => ?_)
      clear hK K S1
      refine tkp 13 (.bool true) rfl (by kernel_rfl) q3 (fun w' hS => ?_) C6.out ?_
      · clear hS; go_simp
      try go_simp
      refine tkp 14 (.bool true) rfl (by kernel_rfl) q3 (fun w' hS => ?_) C6.out ?_
      · clear hS; go_simp
      try go_simp
      refine tkp 15 (.bool true) rfl (by kernel_rfl) q3 (fun w' hS => ?_) C6.out ?_
      · clear hS; go_simp
      try go_simp
      refine tku 16 rfl (by kernel_rfl) q3 C6.out ?_
      refine tku 17 rfl (by kernel_rfl) q3 C6.out ?_
      try go_simp
      refine tku 18 rfl (by kernel_rfl) q3 C6.out ?_
      refine tku 19 rfl (by kernel_rfl) q3 C6.out ?_
      try go_simp
      refine tku 20 rfl (by kernel_rfl) q3 C6.out ?_
      refine tku 21 rfl (by kernel_rfl) q3 C6.out ?_
      try go_simp
      refine tku 22 rfl (by kernel_rfl) q3 C6.out ?_
      refine tku 23 rfl (by kernel_rfl) q3 C6.out ?_
      try go_simp
      refine tkp 24 (.bool true) rfl (by kernel_rfl) q3 (fun w' hS => ?_) C6.out ?_
      · clear hS; go_simp
      try go_simp
      refine wpAnyH_done (by kernel_rfl) ?_ _
      go_wp2_with fail
      go_ret
      refine ⟨⟨false, rfl, ?_⟩, HB1.out.trans (B6.out.mono HB1.out.size)⟩
      constructor
      · intro e; cases e
      · intro h
        have := (h (k + 1) hlt).1.1 _ _ (Nat.succ_pos _) (by rw [Nat.add_sub_cancel]; exact HYk.out) HXi.out
        rw [← HGl.out] at this
        cases this
     | true =>
      cases r with
      | true =>
       go_wp2_with fail
       refine wp_region_held (S := fun W => W.cell? ⟨w.heap.size, 0, none⟩ = some v1 ∧ W.cell? ⟨w.heap.size, 1, none⟩ = some v2 ∧ W.cell? ⟨w.heap.size, 2, none⟩ = some v3 ∧ W.cell? ⟨w.heap.size, 3, none⟩ = some (.slice (some ⟨b, off, none⟩) n cap) ∧ W.cell? ⟨b, off + (k + 1) * 3, none⟩ = some (.string x0) ∧ W.cell? ⟨b, off + (k + 1) * 3 + 1, none⟩ = some (.int .i64 x1) ∧ W.cell? ⟨b, off + (k + 1) * 3 + 2, none⟩ = some (.int .i64 x2) ∧ W.cell? ⟨b, off + k * 3, none⟩ = some (.string y0) ∧ W.cell? ⟨b, off + k * 3 + 1, none⟩ = some (.int .i64 y1) ∧ W.cell? ⟨b, off + k * 3 + 2, none⟩ = some (.int .i64 y2)) (by kernel_rfl) ?_
       change wpAnyH _ _ _ _ _ _ _ _ (World.drew _)
       generalize World.drew wr = WD at HBD C0 ⊢
       refine rd1 0 (by kernel_rfl) rfl fun K hK => ?_
       go_simp
       refine hK.out _ _ C0.out (fun S1 => ?_)
       clear hK K S1
       refine rd1 1 (by kernel_rfl) rfl fun K hK => ?_
       go_simp
       refine hK.out _ _ C0.out (fun S1 => ?_)
       clear hK K S1
       refine rd1 2 (by kernel_rfl) rfl fun K hK => ?_
       go_simp
       refine hK.out _ _ C0.out (fun S1 => ?_)
       clear hK K S1
       refine tkp 3 (.slice (some ⟨b, off, none⟩) n cap) rfl (by kernel_rfl) q3 (fun w' hS => ?_) C0.out ?_
       · clear hS; go_simp
       try go_simp
       refine tkp 4 (.int .i64 ((k : Int) + 1)) rfl (by kernel_rfl) q3 (fun w' hS => ?_) C0.out ?_
       · clear hS; go_simp
       try go_simp
       refine tkp 5 (.int .i64 (k : Int)) rfl (by kernel_rfl) q3 (fun w' hS => ?_) C0.out ?_
       · clear hS; go_simp
       try go_simp
       refine tkp 6 (.pointer (some ⟨b, off + k * 3, none⟩)) rfl (by kernel_rfl) q3 (fun w' hS => ?_) C0.out ?_
       · clear hS; go_simp
       try go_simp
       refine tkp 7 (.agg #[.string y0, .int .i64 y1, .int .i64 y2]) rfl (by kernel_rfl) q3 (fun w' hS => ?_) C0.out ?_
       · obtain ⟨s0, s1, s2, s3, s4, s5, s6, s7, s8, s9⟩ := hS; go_simp
       try go_simp
       refine tkp 8 (.slice (some ⟨b, off, none⟩) n cap) rfl (by kernel_rfl) q3 (fun w' hS => ?_) C0.out ?_
       · clear hS; go_simp
       try go_simp
       refine tkp 9 (.int .i64 ((k : Int) + 1)) rfl (by kernel_rfl) q3 (fun w' hS => ?_) C0.out ?_
       · clear hS; go_simp
       try go_simp
       refine tkp 10 (.pointer (some ⟨b, off + (k + 1) * 3, none⟩)) rfl (by kernel_rfl) q3 (fun w' hS => ?_) C0.out ?_
       · clear hS; go_simp
       try go_simp
       refine tkp 11 (.agg #[.string x0, .int .i64 x1, .int .i64 x2]) rfl (by kernel_rfl) q3 (fun w' hS => ?_) C0.out ?_
       · obtain ⟨s0, s1, s2, s3, s4, s5, s6, s7, s8, s9⟩ := hS; go_simp
       try go_simp
       refine rd1 12 (by kernel_rfl) rfl fun K hK => ?_
       go_simp
       refine (HLy.out _).mono ?_
       rintro e6 w6 ⟨rfl, b6⟩
       have B6 := hI (HBD.out.trans (b6.mono HBD.out.size))
       have C6 := hI (HKC.out _ B6.out)
       clear b6
       go_simp
       refine hK.out _ _ C6.out (fun S1 => ?_)
       clear hK K S1
       refine tkp 13 (.bool false) rfl (by kernel_rfl) q3 (fun w' hS => ?_) C6.out ?_
       · clear hS; go_simp
       try go_simp
       refine tkp 14 (.bool false) rfl (by kernel_rfl) q3 (fun w' hS => ?_) C6.out ?_
       · clear hS; go_simp
       try go_simp
       refine tkp 15 (.bool false) rfl (by kernel_rfl) q3 (fun w' hS => ?_) C6.out ?_
       · clear hS; go_simp
       try go_simp
       refine tkp 16 (.agg #[v1, v2, v3, .slice (some ⟨b, off, none⟩) n cap]) rfl (by kernel_rfl) q3 (fun w' hS => ?_) C6.out ?_
       · obtain ⟨s0, s1, s2, s3, s4, s5, s6, s7, s8, s9⟩ := hS; go_simp
       try go_simp
       refine tkp 17 (.slice (some ⟨b, off, none⟩) n cap) rfl (by kernel_rfl) q3 (fun w' hS => ?_) C6.out ?_
       · clear hS; go_simp
       try go_simp
       refine tkp 18 (.int .i64 ((k : Int) + 1)) rfl (by kernel_rfl) q3 (fun w' hS => ?_) C6.out ?_
       · clear hS; go_simp
       try go_simp
       refine tkp 19 (.pointer (some ⟨b, off + (k + 1) * 3, none⟩)) rfl (by kernel_rfl) q3 (fun w' hS => ?_) C6.out ?_
       · clear hS; go_simp
       try go_simp
       refine tkp 20 (.pointer (some ⟨b, off + (k + 1) * 3, none⟩)) rfl (by kernel_rfl) q3 (fun w' hS => ?_) C6.out ?_
       · clear hS; go_simp
       try go_simp
       refine tkp 21 (.string x0) rfl (by kernel_rfl) q3 (fun w' hS => ?_) C6.out ?_
       · obtain ⟨s0, s1, s2, s3, s4, s5, s6, s7, s8, s9⟩ := hS; go_simp
       try go_simp
       refine rd1 22 (by kernel_rfl) rfl fun K hK => ?_
       go_simp
       refine (HFi.out _ B6.out).mono ?_
       rintro e7 w7 ⟨rfl, b7⟩
       have B7 := hI (B6.out.trans (b7.mono B6.out.size))
       have C7 := hI (HKC.out _ B7.out)
       clear b7
       go_simp
       refine hK.out _ _ C7.out (fun S1 => ?_)
       clear hK K S1
       refine tkp 23 (.bool true) rfl (by kernel_rfl) q3 (fun w' hS => ?_) C7.out ?_
       · clear hS; go_simp
       try go_simp
       refine tkp 24 (.bool true) rfl (by kernel_rfl) q3 (fun w' hS => ?_) C7.out ?_
       · clear hS; go_simp
       try go_simp
       refine wpAnyH_done (by kernel_rfl) ?_ _
       go_wp2_with fail
       go_ret
       refine ⟨⟨false, rfl, ?_⟩, HB1.out.trans (B7.out.mono HB1.out.size)⟩
       constructor
       · intro e; cases e
       · intro h
         have h1 := (h (k + 1) hlt).1.2 _ HXi.out
         have h2 := of_decide_eq_true HRr.out.symm
         rw [HF.out] at h2
         exact absurd h2 h1
      | false =>
       go_wp2_with fail
       refine wp_region_held (S := fun W => W.cell? ⟨w.heap.size, 0, none⟩ = some v1 ∧ W.cell? ⟨w.heap.size, 1, none⟩ = some v2 ∧ W.cell? ⟨w.heap.size, 2, none⟩ = some v3 ∧ W.cell? ⟨w.heap.size, 3, none⟩ = some (.slice (some ⟨b, off, none⟩) n cap) ∧ W.cell? ⟨b, off + (k + 1) * 3, none⟩ = some (.string x0) ∧ W.cell? ⟨b, off + (k + 1) * 3 + 1, none⟩ = some (.int .i64 x1) ∧ W.cell? ⟨b, off + (k + 1) * 3 + 2, none⟩ = some (.int .i64 x2) ∧ W.cell? ⟨b, off + k * 3, none⟩ = some (.string y0) ∧ W.cell? ⟨b, off + k * 3 + 1, none⟩ = some (.int .i64 y1) ∧ W.cell? ⟨b, off + k * 3 + 2, none⟩ = some (.int .i64 y2)) (by kernel_rfl) ?_
       change wpAnyH _ _ _ _ _ _ _ _ (World.drew _)
       generalize World.drew wr = WD at HBD C0 ⊢
       refine rd1 0 (by kernel_rfl) rfl fun K hK => ?_
       go_simp
       refine hK.out _ _ C0.out (fun S1 => ?_)
       clear hK K S1
       refine rd1 1 (by kernel_rfl) rfl fun K hK => ?_
       go_simp
       refine hK.out _ _ C0.out (fun S1 => ?_)
       clear hK K S1
       refine rd1 2 (by kernel_rfl) rfl fun K hK => ?_
       go_simp
       refine hK.out _ _ C0.out (fun S1 => ?_)
       clear hK K S1
       refine tkp 3 (.slice (some ⟨b, off, none⟩) n cap) rfl (by kernel_rfl) q3 (fun w' hS => ?_) C0.out ?_
       · clear hS; go_simp
       try go_simp
       refine tkp 4 (.int .i64 ((k : Int) + 1)) rfl (by kernel_rfl) q3 (fun w' hS => ?_) C0.out ?_
       · clear hS; go_simp
       try go_simp
       refine tkp 5 (.int .i64 (k : Int)) rfl (by kernel_rfl) q3 (fun w' hS => ?_) C0.out ?_
       · clear hS; go_simp
       try go_simp
       refine tkp 6 (.pointer (some ⟨b, off + k * 3, none⟩)) rfl (by kernel_rfl) q3 (fun w' hS => ?_) C0.out ?_
       · clear hS; go_simp
       try go_simp
       refine tkp 7 (.agg #[.string y0, .int .i64 y1, .int .i64 y2]) rfl (by kernel_rfl) q3 (fun w' hS => ?_) C0.out ?_
       · obtain ⟨s0, s1, s2, s3, s4, s5, s6, s7, s8, s9⟩ := hS; go_simp
       try go_simp
       refine tkp 8 (.slice (some ⟨b, off, none⟩) n cap) rfl (by kernel_rfl) q3 (fun w' hS => ?_) C0.out ?_
       · clear hS; go_simp
       try go_simp
       refine tkp 9 (.int .i64 ((k : Int) + 1)) rfl (by kernel_rfl) q3 (fun w' hS => ?_) C0.out ?_
       · clear hS; go_simp
       try go_simp
       refine tkp 10 (.pointer (some ⟨b, off + (k + 1) * 3, none⟩)) rfl (by kernel_rfl) q3 (fun w' hS => ?_) C0.out ?_
       · clear hS; go_simp
       try go_simp
       refine tkp 11 (.agg #[.string x0, .int .i64 x1, .int .i64 x2]) rfl (by kernel_rfl) q3 (fun w' hS => ?_) C0.out ?_
       · obtain ⟨s0, s1, s2, s3, s4, s5, s6, s7, s8, s9⟩ := hS; go_simp
       try go_simp
       refine rd1 12 (by kernel_rfl) rfl fun K hK => ?_
       go_simp
       refine (HLy.out _).mono ?_
       rintro e6 w6 ⟨rfl, b6⟩
       have B6 := hI (HBD.out.trans (b6.mono HBD.out.size))
       have C6 := hI (HKC.out _ B6.out)
       clear b6
       go_simp
       refine hK.out _ _ C6.out (fun S1 => ?_)
       clear hK K S1
       refine tkp 13 (.bool false) rfl (by kernel_rfl) q3 (fun w' hS => ?_) C6.out ?_
       · clear hS; go_simp
       try go_simp
       refine tkp 14 (.bool false) rfl (by kernel_rfl) q3 (fun w' hS => ?_) C6.out ?_
       · clear hS; go_simp
       try go_simp
       refine tkp 15 (.bool false) rfl (by kernel_rfl) q3 (fun w' hS => ?_) C6.out ?_
       · clear hS; go_simp
       try go_simp
       refine tkp 16 (.agg #[v1, v2, v3, .slice (some ⟨b, off, none⟩) n cap]) rfl (by kernel_rfl) q3 (fun w' hS => ?_) C6.out ?_
       · obtain ⟨s0, s1, s2, s3, s4, s5, s6, s7, s8, s9⟩ := hS; go_simp
       try go_simp
       refine tkp 17 (.slice (some ⟨b, off, none⟩) n cap) rfl (by kernel_rfl) q3 (fun w' hS => ?_) C6.out ?_
       · clear hS; go_simp
       try go_simp
       refine tkp 18 (.int .i64 ((k : Int) + 1)) rfl (by kernel_rfl) q3 (fun w' hS => ?_) C6.out ?_
       · clear hS; go_simp
       try go_simp
       refine tkp 19 (.pointer (some ⟨b, off + (k + 1) * 3, none⟩)) rfl (by kernel_rfl) q3 (fun w' hS => ?_) C6.out ?_
       · clear hS; go_simp
       try go_simp
       refine tkp 20 (.pointer (some ⟨b, off + (k + 1) * 3, none⟩)) rfl (by kernel_rfl) q3 (fun w' hS => ?_) C6.out ?_
       · clear hS; go_simp
       try go_simp
       refine tkp 21 (.string x0) rfl (by kernel_rfl) q3 (fun w' hS => ?_) C6.out ?_
       · obtain ⟨s0, s1, s2, s3, s4, s5, s6, s7, s8, s9⟩ := hS; go_simp
       try go_simp
       refine rd1 22 (by kernel_rfl) rfl fun K hK => ?_
       go_simp
       refine (HFi.out _ B6.out).mono ?_
       rintro e7 w7 ⟨rfl, b7⟩
       have B7 := hI (B6.out.trans (b7.mono B6.out.size))
       have C7 := hI (HKC.out _ B7.out)
       clear b7
       go_simp
       refine hK.out _ _ C7.out (fun S1 => ?_)
       clear hK K S1
       refine tkp 23 (.bool false) rfl (by kernel_rfl) q3 (fun w' hS => ?_) C7.out ?_
       · clear hS; go_simp
       try go_simp
       refine tkp 24 (.bool false) rfl (by kernel_rfl) q3 (fun w' hS => ?_) C7.out ?_
       · clear hS; go_simp
       try go_simp
       refine wpAnyH_done (by kernel_rfl) ?_ _
       have HOne := hI (show bOne ca (k + 1) from ⟨fun u z h0 hz hu => by
        rw [HXi.out] at hu
        rw [Nat.add_sub_cancel, HYk.out] at hz
        cases hu
        cases hz
        exact HGl.out.symm, fun z hz => by
        rw [HXi.out] at hz
        cases hz
        have h2 := of_decide_eq_false HRr.out.symm
        rw [HF.out] at h2
        exact h2⟩)
       have K2 := hI (show ∀ W, Below w1.heap.size w1 W → W.cell? ⟨b, off + (k + 1) * 3 + 2, none⟩ = some (.int .i64 x2) from fun W hW => KX.out W hW 2 _ rfl)
       clear C0 C7 KX HLy HKC HFi
       go_wp2_with fail
       go_loopw [5] (fun c wq => ∃ m : Nat, m ≤ (k + 1) ∧ c = .int .i64 m ∧ (∀ j y, j < m → ca.blocks[j]? = some y → y.slot ≠ x2) ∧ Below w1.heap.size w1 wq) (fun c _ => (k + 1) - (intOf c).toNat)
       case atStart => exact ⟨0, Nat.zero_le _, rfl, fun j y hj => absurd hj (Nat.not_lt_zero _), B7.out⟩
       case round =>
        obtain ⟨m, hm, rfl, hsl, hbq⟩ := hrel
        have HSl := hI hsl
        have HBq := hI hbq
        clear hsl hbq
        by_cases hmi : m < (k + 1)
        · obtain ⟨z, hzm, _, hrz⟩ := HX.out wr HBq.out m (by omega)
          have HZm := hI hzm
          obtain ⟨z0, z1, z2⟩ := z
          have s1 : wr.cell? ⟨b, off + m * 3 + 2, none⟩ = some (.int .i64 z2) := hrz 2 _ rfl
          have s2 : wr.cell? ⟨b, off + (k + 1) * 3 + 2, none⟩ = some (.int .i64 x2) := K2.out _ HBq.out
          have m0 : (0 : Int) ≤ (m : Int) := by omega
          have m1 : (m : Int) < (n : Int) := by omega
          have m2 : (m : Int) < (k : Int) + 1 := by omega
          clear hzm hrz
          by_cases hz : z2 = x2
          · have d : (z2 == x2) = true := by rw [beq_iff_eq]; exact hz
            have HZ := hI hz
            clear hz
            go_wp2_with fail
            go_quiet (fail)
            go_wp2_with fail
            go_ret
            refine ⟨⟨false, rfl, ?_⟩, HB1.out.trans ((below_drewN HBq.out _).mono HB1.out.size)⟩
            constructor
            · intro e; cases e
            · intro h
              exact absurd HZ.out ((h (k + 1) hlt).2 m _ _ hmi HZm.out HXi.out)
          · have d : (z2 == x2) = false := by rw [beq_eq_false_iff_ne]; exact hz
            have HZ := hI hz
            clear hz
            go_wp2_with fail
            go_quiet (fail)
            go_wp2_with fail
            go_roundw
            case rel =>
             refine ⟨m + 1, by omega, by go_num, fun j y hj hy => ?_, below_drewN HBq.out _⟩
             by_cases hjm : j = m
             · subst hjm
               rw [HZm.out] at hy
               cases hy
               exact HZ.out
             · exact HSl.out j y (by omega) hy
            case measure => simp [intOf]; omega
        · obtain rfl : m = (k + 1) := by omega
          go_wp2_with fail
          go_roundw
          case rel =>
           refine ⟨(k + 1) + 1, hlt, by go_num, fun j hj => ?_, HBq.out⟩
           by_cases hji : j < (k + 1)
           · exact HAll.out j hji
           · obtain rfl : j = (k + 1) := by omega
             refine ⟨HOne.out, fun a u z ha hz hu => ?_⟩
             rw [HXi.out] at hu
             cases hu
             exact HSl.out a z ha hz
          case measure => simp [intOf]; omega
  · obtain rfl : i = n := by omega
    go_wp2_with fail
    go_ret
    exact ⟨⟨true, rfl, ⟨fun _ => HAll.out, fun _ => rfl⟩⟩, HB1.out.trans (HB.out.mono HB1.out.size)⟩
end Go.Proofs.YtngfknplljedeaaGreat
namespace Go.Proofs.YtngfknplljedeaaGreat
def fGood (c : CA) (i : Nat) : Prop := ∀ x y, c.files[i - 1]? = some y → c.files[i]? = some x → slt y.up x.up = true
def nOne (c : CA) (i : Nat) : Prop := (∀ x y, 0 < i → c.names[i - 1]? = some y → c.names[i]? = some x → ltKn y x = true) ∧ ∀ x, c.names[i]? = some x → ¬ fnd (pFile x.dir) c.files < 0
theorem CA.ok_iff (c : CA) : c.Ok ↔ (∀ i, 1 ≤ i → i < c.files.length → fGood c i) ∧ (∀ i, i < c.names.length → nOne c i) ∧ (∀ (j : Nat) x, c.changes[j]? = some x → x.ok = true) ∧ (∀ i, i < c.helds.length → hGood c.helds i) ∧ ∀ i, i < c.blocks.length → bGood c i := by
 constructor
 · intro h
   refine ⟨fun i h1 _ x y hy hx => rises_at h.files (by omega) hy hx, fun i _ => ⟨fun x y h0 hy hx => rises_at h.names (by omega) hy hx, fun x hx => fnd_file (h.dirs x (List.mem_of_getElem? hx))⟩, fun j x hx => h.chs x (List.mem_of_getElem? hx), (hGood_all _).2 ⟨h.helds, h.ups⟩, fun i _ => ⟨⟨fun x y h0 hy hx => rises_at h.blocks (by omega) hy hx, fun x hx => fnd_file (h.ofs x (List.mem_of_getElem? hx))⟩, fun k x y hk hy hx => rises_at h.slots hk hy hx⟩⟩
 · rintro ⟨h1, h2, h3, h4, h5⟩
   obtain ⟨g1, g2⟩ := (hGood_all _).1 h4
   refine ⟨rises_of (lt := fun (a b : Cd) => slt a.up b.up) (fun a b c => slt_trans _ _ _) fun i x y hy hx => h1 (i + 1) (by omega) (List.getElem?_eq_some_iff.1 hx).1 x y (by simpa using hy) hx, rises_of ltKn_trans fun i x y hy hx => (h2 (i + 1) (List.getElem?_eq_some_iff.1 hx).1).1 x y (Nat.succ_pos _) (by simpa using hy) hx, ?_, ?_, g1, g2, rises_of ltBk_trans fun i x y hy hx => (h5 (i + 1) (List.getElem?_eq_some_iff.1 hx).1).1.1 x y (Nat.succ_pos _) (by simpa using hy) hx, ?_, ?_⟩
   · intro x hx
     obtain ⟨i, hi⟩ := List.mem_iff_getElem?.1 hx
     exact has_file ((h2 i (List.getElem?_eq_some_iff.1 hi).1).2 x hi)
   · intro x hx
     obtain ⟨i, hi⟩ := List.mem_iff_getElem?.1 hx
     exact h3 i x hi
   · intro x hx
     obtain ⟨i, hi⟩ := List.mem_iff_getElem?.1 hx
     exact has_file ((h5 i (List.getElem?_eq_some_iff.1 hi).1).1.2 x hi)
   · rw [List.pairwise_iff_getElem]
     intro i j hi hj hij
     exact (h5 j hj).2 i _ _ hij (List.getElem?_eq_getElem hi) (List.getElem?_eq_getElem hj)
end Go.Proofs.YtngfknplljedeaaGreat
namespace Go.Proofs.YtngfknplljedeaaGreat
open Go.RowKit
set_option maxRecDepth 100000 in
set_option maxHeartbeats 16000000 in
theorem ixCheck_any (cs : List Value) (ca : CA) (w : World) (h : CAt w.heap.size cs ca w) (hm : ca.helds.length + ca.files.length + ca.names.length + ca.blocks.length ≤ 1073741824) :
 Calls Tryz.prog 13 #[.agg cs.toArray] w fun e w' => (∃ r, e = .returned (.bool r) ∧ (r = true ↔ ca.Ok)) ∧ Below w.heap.size w w' := by
 have HCC := hI (show ∀ W, Below w.heap.size w W → CAt W.heap.size cs ca W from fun W hW => (h.below hW).raise hW.size)
 obtain ⟨v1, v2, v3, v4, rfl, r1, r2, r3, r4⟩ := h
 have r2' := r2
 obtain ⟨ao2, cap2, b2, off2, hv2, hl2, hx2⟩ := r2.walk
 obtain ⟨ao, cap, b, off, rfl, hl, hx⟩ := r3.walk
 obtain ⟨n, hnn⟩ : ∃ n, n = ca.names.length := ⟨_, rfl⟩
 obtain ⟨n2, hn2⟩ : ∃ n, n = ca.files.length := ⟨_, rfl⟩
 rw [← hnn] at hl hx HCC ⊢
 rw [← hn2] at hl2 hx2 hv2
 have HHs := hI (show ∀ W, Below w.heap.size w W → Calls Tryz.prog 46 #[v1] W fun e w' => (∃ r, e = .returned (.bool r) ∧ (r = true ↔ ∀ i, i < ca.helds.length → hGood ca.helds i)) ∧ Below W.heap.size W w' from fun W hW => ixhandles_any v1 ca.helds W (r1.below hW) hW.size)
 obtain ⟨w1, hw1⟩ : ∃ w1, w1 = w.alloc (.cells #[v1, v2, .slice ao n cap, v4] 27 (0, 0)) := ⟨_, rfl⟩
 have hb1 : Below w.heap.size w w1 := by rw [hw1]; exact (Below.refl _ w).alloc (Nat.le_refl _) _
 have hs1 : w1.heap.size = w.heap.size + 1 := by rw [hw1]; simp
 have hst : St 27 w.heap.size #[v1, v2, .slice ao n cap, v4] w1 := by rw [hw1]; exact St.new w 27 _
 have HX2 := hI (show ∀ W, Below w1.heap.size w1 W → ∀ i, i < n2 → ∃ x : Cd, ca.files[i]? = some x ∧ ao2 = some ⟨b2, off2, none⟩ ∧ W.rangeAt b2 (off2 + i * 11) x.vs from fun W hW i hi => by
  obtain ⟨x, e1, e2, e3, e4⟩ := hx2 i hi
  exact ⟨x, e1, e2, fun j u hu => ((hb1.trans (hW.mono hb1.size)).cell (p := ⟨b2, off2 + i * 11 + j, none⟩) e3).trans (e4 j u hu)⟩)
 have HX := hI (show ∀ W, Below w1.heap.size w1 W → ∀ i, i < n → ∃ x : Kn, ca.names[i]? = some x ∧ ao = some ⟨b, off, none⟩ ∧ W.rangeAt b (off + i * 3) x.vs from fun W hW i hi => by
  obtain ⟨x, e1, e2, e3, e4⟩ := hx i hi
  exact ⟨x, e1, e2, fun j u hu => ((hb1.trans (hW.mono hb1.size)).cell (p := ⟨b, off + i * 3 + j, none⟩) e3).trans (e4 j u hu)⟩)
 have HFs := hI (show ∀ u W, Below w1.heap.size w1 W → Calls Tryz.prog 26 #[.agg #[v1, v2, .slice ao n cap, v4], .string u] W fun e w' => e = .returned (.int .i64 (fnd (pFile u) ca.files)) ∧ Below W.heap.size W w' from fun u W hW => ixFile_any [v1, v2, .slice ao n cap, v4] ca u W (HCC.out W (hb1.trans (hW.mono hb1.size))))
 have HBs := hI (show ∀ W, Below w1.heap.size w1 W → Calls Tryz.prog 47 #[.agg #[v1, v2, .slice ao n cap, v4]] W fun e w' => (∃ r, e = .returned (.bool r) ∧ (r = true ↔ ∀ i, i < ca.blocks.length → bGood ca i)) ∧ Below W.heap.size W w' from fun W hW => ixblocks_any [v1, v2, .slice ao n cap, v4] ca W (HCC.out W (hb1.trans (hW.mono hb1.size))))
 have HCh := hI (show ∀ W, Below w1.heap.size w1 W → Calls Tryz.prog 37 #[.agg #[v1, v2, .slice ao n cap, v4]] W fun e w' => ∃ u, e = .returned u ∧ RowsAt w'.heap.size 18 Ch.vs u ca.changes w' ∧ Below W.heap.size W w' from fun W hW => (rxChanges_any [v1, v2, .slice ao n cap, v4] ca W (HCC.out W (hb1.trans (hW.mono hb1.size))) hm).mono fun e w' ⟨u, he, hr, hb⟩ => ⟨u, he, hr.rows, hb⟩)
 have HCb := hI (show ∀ W, Below w1.heap.size w1 W → W.cell? ⟨w.heap.size, 0, none⟩ = some v1 ∧ W.cell? ⟨w.heap.size, 1, none⟩ = some v2 ∧ W.cell? ⟨w.heap.size, 2, none⟩ = some (.slice ao n cap) ∧ W.cell? ⟨w.heap.size, 3, none⟩ = some v4 from fun W hW => by
  have := hst.below hW
  exact ⟨this.cell rfl, this.cell rfl, this.cell rfl, this.cell rfl⟩)
 have HStB := hI (show ∀ W, Below w1.heap.size w1 W → St 27 w.heap.size #[v1, v2, .slice ao n cap, v4] W from fun W hW => hst.below hW)
 have HW1 := hI hw1
 have HB1 := hI hb1
 have HV2 := hI hv2
 have HN := hI (And.intro hnn hn2)
 clear hx hx2 r1 r2 r2' r3 r4 hb1 hw1 hst HCC hnn hn2 hv2 hm
 show Calls Tryz.prog 13 #[.agg #[v1, v2, .slice ao n cap, v4]] w _
 go_enter Tryz.func13, Tryz.ntmps13
 go_wp2_with fail
 rw [← HW1.out]
 go_loopw [3] (fun c wr => ∃ i : Nat, 1 ≤ i ∧ (i ≤ n2 ∨ i = 1) ∧ c = .int .i64 i ∧ (∀ j, 1 ≤ j → j < i → j < n2 → fGood ca j) ∧ Below w1.heap.size w1 wr) (fun c _ => n2 - (intOf c).toNat)
 case atStart => exact ⟨1, Nat.le_refl _, .inr rfl, rfl, fun j h1 h2 => by omega, Below.refl _ _⟩
 case round =>
  obtain ⟨i, hi1, hi, rfl, hall, hbel⟩ := hrel
  have HAll := hI hall
  have HB := hI hbel
  have e2 : wr.cell? ⟨w.heap.size, 1, none⟩ = some (.slice ao2 n2 cap2) := by rw [← HV2.out]; exact (HCb.out wr hbel).2.1
  clear hall hbel
  by_cases hlt : i < n2
  · obtain ⟨k, rfl⟩ : ∃ k, i = k + 1 := ⟨i - 1, by omega⟩
    obtain ⟨x, hxi, rfl, hr⟩ := HX2.out wr HB.out (k + 1) hlt
    obtain ⟨y, hyk, _, hry⟩ := HX2.out wr HB.out k (by omega)
    obtain ⟨x0, ⟨xa0, xa1, xa2, xa3, xa4, xa5, xa6, xa7, xa8, xa9⟩⟩ := x
    obtain ⟨y0, ⟨ya0, ya1, ya2, ya3, ya4, ya5, ya6, ya7, ya8, ya9⟩⟩ := y
    have c0 : wr.cell? ⟨b2, off2 + (k + 1) * 11, none⟩ = some (.string x0) := hr 0 _ rfl
    have c1 : wr.cell? ⟨b2, off2 + k * 11, none⟩ = some (.string y0) := hry 0 _ rfl
    have HXi := hI hxi
    have HYk := hI hyk
    have j0 : (0 : Int) ≤ (k : Int) := by omega
    have j1 : (k : Int) < (n2 : Int) := by omega
    have j2 : (0 : Int) ≤ (k : Int) + 1 := by omega
    have j3 : (k : Int) + 1 < (n2 : Int) := by omega
    have j4 : ((k : Int) + 1).toNat = k + 1 := by omega
    have j5 : IntKind.i64.wrap ((k : Int) + 1 - 1) = (k : Int) := by rw [IntKind.wrap_i64]; omega
    have j6 : IntKind.i64.wrap (k : Int) = (k : Int) := by rw [IntKind.wrap_i64]; omega
    clear hr hry hxi hyk hi hi1
    cases hsl : slt y0 x0 with
    | true =>
     have hs2 : Op.bytesLess y0.toList x0.toList = true := hsl
     have HSl := hI hsl
     clear hsl
     go_wp2_with fail
     go_quiet (fail)
     go_wp2_with fail
     go_roundw
     case rel =>
      refine ⟨k + 1 + 1, by omega, .inl hlt, by go_num, fun j h1 h2 h3 => ?_, below_drewN HB.out _⟩
      by_cases hj : j < k + 1
      · exact HAll.out j h1 hj h3
      · obtain rfl : j = k + 1 := by omega
        intro u z hz hu
        rw [HXi.out] at hu
        rw [Nat.add_sub_cancel, HYk.out] at hz
        cases hu
        cases hz
        exact HSl.out
     case measure => simp [intOf]; omega
    | false =>
     have hs2 : Op.bytesLess y0.toList x0.toList = false := hsl
     have HSl := hI hsl
     clear hsl
     go_wp2_with fail
     go_quiet (fail)
     go_wp2_with fail
     go_ret
     refine ⟨⟨false, rfl, ?_⟩, HB1.out.trans ((below_drewN HB.out _).mono HB1.out.size)⟩
     constructor
     · intro e; cases e
     · intro h
       have := (ca.ok_iff.1 h).1 (k + 1) (by omega) (by rw [← HN.out.2]; exact hlt) _ _ (by rw [Nat.add_sub_cancel]; exact HYk.out) HXi.out
       rw [HSl.out] at this
       cases this
  · have hge : n2 ≤ i := by omega
    have HFg := hI (show ∀ j, 1 ≤ j → j < ca.files.length → fGood ca j from fun j h1 h2 => HAll.out j h1 (by rw [← HN.out.2] at h2; omega) (by rw [HN.out.2]; exact h2))
    clear HAll
    have hlt2 : decide ((i : Int) < (n2 : Int)) = false := decide_eq_false (by omega)
    go_wp2_with fail
    have HBa := hI HB.out
    clear HB e2 hlt2 hge hlt hi hi1
    go_loopw [4] (fun c wr => ∃ i : Nat, i ≤ n ∧ c = .int .i64 i ∧ (∀ j, j < i → nOne ca j) ∧ Below w1.heap.size w1 wr) (fun c _ => n - (intOf c).toNat)
    case atStart => exact ⟨0, Nat.zero_le _, rfl, fun j hj => absurd hj (Nat.not_lt_zero _), HBa.out⟩
    case round =>
     obtain ⟨i, hi, rfl, hall, hbel⟩ := hrel
     have HAll := hI hall
     have HB := hI hbel
     have e3 : wr.cell? ⟨w.heap.size, 2, none⟩ = some (.slice ao n cap) := (HCb.out wr hbel).2.2.1
     clear hall hbel
     by_cases hlt : i < n
     · obtain ⟨x, hxi, rfl, hr⟩ := HX.out wr HB.out i hlt
       have HXi := hI hxi
       have i0 : (0 : Int) ≤ (i : Int) := by omega
       have i1 : (i : Int) < (n : Int) := by omega
       have KX := hI (show ∀ W, Below w1.heap.size w1 W → W.rangeAt b (off + i * 3) x.vs from fun W hW => by
        obtain ⟨y, y1, _, y3⟩ := HX.out W hW i hlt
        rw [HXi.out] at y1
        cases y1
        exact y3)
       clear hr hxi
       obtain ⟨f, hf⟩ : ∃ f, f = fnd (pFile x.dir) ca.files := ⟨_, rfl⟩
       have HFi := hI (show ∀ W, Below w1.heap.size w1 W → Calls Tryz.prog 26 #[.agg #[v1, v2, .slice (some ⟨b, off, none⟩) n cap, v4], .string x.dir] W fun e w' => e = .returned (.int .i64 f) ∧ Below W.heap.size W w' from fun W hW => by rw [hf]; exact HFs.out x.dir W hW)
       have HF := hI hf
       clear hf
       obtain ⟨r, hr⟩ : ∃ r, r = decide (f < 0) := ⟨_, rfl⟩
       have dr := hr.symm
       have HRr := hI hr
       clear hr
       have HBD := hI (show Below w1.heap.size w1 wr.drew from HB.out.drew)
       cases i with
       | zero =>
        obtain ⟨x0, x1, x2⟩ := x
        have HFi := hI (show ∀ W, Below w1.heap.size w1 W → Calls Tryz.prog 26 #[.agg #[v1, v2, .slice (some ⟨b, off, none⟩) n cap, v4], .string x0] W fun e w' => e = .returned (.int .i64 f) ∧ Below W.heap.size W w' from HFi.out)
        have HKC := hI (show ∀ W, Below w1.heap.size w1 W → W.cell? ⟨w.heap.size, 0, none⟩ = some v1 ∧ W.cell? ⟨w.heap.size, 1, none⟩ = some v2 ∧ W.cell? ⟨w.heap.size, 2, none⟩ = some (.slice (some ⟨b, off, none⟩) n cap) ∧ W.cell? ⟨w.heap.size, 3, none⟩ = some v4 ∧ W.cell? ⟨b, off, none⟩ = some (.string x0) from fun W hW => by
         have k0 := KX.out W hW 0 _ rfl
         rw [Nat.zero_mul, Nat.add_zero] at k0
         obtain ⟨c1, c2, c3, c4⟩ := HCb.out W hW
         exact ⟨c1, c2, c3, c4, k0⟩)
        have C0 := hI (HKC.out _ HBD.out)
        cases r with
        | true =>
         go_wp2_with fail
         refine wp_region_held (S := fun W => W.cell? ⟨w.heap.size, 0, none⟩ = some v1 ∧ W.cell? ⟨w.heap.size, 1, none⟩ = some v2 ∧ W.cell? ⟨w.heap.size, 2, none⟩ = some (.slice (some ⟨b, off, none⟩) n cap) ∧ W.cell? ⟨w.heap.size, 3, none⟩ = some v4 ∧ W.cell? ⟨b, off, none⟩ = some (.string x0)) (by kernel_rfl) ?_
         change wpAnyH _ _ _ _ _ _ _ _ (World.drew _)
         generalize World.drew wr = WD at HBD C0 ⊢
         refine rd1 0 (by kernel_rfl) rfl fun K hK => ?_
         go_simp
         refine hK.out _ _ C0.out (fun S1 => ?_)
         clear hK K S1
         refine rd1 1 (by kernel_rfl) rfl fun K hK => ?_
         go_simp
         refine hK.out _ _ C0.out (fun S1 => ?_)
         clear hK K S1
         refine rd1 2 (by kernel_rfl) rfl fun K hK => ?_
         go_simp
         refine hK.out _ _ C0.out (fun S1 => ?_)
         clear hK K S1
         refine tku 3 rfl (by kernel_rfl) q3 C0.out ?_
         try go_simp
         refine tku 4 rfl (by kernel_rfl) q3 C0.out ?_
         refine tku 5 rfl (by kernel_rfl) q3 C0.out ?_
         try go_simp
         refine tku 6 rfl (by kernel_rfl) q3 C0.out ?_
         refine tku 7 rfl (by kernel_rfl) q3 C0.out ?_
         try go_simp
         refine tku 8 rfl (by kernel_rfl) q3 C0.out ?_
         refine tku 9 rfl (by kernel_rfl) q3 C0.out ?_
         try go_simp
         refine tku 10 rfl (by kernel_rfl) q3 C0.out ?_
         refine tku 11 rfl (by kernel_rfl) q3 C0.out ?_
         try go_simp
         refine tku 12 rfl (by kernel_rfl) q3 C0.out ?_
         refine tku 13 rfl (by kernel_rfl) q3 C0.out ?_
         try go_simp
         refine tku 14 rfl (by kernel_rfl) q3 C0.out ?_
         refine tku 15 rfl (by kernel_rfl) q3 C0.out ?_
         try go_simp
         refine tkp 16 (.bool false) rfl (by kernel_rfl) q3 (fun w' hS => ?_) C0.out ?_
         · clear hS; go_simp
         try go_simp
         refine tkp 17 (.bool false) rfl (by kernel_rfl) q3 (fun w' hS => ?_) C0.out ?_
         · clear hS; go_simp
         try go_simp
         refine tkp 18 (.agg #[v1, v2, .slice (some ⟨b, off, none⟩) n cap, v4]) rfl (by kernel_rfl) q3 (fun w' hS => ?_) C0.out ?_
         · obtain ⟨s0, s1, s2, s3, s4⟩ := hS; go_simp
         try go_simp
         refine tkp 19 (.pointer (some ⟨w.heap.size, 2, none⟩)) rfl (by kernel_rfl) q3 (fun w' hS => ?_) C0.out ?_
         · clear hS; go_simp
         try go_simp
         refine tkp 20 (.slice (some ⟨b, off, none⟩) n cap) rfl (by kernel_rfl) q3 (fun w' hS => ?_) C0.out ?_
         · obtain ⟨s0, s1, s2, s3, s4⟩ := hS; go_simp
         try go_simp
         refine tkp 21 (.int .i64 0) rfl (by kernel_rfl) q3 (fun w' hS => ?_) C0.out ?_
         · clear hS; go_simp
         try go_simp
         refine tkp 22 (.pointer (some ⟨b, off, none⟩)) rfl (by kernel_rfl) q3 (fun w' hS => ?_) C0.out ?_
         · clear hS; go_simp
         try go_simp
         refine tkp 23 (.pointer (some ⟨b, off, none⟩)) rfl (by kernel_rfl) q3 (fun w' hS => ?_) C0.out ?_
         · clear hS; go_simp
         try go_simp
         refine tkp 24 (.string x0) rfl (by kernel_rfl) q3 (fun w' hS => ?_) C0.out ?_
         · obtain ⟨s0, s1, s2, s3, s4⟩ := hS; go_simp
         try go_simp
         refine rd1 25 (by kernel_rfl) rfl fun K hK => ?_
         go_simp
         refine (HFi.out _ HBD.out).mono ?_
         rintro e7 w7 ⟨rfl, b7⟩
         have B7 := hI (HBD.out.trans (b7.mono HBD.out.size))
         have C7 := hI (HKC.out _ B7.out)
         clear b7
         go_simp
         refine hK.out _ _ C7.out (fun S1 => ?_)
         clear hK K S1
         refine tkp 26 (.bool true) rfl (by kernel_rfl) q3 (fun w' hS => ?_) C7.out ?_
         · clear hS; go_simp
         try go_simp
         refine tkp 27 (.bool true) rfl (by kernel_rfl) q3 (fun w' hS => ?_) C7.out ?_
         · clear hS; go_simp
         try go_simp
         refine wpAnyH_done (by kernel_rfl) ?_ _
         go_wp2_with fail
         go_ret
         refine ⟨⟨false, rfl, ?_⟩, HB1.out.trans (B7.out.mono HB1.out.size)⟩
         constructor
         · intro e; cases e
         · intro h
           have h0 := (ca.ok_iff.1 h).2.1 0 (by rw [← HN.out.1]; exact hlt)
           have h2 := of_decide_eq_true HRr.out.symm
           rw [HF.out] at h2
           exact absurd h2 (h0.2 _ HXi.out)
        | false =>
         go_wp2_with fail
         refine wp_region_held (S := fun W => W.cell? ⟨w.heap.size, 0, none⟩ = some v1 ∧ W.cell? ⟨w.heap.size, 1, none⟩ = some v2 ∧ W.cell? ⟨w.heap.size, 2, none⟩ = some (.slice (some ⟨b, off, none⟩) n cap) ∧ W.cell? ⟨w.heap.size, 3, none⟩ = some v4 ∧ W.cell? ⟨b, off, none⟩ = some (.string x0)) (by kernel_rfl) ?_
         change wpAnyH _ _ _ _ _ _ _ _ (World.drew _)
         generalize World.drew wr = WD at HBD C0 ⊢
         refine rd1 0 (by kernel_rfl) rfl fun K hK => ?_
         go_simp
         refine hK.out _ _ C0.out (fun S1 => ?_)
         clear hK K S1
         refine rd1 1 (by kernel_rfl) rfl fun K hK => ?_
         go_simp
         refine hK.out _ _ C0.out (fun S1 => ?_)
         clear hK K S1
         refine rd1 2 (by kernel_rfl) rfl fun K hK => ?_
         go_simp
         refine hK.out _ _ C0.out (fun S1 => ?_)
         clear hK K S1
         refine tku 3 rfl (by kernel_rfl) q3 C0.out ?_
         try go_simp
         refine tku 4 rfl (by kernel_rfl) q3 C0.out ?_
         refine tku 5 rfl (by kernel_rfl) q3 C0.out ?_
         try go_simp
         refine tku 6 rfl (by kernel_rfl) q3 C0.out ?_
         refine tku 7 rfl (by kernel_rfl) q3 C0.out ?_
         try go_simp
         refine tku 8 rfl (by kernel_rfl) q3 C0.out ?_
         refine tku 9 rfl (by kernel_rfl) q3 C0.out ?_
         try go_simp
         refine tku 10 rfl (by kernel_rfl) q3 C0.out ?_
         refine tku 11 rfl (by kernel_rfl) q3 C0.out ?_
         try go_simp
         refine tku 12 rfl (by kernel_rfl) q3 C0.out ?_
         refine tku 13 rfl (by kernel_rfl) q3 C0.out ?_
         try go_simp
         refine tku 14 rfl (by kernel_rfl) q3 C0.out ?_
         refine tku 15 rfl (by kernel_rfl) q3 C0.out ?_
         try go_simp
         refine tkp 16 (.bool false) rfl (by kernel_rfl) q3 (fun w' hS => ?_) C0.out ?_
         · clear hS; go_simp
         try go_simp
         refine tkp 17 (.bool false) rfl (by kernel_rfl) q3 (fun w' hS => ?_) C0.out ?_
         · clear hS; go_simp
         try go_simp
         refine tkp 18 (.agg #[v1, v2, .slice (some ⟨b, off, none⟩) n cap, v4]) rfl (by kernel_rfl) q3 (fun w' hS => ?_) C0.out ?_
         · obtain ⟨s0, s1, s2, s3, s4⟩ := hS; go_simp
         try go_simp
         refine tkp 19 (.pointer (some ⟨w.heap.size, 2, none⟩)) rfl (by kernel_rfl) q3 (fun w' hS => ?_) C0.out ?_
         · clear hS; go_simp
         try go_simp
         refine tkp 20 (.slice (some ⟨b, off, none⟩) n cap) rfl (by kernel_rfl) q3 (fun w' hS => ?_) C0.out ?_
         · obtain ⟨s0, s1, s2, s3, s4⟩ := hS; go_simp
         try go_simp
         refine tkp 21 (.int .i64 0) rfl (by kernel_rfl) q3 (fun w' hS => ?_) C0.out ?_
         · clear hS; go_simp
         try go_simp
         refine tkp 22 (.pointer (some ⟨b, off, none⟩)) rfl (by kernel_rfl) q3 (fun w' hS => ?_) C0.out ?_
         · clear hS; go_simp
         try go_simp
         refine tkp 23 (.pointer (some ⟨b, off, none⟩)) rfl (by kernel_rfl) q3 (fun w' hS => ?_) C0.out ?_
         · clear hS; go_simp
         try go_simp
         refine tkp 24 (.string x0) rfl (by kernel_rfl) q3 (fun w' hS => ?_) C0.out ?_
         · obtain ⟨s0, s1, s2, s3, s4⟩ := hS; go_simp
         try go_simp
         refine rd1 25 (by kernel_rfl) rfl fun K hK => ?_
         go_simp
         refine (HFi.out _ HBD.out).mono ?_
         rintro e7 w7 ⟨rfl, b7⟩
         have B7 := hI (HBD.out.trans (b7.mono HBD.out.size))
         have C7 := hI (HKC.out _ B7.out)
         clear b7
         go_simp
         refine hK.out _ _ C7.out (fun S1 => ?_)
         clear hK K S1
         refine tkp 26 (.bool false) rfl (by kernel_rfl) q3 (fun w' hS => ?_) C7.out ?_
         · clear hS; go_simp
         try go_simp
         refine tkp 27 (.bool false) rfl (by kernel_rfl) q3 (fun w' hS => ?_) C7.out ?_
         · clear hS; go_simp
         try go_simp
         refine wpAnyH_done (by kernel_rfl) ?_ _
         have HOne := hI (show nOne ca 0 from ⟨fun u z h0 hz hu => by
          exact absurd h0 (Nat.lt_irrefl _), fun z hz => by
          rw [HXi.out] at hz
          cases hz
          have h2 := of_decide_eq_false HRr.out.symm
          rw [HF.out] at h2
          exact h2⟩)
         go_wp2_with fail
         go_roundw
         case rel =>
          refine ⟨0 + 1, hlt, by go_num, fun j hj => ?_, B7.out⟩
          by_cases hji : j < 0
          · exact HAll.out j hji
          · obtain rfl : j = 0 := by omega
            exact HOne.out
         case measure => simp [intOf]; omega
       | succ k =>
        obtain ⟨y, hyk, _, hry⟩ := HX.out wr HB.out k (by omega)
        have HYk := hI hyk
        have KY := hI (show ∀ W, Below w1.heap.size w1 W → W.rangeAt b (off + k * 3) y.vs from fun W hW => by
         obtain ⟨z, z1, _, z3⟩ := HX.out W hW k (by omega)
         rw [HYk.out] at z1
         cases z1
         exact z3)
        clear hyk hry
        have HLy := hI (show ∀ W, Calls Tryz.prog 44 #[.agg y.vs.toArray, .agg x.vs.toArray] W fun e w' => e = .returned (.bool (ltKn y x)) ∧ Below W.heap.size W w' from fun W => ixlessKnown_any y x W)
        obtain ⟨g, hg⟩ : ∃ g, g = ltKn y x := ⟨_, rfl⟩
        rw [← hg] at HLy
        have HGl := hI hg
        clear hg
        obtain ⟨x0, x1, x2⟩ := x
        obtain ⟨y0, y1, y2⟩ := y
        have HLy := hI (show ∀ W, Calls Tryz.prog 44 #[.agg #[.string y0, .string y1, .string y2], .agg #[.string x0, .string x1, .string x2]] W fun e w' => e = .returned (.bool g) ∧ Below W.heap.size W w' from HLy.out)
        have HFi := hI (show ∀ W, Below w1.heap.size w1 W → Calls Tryz.prog 26 #[.agg #[v1, v2, .slice (some ⟨b, off, none⟩) n cap, v4], .string x0] W fun e w' => e = .returned (.int .i64 f) ∧ Below W.heap.size W w' from HFi.out)
        have HKC := hI (show ∀ W, Below w1.heap.size w1 W → W.cell? ⟨w.heap.size, 0, none⟩ = some v1 ∧ W.cell? ⟨w.heap.size, 1, none⟩ = some v2 ∧ W.cell? ⟨w.heap.size, 2, none⟩ = some (.slice (some ⟨b, off, none⟩) n cap) ∧ W.cell? ⟨w.heap.size, 3, none⟩ = some v4 ∧ W.cell? ⟨b, off + (k + 1) * 3, none⟩ = some (.string x0) ∧ W.cell? ⟨b, off + (k + 1) * 3 + 1, none⟩ = some (.string x1) ∧ W.cell? ⟨b, off + (k + 1) * 3 + 2, none⟩ = some (.string x2) ∧ W.cell? ⟨b, off + k * 3, none⟩ = some (.string y0) ∧ W.cell? ⟨b, off + k * 3 + 1, none⟩ = some (.string y1) ∧ W.cell? ⟨b, off + k * 3 + 2, none⟩ = some (.string y2) from fun W hW => by
         obtain ⟨c1, c2, c3, c4⟩ := HCb.out W hW
         exact ⟨c1, c2, c3, c4, KX.out W hW 0 _ rfl, KX.out W hW 1 _ rfl, KX.out W hW 2 _ rfl, KY.out W hW 0 _ rfl, KY.out W hW 1 _ rfl, KY.out W hW 2 _ rfl⟩)
        have j0 : (0 : Int) ≤ (k : Int) := by omega
        have j1 : (k : Int) < (n : Int) := by omega
        have j2 : (0 : Int) ≤ (k : Int) + 1 := by omega
        have j3 : (k : Int) + 1 < (n : Int) := by omega
        have j4 : ((k : Int) + 1).toNat = k + 1 := by omega
        have j5 : IntKind.i64.wrap ((k : Int) + 1 - 1) = (k : Int) := by rw [IntKind.wrap_i64]; omega
        have j6 : IntKind.i64.wrap (k : Int) = (k : Int) := by rw [IntKind.wrap_i64]; omega
        have dk : decide (((k + 1 : Nat) : Int) > 0) = true := decide_eq_true (by omega)
        clear i0 i1
        have C0 := hI (HKC.out _ HBD.out)
        cases g with
        | false =>
         go_wp2_with fail
         refine wp_region_held (S := fun W => W.cell? ⟨w.heap.size, 0, none⟩ = some v1 ∧ W.cell? ⟨w.heap.size, 1, none⟩ = some v2 ∧ W.cell? ⟨w.heap.size, 2, none⟩ = some (.slice (some ⟨b, off, none⟩) n cap) ∧ W.cell? ⟨w.heap.size, 3, none⟩ = some v4 ∧ W.cell? ⟨b, off + (k + 1) * 3, none⟩ = some (.string x0) ∧ W.cell? ⟨b, off + (k + 1) * 3 + 1, none⟩ = some (.string x1) ∧ W.cell? ⟨b, off + (k + 1) * 3 + 2, none⟩ = some (.string x2) ∧ W.cell? ⟨b, off + k * 3, none⟩ = some (.string y0) ∧ W.cell? ⟨b, off + k * 3 + 1, none⟩ = some (.string y1) ∧ W.cell? ⟨b, off + k * 3 + 2, none⟩ = some (.string y2)) (by kernel_rfl) ?_
         change wpAnyH _ _ _ _ _ _ _ _ (World.drew _)
         generalize World.drew wr = WD at HBD C0 ⊢
         refine rd1 0 (by kernel_rfl) rfl fun K hK => ?_
         go_simp
         refine hK.out _ _ C0.out (fun S1 => ?_)
         clear hK K S1
         refine rd1 1 (by kernel_rfl) rfl fun K hK => ?_
         go_simp
         refine hK.out _ _ C0.out (fun S1 => ?_)
         clear hK K S1
         refine rd1 2 (by kernel_rfl) rfl fun K hK => ?_
         go_simp
         refine hK.out _ _ C0.out (fun S1 => ?_)
         clear hK K S1
         refine tkp 3 (.pointer (some ⟨w.heap.size, 2, none⟩)) rfl (by kernel_rfl) q3 (fun w' hS => ?_) C0.out ?_
         · clear hS; go_simp
         try go_simp
         refine tkp 4 (.slice (some ⟨b, off, none⟩) n cap) rfl (by kernel_rfl) q3 (fun w' hS => ?_) C0.out ?_
         · obtain ⟨s0, s1, s2, s3, s4, s5, s6, s7, s8, s9⟩ := hS; go_simp
         try go_simp
         refine tkp 5 (.int .i64 ((k : Int) + 1)) rfl (by kernel_rfl) q3 (fun w' hS => ?_) C0.out ?_
         · clear hS; go_simp
         try go_simp
         refine tkp 6 (.int .i64 (k : Int)) rfl (by kernel_rfl) q3 (fun w' hS => ?_) C0.out ?_
         · clear hS; go_simp
         try go_simp
         refine tkp 7 (.pointer (some ⟨b, off + k * 3, none⟩)) rfl (by kernel_rfl) q3 (fun w' hS => ?_) C0.out ?_
         · clear hS; go_simp
         try go_simp
         refine tkp 8 (.agg #[.string y0, .string y1, .string y2]) rfl (by kernel_rfl) q3 (fun w' hS => ?_) C0.out ?_
         · obtain ⟨s0, s1, s2, s3, s4, s5, s6, s7, s8, s9⟩ := hS; go_simp
         try go_simp
         refine tkp 9 (.pointer (some ⟨w.heap.size, 2, none⟩)) rfl (by kernel_rfl) q3 (fun w' hS => ?_) C0.out ?_
         · clear hS; go_simp
         try go_simp
         refine tkp 10 (.slice (some ⟨b, off, none⟩) n cap) rfl (by kernel_rfl) q3 (fun w' hS => ?_) C0.out ?_
         · obtain ⟨s0, s1, s2, s3, s4, s5, s6, s7, s8, s9⟩ := hS; go_simp
         try go_simp
         refine tkp 11 (.int .i64 ((k : Int) + 1)) rfl (by kernel_rfl) q3 (fun w' hS => ?_) C0.out ?_
         · clear hS; go_simp
         try go_simp
         refine tkp 12 (.pointer (some ⟨b, off + (k + 1) * 3, none⟩)) rfl (by kernel_rfl) q3 (fun w' hS => ?_) C0.out ?_
         · clear hS; go_simp
         try go_simp
         refine tkp 13 (.agg #[.string x0, .string x1, .string x2]) rfl (by kernel_rfl) q3 (fun w' hS => ?_) C0.out ?_
         · obtain ⟨s0, s1, s2, s3, s4, s5, s6, s7, s8, s9⟩ := hS; go_simp
         try go_simp
         refine rd1 14 (by kernel_rfl) rfl fun K hK => ?_
         go_simp
         refine (HLy.out _).mono ?_
         rintro e6 w6 ⟨rfl, b6⟩
         have B6 := hI (HBD.out.trans (b6.mono HBD.out.size))
         have C6 := hI (HKC.out _ B6.out)
         clear b6
         go_simp
         refine hK.out _ _ C6.out (fun S1 => ?_)
         clear hK K S1
         refine tkp 15 (.bool true) rfl (by kernel_rfl) q3 (fun w' hS => ?_) C6.out ?_
         · clear hS; go_simp
         try go_simp
         refine tkp 16 (.bool true) rfl (by kernel_rfl) q3 (fun w' hS => ?_) C6.out ?_
         · clear hS; go_simp
         try go_simp
         refine tkp 17 (.bool true) rfl (by kernel_rfl) q3 (fun w' hS => ?_) C6.out ?_
         · clear hS; go_simp
         try go_simp
         refine tku 18 rfl (by kernel_rfl) q3 C6.out ?_
         refine tku 19 rfl (by kernel_rfl) q3 C6.out ?_
         try go_simp
         refine tku 20 rfl (by kernel_rfl) q3 C6.out ?_
         refine tku 21 rfl (by kernel_rfl) q3 C6.out ?_
         try go_simp
         refine tku 22 rfl (by kernel_rfl) q3 C6.out ?_
         refine tku 23 rfl (by kernel_rfl) q3 C6.out ?_
         try go_simp
         refine tku 24 rfl (by kernel_rfl) q3 C6.out ?_
         refine tku 25 rfl (by kernel_rfl) q3 C6.out ?_
         try go_simp
         refine tku 26 rfl (by kernel_rfl) q3 C6.out ?_
         refine tkp 27 (.bool true) rfl (by kernel_rfl) q3 (fun w' hS => ?_) C6.out ?_
         · clear hS; go_simp
         try go_simp
         refine wpAnyH_done (by kernel_rfl) ?_ _
         go_wp2_with fail
         go_ret
         refine ⟨⟨false, rfl, ?_⟩, HB1.out.trans (B6.out.mono HB1.out.size)⟩
         constructor
         · intro e; cases e
         · intro h
           have h0 := (ca.ok_iff.1 h).2.1 (k + 1) (by rw [← HN.out.1]; exact hlt)
           have := h0.1 _ _ (Nat.succ_pos _) (by rw [Nat.add_sub_cancel]; exact HYk.out) HXi.out
           rw [← HGl.out] at this
           cases this
        | true =>
         cases r with
         | true =>
          go_wp2_with fail
          refine wp_region_held (S := fun W => W.cell? ⟨w.heap.size, 0, none⟩ = some v1 ∧ W.cell? ⟨w.heap.size, 1, none⟩ = some v2 ∧ W.cell? ⟨w.heap.size, 2, none⟩ = some (.slice (some ⟨b, off, none⟩) n cap) ∧ W.cell? ⟨w.heap.size, 3, none⟩ = some v4 ∧ W.cell? ⟨b, off + (k + 1) * 3, none⟩ = some (.string x0) ∧ W.cell? ⟨b, off + (k + 1) * 3 + 1, none⟩ = some (.string x1) ∧ W.cell? ⟨b, off + (k + 1) * 3 + 2, none⟩ = some (.string x2) ∧ W.cell? ⟨b, off + k * 3, none⟩ = some (.string y0) ∧ W.cell? ⟨b, off + k * 3 + 1, none⟩ = some (.string y1) ∧ W.cell? ⟨b, off + k * 3 + 2, none⟩ = some (.string y2)) (by kernel_rfl) ?_
          change wpAnyH _ _ _ _ _ _ _ _ (World.drew _)
          generalize World.drew wr = WD at HBD C0 ⊢
          refine rd1 0 (by kernel_rfl) rfl fun K hK => ?_
          go_simp
          refine hK.out _ _ C0.out (fun S1 => ?_)
          clear hK K S1
          refine rd1 1 (by kernel_rfl) rfl fun K hK => ?_
          go_simp
          refine hK.out _ _ C0.out (fun S1 => ?_)
          clear hK K S1
          refine rd1 2 (by kernel_rfl) rfl fun K hK => ?_
          go_simp
          refine hK.out _ _ C0.out (fun S1 => ?_)
          clear hK K S1
          refine tkp 3 (.pointer (some ⟨w.heap.size, 2, none⟩)) rfl (by kernel_rfl) q3 (fun w' hS => ?_) C0.out ?_
          · clear hS; go_simp
          try go_simp
          refine tkp 4 (.slice (some ⟨b, off, none⟩) n cap) rfl (by kernel_rfl) q3 (fun w' hS => ?_) C0.out ?_
          · obtain ⟨s0, s1, s2, s3, s4, s5, s6, s7, s8, s9⟩ := hS; go_simp
          try go_simp
          refine tkp 5 (.int .i64 ((k : Int) + 1)) rfl (by kernel_rfl) q3 (fun w' hS => ?_) C0.out ?_
          · clear hS; go_simp
          try go_simp
          refine tkp 6 (.int .i64 (k : Int)) rfl (by kernel_rfl) q3 (fun w' hS => ?_) C0.out ?_
          · clear hS; go_simp
          try go_simp
          refine tkp 7 (.pointer (some ⟨b, off + k * 3, none⟩)) rfl (by kernel_rfl) q3 (fun w' hS => ?_) C0.out ?_
          · clear hS; go_simp
          try go_simp
          refine tkp 8 (.agg #[.string y0, .string y1, .string y2]) rfl (by kernel_rfl) q3 (fun w' hS => ?_) C0.out ?_
          · obtain ⟨s0, s1, s2, s3, s4, s5, s6, s7, s8, s9⟩ := hS; go_simp
          try go_simp
          refine tkp 9 (.pointer (some ⟨w.heap.size, 2, none⟩)) rfl (by kernel_rfl) q3 (fun w' hS => ?_) C0.out ?_
          · clear hS; go_simp
          try go_simp
          refine tkp 10 (.slice (some ⟨b, off, none⟩) n cap) rfl (by kernel_rfl) q3 (fun w' hS => ?_) C0.out ?_
          · obtain ⟨s0, s1, s2, s3, s4, s5, s6, s7, s8, s9⟩ := hS; go_simp
          try go_simp
          refine tkp 11 (.int .i64 ((k : Int) + 1)) rfl (by kernel_rfl) q3 (fun w' hS => ?_) C0.out ?_
          · clear hS; go_simp
          try go_simp
          refine tkp 12 (.pointer (some ⟨b, off + (k + 1) * 3, none⟩)) rfl (by kernel_rfl) q3 (fun w' hS => ?_) C0.out ?_
          · clear hS; go_simp
          try go_simp
          refine tkp 13 (.agg #[.string x0, .string x1, .string x2]) rfl (by kernel_rfl) q3 (fun w' hS => ?_) C0.out ?_
          · obtain ⟨s0, s1, s2, s3, s4, s5, s6, s7, s8, s9⟩ := hS; go_simp
          try go_simp
          refine rd1 14 (by kernel_rfl) rfl fun K hK => ?_
          go_simp
          refine (HLy.out _).mono ?_
          rintro e6 w6 ⟨rfl, b6⟩
          have B6 := hI (HBD.out.trans (b6.mono HBD.out.size))
          have C6 := hI (HKC.out _ B6.out)
          clear b6
          go_simp
          refine hK.out _ _ C6.out (fun S1 => ?_)
          clear hK K S1
          refine tkp 15 (.bool false) rfl (by kernel_rfl) q3 (fun w' hS => ?_) C6.out ?_
          · clear hS; go_simp
          try go_simp
          refine tkp 16 (.bool false) rfl (by kernel_rfl) q3 (fun w' hS => ?_) C6.out ?_
          · clear hS; go_simp
          try go_simp
          refine tkp 17 (.bool false) rfl (by kernel_rfl) q3 (fun w' hS => ?_) C6.out ?_
          · clear hS; go_simp
          try go_simp
          refine tkp 18 (.agg #[v1, v2, .slice (some ⟨b, off, none⟩) n cap, v4]) rfl (by kernel_rfl) q3 (fun w' hS => ?_) C6.out ?_
          · obtain ⟨s0, s1, s2, s3, s4, s5, s6, s7, s8, s9⟩ := hS; go_simp
          try go_simp
          refine tkp 19 (.pointer (some ⟨w.heap.size, 2, none⟩)) rfl (by kernel_rfl) q3 (fun w' hS => ?_) C6.out ?_
          · clear hS; go_simp
          try go_simp
          refine tkp 20 (.slice (some ⟨b, off, none⟩) n cap) rfl (by kernel_rfl) q3 (fun w' hS => ?_) C6.out ?_
          · obtain ⟨s0, s1, s2, s3, s4, s5, s6, s7, s8, s9⟩ := hS; go_simp
          try go_simp
          refine tkp 21 (.int .i64 ((k : Int) + 1)) rfl (by kernel_rfl) q3 (fun w' hS => ?_) C6.out ?_
          · clear hS; go_simp
          try go_simp
          refine tkp 22 (.pointer (some ⟨b, off + (k + 1) * 3, none⟩)) rfl (by kernel_rfl) q3 (fun w' hS => ?_) C6.out ?_
          · clear hS; go_simp
          try go_simp
          refine tkp 23 (.pointer (some ⟨b, off + (k + 1) * 3, none⟩)) rfl (by kernel_rfl) q3 (fun w' hS => ?_) C6.out ?_
          · clear hS; go_simp
          try go_simp
          refine tkp 24 (.string x0) rfl (by kernel_rfl) q3 (fun w' hS => ?_) C6.out ?_
          · obtain ⟨s0, s1, s2, s3, s4, s5, s6, s7, s8, s9⟩ := hS; go_simp
          try go_simp
          refine rd1 25 (by kernel_rfl) rfl fun K hK => ?_
          go_simp
          refine (HFi.out _ B6.out).mono ?_
          rintro e7 w7 ⟨rfl, b7⟩
          have B7 := hI (B6.out.trans (b7.mono B6.out.size))
          have C7 := hI (HKC.out _ B7.out)
          clear b7
          go_simp
          refine hK.out _ _ C7.out (fun S1 => ?_)
          clear hK K S1
          refine tkp 26 (.bool true) rfl (by kernel_rfl) q3 (fun w' hS => ?_) C7.out ?_
          · clear hS; go_simp
          try go_simp
          refine tkp 27 (.bool true) rfl (by kernel_rfl) q3 (fun w' hS => ?_) C7.out ?_
          · clear hS; go_simp
          try go_simp
          refine wpAnyH_done (by kernel_rfl) ?_ _
          go_wp2_with fail
          go_ret
          refine ⟨⟨false, rfl, ?_⟩, HB1.out.trans (B7.out.mono HB1.out.size)⟩
          constructor
          · intro e; cases e
          · intro h
            have h0 := (ca.ok_iff.1 h).2.1 (k + 1) (by rw [← HN.out.1]; exact hlt)
            have h2 := of_decide_eq_true HRr.out.symm
            rw [HF.out] at h2
            exact absurd h2 (h0.2 _ HXi.out)
         | false =>
          go_wp2_with fail
          refine wp_region_held (S := fun W => W.cell? ⟨w.heap.size, 0, none⟩ = some v1 ∧ W.cell? ⟨w.heap.size, 1, none⟩ = some v2 ∧ W.cell? ⟨w.heap.size, 2, none⟩ = some (.slice (some ⟨b, off, none⟩) n cap) ∧ W.cell? ⟨w.heap.size, 3, none⟩ = some v4 ∧ W.cell? ⟨b, off + (k + 1) * 3, none⟩ = some (.string x0) ∧ W.cell? ⟨b, off + (k + 1) * 3 + 1, none⟩ = some (.string x1) ∧ W.cell? ⟨b, off + (k + 1) * 3 + 2, none⟩ = some (.string x2) ∧ W.cell? ⟨b, off + k * 3, none⟩ = some (.string y0) ∧ W.cell? ⟨b, off + k * 3 + 1, none⟩ = some (.string y1) ∧ W.cell? ⟨b, off + k * 3 + 2, none⟩ = some (.string y2)) (by kernel_rfl) ?_
          change wpAnyH _ _ _ _ _ _ _ _ (World.drew _)
          generalize World.drew wr = WD at HBD C0 ⊢
          refine rd1 0 (by kernel_rfl) rfl fun K hK => ?_
          go_simp
          refine hK.out _ _ C0.out (fun S1 => ?_)
          clear hK K S1
          refine rd1 1 (by kernel_rfl) rfl fun K hK => ?_
          go_simp
          refine hK.out _ _ C0.out (fun S1 => ?_)
          clear hK K S1
          refine rd1 2 (by kernel_rfl) rfl fun K hK => ?_
          go_simp
          refine hK.out _ _ C0.out (fun S1 => ?_)
          clear hK K S1
          refine tkp 3 (.pointer (some ⟨w.heap.size, 2, none⟩)) rfl (by kernel_rfl) q3 (fun w' hS => ?_) C0.out ?_
          · clear hS; go_simp
          try go_simp
          refine tkp 4 (.slice (some ⟨b, off, none⟩) n cap) rfl (by kernel_rfl) q3 (fun w' hS => ?_) C0.out ?_
          · obtain ⟨s0, s1, s2, s3, s4, s5, s6, s7, s8, s9⟩ := hS; go_simp
          try go_simp
          refine tkp 5 (.int .i64 ((k : Int) + 1)) rfl (by kernel_rfl) q3 (fun w' hS => ?_) C0.out ?_
          · clear hS; go_simp
          try go_simp
          refine tkp 6 (.int .i64 (k : Int)) rfl (by kernel_rfl) q3 (fun w' hS => ?_) C0.out ?_
          · clear hS; go_simp
          try go_simp
          refine tkp 7 (.pointer (some ⟨b, off + k * 3, none⟩)) rfl (by kernel_rfl) q3 (fun w' hS => ?_) C0.out ?_
          · clear hS; go_simp
          try go_simp
          refine tkp 8 (.agg #[.string y0, .string y1, .string y2]) rfl (by kernel_rfl) q3 (fun w' hS => ?_) C0.out ?_
          · obtain ⟨s0, s1, s2, s3, s4, s5, s6, s7, s8, s9⟩ := hS; go_simp
          try go_simp
          refine tkp 9 (.pointer (some ⟨w.heap.size, 2, none⟩)) rfl (by kernel_rfl) q3 (fun w' hS => ?_) C0.out ?_
          · clear hS; go_simp
          try go_simp
          refine tkp 10 (.slice (some ⟨b, off, none⟩) n cap) rfl (by kernel_rfl) q3 (fun w' hS => ?_) C0.out ?_
          · obtain ⟨s0, s1, s2, s3, s4, s5, s6, s7, s8, s9⟩ := hS; go_simp
          try go_simp
          refine tkp 11 (.int .i64 ((k : Int) + 1)) rfl (by kernel_rfl) q3 (fun w' hS => ?_) C0.out ?_
          · clear hS; go_simp
          try go_simp
          refine tkp 12 (.pointer (some ⟨b, off + (k + 1) * 3, none⟩)) rfl (by kernel_rfl) q3 (fun w' hS => ?_) C0.out ?_
          · clear hS; go_simp
          try go_simp
          refine tkp 13 (.agg #[.string x0, .string x1, .string x2]) rfl (by kernel_rfl) q3 (fun w' hS => ?_) C0.out ?_
          · obtain ⟨s0, s1, s2, s3, s4, s5, s6, s7, s8, s9⟩ := hS; go_simp
          try go_simp
          refine rd1 14 (by kernel_rfl) rfl fun K hK => ?_
          go_simp
          refine (HLy.out _).mono ?_
          rintro e6 w6 ⟨rfl, b6⟩
          have B6 := hI (HBD.out.trans (b6.mono HBD.out.size))
          have C6 := hI (HKC.out _ B6.out)
          clear b6
          go_simp
          refine hK.out _ _ C6.out (fun S1 => ?_)
          clear hK K S1
          refine tkp 15 (.bool false) rfl (by kernel_rfl) q3 (fun w' hS => ?_) C6.out ?_
          · clear hS; go_simp
          try go_simp
          refine tkp 16 (.bool false) rfl (by kernel_rfl) q3 (fun w' hS => ?_) C6.out ?_
          · clear hS; go_simp
          try go_simp
          refine tkp 17 (.bool false) rfl (by kernel_rfl) q3 (fun w' hS => ?_) C6.out ?_
          · clear hS; go_simp
          try go_simp
          refine tkp 18 (.agg #[v1, v2, .slice (some ⟨b, off, none⟩) n cap, v4]) rfl (by kernel_rfl) q3 (fun w' hS => ?_) C6.out ?_
          · obtain ⟨s0, s1, s2, s3, s4, s5, s6, s7, s8, s9⟩ := hS; go_simp
          try go_simp
          refine tkp 19 (.pointer (some ⟨w.heap.size, 2, none⟩)) rfl (by kernel_rfl) q3 (fun w' hS => ?_) C6.out ?_
          · clear hS; go_simp
          try go_simp
          refine tkp 20 (.slice (some ⟨b, off, none⟩) n cap) rfl (by kernel_rfl) q3 (fun w' hS => ?_) C6.out ?_
          · obtain ⟨s0, s1, s2, s3, s4, s5, s6, s7, s8, s9⟩ := hS; go_simp
          try go_simp
          refine tkp 21 (.int .i64 ((k : Int) + 1)) rfl (by kernel_rfl) q3 (fun w' hS => ?_) C6.out ?_
          · clear hS; go_simp
          try go_simp
          refine tkp 22 (.pointer (some ⟨b, off + (k + 1) * 3, none⟩)) rfl (by kernel_rfl) q3 (fun w' hS => ?_) C6.out ?_
          · clear hS; go_simp
          try go_simp
          refine tkp 23 (.pointer (some ⟨b, off + (k + 1) * 3, none⟩)) rfl (by kernel_rfl) q3 (fun w' hS => ?_) C6.out ?_
          · clear hS; go_simp
          try go_simp
          refine tkp 24 (.string x0) rfl (by kernel_rfl) q3 (fun w' hS => ?_) C6.out ?_
          · obtain ⟨s0, s1, s2, s3, s4, s5, s6, s7, s8, s9⟩ := hS; go_simp
          try go_simp
          refine rd1 25 (by kernel_rfl) rfl fun K hK => ?_
          go_simp
          refine (HFi.out _ B6.out).mono ?_
          rintro e7 w7 ⟨rfl, b7⟩
          have B7 := hI (B6.out.trans (b7.mono B6.out.size))
          have C7 := hI (HKC.out _ B7.out)
          clear b7
          go_simp
          refine hK.out _ _ C7.out (fun S1 => ?_)
          clear hK K S1
          refine tkp 26 (.bool false) rfl (by kernel_rfl) q3 (fun w' hS => ?_) C7.out ?_
          · clear hS; go_simp
          try go_simp
          refine tkp 27 (.bool false) rfl (by kernel_rfl) q3 (fun w' hS => ?_) C7.out ?_
          · clear hS; go_simp
          try go_simp
          refine wpAnyH_done (by kernel_rfl) ?_ _
          have HOne := hI (show nOne ca (k + 1) from ⟨fun u z h0 hz hu => by
           rw [HXi.out] at hu
           rw [Nat.add_sub_cancel, HYk.out] at hz
           cases hu
           cases hz
           exact HGl.out.symm, fun z hz => by
           rw [HXi.out] at hz
           cases hz
           have h2 := of_decide_eq_false HRr.out.symm
           rw [HF.out] at h2
           exact h2⟩)
          go_wp2_with fail
          go_roundw
          case rel =>
           refine ⟨(k + 1) + 1, hlt, by go_num, fun j hj => ?_, B7.out⟩
           by_cases hji : j < (k + 1)
           · exact HAll.out j hji
           · obtain rfl : j = (k + 1) := by omega
             exact HOne.out
          case measure => simp [intOf]; omega
     · obtain rfl : i = n := by omega
       have HNg := hI (show ∀ j, j < ca.names.length → nOne ca j from fun j h1 => HAll.out j (by rw [HN.out.1]; exact h1))
       obtain ⟨e1, e2, e3, e4⟩ := HCb.out wr HB.out
       clear HAll
       go_wp2_with (first
        | ((with_reducible show wpList _ _ _ ({ dst := some 63, op := .load 27 _, type := _, pos := _, after := _, guard := _ } :: _) _ _); refine wpList_load_st rfl 27 _ rfl w.heap.size rfl 27 #[v1, v2, .slice ao i cap, v4] (HStB.out wr HB.out) _ Tryz.underlying27 rfl (by kernel_rfl) ?_)
        | (go_at_call 37; go_must (with_reducible refine (HCh.out wr HB.out).mono ?_); rintro e5 w5 ⟨uc, rfl, h5, b5⟩; have H5 := hI h5; have B5 := hI (HB.out.trans (b5.mono HB.out.size)); obtain ⟨ac, capc, bc, offc, rfl, hlc, hxc⟩ := h5.walk; clear h5 b5))
       obtain ⟨nc, hnc⟩ : ∃ m, m = ca.changes.length := ⟨_, rfl⟩
       rw [← hnc] at hlc hxc ⊢
       have HNc := hI hnc
       have HXc := hI (show ∀ W, Below w5.heap.size w5 W → ∀ i, i < nc → ∃ x : Ch, ca.changes[i]? = some x ∧ ac = some ⟨bc, offc, none⟩ ∧ W.rangeAt bc (offc + i * 18) x.vs from fun W hW i hi => by
        obtain ⟨x, f1, f2, f3, f4⟩ := hxc i hi
        exact ⟨x, f1, f2, fun j u hu => (hW.cell (p := ⟨bc, offc + i * 18 + j, none⟩) f3).trans (f4 j u hu)⟩)
       have HCk := hI (fun (x : Ch) W => rxCheck_any x W)
       clear hxc hnc H5 e1 e2 e3 e4
       go_loopw [6] (fun c wr => ∃ i : Nat, i ≤ nc ∧ c = .int .i64 i ∧ (∀ (j : Nat) x, j < i → ca.changes[j]? = some x → x.ok = true) ∧ Below w5.heap.size w5 wr) (fun c _ => nc - (intOf c).toNat)
       case atStart => exact ⟨0, Nat.zero_le _, rfl, fun j x hj => absurd hj (Nat.not_lt_zero _), Below.refl _ _⟩
       case round =>
        obtain ⟨q, hq, rfl, hall, hbel⟩ := hrel
        have HAc := hI hall
        have HBc := hI hbel
        clear hall hbel
        by_cases hqn : q < nc
        · obtain ⟨x, hxi, rfl, hr⟩ := HXc.out wr HBc.out q hqn
          have HXi := hI hxi
          have HC1 := hI (show ∀ W, Calls Tryz.prog 45 #[.agg x.vs.toArray] W fun e w' => e = .returned (.bool x.ok) ∧ Below W.heap.size W w' from HCk.out x)
          obtain ⟨xv, hxv⟩ : ∃ xv, xv = x.vs := ⟨_, rfl⟩
          have HR := hI (show wr.rangeAt bc (offc + q * 18) xv from by rw [hxv]; exact hr)
          have HV := hI (show xv.length = 18 from by rw [hxv]; rfl)
          rw [← hxv] at HC1
          obtain ⟨o, ho⟩ : ∃ o, o = x.ok := ⟨_, rfl⟩
          rw [← ho] at HC1
          have HO := hI ho
          have q0 : (0 : Int) ≤ (q : Int) := by omega
          have q1 : (q : Int) < (nc : Int) := by omega
          clear hxi hr hxv ho
          cases o with
          | true =>
           go_wp2_with (first
            | ((with_reducible show wpList _ _ _ ({ dst := _, op := .load 40 (.tmp 73), type := _, pos := _, after := _, guard := _ } :: _) _ _); refine wpList_load_mid rfl 40 _ rfl bc (offc + q * 18) rfl xv _ HR.out Tryz.underlying40 rfl (by rw [HV.out]; kernel_rfl) ?_)
            | (go_at_call 45; go_must (with_reducible refine (HC1.out _).mono ?_); rintro e6 w6 ⟨rfl, b6⟩; have B6 := hI (HBc.out.trans (b6.mono HBc.out.size)); clear b6))
           go_roundw
           case rel =>
            refine ⟨q + 1, hqn, by go_num, fun j z hj hz => ?_, B6.out⟩
            by_cases hjq : j < q
            · exact HAc.out j z hjq hz
            · obtain rfl : j = q := by omega
              rw [HXi.out] at hz
              cases hz
              exact HO.out.symm
           case measure => simp [intOf]; omega
          | false =>
           go_wp2_with (first
            | ((with_reducible show wpList _ _ _ ({ dst := _, op := .load 40 (.tmp 73), type := _, pos := _, after := _, guard := _ } :: _) _ _); refine wpList_load_mid rfl 40 _ rfl bc (offc + q * 18) rfl xv _ HR.out Tryz.underlying40 rfl (by rw [HV.out]; kernel_rfl) ?_)
            | (go_at_call 45; go_must (with_reducible refine (HC1.out _).mono ?_); rintro e6 w6 ⟨rfl, b6⟩; have B6 := hI (HBc.out.trans (b6.mono HBc.out.size)); clear b6))
           go_ret
           refine ⟨⟨false, rfl, ?_⟩, HB1.out.trans ((B5.out.trans (B6.out.mono B5.out.size)).mono HB1.out.size)⟩
           constructor
           · intro e; cases e
           · intro h
             have := (ca.ok_iff.1 h).2.2.1 q _ HXi.out
             rw [← HO.out] at this
             cases this
        · obtain rfl : q = nc := by omega
          have HCg := hI (show ∀ (j : Nat) x, ca.changes[j]? = some x → x.ok = true from fun j x hx => HAc.out j x (by rw [HNc.out]; exact (List.getElem?_eq_some_iff.1 hx).1) hx)
          have HB9 := hI (B5.out.trans (HBc.out.mono B5.out.size))
          have HW9 := hI (HB1.out.trans (HB9.out.mono HB1.out.size))
          obtain ⟨e1, e2, e3, e4⟩ := HCb.out wr HB9.out
          clear HAc
          go_wp2_with (first
           | (go_at_call 46; go_must (with_reducible refine (HHs.out wr HW9.out).mono ?_); rintro e7 w7 ⟨⟨r1, rfl, hr1⟩, b7⟩; have HR1 := hI hr1; have B7 := hI (HB9.out.trans (b7.mono HB9.out.size)); clear hr1 b7; obtain ⟨f1, f2, f3, f4⟩ := HCb.out w7 B7.out; cases r1))
          · go_wp2_with fail
            go_ret
            refine ⟨⟨false, rfl, ?_⟩, HB1.out.trans (B7.out.mono HB1.out.size)⟩
            constructor
            · intro e; cases e
            · intro h
              exact absurd (HR1.out.2 (ca.ok_iff.1 h).2.2.2.1) (by decide)
          · go_wp2_with (first
             | (go_at_call 47; go_must (with_reducible refine (HBs.out w7 B7.out).mono ?_); rintro e8 w8 ⟨⟨r2, rfl, hr2⟩, b8⟩; have HR2 := hI hr2; have B8 := hI (B7.out.trans (b8.mono B7.out.size)); clear hr2 b8))
            go_ret
            refine ⟨⟨r2, rfl, ?_⟩, HB1.out.trans (B8.out.mono HB1.out.size)⟩
            rw [HR2.out, ca.ok_iff]
            exact ⟨fun h => ⟨HFg.out, HNg.out, HCg.out, HR1.out.1 (by trivial), h⟩, fun h => h.2.2.2.2⟩
theorem RowsAt.begin {α : Type} {B k : Nat} {f : α → List Value} {ao : Option Addr} {n cap m : Nat} {xs : List α} {w : World} (h : RowsAt B k f (.slice ao n cap) xs w) (hm : m ≤ xs.length) : RowsAt B k f (.slice ao m cap) (xs.take m) w := by
 obtain ⟨ao', cap', b, off, e, hl, hao, hx⟩ := h
 cases e
 have hlen : (xs.take m).length = m := by rw [List.length_take]; omega
 refine ⟨ao, cap, b, off, by rw [hlen], ⟨by rw [hlen]; omega, by rw [hlen]; omega⟩, fun h0 => hao (by rw [hlen] at h0; omega), fun i x hi => hx i x ?_⟩
 have him : i < m := by have := (List.getElem?_eq_some_iff.1 hi).1; rwa [hlen] at this
 rwa [List.getElem?_take, if_pos him] at hi
theorem BigSays.yes (c : CA) : BigSays c (.returned (.bool true)) := ⟨true, rfl, fun e => by cases e⟩
end Go.Proofs.YtngfknplljedeaaGreat
