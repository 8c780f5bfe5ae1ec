/- Lemmas for the laws of index. -/
import Derived.Test.YtngfknplljedeaaGreatZr45
import Derived.Test.YtngfknplljedeaaGreatZrTk
import Derived.Test.YtngfknplljedeaaGreatZrHi
namespace Go.Proofs.YtngfknplljedeaaGreat
open Go.RowKit
set_option maxRecDepth 100000 in
set_option maxHeartbeats 4000000 in
theorem ixAll_any (cs : List Value) (ca : CA) (v : Value) (xs : List Ch) (w : World) (hca : CAt w.heap.size cs ca w) (h : RowsAt w.heap.size 18 Ch.vs v xs w) (m : Nat) (hm : ca.lens m) (hn : m + xs.length ≤ 1073741800) :
 Calls Tryz.prog 20 #[.agg cs.toArray, v] w fun e w' => ∃ ds, e = .returned (.tuple #[.agg ds.toArray, .bool (ca.all xs).2]) ∧ CAt w'.heap.size ds (ca.all xs).1 w' ∧ Below w.heap.size w w' := by
 obtain ⟨ao, cap, b, off, rfl, hl, hx⟩ := h.walk
 obtain ⟨n, hnn⟩ : ∃ n, n = xs.length := ⟨_, rfl⟩
 rw [← hnn] at hl hx hn ⊢
 have HX := hI (show ∀ W, Below w.heap.size w W → ∀ i, i < n → ∃ x : Ch, xs[i]? = some x ∧ ao = some ⟨b, off, none⟩ ∧ W.rangeAt b (off + i * 18) x.vs from fun W hW i hi => by
  obtain ⟨x, e1, e2, e3, e4⟩ := hx i hi
  exact ⟨x, e1, e2, fun j u hu => (hW.cell (p := ⟨b, off + i * 18 + j, none⟩) e3).trans (e4 j u hu)⟩)
 have HCC := hI (show ∀ W, Below w.heap.size w W → CAt W.heap.size cs ca W from fun W hW => (hca.below hW).raise hW.size)
 obtain ⟨v1, v2, v3, v4, rfl, r1, r2, r3, r4⟩ := hca
 obtain ⟨o1, o2, o3, o4⟩ : v1.oneCell' = true ∧ v2.oneCell' = true ∧ v3.oneCell' = true ∧ v4.oneCell' = true := ⟨r1.one, r2.one, r3.one, r4.one⟩
 obtain ⟨w1, hw1⟩ : ∃ w1, w1 = ((w.alloc (.cells #[v1, v2, v3, v4] 27 (0, 0))).alloc (.cells #[.slice none 0 0, .slice none 0 0, .slice none 0 0, .slice none 0 0] 27 (0, 0))).alloc (.cells #[v1, v2, v3, v4] 27 (0, 0)) := ⟨_, rfl⟩
 have hb1 : Below w.heap.size w w1 := by rw [hw1]; exact (((Below.refl _ w).alloc (Nat.le_refl _) _).alloc (by simp) _).alloc (by simp; omega) _
 have hs1 : w1.heap.size = w.heap.size + 1 + 1 + 1 := by rw [hw1]; simp
 have st0 : St 27 w.heap.size #[v1, v2, v3, v4] w1 := by rw [hw1]; exact ((St.new w _ _).alloc _).alloc _
 have st1 : St 27 (w.heap.size + 1) #[.slice none 0 0, .slice none 0 0, .slice none 0 0, .slice none 0 0] w1 := by
  rw [hw1, show w.heap.size + 1 = (w.alloc (.cells #[v1, v2, v3, v4] 27 (0, 0))).heap.size from by simp]; exact (St.new _ _ _).alloc _
 have st2 : St 27 (w.heap.size + 1 + 1) #[v1, v2, v3, v4] w1 := by
  rw [hw1, show w.heap.size + 1 + 1 = ((w.alloc (.cells #[v1, v2, v3, v4] 27 (0, 0))).alloc (.cells #[.slice none 0 0, .slice none 0 0, .slice none 0 0, .slice none 0 0] 27 (0, 0))).heap.size from by simp]; exact St.new _ _ _
 have HIn := hI (show InBox 27 (w.heap.size + 1 + 1) [v1, v2, v3, v4] (ca.allFrom (xs.take 0)).1 w1 from ⟨st2, HCC.out w1 hb1⟩)
 have HS0 := hI st0
 have HS1 := hI st1
 have HB1 := hI hb1
 have HW1 := hI hw1
 have HN := hI hnn
 have HMm := hI hm
 clear h hx hb1 st0 st1 st2 hw1 hnn r1 r2 r3 r4 hm
 show Calls Tryz.prog 20 #[.agg #[v1, v2, v3, v4], .slice ao n cap] w _
 go_enter Tryz.func20, Tryz.ntmps20
 go_wp2_with (first
  | ((with_reducible show wpList _ _ _ ({ dst := some 10, op := .load 27 _, type := _, pos := _, after := _, guard := _ } :: _) _ _); refine wpList_load_st rfl 27 _ rfl w.heap.size rfl 27 #[v1, v2, v3, v4] ((St.new w _ _).alloc _) _ Tryz.underlying27 rfl (by kernel_rfl) ?_)
  | ((with_reducible show wpList _ _ _ ({ dst := _, op := .store 27 (.tmp 6) _, type := _, pos := _, after := _, guard := _ } :: _) _ _); refine wpList_store_st rfl 27 _ _ rfl (w.heap.size + 1 + 1) #[v1, v2, v3, v4] (by simp [Act.eval]) (by simp [Act.eval]) _ (St.new2 w _ _ 27 #[.slice none 0 0, .slice none 0 0, .slice none 0 0, .slice none 0 0]) (by kernel_rfl) rfl (by simp [o1, o2, o3, o4]) ?_; rintro w6 rfl -; rw [show w.heap.size + 1 + 1 = ((w.alloc (.cells #[v1, v2, v3, v4] 27 (0, 0))).alloc (.cells #[.slice none 0 0, .slice none 0 0, .slice none 0 0, .slice none 0 0] 27 (0, 0))).heap.size from by simp, alloc_row]))
 rw [← HW1.out]
 go_loopw [7] (fun c wr => ∃ (i : Nat) (cs : List Value), i ≤ n ∧ c = .int .i64 i ∧ (ca.allFrom (xs.take i)).2 = true ∧ InBox 27 (w.heap.size + 1 + 1) cs (ca.allFrom (xs.take i)).1 wr ∧ St 27 w.heap.size #[v1, v2, v3, v4] wr ∧ St 27 (w.heap.size + 1) #[.slice none 0 0, .slice none 0 0, .slice none 0 0, .slice none 0 0] wr ∧ Below w.heap.size w wr ∧ w1.heap.size ≤ wr.heap.size) (fun c _ => n - (intOf c).toNat)
 case atStart => exact ⟨0, _, Nat.zero_le _, rfl, rfl, HIn.out, HS0.out, HS1.out, HB1.out, Nat.le_refl _⟩
 case round =>
  obtain ⟨i, cs, hi, rfl, htr, hin, hst0, hst1, hbel, hsz⟩ := hrel
  have HI := hI hin
  have HT := hI htr
  have HS := hI hst0
  have HZ := hI hst1
  have HB := hI hbel
  have L4 := hI hin.at'.len
  clear hin hst0 hst1 hbel htr
  by_cases hlt : i < n
  · obtain ⟨x, hxi, rfl, hr⟩ := HX.out wr HB.out i hlt
    have hle := CA.lens.allFrom (xs.take i) HMm.out
    rw [List.length_take] at hle
    have HSt := hI (CA.allFrom_take ca xs i x hxi HT.out)
    obtain ⟨c1, hc1⟩ : ∃ c1, c1 = (ca.allFrom (xs.take i)).1 := ⟨_, rfl⟩
    rw [← hc1] at HI hle HSt
    obtain ⟨g, hg⟩ : ∃ g, g = (c1.apply x).2 := ⟨_, rfl⟩
    obtain ⟨c2, hc2⟩ : ∃ c2, c2 = (c1.apply x).1 := ⟨_, rfl⟩
    rw [← hg, ← hc2] at HSt
    obtain ⟨xv, hxv⟩ : ∃ xv, xv = x.vs := ⟨_, rfl⟩
    have HR := hI (show wr.rangeAt b (off + i * 18) xv from by rw [hxv]; exact hr)
    have HV := hI (show xv.length = 18 from by rw [hxv]; rfl)
    have i0 : (0 : Int) ≤ (i : Int) := by omega
    have i1 : (i : Int) < (n : Int) := by omega
    have ST := hI (show (wr.drew).rangeAt b (off + i * 18) xv from HR.out)
    have HA := hI (show ∀ W, Below wr.heap.size wr W → Calls Tryz.prog 16 #[.agg cs.toArray, .agg xv.toArray] W fun e w' => ∃ cs', e = .returned (.tuple #[.agg cs'.toArray, .bool g]) ∧ CAt w'.heap.size cs' c2 w' ∧ Below W.heap.size W w' from fun W hW => by
     have := ixApply_at cs c1 x W ((HI.out.below hW).at') (hle.few (by omega))
     rw [← hg, ← hc2, ← hxv] at this
     exact this)
    have HX2 := hI (show ∀ W, Below w.heap.size w W → W.rangeAt b (off + i * 18) xv from fun W hW => by
     obtain ⟨y, y1, _, y3⟩ := HX.out W hW i hlt
     rw [hxi] at y1
     cases y1
     rw [hxv]
     exact y3)
    have SB := hI (show St 27 (w.heap.size + 1 + 1) cs.toArray wr.drew from HI.out.st)
    have BD := hI (show Below wr.heap.size wr wr.drew from (Below.refl _ _).drew)
    clear hr hxi hxv hg hle hc2
    go_wp2_with fail
    refine wp_region_held (S := fun w' => w'.rangeAt b (off + i * 18) xv) (by kernel_rfl) ?_
    change wpAnyH _ _ _ _ _ _ _ _ (World.drew _)
    generalize World.drew wr = WD at ST SB BD ⊢
    refine tkp 1 (.slice (some ⟨b, off, none⟩) n cap) rfl (by kernel_rfl) q3 (fun w' hS => ?_) ST.out ?_
    · go_simp
    refine tkp 2 (.int .i64 i) rfl (by kernel_rfl) q3 (fun w' hS => ?_) ST.out ?_
    · go_simp
    refine tkp 3 (.pointer (some ⟨b, off + i * 18, none⟩)) rfl (by kernel_rfl) q3 (fun w' hS => ?_) ST.out ?_
    · go_simp
    refine tkl 4 (.agg xv.toArray) rfl (by kernel_rfl) q3 (yieldsIf_load_mid (by rfl) 40 (.tmp 21) rfl b (off + i * 18) (by first | rfl | simp [Act.eval, Act.put]) xv _ (fun w' hS => hS) Tryz.underlying40 rfl (by rw [HV.out]; kernel_rfl)) ST.out ?_
    refine wpAnyH_ready (rs := [0, 9]) (by kernel_rfl) (by simp) ?_
    refine AllReadyH.cons rfl (fun K hK => ?_) (AllReadyH.cons rfl (fun K hK => ?_) AllReadyH.nil)
    · refine step_load_row rfl 27 (.tmp 6) rfl (w.heap.size + 1 + 1) (by first | rfl | simp [Act.eval, Act.put]) 27 cs.toArray (0, 0) _ (HI.out.below BD.out).st Tryz.underlying27 rfl (by rw [L4.out]; exact infoCa) ?_
      go_simp
      refine hK.out _ _ (HX2.out _ (HB.out.trans (BD.out.mono HB.out.size))) (fun S1 => ?_)
      clear hK K S1
      refine wpAnyH_ready (rs := [5, 9]) (by kernel_rfl) (by simp) ?_
      refine AllReadyH.cons rfl (fun K hK => ?_) (AllReadyH.cons rfl (fun K hK => ?_) AllReadyH.nil)
      · go_simp
        refine (HA.out _ BD.out).mono ?_
        rintro e w5 ⟨cs5, rfl, h5, b5⟩
        have H5 := hI h5
        have B5 := hI (BD.out.trans (b5.mono BD.out.size))
        clear h5 b5
        go_simp
        refine hK.out _ _ (HX2.out _ (HB.out.trans (B5.out.mono HB.out.size))) (fun S1 => ?_)
        clear hK K S1
        refine tkp 6 (.tuple #[.agg cs5.toArray, .bool g]) rfl (by kernel_rfl) q3 (fun w' hS => ?_) (HX2.out _ (HB.out.trans (B5.out.mono HB.out.size))) ?_
        · go_simp
        refine tkp 7 (.agg cs5.toArray) rfl (by kernel_rfl) q3 (fun w' hS => ?_) (HX2.out _ (HB.out.trans (B5.out.mono HB.out.size))) ?_
        · go_simp
        refine tkp 8 (.bool g) rfl (by kernel_rfl) q3 (fun w' hS => ?_) (HX2.out _ (HB.out.trans (B5.out.mono HB.out.size))) ?_
        · go_simp
        refine rd1 9 (by kernel_rfl) rfl fun K hK => ?_
        go_simp
        obtain ⟨w6, hw6⟩ : ∃ W, W = w5.alloc (.cells #[.slice none 0 0, .slice none 0 0, .slice none 0 0, .slice none 0 0] 27 (0, 0)) := ⟨_, rfl⟩
        have W56 := hI (show Below w5.heap.size w5 w6 from by rw [hw6]; exact (Below.refl _ _).alloc (Nat.le_refl _) _)
        have B6 := hI (show Below wr.heap.size wr w6 from by rw [hw6]; exact B5.out.alloc B5.out.size _)
        have NB := hI (show St 27 w5.heap.size #[.slice none 0 0, .slice none 0 0, .slice none 0 0, .slice none 0 0] w6 from by rw [hw6]; exact St.new _ _ _)
        obtain ⟨q, hq⟩ : ∃ q, q = w5.heap.size := ⟨_, rfl⟩
        have QG := hI (show wr.heap.size ≤ q from by rw [hq]; exact B5.out.size)
        rw [← hw6, ← hq]
        rw [← hq] at NB
        clear hw6 hq
        refine hK.out _ _ (HX2.out _ (HB.out.trans (B6.out.mono HB.out.size))) (fun S1 => ?_)
        clear hK K S1
        have H5 := hI (show CAt w6.heap.size cs5 c2 w6 from (H5.out.below W56.out).raise W56.out.size)
        refine rd1 10 (by kernel_rfl) rfl fun K hK => ?_
        refine step_store_row rfl 27 (.tmp 8) (.tmp 24) rfl q cs5.toArray (by first | rfl | simp [Act.eval, Act.put]) (by first | rfl | simp [Act.eval, Act.put]) 27 #[.slice none 0 0, .slice none 0 0, .slice none 0 0, .slice none 0 0] NB.out (by rw [H5.out.len]; exact infoCa) (by rw [H5.out.len]; rfl) H5.out.ones ?_
        obtain ⟨w9, hw9⟩ : ∃ w9, w9 = w6.setRow q cs5.toArray := ⟨_, rfl⟩
        rw [← hw9]
        have Z9 := hI (show InBox 27 q cs5 c2 w9 from by rw [hw9]; exact InBox.put (c := CA.none) ⟨NB.out, zero_at _ _⟩ H5.out)
        have B9 := hI (show Below wr.heap.size wr w9 from by rw [hw9]; exact below_row B6.out QG.out _)
        clear hw9
        go_simp
        refine hK.out _ _ (HX2.out _ (HB.out.trans (B9.out.mono HB.out.size))) (fun S1 => ?_)
        clear hK K S1
        refine rd1 11 (by kernel_rfl) rfl fun K hK => ?_
        go_simp
        refine hK.out _ _ (HX2.out _ (HB.out.trans (B9.out.mono HB.out.size))) (fun S1 => ?_)
        clear hK K S1
        refine wpAnyH_done (by kernel_rfl) ?_ _
        cases g with
        | true =>
         go_wp2_with (first
          | ((with_reducible show wpList _ _ _ ({ dst := some 29, op := .load 27 _, type := _, pos := _, after := _, guard := _ } :: _) _ _); refine wpList_load_st rfl 27 _ rfl q (by first | rfl | simp [Act.eval, Act.put]) 27 cs5.toArray Z9.out.st _ Tryz.underlying27 rfl (by rw [H5.out.len]; exact infoCa) ?_)
          | ((with_reducible show wpList _ _ _ ({ dst := _, op := .store 27 (.tmp 6) _, type := _, pos := _, after := _, guard := _ } :: _) _ _); refine wpList_store_st rfl 27 _ _ rfl (w.heap.size + 1 + 1) cs5.toArray (by first | rfl | simp [Act.eval, Act.put]) (by first | rfl | simp [Act.eval, Act.put]) _ (HI.out.below B9.out).st (by rw [H5.out.len]; exact infoCa) (by rw [L4.out, H5.out.len]) H5.out.ones ?_; rintro w10 hw10 -; have HW10 := hI hw10; clear hw10))
         go_roundw
         case rel =>
          have hI9 := HI.out.below B9.out
          have hs9 := B9.out.size
          refine ⟨i + 1, cs5, hlt, by go_num, by rw [HSt.out]; rfl, ?_, ?_, ?_, ?_, ?_⟩
          · rw [HSt.out, HW10.out]; exact hI9.put Z9.out.at'
          · rw [HW10.out]; exact (HS.out.below B9.out).setRow_other (by omega) _
          · rw [HW10.out]; exact (HZ.out.below B9.out).setRow_other (by omega) _
          · rw [HW10.out]; exact below_row (HB.out.trans (B9.out.mono HB.out.size)) (by omega) _
          · rw [HW10.out]; simp; omega
         case measure => simp [intOf]; omega
        | false =>
         go_wp2_with (first
          | ((with_reducible show wpList _ _ _ ({ dst := some 28, op := .load 27 _, type := _, pos := _, after := _, guard := _ } :: _) _ _); refine wpList_load_st rfl 27 _ rfl w.heap.size (by first | rfl | simp [Act.eval, Act.put]) 27 #[v1, v2, v3, v4] (HS.out.below B9.out) _ Tryz.underlying27 rfl (by kernel_rfl) ?_)
          | ((with_reducible show wpList _ _ _ ({ dst := _, op := .store 27 (.tmp 4) _, type := _, pos := _, after := _, guard := _ } :: _) _ _); refine wpList_store_st rfl 27 _ _ rfl (w.heap.size + 1) #[v1, v2, v3, v4] (by first | rfl | simp [Act.eval, Act.put]) (by first | rfl | simp [Act.eval, Act.put]) _ (HZ.out.below B9.out) (by kernel_rfl) rfl (by simp [o1, o2, o3, o4]) ?_; rintro w10 hw10 s10; have HW10 := hI hw10; have S10 := hI s10; clear hw10 s10))
         have BW10 : Below w.heap.size w w10 := by rw [HW10.out]; exact below_row (HB.out.trans (B9.out.mono HB.out.size)) (by omega) _
         refine ret_cell2 (r := 4) (t := 5) (x := .bool false) rfl (by simp) (by simp) S10.out Tryz.underlying27 rfl (by kernel_rfl) rfl ?_
         rw [CA.all_stop ca xs (i + 1) (by rw [HSt.out]; rfl)]
         exact ⟨[v1, v2, v3, v4], rfl, HCC.out w10 BW10, BW10⟩
      · go_simp
        obtain ⟨w4, hw4⟩ : ∃ W, W = WD.alloc (.cells #[.slice none 0 0, .slice none 0 0, .slice none 0 0, .slice none 0 0] 27 (0, 0)) := ⟨_, rfl⟩
        have B4 := hI (show Below wr.heap.size wr w4 from by rw [hw4]; exact BD.out.alloc BD.out.size _)
        have NB := hI (show St 27 WD.heap.size #[.slice none 0 0, .slice none 0 0, .slice none 0 0, .slice none 0 0] w4 from by rw [hw4]; exact St.new _ _ _)
        obtain ⟨q, hq⟩ : ∃ q, q = WD.heap.size := ⟨_, rfl⟩
        have QG := hI (show wr.heap.size ≤ q from by rw [hq]; exact BD.out.size)
        rw [← hw4, ← hq]
        rw [← hq] at NB
        clear hw4 hq
        refine hK.out _ _ (HX2.out _ (HB.out.trans (B4.out.mono HB.out.size))) (fun S1 => ?_)
        clear hK K S1
        refine rd1 5 (by kernel_rfl) rfl fun K hK => ?_
        go_simp
        refine (HA.out _ B4.out).mono ?_
        rintro e w5 ⟨cs5, rfl, h5, b5⟩
        have H5 := hI h5
        have B5 := hI (B4.out.trans (b5.mono B4.out.size))
        have NB := hI (NB.out.below b5)
        clear h5 b5
        go_simp
        refine hK.out _ _ (HX2.out _ (HB.out.trans (B5.out.mono HB.out.size))) (fun S1 => ?_)
        clear hK K S1
        refine tkp 6 (.tuple #[.agg cs5.toArray, .bool g]) rfl (by kernel_rfl) q3 (fun w' hS => ?_) (HX2.out _ (HB.out.trans (B5.out.mono HB.out.size))) ?_
        · go_simp
        refine tkp 7 (.agg cs5.toArray) rfl (by kernel_rfl) q3 (fun w' hS => ?_) (HX2.out _ (HB.out.trans (B5.out.mono HB.out.size))) ?_
        · go_simp
        refine tkp 8 (.bool g) rfl (by kernel_rfl) q3 (fun w' hS => ?_) (HX2.out _ (HB.out.trans (B5.out.mono HB.out.size))) ?_
        · go_simp
        refine rd1 10 (by kernel_rfl) rfl fun K hK => ?_
        refine step_store_row rfl 27 (.tmp 8) (.tmp 24) rfl q cs5.toArray (by first | rfl | simp [Act.eval, Act.put]) (by first | rfl | simp [Act.eval, Act.put]) 27 #[.slice none 0 0, .slice none 0 0, .slice none 0 0, .slice none 0 0] NB.out (by rw [H5.out.len]; exact infoCa) (by rw [H5.out.len]; rfl) H5.out.ones ?_
        obtain ⟨w9, hw9⟩ : ∃ w9, w9 = w5.setRow q cs5.toArray := ⟨_, rfl⟩
        rw [← hw9]
        have Z9 := hI (show InBox 27 q cs5 c2 w9 from by rw [hw9]; exact InBox.put (c := CA.none) ⟨NB.out, zero_at _ _⟩ H5.out)
        have B9 := hI (show Below wr.heap.size wr w9 from by rw [hw9]; exact below_row B5.out QG.out _)
        clear hw9
        go_simp
        refine hK.out _ _ (HX2.out _ (HB.out.trans (B9.out.mono HB.out.size))) (fun S1 => ?_)
        clear hK K S1
        refine rd1 11 (by kernel_rfl) rfl fun K hK => ?_
        go_simp
        refine hK.out _ _ (HX2.out _ (HB.out.trans (B9.out.mono HB.out.size))) (fun S1 => ?_)
        clear hK K S1
        refine wpAnyH_done (by kernel_rfl) ?_ _
        cases g with
        | true =>
         go_wp2_with (first
          | ((with_reducible show wpList _ _ _ ({ dst := some 29, op := .load 27 _, type := _, pos := _, after := _, guard := _ } :: _) _ _); refine wpList_load_st rfl 27 _ rfl q (by first | rfl | simp [Act.eval, Act.put]) 27 cs5.toArray Z9.out.st _ Tryz.underlying27 rfl (by rw [H5.out.len]; exact infoCa) ?_)
          | ((with_reducible show wpList _ _ _ ({ dst := _, op := .store 27 (.tmp 6) _, type := _, pos := _, after := _, guard := _ } :: _) _ _); refine wpList_store_st rfl 27 _ _ rfl (w.heap.size + 1 + 1) cs5.toArray (by first | rfl | simp [Act.eval, Act.put]) (by first | rfl | simp [Act.eval, Act.put]) _ (HI.out.below B9.out).st (by rw [H5.out.len]; exact infoCa) (by rw [L4.out, H5.out.len]) H5.out.ones ?_; rintro w10 hw10 -; have HW10 := hI hw10; clear hw10))
         go_roundw
         case rel =>
          have hI9 := HI.out.below B9.out
          have hs9 := B9.out.size
          refine ⟨i + 1, cs5, hlt, by go_num, by rw [HSt.out]; rfl, ?_, ?_, ?_, ?_, ?_⟩
          · rw [HSt.out, HW10.out]; exact hI9.put Z9.out.at'
          · rw [HW10.out]; exact (HS.out.below B9.out).setRow_other (by omega) _
          · rw [HW10.out]; exact (HZ.out.below B9.out).setRow_other (by omega) _
          · rw [HW10.out]; exact below_row (HB.out.trans (B9.out.mono HB.out.size)) (by omega) _
          · rw [HW10.out]; simp; omega
         case measure => simp [intOf]; omega
        | false =>
         go_wp2_with (first
          | ((with_reducible show wpList _ _ _ ({ dst := some 28, op := .load 27 _, type := _, pos := _, after := _, guard := _ } :: _) _ _); refine wpList_load_st rfl 27 _ rfl w.heap.size (by first | rfl | simp [Act.eval, Act.put]) 27 #[v1, v2, v3, v4] (HS.out.below B9.out) _ Tryz.underlying27 rfl (by kernel_rfl) ?_)
          | ((with_reducible show wpList _ _ _ ({ dst := _, op := .store 27 (.tmp 4) _, type := _, pos := _, after := _, guard := _ } :: _) _ _); refine wpList_store_st rfl 27 _ _ rfl (w.heap.size + 1) #[v1, v2, v3, v4] (by first | rfl | simp [Act.eval, Act.put]) (by first | rfl | simp [Act.eval, Act.put]) _ (HZ.out.below B9.out) (by kernel_rfl) rfl (by simp [o1, o2, o3, o4]) ?_; rintro w10 hw10 s10; have HW10 := hI hw10; have S10 := hI s10; clear hw10 s10))
         have BW10 : Below w.heap.size w w10 := by rw [HW10.out]; exact below_row (HB.out.trans (B9.out.mono HB.out.size)) (by omega) _
         refine ret_cell2 (r := 4) (t := 5) (x := .bool false) rfl (by simp) (by simp) S10.out Tryz.underlying27 rfl (by kernel_rfl) rfl ?_
         rw [CA.all_stop ca xs (i + 1) (by rw [HSt.out]; rfl)]
         exact ⟨[v1, v2, v3, v4], rfl, HCC.out w10 BW10, BW10⟩
    · go_simp
      obtain ⟨w4, hw4⟩ : ∃ W, W = WD.alloc (.cells #[.slice none 0 0, .slice none 0 0, .slice none 0 0, .slice none 0 0] 27 (0, 0)) := ⟨_, rfl⟩
      have B4 := hI (show Below wr.heap.size wr w4 from by rw [hw4]; exact BD.out.alloc BD.out.size _)
      have NB := hI (show St 27 WD.heap.size #[.slice none 0 0, .slice none 0 0, .slice none 0 0, .slice none 0 0] w4 from by rw [hw4]; exact St.new _ _ _)
      obtain ⟨q, hq⟩ : ∃ q, q = WD.heap.size := ⟨_, rfl⟩
      have QG := hI (show wr.heap.size ≤ q from by rw [hq]; exact BD.out.size)
      rw [← hw4, ← hq]
      rw [← hq] at NB
      clear hw4 hq
      refine hK.out _ _ (HX2.out _ (HB.out.trans (B4.out.mono HB.out.size))) (fun S1 => ?_)
      clear hK K S1
      refine rd1 0 (by kernel_rfl) rfl fun K hK => ?_
      refine step_load_row rfl 27 (.tmp 6) rfl (w.heap.size + 1 + 1) (by first | rfl | simp [Act.eval, Act.put]) 27 cs.toArray (0, 0) _ (HI.out.below B4.out).st Tryz.underlying27 rfl (by rw [L4.out]; exact infoCa) ?_
      go_simp
      refine hK.out _ _ (HX2.out _ (HB.out.trans (B4.out.mono HB.out.size))) (fun S1 => ?_)
      clear hK K S1
      refine rd1 5 (by kernel_rfl) rfl fun K hK => ?_
      go_simp
      refine (HA.out _ B4.out).mono ?_
      rintro e w5 ⟨cs5, rfl, h5, b5⟩
      have H5 := hI h5
      have B5 := hI (B4.out.trans (b5.mono B4.out.size))
      have NB := hI (NB.out.below b5)
      clear h5 b5
      go_simp
      refine hK.out _ _ (HX2.out _ (HB.out.trans (B5.out.mono HB.out.size))) (fun S1 => ?_)
      clear hK K S1
      refine tkp 6 (.tuple #[.agg cs5.toArray, .bool g]) rfl (by kernel_rfl) q3 (fun w' hS => ?_) (HX2.out _ (HB.out.trans (B5.out.mono HB.out.size))) ?_
      · go_simp
      refine tkp 7 (.agg cs5.toArray) rfl (by kernel_rfl) q3 (fun w' hS => ?_) (HX2.out _ (HB.out.trans (B5.out.mono HB.out.size))) ?_
      · go_simp
      refine tkp 8 (.bool g) rfl (by kernel_rfl) q3 (fun w' hS => ?_) (HX2.out _ (HB.out.trans (B5.out.mono HB.out.size))) ?_
      · go_simp
      refine rd1 10 (by kernel_rfl) rfl fun K hK => ?_
      refine step_store_row rfl 27 (.tmp 8) (.tmp 24) rfl q cs5.toArray (by first | rfl | simp [Act.eval, Act.put]) (by first | rfl | simp [Act.eval, Act.put]) 27 #[.slice none 0 0, .slice none 0 0, .slice none 0 0, .slice none 0 0] NB.out (by rw [H5.out.len]; exact infoCa) (by rw [H5.out.len]; rfl) H5.out.ones ?_
      obtain ⟨w9, hw9⟩ : ∃ w9, w9 = w5.setRow q cs5.toArray := ⟨_, rfl⟩
      rw [← hw9]
      have Z9 := hI (show InBox 27 q cs5 c2 w9 from by rw [hw9]; exact InBox.put (c := CA.none) ⟨NB.out, zero_at _ _⟩ H5.out)
      have B9 := hI (show Below wr.heap.size wr w9 from by rw [hw9]; exact below_row B5.out QG.out _)
      clear hw9
      go_simp
      refine hK.out _ _ (HX2.out _ (HB.out.trans (B9.out.mono HB.out.size))) (fun S1 => ?_)
      clear hK K S1
      refine rd1 11 (by kernel_rfl) rfl fun K hK => ?_
      go_simp
      refine hK.out _ _ (HX2.out _ (HB.out.trans (B9.out.mono HB.out.size))) (fun S1 => ?_)
      clear hK K S1
      refine wpAnyH_done (by kernel_rfl) ?_ _
      cases g with
      | true =>
       go_wp2_with (first
        | ((with_reducible show wpList _ _ _ ({ dst := some 29, op := .load 27 _, type := _, pos := _, after := _, guard := _ } :: _) _ _); refine wpList_load_st rfl 27 _ rfl q (by first | rfl | simp [Act.eval, Act.put]) 27 cs5.toArray Z9.out.st _ Tryz.underlying27 rfl (by rw [H5.out.len]; exact infoCa) ?_)
        | ((with_reducible show wpList _ _ _ ({ dst := _, op := .store 27 (.tmp 6) _, type := _, pos := _, after := _, guard := _ } :: _) _ _); refine wpList_store_st rfl 27 _ _ rfl (w.heap.size + 1 + 1) cs5.toArray (by first | rfl | simp [Act.eval, Act.put]) (by first | rfl | simp [Act.eval, Act.put]) _ (HI.out.below B9.out).st (by rw [H5.out.len]; exact infoCa) (by rw [L4.out, H5.out.len]) H5.out.ones ?_; rintro w10 hw10 -; have HW10 := hI hw10; clear hw10))
       go_roundw
       case rel =>
        have hI9 := HI.out.below B9.out
        have hs9 := B9.out.size
        refine ⟨i + 1, cs5, hlt, by go_num, by rw [HSt.out]; rfl, ?_, ?_, ?_, ?_, ?_⟩
        · rw [HSt.out, HW10.out]; exact hI9.put Z9.out.at'
        · rw [HW10.out]; exact (HS.out.below B9.out).setRow_other (by omega) _
        · rw [HW10.out]; exact (HZ.out.below B9.out).setRow_other (by omega) _
        · rw [HW10.out]; exact below_row (HB.out.trans (B9.out.mono HB.out.size)) (by omega) _
        · rw [HW10.out]; simp; omega
       case measure => simp [intOf]; omega
      | false =>
       go_wp2_with (first
        | ((with_reducible show wpList _ _ _ ({ dst := some 28, op := .load 27 _, type := _, pos := _, after := _, guard := _ } :: _) _ _); refine wpList_load_st rfl 27 _ rfl w.heap.size (by first | rfl | simp [Act.eval, Act.put]) 27 #[v1, v2, v3, v4] (HS.out.below B9.out) _ Tryz.underlying27 rfl (by kernel_rfl) ?_)
        | ((with_reducible show wpList _ _ _ ({ dst := _, op := .store 27 (.tmp 4) _, type := _, pos := _, after := _, guard := _ } :: _) _ _); refine wpList_store_st rfl 27 _ _ rfl (w.heap.size + 1) #[v1, v2, v3, v4] (by first | rfl | simp [Act.eval, Act.put]) (by first | rfl | simp [Act.eval, Act.put]) _ (HZ.out.below B9.out) (by kernel_rfl) rfl (by simp [o1, o2, o3, o4]) ?_; rintro w10 hw10 s10; have HW10 := hI hw10; have S10 := hI s10; clear hw10 s10))
       have BW10 : Below w.heap.size w w10 := by rw [HW10.out]; exact below_row (HB.out.trans (B9.out.mono HB.out.size)) (by omega) _
       refine ret_cell2 (r := 4) (t := 5) (x := .bool false) rfl (by simp) (by simp) S10.out Tryz.underlying27 rfl (by kernel_rfl) rfl ?_
       rw [CA.all_stop ca xs (i + 1) (by rw [HSt.out]; rfl)]
       exact ⟨[v1, v2, v3, v4], rfl, HCC.out w10 BW10, BW10⟩
  · obtain rfl : i = n := by omega
    go_wp2_with (first
     | ((with_reducible show wpList _ _ _ ({ dst := some 30, op := .load 27 _, type := _, pos := _, after := _, guard := _ } :: _) _ _); refine wpList_load_st rfl 27 _ rfl (w.heap.size + 1 + 1) rfl 27 cs.toArray HI.out.st _ Tryz.underlying27 rfl (by rw [L4.out]; exact infoCa) ?_)
     | ((with_reducible show wpList _ _ _ ({ dst := _, op := .store 27 (.tmp 4) _, type := _, pos := _, after := _, guard := _ } :: _) _ _); refine wpList_store_st rfl 27 _ _ rfl (w.heap.size + 1) cs.toArray rfl rfl _ HZ.out (by rw [L4.out]; exact infoCa) (by rw [L4.out]; rfl) HI.out.at'.ones ?_; rintro w9 hw9 s9; have HW9 := hI hw9; have S9 := hI s9; clear hw9 s9))
    have htk := HT.out
    have hA := HI.out.at'
    rw [HN.out, List.take_length] at htk hA
    have hall : ca.all xs = ((ca.allFrom xs).1, true) := by unfold CA.all; rw [htk]; rfl
    rw [hall]
    refine ret_cell2 (r := 4) (t := 5) (x := .bool true) rfl (by first | (simp; done) | simp [Act.put]) (by first | (simp; done) | simp [Act.put]) S9.out Tryz.underlying27 rfl (by rw [L4.out]; exact infoCa) rfl ?_
    refine ⟨cs, rfl, ?_, by rw [HW9.out]; exact below_row HB.out (by omega) _⟩
    have h0 : InBox 27 (w.heap.size + 1) [.slice none 0 0, .slice none 0 0, .slice none 0 0, .slice none 0 0] CA.none wr := ⟨HZ.out, zero_at _ _⟩
    rw [HW9.out]
    exact (h0.put hA).at'
end Go.Proofs.YtngfknplljedeaaGreat
