/- Lemmas for the laws of index. -/
import Derived.Test.YtngfknplljedeaaGreatZr45
import Derived.Test.YtngfknplljedeaaGreatZrTk
import Derived.Test.YtngfknplljedeaaGreatZrHi
namespace Go.Proofs.YtngfknplljedeaaGreat
open Go.RowKit
theorem CAt.put {B : Nat} {T : TypeId} {p : Nat} {cs ds : List Value} {c d : CA} {w : World} (h : InBox T p cs c w) (hB : B ≤ w.heap.size) (hd : CAt B ds d w) : CAt B ds d (w.setRow p ds.toArray) := by
 obtain ⟨a1, n1, c1, a2, n2, c2, a3, n3, c3, a4, n4, c4, e⟩ := h.at'.slices
 have hF : Frm (fun j => j = p) w (w.setRow p ds.toArray) := ⟨rfl, rfl, rfl, by simp, fun j hj hn => Go.setRow_other _ _ j _ hn⟩
 exact hd.keep h.st (by rw [e]; exact slices4) hB hF
set_option maxRecDepth 100000 in
set_option maxHeartbeats 2000000 in
theorem ixMade_any (v : Value) (xs : List Ch) (w : World) (h : RowsAt w.heap.size 18 Ch.vs v xs w) (hn : xs.length ≤ 1073741800) :
 Calls Tryz.prog 18 #[v] w fun e w' => ∃ cs, e = .returned (.agg cs.toArray) ∧ CAt w'.heap.size cs (CA.made xs) w' ∧ Below w.heap.size w w' := by
 obtain ⟨ao, cap, b, off, rfl, hl, hx⟩ := h.walk
 obtain ⟨n, hnn⟩ : ∃ n, n = xs.length := ⟨_, rfl⟩
 rw [← hnn] at hl hx hn ⊢
 have HX := hI (show ∀ W, Below w.heap.size w W → ∀ i, i < n → ∃ x : Ch, xs[i]? = some x ∧ ao = some ⟨b, off, none⟩ ∧ W.rangeAt b (off + i * 18) x.vs from fun W hW i hi => by
  obtain ⟨x, e1, e2, e3, e4⟩ := hx i hi
  exact ⟨x, e1, e2, fun j u hu => (hW.cell (p := ⟨b, off + i * 18 + j, none⟩) e3).trans (e4 j u hu)⟩)
 obtain ⟨w1, hw1⟩ : ∃ w1, w1 = (w.alloc (.cells #[.slice none 0 0, .slice none 0 0, .slice none 0 0, .slice none 0 0] 27 (0, 0))).alloc (.cells #[.slice none 0 0, .slice none 0 0, .slice none 0 0, .slice none 0 0] 27 (0, 0)) := ⟨_, rfl⟩
 have hb1 : Below w.heap.size w w1 := by rw [hw1]; exact ((Below.refl _ w).alloc (Nat.le_refl _) _).alloc (by simp) _
 have hs1 : w1.heap.size = w.heap.size + 1 + 1 := by rw [hw1]; simp
 have st0 : St 27 w.heap.size #[.slice none 0 0, .slice none 0 0, .slice none 0 0, .slice none 0 0] w1 := by rw [hw1]; exact (St.new w _ _).alloc _
 have st1 : St 27 (w.heap.size + 1) #[.slice none 0 0, .slice none 0 0, .slice none 0 0, .slice none 0 0] w1 := by
  rw [hw1, show w.heap.size + 1 = (w.alloc (.cells #[.slice none 0 0, .slice none 0 0, .slice none 0 0, .slice none 0 0] 27 (0, 0))).heap.size from by simp]; exact St.new _ _ _
 have HIn := hI (show InBox 27 (w.heap.size + 1) [.slice none 0 0, .slice none 0 0, .slice none 0 0, .slice none 0 0] (CA.made (xs.take 0)) w1 from ⟨st1, zero_at _ _⟩)
 have HS0 := hI st0
 have HB1 := hI hb1
 have HW1 := hI hw1
 have HN := hI hnn
 clear h hx hb1 st0 st1 hw1 hnn
 go_enter Tryz.func18, Tryz.ntmps18
 go_wp2_with fail
 rw [← HW1.out]
 go_loopw [4] (fun c wr => ∃ (i : Nat) (cs : List Value), i ≤ n ∧ c = .int .i64 i ∧ InBox 27 (w.heap.size + 1) cs (CA.made (xs.take i)) wr ∧ St 27 w.heap.size #[.slice none 0 0, .slice none 0 0, .slice none 0 0, .slice none 0 0] wr ∧ Below w.heap.size w wr ∧ w1.heap.size ≤ wr.heap.size) (fun c _ => n - (intOf c).toNat)
 case atStart => exact ⟨0, _, Nat.zero_le _, rfl, HIn.out, HS0.out, HB1.out, Nat.le_refl _⟩
 case round =>
  obtain ⟨i, cs, hi, rfl, hin, hst, hbel, hsz⟩ := hrel
  have HI := hI hin
  have HS := hI hst
  have HB := hI hbel
  have L4 := hI hin.at'.len
  clear hin hst hbel
  by_cases hlt : i < n
  · obtain ⟨x, hxi, rfl, hr⟩ := HX.out wr HB.out i hlt
    have HM := hI (CA.made_take xs i x hxi)
    have hle := CA.made_lens (xs.take i)
    rw [List.length_take] at hle
    have HA := hI (ixApply_at cs (CA.made (xs.take i)) x wr HI.out.at' (hle.few (by omega)))
    rw [← HM.out] at HA
    obtain ⟨g, hg⟩ : ∃ g, g = ((CA.made (xs.take i)).apply x).2 := ⟨_, rfl⟩
    rw [← hg] at HA
    obtain ⟨xv, hxv⟩ : ∃ xv, xv = x.vs := ⟨_, rfl⟩
    rw [← hxv] at HA hr
    have HV := hI (show xv.length = 18 from by rw [hxv]; rfl)
    have HR := hI hr
    have i0 : (0 : Int) ≤ (i : Int) := by omega
    have i1 : (i : Int) < (n : Int) := by omega
    have ST := hI (show (wr.drew).rangeAt b (off + i * 18) xv from HR.out)
    have HA := hI (show Calls Tryz.prog 16 #[.agg cs.toArray, .agg xv.toArray] wr.drew fun e w' => ∃ cs', e = .returned (.tuple #[.agg cs'.toArray, .bool g]) ∧ CAt w'.heap.size cs' (CA.made (xs.take (i + 1))) w' ∧ Below wr.heap.size wr w' from by
     have := ixApply_at cs (CA.made (xs.take i)) x wr.drew HI.out.at' (hle.few (by omega))
     rw [← HM.out, ← hg, ← hxv] at this
     exact this.mono fun e w' ⟨c', h1, h2, h3⟩ => ⟨c', h1, h2, (Below.refl _ wr).drew.trans h3⟩)
    have HX2 := hI (show ∀ W, Below w.heap.size w W → W.rangeAt b (off + i * 18) xv from fun W hW => by
     obtain ⟨y, y1, _, y3⟩ := HX.out W hW i hlt
     rw [hxi] at y1
     cases y1
     rw [hxv]
     exact y3)
    have SB := hI (show St 27 (w.heap.size + 1) cs.toArray wr.drew from HI.out.st)
    have BD := hI (show Below wr.heap.size wr wr.drew from (Below.refl _ _).drew)
    clear hr hxi hxv hg hle
    go_wp2_with fail
    refine wp_region_held (S := fun w' => w'.rangeAt b (off + i * 18) xv) (by kernel_rfl) ?_
    change wpAnyH _ _ _ _ _ _ _ _ (World.drew _)
    generalize World.drew wr = WD at ST HA SB BD ⊢
    refine tkp 1 (.slice (some ⟨b, off, none⟩) n cap) rfl (by kernel_rfl) q3 (fun w' hS => ?_) ST.out ?_
    · go_simp
    refine tkp 2 (.int .i64 i) rfl (by kernel_rfl) q3 (fun w' hS => ?_) ST.out ?_
    · go_simp
    refine tkp 3 (.pointer (some ⟨b, off + i * 18, none⟩)) rfl (by kernel_rfl) q3 (fun w' hS => ?_) ST.out ?_
    · go_simp
    refine tkl 4 (.agg xv.toArray) rfl (by kernel_rfl) q3 (yieldsIf_load_mid (by rfl) 40 (.tmp 15) rfl b (off + i * 18) (by simp [Act.eval, Act.put]) xv _ (fun w' hS => hS) Tryz.underlying40 rfl (by rw [HV.out]; kernel_rfl)) ST.out ?_
    refine rd1 0 (by kernel_rfl) rfl fun K hK => ?_
    refine step_load_row rfl 27 (.tmp 3) rfl (w.heap.size + 1) (by simp [Act.eval, Act.put]) 27 cs.toArray (0, 0) _ SB.out Tryz.underlying27 rfl (by rw [L4.out]; exact infoCa) ?_
    go_simp
    refine hK.out _ _ ST.out (fun S1 => ?_)
    clear hK K S1
    refine rd1 5 (by kernel_rfl) rfl fun K hK => ?_
    go_simp
    refine HA.out.mono ?_
    rintro e w5 ⟨cs5, rfl, h5, b5⟩
    have H5 := hI h5
    have B5 := hI b5
    have BW5 := hI (HB.out.trans (b5.mono HB.out.size))
    clear h5 b5
    go_simp
    refine hK.out _ _ (HX2.out _ BW5.out) (fun S1 => ?_)
    clear hK K S1
    refine rd1 6 (by kernel_rfl) rfl fun K hK => ?_
    go_simp
    refine hK.out _ _ (HX2.out _ BW5.out) (fun S1 => ?_)
    clear hK K S1
    refine tkp 7 (.agg cs5.toArray) rfl (by kernel_rfl) q3 (fun w' hS => ?_) (HX2.out _ BW5.out) ?_
    · go_simp
    refine tkp 8 (.bool g) rfl (by kernel_rfl) q3 (fun w' hS => ?_) (HX2.out _ BW5.out) ?_
    · go_simp
    refine rd1 9 (by kernel_rfl) rfl fun K hK => ?_
    refine step_store_row rfl 27 (.tmp 3) (.tmp 18) rfl (w.heap.size + 1) cs5.toArray (by simp [Act.eval, Act.put]) (by simp [Act.eval, Act.put]) 27 cs.toArray (HI.out.below B5.out).st (by rw [H5.out.len]; exact infoCa) (by rw [L4.out, H5.out.len]) H5.out.ones ?_
    obtain ⟨w9, hw9⟩ : ∃ w9, w9 = w5.setRow (w.heap.size + 1) cs5.toArray := ⟨_, rfl⟩
    rw [← hw9]
    have HW9 := hI hw9
    have BW9 := hI (show Below w.heap.size w w9 from by rw [hw9]; exact below_row BW5.out (by omega) _)
    clear hw9
    go_simp
    refine hK.out _ _ (HX2.out _ BW9.out) (fun S1 => ?_)
    clear hK K S1
    refine wpAnyH_done (by kernel_rfl) ?_ _
    go_wp2_with fail
    go_roundw
    case rel =>
     have hI5 := HI.out.below B5.out
     refine ⟨i + 1, cs5, hlt, by go_num, ?_, ?_, ?_, ?_⟩
     · rw [HW9.out]; exact hI5.put H5.out
     · rw [HW9.out]; exact (HS.out.below B5.out).setRow_other (by omega) _
     · exact BW9.out
     · rw [HW9.out]; have := B5.out.size; simp; omega
    case measure => simp [intOf]; omega
  · obtain rfl : i = n := by omega
    go_wp2_with (first
     | ((with_reducible show wpList _ _ _ ({ dst := _, op := .load 27 (.tmp 3), type := _, pos := _, after := _, guard := _ } :: _) _ _); refine wpList_load_st rfl 27 _ rfl (w.heap.size + 1) rfl 27 cs.toArray HI.out.st _ Tryz.underlying27 rfl (by rw [L4.out]; exact infoCa) ?_)
     | ((with_reducible show wpList _ _ _ ({ dst := _, op := .store 27 (.tmp 2) _, type := _, pos := _, after := _, guard := _ } :: _) _ _); refine wpList_store_st rfl 27 _ _ rfl w.heap.size cs.toArray rfl rfl _ HS.out (by rw [L4.out]; exact infoCa) (by rw [L4.out]; rfl) HI.out.at'.ones ?_; rintro w9 hw9 s9; have HW9 := hI hw9; have S9 := hI s9; clear hw9 s9))
    refine ret_cell (r := 2) rfl (by simp [Act.put]) S9.out Tryz.underlying27 rfl (by rw [L4.out]; exact infoCa) rfl ?_
    refine ⟨cs, rfl, ?_, by rw [HW9.out]; exact below_row HB.out (Nat.le_refl _) _⟩
    have hA := HI.out.at'
    rw [HN.out, List.take_length] at hA
    have h0 : InBox 27 w.heap.size [.slice none 0 0, .slice none 0 0, .slice none 0 0, .slice none 0 0] CA.none wr := ⟨HS.out, zero_at _ _⟩
    rw [HW9.out]
    exact (h0.put hA).at'
end Go.Proofs.YtngfknplljedeaaGreat
