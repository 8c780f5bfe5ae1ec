/- The program's disk: New's walk; Image. -/
import Derived.Test.YtfipojmgmmjnmaaPdl
namespace Go.Proofs.Ytfipojmgmmjnmaa
open Go.RowKit

set_option maxRecDepth 100000 in
set_option maxHeartbeats 1000000 in
theorem dNew_ok (n : Nat) (w : World) (h1 : 1 ≤ n) (hn : n ≤ 65536) : Calls Try.prog 11 #[.int .i64 n] w fun e w' => ∃ p, e = .returned (.tuple #[.pointer (some ⟨p, 0, none⟩), .int .i64 0]) ∧ PD w.heap.size p (fun j => w.heap.size ≤ j ∧ j < w'.heap.size) (DS.new n) w' ∧ Below w.heap.size w w' := by
  obtain ⟨i1, hi1, hz1, hs1, hy1⟩ := info_parts infoSector
  obtain ⟨i2, hi2, hz2, hs2, hy2⟩ := info_parts infoInt2
  have hb1 : (i1.bytes : Int) * (n : Int) ≤ 281474976710656 := by rw [hy1]; have : ((128 : Nat) : Int) = 128 := rfl; omega
  have hb2 : (i2.bytes : Int) * (n : Int) ≤ 281474976710656 := by rw [hy2]; have : ((8 : Nat) : Int) = 8 := rfl; omega
  have hn63 : (n : Int) ≤ 9223372036854775807 := by omega
  have d1 : decide ((n : Int) < 1) = false := decide_eq_false (by omega)
  have d2 : decide ((n : Int) > 65536) = false := decide_eq_false (by omega)
  have HN := Lib.hid (And.intro h1 hn)
  clear h1 hn
  go_enter Try.func11, Try.ntmps11
  go_wp2_with fail
  refine wp_region_held (S := fun _ => True) (by kernel_rfl) ?_
  change wpAnyH _ _ _ _ _ _ _ _ (World.drew _)
  obtain ⟨WD, hWD⟩ : ∃ WD, WD = World.drew w := ⟨_, rfl⟩
  rw [← hWD]
  have hWs : WD.heap.size = w.heap.size := by rw [hWD]; rfl
  have HB := Lib.hid (show Below w.heap.size w WD from by rw [hWD]; exact (Below.refl _ w).drew)
  clear hWD
  refine wpAnyH_take (i := 0) (v := (.int .i64 n)) rfl (by kernel_rfl) (by kernel_rfl) (by kernel_rfl) (fun _ _ _ h => h) (Or.inl ⟨by rfl, fun w' _ => ?_⟩) trivial ?_
  · go_simp
  refine wpAnyH_take (i := 2) (v := (.int .i64 n)) rfl (by kernel_rfl) (by kernel_rfl) (by kernel_rfl) (fun _ _ _ h => h) (Or.inl ⟨by rfl, fun w' _ => ?_⟩) trivial ?_
  · go_simp
  refine wpAnyH_ready (rs := [1, 3]) (by kernel_rfl) (by simp) ?_
  refine AllReadyH.cons rfl (fun K hK => ?_) ?_
  · refine step_make rfl 55 87 (.tmp 10) (.tmp 10) rfl i1 (.agg Try.zeroCells87) 128 Try.underlying55 hi1 hz1 hs1 n (by simp [Act.eval, Act.put]) (by simp [Act.eval, Act.put]) hb1 hn63 ?_
    go_simp
    refine hK.out _ _ trivial (fun S1 => ?_)
    clear hK K S1
    refine wpAnyH_ready (rs := [3]) (by kernel_rfl) (by simp) ?_
    refine AllReadyH.cons rfl (fun K hK => ?_) AllReadyH.nil
    refine step_make rfl 34 3 (.tmp 12) (.tmp 12) rfl i2 (.int .i64 0) 1 Try.underlying34 hi2 hz2 hs2 n (by simp [Act.eval]) (by simp [Act.eval]) hb2 hn63 ?_
    go_simp
    refine hK.out _ _ trivial (fun S1 => ?_)
    clear hK K S1
    refine wpAnyH_ready (rs := [4]) (by kernel_rfl) (by simp) ?_
    refine AllReadyH.cons rfl (fun K hK => ?_) AllReadyH.nil
    go_simp
    refine hK.out _ _ trivial (fun S1 => ?_)
    clear hK K S1
    refine wpAnyH_ready (rs := [5]) (by kernel_rfl) (by simp) ?_
    refine AllReadyH.cons rfl (fun K hK => ?_) AllReadyH.nil
    go_simp
    refine hK.out _ _ trivial (fun S1 => ?_)
    clear hK K S1
    refine wpAnyH_ready (rs := [6]) (by kernel_rfl) (by simp) ?_
    refine AllReadyH.cons rfl (fun K hK => ?_) AllReadyH.nil
    go_simp
    refine hK.out _ _ trivial (fun S1 => ?_)
    clear hK K S1
    refine wpAnyH_ready (rs := [7]) (by kernel_rfl) (by simp) ?_
    refine AllReadyH.cons rfl (fun K hK => ?_) AllReadyH.nil
    go_simp
    refine hK.out _ _ trivial (fun S1 => ?_)
    clear hK K S1
    refine wpAnyH_done (by kernel_rfl) ?_ _
    have kx : ((WD.alloc (.cells (madeCells Try.zeroCells87 (n * 128)) 87 (0, 0))).alloc (.cells (madeCells #[.int .i64 0] n) 3 (0, 0))).heap[w.heap.size]? = some (.cells (madeCells Try.zeroCells87 (n * 128)) 87 (0, 0)) := (Below.heap_alloc _ (.cells (madeCells #[.int .i64 0] n) 3 (0, 0)) _ (by simp [hWs])).trans (by have h := heap_alloc_new WD (.cells (madeCells Try.zeroCells87 (n * 128)) 87 (0, 0)); rwa [hWs] at h)
    have ky : ((WD.alloc (.cells (madeCells Try.zeroCells87 (n * 128)) 87 (0, 0))).alloc (.cells (madeCells #[.int .i64 0] n) 3 (0, 0))).heap[w.heap.size + 1]? = some (.cells (madeCells #[.int .i64 0] n) 3 (0, 0)) := by
      have h := heap_alloc_new (WD.alloc (.cells (madeCells Try.zeroCells87 (n * 128)) 87 (0, 0))) (.cells (madeCells #[.int .i64 0] n) 3 (0, 0))
      rwa [show (WD.alloc (.cells (madeCells Try.zeroCells87 (n * 128)) 87 (0, 0))).heap.size = w.heap.size + 1 from by simp [hWs]] at h
    have hbw : Below w.heap.size w ((WD.alloc (.cells (madeCells Try.zeroCells87 (n * 128)) 87 (0, 0))).alloc (.cells (madeCells #[.int .i64 0] n) 3 (0, 0))) := (HB.out.alloc (by omega) _).alloc (by simp [hWs]) _
    have hP := PD_new n HN.out.1 HN.out.2 w ((WD.alloc (.cells (madeCells Try.zeroCells87 (n * 128)) 87 (0, 0))).alloc (.cells (madeCells #[.int .i64 0] n) 3 (0, 0))) w.heap.size (w.heap.size + 1) (by omega) (by omega) (by omega) (by omega) (by omega) (by simp [hWs]) kx ky
    have HP := Lib.hid hP
    have HBW := Lib.hid (hbw.alloc (o := .cells (pcs (.slice (some ⟨w.heap.size, 0, none⟩) n n) (.slice none 0 0) (.slice (some ⟨(w.heap.size + 1), 0, none⟩) n n) false 0 (DS.new n)) 65 (0, 0)) (by simp [hWs]; omega))
    clear kx ky hbw hP
    go_wp2_with fail
    go_ret2
    exact ⟨_, rfl, HP.out, HBW.out⟩
  refine AllReadyH.cons rfl (fun K hK => ?_) AllReadyH.nil
  refine step_make rfl 34 3 (.tmp 12) (.tmp 12) rfl i2 (.int .i64 0) 1 Try.underlying34 hi2 hz2 hs2 n (by simp [Act.eval, Act.put]) (by simp [Act.eval, Act.put]) hb2 hn63 ?_
  go_simp
  refine hK.out _ _ trivial (fun S1 => ?_)
  clear hK K S1
  refine wpAnyH_ready (rs := [1]) (by kernel_rfl) (by simp) ?_
  refine AllReadyH.cons rfl (fun K hK => ?_) AllReadyH.nil
  refine step_make rfl 55 87 (.tmp 10) (.tmp 10) rfl i1 (.agg Try.zeroCells87) 128 Try.underlying55 hi1 hz1 hs1 n (by simp [Act.eval]) (by simp [Act.eval]) hb1 hn63 ?_
  go_simp
  refine hK.out _ _ trivial (fun S1 => ?_)
  clear hK K S1
  refine wpAnyH_ready (rs := [4]) (by kernel_rfl) (by simp) ?_
  refine AllReadyH.cons rfl (fun K hK => ?_) AllReadyH.nil
  go_simp
  refine hK.out _ _ trivial (fun S1 => ?_)
  clear hK K S1
  refine wpAnyH_ready (rs := [5]) (by kernel_rfl) (by simp) ?_
  refine AllReadyH.cons rfl (fun K hK => ?_) AllReadyH.nil
  go_simp
  refine hK.out _ _ trivial (fun S1 => ?_)
  clear hK K S1
  refine wpAnyH_ready (rs := [6]) (by kernel_rfl) (by simp) ?_
  refine AllReadyH.cons rfl (fun K hK => ?_) AllReadyH.nil
  go_simp
  refine hK.out _ _ trivial (fun S1 => ?_)
  clear hK K S1
  refine wpAnyH_ready (rs := [7]) (by kernel_rfl) (by simp) ?_
  refine AllReadyH.cons rfl (fun K hK => ?_) AllReadyH.nil
  go_simp
  refine hK.out _ _ trivial (fun S1 => ?_)
  clear hK K S1
  refine wpAnyH_done (by kernel_rfl) ?_ _
  have kx : ((WD.alloc (.cells (madeCells #[.int .i64 0] n) 3 (0, 0))).alloc (.cells (madeCells Try.zeroCells87 (n * 128)) 87 (0, 0))).heap[w.heap.size]? = some (.cells (madeCells #[.int .i64 0] n) 3 (0, 0)) := (Below.heap_alloc _ (.cells (madeCells Try.zeroCells87 (n * 128)) 87 (0, 0)) _ (by simp [hWs])).trans (by have h := heap_alloc_new WD (.cells (madeCells #[.int .i64 0] n) 3 (0, 0)); rwa [hWs] at h)
  have ky : ((WD.alloc (.cells (madeCells #[.int .i64 0] n) 3 (0, 0))).alloc (.cells (madeCells Try.zeroCells87 (n * 128)) 87 (0, 0))).heap[w.heap.size + 1]? = some (.cells (madeCells Try.zeroCells87 (n * 128)) 87 (0, 0)) := by
    have h := heap_alloc_new (WD.alloc (.cells (madeCells #[.int .i64 0] n) 3 (0, 0))) (.cells (madeCells Try.zeroCells87 (n * 128)) 87 (0, 0))
    rwa [show (WD.alloc (.cells (madeCells #[.int .i64 0] n) 3 (0, 0))).heap.size = w.heap.size + 1 from by simp [hWs]] at h
  have hbw : Below w.heap.size w ((WD.alloc (.cells (madeCells #[.int .i64 0] n) 3 (0, 0))).alloc (.cells (madeCells Try.zeroCells87 (n * 128)) 87 (0, 0))) := (HB.out.alloc (by omega) _).alloc (by simp [hWs]) _
  have hP := PD_new n HN.out.1 HN.out.2 w ((WD.alloc (.cells (madeCells #[.int .i64 0] n) 3 (0, 0))).alloc (.cells (madeCells Try.zeroCells87 (n * 128)) 87 (0, 0))) (w.heap.size + 1) w.heap.size (by omega) (by omega) (by omega) (by omega) (by omega) (by simp [hWs]) ky kx
  have HP := Lib.hid hP
  have HBW := Lib.hid (hbw.alloc (o := .cells (pcs (.slice (some ⟨(w.heap.size + 1), 0, none⟩) n n) (.slice none 0 0) (.slice (some ⟨w.heap.size, 0, none⟩) n n) false 0 (DS.new n)) 65 (0, 0)) (by simp [hWs]; omega))
  clear kx ky hbw hP
  go_wp2_with fail
  go_ret2
  exact ⟨_, rfl, HP.out, HBW.out⟩
/-- The texts that have been laid. -/
def icells (xs : List ByteArray) (k : Nat) : List Value := (xs.take k).map Value.string ++ List.replicate (xs.length - k) (.string ⟨#[]⟩)
theorem icells_length (xs : List ByteArray) (k : Nat) (h : k ≤ xs.length) : (icells xs k).length = xs.length := by simp [icells]; omega
theorem icells_zero (xs : List ByteArray) : icells xs 0 = List.replicate xs.length (.string ⟨#[]⟩) := by simp [icells]
theorem icells_next (xs : List ByteArray) (k : Nat) (x : ByteArray) (h : xs[k]? = some x) : icells xs (k + 1) = (icells xs k).set k (.string x) := by
  obtain ⟨hk, rfl⟩ := List.getElem?_eq_some_iff.1 h
  unfold icells
  rw [List.take_succ_eq_append_getElem hk, List.map_append, List.append_assoc]
  have hl : ((xs.take k).map Value.string).length = k := by simp; omega
  rw [List.set_append_right _ _ (by omega), hl, Nat.sub_self]
  congr 1
  rw [show xs.length - k = xs.length - (k + 1) + 1 from by omega, List.replicate_succ]
  rfl
theorem icells_all (xs : List ByteArray) : icells xs xs.length = xs.map Value.string := by simp [icells]
set_option maxRecDepth 100000 in
set_option maxHeartbeats 1000000 in
theorem dImage_at {B p : Nat} {kv wv lv : Value} {is : Bool} {N : Int} {D : DS} {w : World} (hn6 : D.kept.length ≤ 1073741824) (h : PD0 B p kv wv lv is N D w) : Calls Try.prog 20 #[.pointer (some ⟨p, 0, none⟩)] w fun e w' =>
    e = .returned (.slice (some ⟨w.heap.size, 0, none⟩) D.kept.length D.kept.length) ∧ w'.ownsRow w.heap.size 9 1 (.slice (some ⟨w.heap.size, 0, none⟩) D.kept.length D.kept.length) D.kept.length (D.kept.map Value.string) ∧ Below w.heap.size w w' := by
  obtain ⟨i0, hi, hz0, hz1, hz2⟩ := info_parts infoStr2
  obtain ⟨g, cap, hkv, _, _, _⟩ := own_some h.kr (by have := h.pos; omega)
  obtain ⟨n, hn⟩ : ∃ n, n = D.kept.length := ⟨_, rfl⟩
  have c0 : w.cell? ⟨p, 0, none⟩ = some (.slice (some ⟨g, 0, none⟩) n cap) := by rw [hn, ← hkv]; exact h.st.cell rfl
  have hpl := h.st.lt
  have hb : (i0.bytes : Int) * (n : Int) ≤ 281474976710656 := by rw [hz2, hn]; have : ((16 : Nat) : Int) = 16 := rfl; omega
  have hn63 : (n : Int) ≤ 9223372036854775807 := by omega
  rw [← hn] at hn6 ⊢
  have HN := Lib.hid hn
  have HKV := Lib.hid hkv
  have HH := Lib.hid h
  clear h hn hkv
  go_enter Try.func20, Try.ntmps20
  have c0' : (w.alloc (.cells (madeCells #[Value.string ⟨#[]⟩] n) 9 (0, 0))).cell? ⟨p, 0, none⟩ = some (.slice (some ⟨g, 0, none⟩) n cap) := cell_alloc c0 _
  go_wp2_with ((with_reducible show wpList _ _ _ ({ dst := _, op := .makeSlice _ _ _, type := _, pos := _, after := _, guard := _ } :: _) _ _); refine wpList_make rfl 40 9 _ _ rfl i0 (.string ⟨#[]⟩) 1 Try.underlying40 hi hz0 hz1 n rfl rfl hb hn63 ?_)
  have hown := World.ownsRow_lit (base := w.heap.size) (e := 9) (size := 1) w (madeCells #[Value.string ⟨#[]⟩] n) n (Nat.le_refl _) (by unfold maxLen; omega) (by rw [size_madeCells, Nat.mul_one])
  rw [toList_madeCells_one, show List.replicate n (Value.string ⟨#[]⟩) = icells D.kept 0 from by rw [icells_zero, HN.out]] at hown
  have hb2 : Below w.heap.size w (w.alloc (.cells (madeCells #[Value.string ⟨#[]⟩] n) 9 (0, 0))) := (Below.refl _ w).alloc (Nat.le_refl _) _
  have hsz : (w.alloc (.cells (madeCells #[Value.string ⟨#[]⟩] n) 9 (0, 0))).heap.size = w.heap.size + 1 := by simp
  generalize (w.alloc (.cells (madeCells #[Value.string ⟨#[]⟩] n) 9 (0, 0))) = W2 at hown hb2 c0' hsz ⊢
  have H0 := Lib.hid (And.intro hown (And.intro hb2 hsz))
  clear hown hb2 hsz c0 c0' hb hi hz0 hz1 hz2
  go_loopw [19] (fun c wr => ∃ i : Nat, i ≤ n ∧ c = .int .i64 i ∧ wr.ownsRow w.heap.size 9 1 (.slice (some ⟨w.heap.size, 0, none⟩) n n) n (icells D.kept i) ∧ Frm (fun j => j = w.heap.size) W2 wr) (fun c _ => n - (intOf c).toNat)
  case atStart => exact ⟨0, Nat.zero_le _, rfl, H0.out.1, Frm.refl _ _⟩
  case round =>
    obtain ⟨i, hi, rfl, hr, hfr⟩ := hrel
    have hbw : Below w.heap.size w wr := H0.out.2.1.trans (hfr.below H0.out.2.1.size fun j hj => by omega)
    have HR := Lib.hid hr
    have HFR := Lib.hid hfr
    have HB := Lib.hid hbw
    by_cases hlt : i < n
    · obtain ⟨x, hx⟩ : ∃ x, D.kept[i]? = some x := ⟨_, List.getElem?_eq_getElem (by rw [← HN.out]; exact hlt)⟩
      have hP := HH.out.below hbw
      have hx8 : x.size = 128 := HH.out.ok.full x (List.mem_of_getElem? hx)
      have hrg : wr.rangeAt g (i * 128) (tb x) := by
        have hq := hP.kr
        rw [HKV.out] at hq
        exact own_range hq (i * 128) (tb x) (flat_at tb 128 D.kept (fun y hy => by rw [tb_length, HH.out.ok.full y hy]) i x hx)
      have HRG := Lib.hid hrg
      have H1 := Lib.hid (tb_arr x hx8)
      have H2 := Lib.hid (tb_ones x)
      have HT := Lib.hid (fun W k (hW : St 87 k (tb x).toArray W) => st_text (P := Try.prog) (src := 88) (dst := 9) hW 128 hx8 Try.underlying88 Try.underlying5 Try.underlying9)
      have HNX := Lib.hid (icells_next D.kept i x hx)
      have HZ := Lib.hid (St.new wr 87 Try.zeroCells87)
      have hcc := hr.cellAt i (by omega)
      rw [List.getElem?_eq_getElem (by rw [icells_length _ _ (by rw [← HN.out]; exact hi), ← HN.out]; exact hlt)] at hcc
      have hqq := hr.frozenAt i
      have hwz := hfr.size
      have hws : w.heap.size < wr.heap.size := by have := H0.out.2.2; omega
      clear hr hfr hbw hP hx hx8 hrg
      go_wp2_with (first
        | ((with_reducible show wpList _ _ _ ({ dst := _, op := .load 87 _, type := _, pos := _, after := _, guard := _ } :: _) _ _); refine wpList_load_mid rfl 87 _ rfl g (i * 128) rfl (tb x) _ HRG.out Try.underlying87 rfl (by rw [show (tb x).length = 128 from by simpa using H1.out]; kernel_rfl) ?_)
        | ((with_reducible show wpList _ _ _ ({ dst := _, op := .store 87 _ _, type := _, pos := _, after := _, guard := _ } :: _) _ _); refine wpList_store_st rfl 87 _ _ rfl wr.heap.size (tb x).toArray rfl rfl _ HZ.out (by rw [H1.out]; kernel_rfl) (by rw [H1.out]; exact szero_size) H2.out ?_; intro w6 hw6 k6; have b6 := (show Below wr.heap.size wr w6 from by rw [hw6]; exact below_row ((Below.refl _ wr).alloc (Nat.le_refl _) _) (Nat.le_refl _) _); have K6 := Lib.hid k6; have cv := HT.out w6 wr.heap.size K6.out; have ci := (b6.cell (p := ⟨w.heap.size, i, none⟩) hws).trans hcc; have qi := (World.frozen?_of_block (a := ⟨w.heap.size, i, none⟩) (b6.block w.heap.size hws)).trans hqq; have B6 := Lib.hid b6; clear hw6 k6 b6))
      go_roundw
      case rel =>
        have h6 := (show w6.ownsRow w.heap.size 9 1 (.slice (some ⟨w.heap.size, 0, none⟩) n n) n (icells D.kept i) from (Frm.of_below (F := fun _ => False) B6.out).own HR.out fun _ _ e => e)
        refine ⟨i + 1, by omega, by go_num, ?_, (frm_below HFR.out B6.out).setCell (p := ⟨w.heap.size, i, none⟩) (.inl rfl) _⟩
        rw [HNX.out]
        exact (h6.stored i _).1
      case measure => simp [intOf]; omega
    · obtain rfl : i = n := by omega
      have h9 : wr.ownsRow w.heap.size 9 1 (.slice (some ⟨w.heap.size, 0, none⟩) i i) i (D.kept.map Value.string) := by
        have h := hr
        rwa [show icells D.kept i = D.kept.map Value.string from by rw [HN.out, icells_all]] at h
      have H9 := Lib.hid h9
      clear h9 hr hfr hbw
      go_wp2_with fail
      go_ret
      exact ⟨rfl, H9.out, HB.out⟩
end Go.Proofs.Ytfipojmgmmjnmaa
