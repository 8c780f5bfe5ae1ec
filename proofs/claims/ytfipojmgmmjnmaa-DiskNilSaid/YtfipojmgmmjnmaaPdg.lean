/- The program's disk: Write. -/
import Derived.Test.YtfipojmgmmjnmaaPdf
namespace Go.Proofs.Ytfipojmgmmjnmaa
open Go.RowKit

theorem burnt_parts (D : DS) : D.burnt.wait = D.wait ∧ D.burnt.wr = D.wr ∧ D.burnt.kept = D.kept ∧ D.burnt.br = D.br := by unfold DS.burnt; split <;> (try split) <;> exact ⟨rfl, rfl, rfl, rfl⟩
theorem frm_below {G : Nat → Prop} {a b c : World} (f : Frm G a b) (g : Below b.heap.size b c) : Frm G a c := f.next (Frm.of_below g)

set_option maxRecDepth 100000 in
set_option maxHeartbeats 1000000 in
theorem dWrite_do (B p : Nat) (kv wv lv : Value) (is : Bool) (N : Int) (D : DS) (j : Nat) (s : ByteArray) (w : World) (hd : D.dead = false) (hj : j < D.kept.length) (hs : s.size ≤ 128) (h0 : D.fuse ≠ 0) (hl : D.wait.length ≤ 1073741824) (hc : D.wr ≤ 1073741824) (hB : B ≤ w.heap.size) (h : PD0 B p kv wv lv is N D w) :
    Calls Try.prog 22 #[.pointer (some ⟨p, 0, none⟩), .int .i64 j, .string s] w fun e w' => e = .returned (.int .i64 0) ∧
      ∃ wv', PDk B p kv wv' lv { D.burnt with wait := D.wait ++ [(j, blank s)], wr := D.wr + 1 } w' ∧ Frm (fun k => k = p ∨ wv.ownBlock = some k ∨ lv.ownBlock = some k) w w' ∧ (∀ k, wv'.ownBlock = some k → wv.ownBlock = some k ∨ w.heap.size ≤ k) := by
  obtain ⟨i0, hi, hz0, hz1, hz2⟩ := info_parts infoPending
  have HWL := Lib.hid (fun (i : Nat) (hi : wv.ownBlock = some i) => (h.wr.lt i hi).2)
  have HR := Lib.hid (drefusal_at h)
  have HI := Lib.hid (dhas_at (j : Int) h)
  have hin : D.inside j = true := decide_eq_true ⟨by omega, by omega⟩
  rw [hd] at HR
  rw [hin] at HI
  have HBu := Lib.hid (show ∀ q, Calls Try.prog 47 #[.pointer (some ⟨p, 0, none⟩)] (w.drewN q) _ from fun q => dburn_on B p kv wv lv is N D (w.drewN q) h0 ⟨h.st, h.fz, h.ok, h.pos, h.kr, h.wr, h.lr, h.kp, h.wp, h.lp, h.kw, h.kl, h.wl, h.bp⟩)
  obtain ⟨E, hE⟩ : ∃ E, E = D.burnt := ⟨_, rfl⟩
  obtain ⟨ew, er, ek, eb⟩ := burnt_parts D
  rw [← hE] at ew er ek eb HBu ⊢
  have i2 : decide ((s.size : Int) > 128) = false := decide_eq_false (by omega)
  have HP := Lib.hid (built_pend (j : Int))
  have H1 := Lib.hid (prow_size (j : Int))
  have H2 := Lib.hid (prow_one (j : Int))
  have HC := Lib.hid (prow_copied j s hs)
  obtain ⟨row, hrow⟩ : ∃ r, r = prow (j : Int) := ⟨_, rfl⟩
  rw [← hrow] at HP H1 H2 HC
  have HX := Lib.hid (And.intro hE (And.intro ew (And.intro er (And.intro ek eb))))
  have HY := Lib.hid (And.intro hj (And.intro hs (And.intro hl (And.intro hc hB))))
  have HL := Lib.hid hs
  clear h hE ew er ek eb hd h0 hj hs hl hc hB hin hrow
  go_enter Try.func22, Try.ntmps22
  go_wp2_with (first
    | (go_at_call 45; go_must (refine HR.out.mono ?_); rintro e w1 ⟨rfl, rfl⟩)
    | (go_at_call 46; go_must (refine HI.out.mono ?_); rintro e w1 ⟨rfl, q, rfl⟩)
    | (go_at_call 47; go_must (refine (HBu.out q).mono ?_); rintro e w2 ⟨rfl, h2⟩; have P2 := Lib.hid h2; clear h2; have HZ := Lib.hid (St.new w2 93 Try.zeroCells93))
    | ((with_reducible show wpList _ _ _ ({ dst := _, op := .build 93 _, type := _, pos := _, after := _, guard := _ } :: _) _ _); refine wpList_build_as rfl 93 _ rfl row.toArray HP.out ?_)
    | ((with_reducible show wpList _ _ _ ({ dst := _, op := .store 93 _ _, type := _, pos := _, after := _, guard := _ } :: _) _ _); refine wpList_store_st rfl 93 _ _ rfl w2.heap.size row.toArray rfl rfl _ HZ.out (by rw [H1.out]; kernel_rfl) (by rw [H1.out]; exact pzero_size) H2.out ?_; intro w6 hw6 k6; have K6 := Lib.hid k6; have W6 := Lib.hid hw6; clear hw6 k6)
    | ((with_reducible show wpList _ _ _ ({ dst := _, op := .call { callee := .builtin .copy, args := _, argTypes := _ }, type := _, pos := _, after := _, guard := _ } :: _) _ _); refine wpList_copy_str rfl (.tmp 27) (.tmp 28) 88 9 rfl 5 Try.underlying88 size_u8 w2.heap.size 0 128 128 rfl s rfl HL.out (K6.out.there 0 _ (by rw [H1.out]; have := HL.out; omega)) ?_))
  obtain ⟨is1, N1, hZ⟩ : PDk B p kv wv lv E w2 := P2.out.1
  have b26 : Below w2.heap.size w2 w6 := by rw [W6.out]; exact below_row ((Below.refl _ w2).alloc (Nat.le_refl _) _) (Nat.le_refl _) _
  have hb7 : Below w2.heap.size w2 (w6.setCells w2.heap.size 0 (tb s)) := below_setCells (Nat.le_refl _) (tb s) 0 _ b26
  have h7 := hZ.below hb7
  have k7 : St 93 w2.heap.size (pend (j, blank s)).toArray (w6.setCells w2.heap.size 0 (tb s)) := by
    have := St.setMany (tb s) 0 row w6 K6.out
    rwa [HC.out] at this
  have f7 : Frm (fun k => k = p) w (w6.setCells w2.heap.size 0 (tb s)) := frm_below (show Frm (fun k => k = p) w w2 from ⟨P2.out.2.1.os, P2.out.2.1.tape, P2.out.2.1.output, P2.out.2.1.size, P2.out.2.1.block⟩) hb7
  have e7 : w2.heap.size = w.heap.size := P2.out.2.2
  generalize (w6.setCells w2.heap.size 0 (tb s)) = W at h7 k7 f7 ⊢
  generalize w2.heap.size = k at k7 e7 ⊢
  obtain ⟨cs, hcs⟩ : ∃ cs, cs = pend (j, blank s) := ⟨_, rfl⟩
  have hc9 : cs.toArray.size = 129 := by
    rw [hcs]
    simpa using pend_length (j, blank s) (blank_size s HL.out)
  rw [← hcs] at k7
  have g1 : W.cell? ⟨p, 1, none⟩ = some wv := h7.st.cell rfl
  have hw7 := h7.wr
  have hpl := h7.st.lt
  have hklt := k7.lt
  have hkp : k ≠ p := by
    intro e
    have a1 := h7.st
    have a2 := k7
    unfold St at a1 a2
    rw [e, a1] at a2
    injection a2 with a2
    injection a2 with _ a2
    exact absurd a2 (by decide)
  have H7 := Lib.hid h7
  have F7 := Lib.hid f7
  have E7 := Lib.hid e7
  have CS := Lib.hid hcs
  have C9 := Lib.hid hc9
  clear HZ P2 W6 K6 HP H1 H2 HC b26 hb7 hZ h7 f7 hcs hc9 HR HI HBu
--REGION
  have hwk : wv.ownBlock ≠ some k := fun e => by have := HWL.out _ e; omega
  refine wp_region_held (S := fun w' => St 93 k cs.toArray w') (by kernel_rfl) ?_
  change wpAnyH _ _ _ _ _ _ _ _ (World.drew _)
  have SD := Lib.hid (show St 93 k cs.toArray W.drew from k7)
  have DW := Lib.hid (show W.drew.ownsRow B 93 129 wv E.wait.length (qcells E.wait) from hw7)
  have gD : W.drew.cell? ⟨p, 1, none⟩ = some wv := g1
  have TD := Lib.hid (show St 65 p (pcs kv wv lv is1 N1 E) W.drew from H7.out.st)
  obtain ⟨WD, hWD⟩ : ∃ WD, WD = W.drew := ⟨_, rfl⟩
  rw [← hWD] at SD DW gD TD ⊢
  have hWs : WD.heap.size = W.heap.size := by rw [hWD]; rfl
  have HWD := Lib.hid hWD
  have hl6 : E.wait.length ≤ 1073741824 := by rw [HX.out.2.1]; exact HY.out.2.2.1
  have hBW : B ≤ WD.heap.size := by have := H7.out.bp; omega
  have gA : (WD.alloc (.cells cs.toArray 93 (0, 0))).cell? ⟨p, 1, none⟩ = some wv := cell_alloc gD _
  have SA := Lib.hid (show St 93 k cs.toArray (WD.alloc (.cells cs.toArray 93 (0, 0))) from SD.out.alloc _)
  clear hWD g1 k7 hw7 e7
  refine wpAnyH_take (i := 5) (v := .agg cs.toArray) rfl (by kernel_rfl) (by kernel_rfl) (by kernel_rfl) (fun _ _ _ h => h) (yieldsIf_load_st (by rfl) 93 (.tmp 8) rfl k rfl 93 cs.toArray (fun w' hS => hS) _ Try.underlying93 rfl (by rw [C9.out]; kernel_rfl)) SD.out ?_
  refine wpAnyH_take (i := 0) (v := (.pointer (some ⟨p, 0, none⟩))) rfl (by kernel_rfl) (by kernel_rfl) (by kernel_rfl) (fun _ _ _ h => h) (Or.inl ⟨by rfl, fun w' hS => ?_⟩) SD.out ?_
  · clear hS; go_simp
  refine wpAnyH_take (i := 1) (v := (.pointer (some ⟨p, 0, none⟩))) rfl (by kernel_rfl) (by kernel_rfl) (by kernel_rfl) (fun _ _ _ h => h) (Or.inl ⟨by rfl, fun w' hS => ?_⟩) SD.out ?_
  · clear hS; go_simp
  refine wpAnyH_take (i := 2) (v := (.pointer (some ⟨p, 0, none⟩))) rfl (by kernel_rfl) (by kernel_rfl) (by kernel_rfl) (fun _ _ _ h => h) (Or.inl ⟨by rfl, fun w' hS => ?_⟩) SD.out ?_
  · clear hS; go_simp
  refine wpAnyH_take (i := 3) (v := (.pointer (some ⟨p, 1, none⟩))) rfl (by kernel_rfl) (by kernel_rfl) (by kernel_rfl) (fun _ _ _ h => h) (Or.inl ⟨by rfl, fun w' hS => ?_⟩) SD.out ?_
  · clear hS; go_simp
  refine wpAnyH_ready (rs := [4, 6]) (by kernel_rfl) (by simp) ?_
  refine AllReadyH.cons rfl (fun K hK => ?_) ?_
  · go_simp
    refine hK.out _ _ SD.out (fun S1 => ?_)
    clear hK K S1
    refine wpAnyH_ready (rs := [6]) (by kernel_rfl) (by simp) ?_
    refine AllReadyH.cons rfl (fun K hK => ?_) AllReadyH.nil
    refine step_lit rfl 56 1 _ rfl #[(0, .agg cs.toArray)] _ (by simp [Act.eval]) (run_lit_pend WD cs.toArray C9.out) ?_
    go_simp
    refine hK.out _ _ SA.out (fun S1 => ?_)
    clear hK K S1
    refine wpAnyH_ready (rs := [7]) (by kernel_rfl) (by simp) ?_
    refine AllReadyH.cons rfl (fun K hK => ?_) AllReadyH.nil
    refine step_append_lies _ rfl (.tmp 34) (.tmp 36) 56 rfl B 93 i0 (.agg Try.zeroCells93) 129 136 Try.underlying56 hi hz0 hz1 hz2 pzero_size (by decide) wv _ _ (by simp [Act.eval]) (DW.out.alloc _) ⟨WD.heap.size, 0, none⟩ 1 1 cs (by simp [Act.eval]) (by simpa using C9.out) (World.news_of_block (w := WD.alloc _) (heap_alloc_new WD _)) (by intro u hu; rw [CS.out] at hu; exact pend_one _ u hu) (by decide) (by unfold maxLen; omega) (by omega) (by simp; omega) _ (by simp; rfl) ?_
    intro g cap w8 h8 hg8 hat8 hl8
    go_simp
    have f8 : Frm (fun j => wv.ownBlock = some j) WD w8 := ((Frm.refl _ WD).alloc _).grown hg8 (fun k hk => .inl hk)
    have hst8 : St 65 p (pcs kv wv lv is1 N1 E) w8 := f8.st TD.out H7.out.wp
    have SE := Lib.hid (show St 93 k cs.toArray w8 from f8.st SD.out hwk)
    have g8 : w8.cell? ⟨p, 1, none⟩ = some wv := hst8.cell rfl
    have q8 : w8.frozen? ⟨p, 1, none⟩ = false := hst8.free 1
    have H8 := Lib.hid h8
    have G8 := Lib.hid hg8
    have A8 := Lib.hid hat8
    have F8 := Lib.hid f8
    have T8 := Lib.hid hst8
    clear h8 hg8 hat8 hl8 f8 hst8 gA gD
    refine hK.out _ _ SE.out (fun S1 => ?_)
    clear hK K S1
    refine wpAnyH_take (i := 8) (v := (.pointer (some ⟨p, 0, none⟩))) rfl (by kernel_rfl) (by kernel_rfl) (by kernel_rfl) (fun _ _ _ h => h) (Or.inl ⟨by rfl, fun w' hS => ?_⟩) SE.out ?_
    · clear hS; go_simp
    refine wpAnyH_take (i := 9) (v := (.pointer (some ⟨p, 1, none⟩))) rfl (by kernel_rfl) (by kernel_rfl) (by kernel_rfl) (fun _ _ _ h => h) (Or.inl ⟨by rfl, fun w' hS => ?_⟩) SE.out ?_
    · clear hS; go_simp
    refine wpAnyH_ready (rs := [10]) (by kernel_rfl) (by simp) ?_
    refine AllReadyH.cons rfl (fun K hK => ?_) AllReadyH.nil
    go_simp
    have SF := Lib.hid (show St 93 k cs.toArray (w8.setCell ⟨p, 1, none⟩ (.slice (some ⟨g, 0, none⟩) (E.wait.length + 1) cap)) from SE.out.other p 1 _ (fun e => hkp e.symm))
    refine hK.out _ _ SF.out (fun S1 => ?_)
    clear hK K S1
    refine wpAnyH_done (by kernel_rfl) ?_ _
    obtain ⟨gl, cl, hlv, _, _, hlc⟩ := own_some H7.out.lr (by have := H7.out.pos; omega)
    have hnE : j < E.kept.length := by rw [HX.out.2.2.2.1]; exact HY.out.1
    have hps := H7.out.pushed (g := g) (cap := cap) (gl := gl) (cl := cl) (w2 := w8) (X := .cells cs.toArray 93 (0, 0)) j (blank s) hnE (blank_size s HL.out) hlv (by rw [← CS.out]; exact H8.out) (by rw [← HWD.out]; exact G8.out) (by rcases A8.out with h | h; exact .inl h; exact .inr (by have h2 : g = WD.heap.size + 1 := (by simpa using h); omega))
    have lr8 : w8.ownsRow B 3 1 lv E.kept.length (lcells E.kept.length E.wait) := F8.out.own (show WD.ownsRow B 3 1 lv E.kept.length (lcells E.kept.length E.wait) from by rw [HWD.out]; exact H7.out.lr) (fun i hi e => H7.out.wl i e hi)
    have lr9 := ownsRow_setCell_other (a := ⟨p, 1, none⟩) lr8 H7.out.lp (.slice (some ⟨g, 0, none⟩) (E.wait.length + 1) cap)
    rw [hlv] at lr9
    have T9 : St 65 p _ (w8.setCell ⟨p, 1, none⟩ (.slice (some ⟨g, 0, none⟩) (E.wait.length + 1) cap)) := T8.out.set 1 _
    have c1 : (w8.setCell ⟨p, 1, none⟩ (.slice (some ⟨g, 0, none⟩) (E.wait.length + 1) cap)).cell? ⟨p, 1, none⟩ = some (.slice (some ⟨g, 0, none⟩) (E.wait.length + 1) cap) := T9.cell rfl
    have c2 : (w8.setCell ⟨p, 1, none⟩ (.slice (some ⟨g, 0, none⟩) (E.wait.length + 1) cap)).cell? ⟨p, 2, none⟩ = some (.slice (some ⟨gl, 0, none⟩) E.kept.length cl) := by rw [← hlv]; exact T9.cell rfl
    have c9 := lr9.cellAt j (by omega)
    rw [lcells_at _ _ j hnE] at c9
    have q9 := lr9.frozenAt j
    have hkl9 : E.kept.length ≤ 9223372036854775807 := own_len lr8
    generalize (w8.setCell ⟨p, 1, none⟩ (.slice (some ⟨g, 0, none⟩) (E.wait.length + 1) cap)) = W9 at hps c1 c2 c9 q9 ⊢
    obtain ⟨nn, hnn⟩ : ∃ nn, nn = E.kept.length := ⟨_, rfl⟩
    obtain ⟨mm, hmm⟩ : ∃ mm, mm = E.wait.length := ⟨_, rfl⟩
    rw [← hnn] at c2 hnE hkl9
    rw [← hmm] at c1 hl6
    have HPS := Lib.hid hps
    have MM := Lib.hid hmm
    have LV := Lib.hid hlv
    clear hps hmm hnn lr8 lr9 T9 hlv hlc g8 q8 SA SD DW TD SE SF H8 G8 T8 F8 CS C9
    go_wp2_with fail
    go_region
    have hP := HPS.out.1
    have hF := (F7.out.wide (G := fun k => k = p ∨ wv.ownBlock = some k ∨ lv.ownBlock = some k) fun i hi => .inl hi).next HPS.out.2
    rw [← MM.out, show ((mm + 1 : Nat) : Int) = (mm : Int) + 1 from by omega] at hP hF
    have hP2 := hP.below (w' := (W9.setCell ⟨gl, j, none⟩ (.int .i64 ((mm : Int) + 1))).drew) (Below.refl _ _).drew
    have hF2 := hF.drew
    clear hP hF HPS
    generalize (W9.setCell ⟨gl, j, none⟩ (.int .i64 ((mm : Int) + 1))).drew = W10 at hP2 hF2 ⊢
    have c6 : W10.cell? ⟨p, 6, none⟩ = some (.int .i64 (E.wr : Int)) := hP2.st.cell rfl
    have q6 := hP2.st.free 6
    have hwr : E.wr ≤ 1073741824 := by rw [HX.out.2.2.1]; exact HY.out.2.2.2.1
    have H10 := Lib.hid hP2
    have F10 := Lib.hid hF2
    clear hP2 hF2
    go_wp2_with (go_at_call 48; go_must (refine (i64_one ⟨p, 6, none⟩ (E.wr : Int) _ (by omega) (by omega) c6 q6).mono ?_); rintro e w11 ⟨rfl, rfl⟩)
    go_ret
    refine ⟨rfl, .slice (some ⟨g, 0, none⟩) (mm + 1) cap, ⟨is1, N1, ?_⟩, F10.out.setCell (p := ⟨p, 6, none⟩) (.inl (.inl rfl)) _, ?_⟩
    · have h := H10.out.wrs (E.wr + 1)
      have e2 : ((E.wr + 1 : Nat) : Int) = (E.wr : Int) + 1 := by omega
      rw [e2] at h
      have eG : ({ { E with wait := E.wait ++ [(j, blank s)] } with wr := E.wr + 1 } : DS) = { E with wait := D.wait ++ [(j, blank s)], wr := D.wr + 1 } := by simp only [HX.out.2.1, HX.out.2.2.1]
      rw [← eG]
      exact h
    · intro i hi
      simp only [Value.ownBlock, Option.some.injEq] at hi
      subst hi
      rcases A8.out with h | h
      · exact .inl h
      · right
        have h2 : g = WD.heap.size + 1 := by simpa using h
        have := F7.out.size
        omega
  refine AllReadyH.cons rfl (fun K hK => ?_) AllReadyH.nil
  refine step_lit rfl 56 1 _ rfl #[(0, .agg cs.toArray)] _ (by simp [Act.eval, Act.put]) (run_lit_pend WD cs.toArray C9.out) ?_
  go_simp
  refine hK.out _ _ SA.out (fun S1 => ?_)
  clear hK K S1
  refine wpAnyH_ready (rs := [4]) (by kernel_rfl) (by simp) ?_
  refine AllReadyH.cons rfl (fun K hK => ?_) AllReadyH.nil
  go_simp
  refine hK.out _ _ SA.out (fun S1 => ?_)
  clear hK K S1
  refine wpAnyH_ready (rs := [7]) (by kernel_rfl) (by simp) ?_
  refine AllReadyH.cons rfl (fun K hK => ?_) AllReadyH.nil
  refine step_append_lies _ rfl (.tmp 34) (.tmp 36) 56 rfl B 93 i0 (.agg Try.zeroCells93) 129 136 Try.underlying56 hi hz0 hz1 hz2 pzero_size (by decide) wv _ _ (by simp [Act.eval]) (DW.out.alloc _) ⟨WD.heap.size, 0, none⟩ 1 1 cs (by simp [Act.eval]) (by simpa using C9.out) (World.news_of_block (w := WD.alloc _) (heap_alloc_new WD _)) (by intro u hu; rw [CS.out] at hu; exact pend_one _ u hu) (by decide) (by unfold maxLen; omega) (by omega) (by simp; omega) _ (by simp; rfl) ?_
  intro g cap w8 h8 hg8 hat8 hl8
  go_simp
  have f8 : Frm (fun j => wv.ownBlock = some j) WD w8 := ((Frm.refl _ WD).alloc _).grown hg8 (fun k hk => .inl hk)
  have hst8 : St 65 p (pcs kv wv lv is1 N1 E) w8 := f8.st TD.out H7.out.wp
  have SE := Lib.hid (show St 93 k cs.toArray w8 from f8.st SD.out hwk)
  have g8 : w8.cell? ⟨p, 1, none⟩ = some wv := hst8.cell rfl
  have q8 : w8.frozen? ⟨p, 1, none⟩ = false := hst8.free 1
  have H8 := Lib.hid h8
  have G8 := Lib.hid hg8
  have A8 := Lib.hid hat8
  have F8 := Lib.hid f8
  have T8 := Lib.hid hst8
  clear h8 hg8 hat8 hl8 f8 hst8 gA gD
  refine hK.out _ _ SE.out (fun S1 => ?_)
  clear hK K S1
  refine wpAnyH_take (i := 8) (v := (.pointer (some ⟨p, 0, none⟩))) rfl (by kernel_rfl) (by kernel_rfl) (by kernel_rfl) (fun _ _ _ h => h) (Or.inl ⟨by rfl, fun w' hS => ?_⟩) SE.out ?_
  · clear hS; go_simp
  refine wpAnyH_take (i := 9) (v := (.pointer (some ⟨p, 1, none⟩))) rfl (by kernel_rfl) (by kernel_rfl) (by kernel_rfl) (fun _ _ _ h => h) (Or.inl ⟨by rfl, fun w' hS => ?_⟩) SE.out ?_
  · clear hS; go_simp
  refine wpAnyH_ready (rs := [10]) (by kernel_rfl) (by simp) ?_
  refine AllReadyH.cons rfl (fun K hK => ?_) AllReadyH.nil
  go_simp
  have SF := Lib.hid (show St 93 k cs.toArray (w8.setCell ⟨p, 1, none⟩ (.slice (some ⟨g, 0, none⟩) (E.wait.length + 1) cap)) from SE.out.other p 1 _ (fun e => hkp e.symm))
  refine hK.out _ _ SF.out (fun S1 => ?_)
  clear hK K S1
  refine wpAnyH_done (by kernel_rfl) ?_ _
  obtain ⟨gl, cl, hlv, _, _, hlc⟩ := own_some H7.out.lr (by have := H7.out.pos; omega)
  have hnE : j < E.kept.length := by rw [HX.out.2.2.2.1]; exact HY.out.1
  have hps := H7.out.pushed (g := g) (cap := cap) (gl := gl) (cl := cl) (w2 := w8) (X := .cells cs.toArray 93 (0, 0)) j (blank s) hnE (blank_size s HL.out) hlv (by rw [← CS.out]; exact H8.out) (by rw [← HWD.out]; exact G8.out) (by rcases A8.out with h | h; exact .inl h; exact .inr (by have h2 : g = WD.heap.size + 1 := (by simpa using h); omega))
  have lr8 : w8.ownsRow B 3 1 lv E.kept.length (lcells E.kept.length E.wait) := F8.out.own (show WD.ownsRow B 3 1 lv E.kept.length (lcells E.kept.length E.wait) from by rw [HWD.out]; exact H7.out.lr) (fun i hi e => H7.out.wl i e hi)
  have lr9 := ownsRow_setCell_other (a := ⟨p, 1, none⟩) lr8 H7.out.lp (.slice (some ⟨g, 0, none⟩) (E.wait.length + 1) cap)
  rw [hlv] at lr9
  have T9 : St 65 p _ (w8.setCell ⟨p, 1, none⟩ (.slice (some ⟨g, 0, none⟩) (E.wait.length + 1) cap)) := T8.out.set 1 _
  have c1 : (w8.setCell ⟨p, 1, none⟩ (.slice (some ⟨g, 0, none⟩) (E.wait.length + 1) cap)).cell? ⟨p, 1, none⟩ = some (.slice (some ⟨g, 0, none⟩) (E.wait.length + 1) cap) := T9.cell rfl
  have c2 : (w8.setCell ⟨p, 1, none⟩ (.slice (some ⟨g, 0, none⟩) (E.wait.length + 1) cap)).cell? ⟨p, 2, none⟩ = some (.slice (some ⟨gl, 0, none⟩) E.kept.length cl) := by rw [← hlv]; exact T9.cell rfl
  have c9 := lr9.cellAt j (by omega)
  rw [lcells_at _ _ j hnE] at c9
  have q9 := lr9.frozenAt j
  have hkl9 : E.kept.length ≤ 9223372036854775807 := own_len lr8
  generalize (w8.setCell ⟨p, 1, none⟩ (.slice (some ⟨g, 0, none⟩) (E.wait.length + 1) cap)) = W9 at hps c1 c2 c9 q9 ⊢
  obtain ⟨nn, hnn⟩ : ∃ nn, nn = E.kept.length := ⟨_, rfl⟩
  obtain ⟨mm, hmm⟩ : ∃ mm, mm = E.wait.length := ⟨_, rfl⟩
  rw [← hnn] at c2 hnE hkl9
  rw [← hmm] at c1 hl6
  have HPS := Lib.hid hps
  have MM := Lib.hid hmm
  have LV := Lib.hid hlv
  clear hps hmm hnn lr8 lr9 T9 hlv hlc g8 q8 SA SD DW TD SE SF H8 G8 T8 F8 CS C9
  go_wp2_with fail
  go_region
  have hP := HPS.out.1
  have hF := (F7.out.wide (G := fun k => k = p ∨ wv.ownBlock = some k ∨ lv.ownBlock = some k) fun i hi => .inl hi).next HPS.out.2
  rw [← MM.out, show ((mm + 1 : Nat) : Int) = (mm : Int) + 1 from by omega] at hP hF
  have hP2 := hP.below (w' := (W9.setCell ⟨gl, j, none⟩ (.int .i64 ((mm : Int) + 1))).drew) (Below.refl _ _).drew
  have hF2 := hF.drew
  clear hP hF HPS
  generalize (W9.setCell ⟨gl, j, none⟩ (.int .i64 ((mm : Int) + 1))).drew = W10 at hP2 hF2 ⊢
  have c6 : W10.cell? ⟨p, 6, none⟩ = some (.int .i64 (E.wr : Int)) := hP2.st.cell rfl
  have q6 := hP2.st.free 6
  have hwr : E.wr ≤ 1073741824 := by rw [HX.out.2.2.1]; exact HY.out.2.2.2.1
  have H10 := Lib.hid hP2
  have F10 := Lib.hid hF2
  clear hP2 hF2
  go_wp2_with (go_at_call 48; go_must (refine (i64_one ⟨p, 6, none⟩ (E.wr : Int) _ (by omega) (by omega) c6 q6).mono ?_); rintro e w11 ⟨rfl, rfl⟩)
  go_ret
  refine ⟨rfl, .slice (some ⟨g, 0, none⟩) (mm + 1) cap, ⟨is1, N1, ?_⟩, F10.out.setCell (p := ⟨p, 6, none⟩) (.inl (.inl rfl)) _, ?_⟩
  · have h := H10.out.wrs (E.wr + 1)
    have e2 : ((E.wr + 1 : Nat) : Int) = (E.wr : Int) + 1 := by omega
    rw [e2] at h
    have eG : ({ { E with wait := E.wait ++ [(j, blank s)] } with wr := E.wr + 1 } : DS) = { E with wait := D.wait ++ [(j, blank s)], wr := D.wr + 1 } := by simp only [HX.out.2.1, HX.out.2.2.1]
    rw [← eG]
    exact h
  · intro i hi
    simp only [Value.ownBlock, Option.some.injEq] at hi
    subst hi
    rcases A8.out with h | h
    · exact .inl h
    · right
      have h2 : g = WD.heap.size + 1 := by simpa using h
      have := F7.out.size
      omega
end Go.Proofs.Ytfipojmgmmjnmaa
