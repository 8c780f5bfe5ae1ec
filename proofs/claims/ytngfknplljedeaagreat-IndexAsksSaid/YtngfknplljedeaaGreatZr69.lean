/- Lemmas for the laws of index. -/
import Derived.Test.YtngfknplljedeaaGreatZr02
import Derived.Test.YtngfknplljedeaaGreatZr36
import Derived.Test.YtngfknplljedeaaGreatZr53
import Derived.Test.YtngfknplljedeaaGreatZr59
import Derived.Test.YtngfknplljedeaaGreatZrHi
namespace Go.Proofs.YtngfknplljedeaaGreat
open Go.RowKit
theorem find_fnd {α : Type} (p : α → Bool) (xs : List α) : (fnd p xs = -1 ∧ xs.find? p = none) ∨ ∃ (i : Nat) (x : α), fnd p xs = i ∧ xs.find? p = some x ∧ xs[i]? = some x := by
 rcases fnd_cases p xs with ⟨h, hn⟩ | ⟨i, x, h, hx, hp, hj⟩
 · exact .inl ⟨h, List.find?_eq_none.2 fun y hy => by rw [hn y hy]; decide⟩
 · refine .inr ⟨i, x, h, List.find?_eq_some_iff_getElem.2 ⟨hp, i, ?_, ?_, fun j hji => ?_⟩, hx⟩
   · exact (List.getElem?_eq_some_iff.1 hx).1
   · exact (List.getElem?_eq_some_iff.1 hx).2
   · rw [hj j _ hji (List.getElem?_eq_getElem (Nat.lt_trans hji (List.getElem?_eq_some_iff.1 hx).1))]
     rfl
theorem row_at {α : Type} {B k n cp i : Nat} {f : α → List Value} {a : Option Addr} {xs : List α} {x : α} {w : World} (h : RowsAt B k f (.slice a n cp) xs w) (hi : xs[i]? = some x) : ∃ b off, a = some ⟨b, off, none⟩ ∧ i < n ∧ w.rangeAt b (off + i * k) (f x) := by
 obtain ⟨ao, cap, b, off, e, hl, hao, hx⟩ := h
 cases e
 have hlt := (List.getElem?_eq_some_iff.1 hi).1
 exact ⟨b, off, (hao (by omega)).1, hlt, hx i x hi⟩
theorem InBox.rows {T : TypeId} {p : Nat} {v1 v2 v3 v4 : Value} {c : CA} {w : World} (h : InBox T p [v1, v2, v3, v4] c w) : RowsAt w.heap.size 3 Hd.vs v1 c.helds w ∧ RowsAt w.heap.size 11 Cd.vs v2 c.files w ∧ RowsAt w.heap.size 3 Kn.vs v3 c.names w ∧ RowsAt w.heap.size 3 Bk.vs v4 c.blocks w := by
 obtain ⟨_, _, _, _, e, h1, h2, h3, h4⟩ := h.at'
 cases e
 exact ⟨h1, h2, h3, h4⟩
set_option maxRecDepth 100000 in
set_option maxHeartbeats 8000000 in
theorem iasks_walk (v : Value) (xs : List Ch) (ep : Int) (up nm : ByteArray) (no : Int) (w : World) (h : RowsAt w.heap.size 18 Ch.vs v xs w) (hup : up.size ≤ 9223372036854775807) :
 Calls Tryz.prog 6 #[v, .int .i64 ep, .string up, .string nm, .int .i64 no] w fun e w' => e = .returned (.bool true) ∧ Below w.heap.size w w' := by
 have HLg := hI (rxLarge_any v xs w h)
 have HKn := hI (fun W => ixknown_any W)
 have HMd := hI (show xs.length ≤ 40 → Calls Tryz.prog 18 #[v] w fun e w' => ∃ cs, e = .returned (.agg cs.toArray) ∧ CAt w'.heap.size cs (CA.made xs) w' ∧ Below w.heap.size w w' from fun hn => ixMade_any v xs w h (by omega))
 clear h
 go_enter Tryz.func6, Tryz.ntmps6
 go_wp2_with (first
  | (go_at_call 14; go_must (with_reducible refine HLg.out.mono ?_); rintro e5 w5 ⟨⟨r, rfl, hr⟩, rfl⟩; have HR := hI hr; clear hr; cases r)
  | (go_at_call 10; go_must (with_reducible refine (HKn.out _).mono ?_); rintro e6 w6 ⟨rfl, b6⟩))
 any_goals (go_ret; exact ⟨rfl, b6⟩)
 have h1 := (HR.out (by trivial)).1
 have HMd := hI (HMd.out h1)
 have hok := CA.made_ok xs
 have hle := ((CA.made_lens xs).mono h1).mono (show 40 ≤ 100 by omega)
 obtain ⟨c, hc⟩ : ∃ c, c = CA.made xs := ⟨_, rfl⟩
 rw [← hc] at HMd hok hle
 have HHo := hI (fun (cs : List Value) W (q : CAt W.heap.size cs c W) => inHolds_any cs c ep no W q)
 have HIs := hI (fun (cs : List Value) W (q : CAt W.heap.size cs c W) => inIssued_any cs c up W q)
 have HFi := hI (fun (cs : List Value) W (q : CAt W.heap.size cs c W) => inFile_any cs c up W q)
 have HNa := hI (fun (cs : List Value) W (q : CAt W.heap.size cs c W) => inName_any cs c up nm W q)
 have HBl := hI (fun (cs : List Value) W (q : CAt W.heap.size cs c W) => inBlock_any cs c up no W q)
 clear hok hle hc h1
 go_wp2_with (first
  | (go_at_call 18; go_must (with_reducible refine HMd.out.mono ?_); rintro e5 w5 ⟨cs, rfl, h5, b5⟩; obtain ⟨a1, n1, k1, a2, n2, k2, a3, n3, k3, a4, n4, k4, rfl⟩ := h5.slices; obtain ⟨W1, hW1⟩ : ∃ W, W = w5.alloc (.cells #[.slice a1 n1 k1, .slice a2 n2 k2, .slice a3 n3 k3, .slice a4 n4 k4] 27 (0, 0)) := ⟨_, rfl⟩; have I1 := (show InBox 27 w5.heap.size ([.slice a1 n1 k1, .slice a2 n2 k2, .slice a3 n3 k3, .slice a4 n4 k4] : List Value) c W1 from by rw [hW1]; exact ⟨St.new _ _ _, (h5.below ((Below.refl _ _).alloc (Nat.le_refl _) _)).raise (by simp)⟩); have B1 := hI (show Below w.heap.size w W1 from by rw [hW1]; exact b5.alloc b5.size _); have HCA := hI (show ∀ W, Below W1.heap.size W1 W → InBox 27 w5.heap.size ([.slice a1 n1 k1, .slice a2 n2 k2, .slice a3 n3 k3, .slice a4 n4 k4] : List Value) c W from fun W hW => I1.below hW); have I5 := hI I1; have B5 := hI (Below.refl W1.heap.size W1); have HW1 := hI hW1; clear hW1 h5 b5 I1)
  | (go_at_call 21; rw [← HW1.out]; go_must (with_reducible refine (HHo.out _ _ I5.out.at').mono ?_); rintro e6 w6 ⟨he, b6⟩; have B6 := hI (B5.out.trans (b6.mono B5.out.size)); have I6 := hI (HCA.out _ B6.out); clear b6; rcases find_fnd (pHeld ep no) c.helds with ⟨u1, u2⟩ | ⟨i1, x1, u1, u2, u3⟩ <;> rw [u2] at he <;> subst he <;> clear u2 <;> have U1 := hI u1 <;> clear u1 <;> (try (have V1 := hI u3; clear u3)))
  | ((with_reducible show wpList _ _ _ ({ dst := some 41, op := .load 27 _, type := _, pos := _, after := _, guard := _ } :: _) _ _); refine wpList_load_st rfl 27 _ rfl (w5.heap.size) ((by first | rfl | simp [Act.eval, Act.put])) 27 _ (I6.out.st) _ Tryz.underlying27 rfl (by kernel_rfl) ?_)
  | (go_at_call 22; go_must (with_reducible refine (ixHeld_any _ c ep no _ I6.out.at').mono ?_); rintro e7 w7 ⟨he, b7⟩; rw [U1.out] at he; subst he; have B7 := hI (B6.out.trans (b7.mono B6.out.size)); have I7 := hI (HCA.out _ B7.out); clear b7; (first | (have q := row_at (I7.out.rows.1) V1.out; obtain ⟨bb, oo, ea, hlt1, hr1⟩ := q; cases ea; have cz1 : w7.cell? ⟨w5.heap.size, 0, none⟩ = some _ := I7.out.st.cell rfl; have cy1 := hr1 2 _ rfl; clear hr1; have hz1 : (i1 : Int) < n1 := by omega) | skip))
  | ((with_reducible show wpList _ _ _ ({ dst := some 71, op := .load 27 _, type := _, pos := _, after := _, guard := _ } :: _) _ _); refine wpList_load_st rfl 27 _ rfl (w5.heap.size) ((by first | rfl | simp [Act.eval, Act.put])) 27 _ (I7.out.st) _ Tryz.underlying27 rfl (by kernel_rfl) ?_)
  | (go_at_call 23; go_must (with_reducible refine (HIs.out _ _ I7.out.at').mono ?_); rintro e8 w8 ⟨he, b8⟩; have B8 := hI (B7.out.trans (b8.mono B7.out.size)); have I8 := hI (HCA.out _ B8.out); clear b8; rcases find_fnd (pIssued up) c.helds with ⟨u1, u2⟩ | ⟨i2, x2, u1, u2, u3⟩ <;> simp only [u2, Hd.vs] at he <;> subst he <;> clear u2 <;> have U2 := hI u1 <;> clear u1 <;> (first | (have V2 := hI u3; clear u3; obtain ⟨W8, hW⟩ : ∃ W, W = w8.alloc (.cells #[.int .i64 x2.epoch, .int .i64 x2.serial, .string x2.up] 49 (0, 0)) := ⟨_, rfl⟩; have S8 := hI (show St 49 w8.heap.size #[.int .i64 x2.epoch, .int .i64 x2.serial, .string x2.up] W8 from by rw [hW]; exact St.new _ _ _)) | (obtain ⟨W8, hW⟩ : ∃ W, W = w8.alloc (.cells #[.int .i64 0, .int .i64 0, .string ⟨#[]⟩] 49 (0, 0)) := ⟨_, rfl⟩; have S8 := hI (show St 49 w8.heap.size #[.int .i64 0, .int .i64 0, .string ⟨#[]⟩] W8 from by rw [hW]; exact St.new _ _ _))) <;> have B8x := hI (show Below W1.heap.size W1 W8 from by rw [hW]; exact B8.out.alloc B8.out.size _) <;> have I8x := hI (HCA.out _ B8x.out) <;> have HW8 := hI hW <;> clear hW <;> (have cA8 : W8.cell? ⟨w5.heap.size, 0, none⟩ = some _ := I8x.out.st.cell rfl) <;> (have cS8_0 := S8.out.cell (j := 0) rfl; simp only [List.getElem_toArray, List.getElem_cons_zero] at cS8_0; have cS8_1 := S8.out.cell (j := 1) rfl; simp only [List.getElem_toArray, List.getElem_cons_zero, List.getElem_cons_succ] at cS8_1; have cS8_2 := S8.out.cell (j := 2) rfl; simp only [List.getElem_toArray, List.getElem_cons_zero, List.getElem_cons_succ] at cS8_2))
  | ((with_reducible show wpList _ _ _ ({ dst := some 76, op := .fieldAddr _ _ _, type := _, pos := _, after := _, guard := _ } :: _) _ _); rw [← HW8.out])
  | (go_at_call 24; go_must (with_reducible refine (ixIssued_any _ c.helds up _ I8x.out.rows.1).mono ?_); rintro e9 w9 ⟨he, rfl⟩; rw [U2.out] at he; subst he; (first | (have q2 := row_at (I8x.out.rows.1) V2.out; obtain ⟨bb2, oo2, ea, hlt2, hr2⟩ := q2; cases ea; have cy20 := hr2 0 _ rfl; rw [Nat.add_zero] at cy20; have cy21 := hr2 1 _ rfl; have cy22 := hr2 2 _ rfl; clear hr2) | (have q0 := True.intro))))
 all_goals (with_reducible refine wp_region_still_lit (by kernel_rfl) (by kernel_rfl) ?_; (iterate 25 (with_reducible refine wpStill_step (fun K hK => ?_); go_simp; with_reducible refine hK _ ?_; clear hK K)); with_reducible refine wpStill_nil ?_)
 all_goals (
  obtain ⟨WA, hWA⟩ : ∃ W, W = W8.drew := ⟨_, rfl⟩
  have BA := hI (show Below W1.heap.size W1 WA from by rw [hWA]; exact B8x.out.drew)
  have IA := hI (HCA.out _ BA.out)
  change Exit.then _ _ _ _ W8.drew
  rw [← hWA]
  clear hWA cA8 cS8_0 cS8_1 cS8_2
  (try clear hlt1 cy1 cz1 hz1)
  (try clear hlt2 cy20 cy21 cy22)
  go_wp2_with (first
   | ((with_reducible show wpList _ _ _ ({ dst := some 106, op := .load 27 _, type := _, pos := _, after := _, guard := _ } :: _) _ _); refine wpList_load_st rfl 27 _ rfl (w5.heap.size) ((by first | rfl | simp [Act.eval, Act.put])) 27 _ (IA.out.st) _ Tryz.underlying27 rfl (by kernel_rfl) ?_)
   | (go_at_call 25; go_must (with_reducible refine (HFi.out _ _ IA.out.at').mono ?_); rintro e10 w10 ⟨he, b10⟩; have B10 := hI (BA.out.trans (b10.mono BA.out.size)); have I10 := hI (HCA.out _ B10.out); clear b10; rcases find_fnd (pFile up) c.files with ⟨u1, u2⟩ | ⟨i3, x3, u1, u2, u3⟩ <;> simp only [u2, Pa.vs, Pa.zero] at he <;> subst he <;> clear u2 <;> have U3 := hI u1 <;> clear u1 <;> (first | (have V3 := hI u3; clear u3; obtain ⟨W10, hW⟩ : ∃ W, W = w10.alloc (.cells #[.int .i64 x3.attr.ty, .int .i64 x3.attr.mode, .int .i64 x3.attr.nlink, .int .i64 x3.attr.uid, .int .i64 x3.attr.gid, .int .i64 x3.attr.size, .int .i64 x3.attr.id, .int .i64 x3.attr.gen, .int .i64 x3.attr.change, .int .i64 x3.attr.time] 38 (0, 0)) := ⟨_, rfl⟩; have S10 := hI (show St 38 w10.heap.size #[.int .i64 x3.attr.ty, .int .i64 x3.attr.mode, .int .i64 x3.attr.nlink, .int .i64 x3.attr.uid, .int .i64 x3.attr.gid, .int .i64 x3.attr.size, .int .i64 x3.attr.id, .int .i64 x3.attr.gen, .int .i64 x3.attr.change, .int .i64 x3.attr.time] W10 from by rw [hW]; exact St.new _ _ _)) | (obtain ⟨W10, hW⟩ : ∃ W, W = w10.alloc (.cells #[.int .i64 0, .int .i64 0, .int .i64 0, .int .i64 0, .int .i64 0, .int .i64 0, .int .i64 0, .int .i64 0, .int .i64 0, .int .i64 0] 38 (0, 0)) := ⟨_, rfl⟩; have S10 := hI (show St 38 w10.heap.size #[.int .i64 0, .int .i64 0, .int .i64 0, .int .i64 0, .int .i64 0, .int .i64 0, .int .i64 0, .int .i64 0, .int .i64 0, .int .i64 0] W10 from by rw [hW]; exact St.new _ _ _))) <;> have B10x := hI (show Below W1.heap.size W1 W10 from by rw [hW]; exact B10.out.alloc B10.out.size _) <;> have I10x := hI (HCA.out _ B10x.out) <;> have HW10 := hI hW <;> clear hW <;> (have cA10 : W10.cell? ⟨w5.heap.size, 1, none⟩ = some _ := I10x.out.st.cell rfl))
   | ((with_reducible show wpList _ _ _ ({ dst := some 111, op := .load 27 _, type := _, pos := _, after := _, guard := _ } :: _) _ _); rw [← HW10.out]; refine wpList_load_st rfl 27 _ rfl (w5.heap.size) ((by first | rfl | simp [Act.eval, Act.put])) 27 _ (I10x.out.st) _ Tryz.underlying27 rfl (by kernel_rfl) ?_)
   | (go_at_call 26; go_must (with_reducible refine (ixFile_any _ c up _ I10x.out.at').mono ?_); rintro e11 w11 ⟨he, b11⟩; rw [U3.out] at he; subst he; have S11 := hI (S10.out.below b11); have B11 := hI (B10x.out.trans (b11.mono B10x.out.size)); have I11 := hI (HCA.out _ B11.out); have cA11 : w11.cell? ⟨w5.heap.size, 1, none⟩ = some _ := I11.out.st.cell rfl; clear b11 cA10; have cS11_0 := S11.out.cell (j := 0) rfl; simp only [List.getElem_toArray, List.getElem_cons_zero] at cS11_0; have cS11_1 := S11.out.cell (j := 1) rfl; simp only [List.getElem_toArray, List.getElem_cons_zero, List.getElem_cons_succ] at cS11_1; have cS11_2 := S11.out.cell (j := 2) rfl; simp only [List.getElem_toArray, List.getElem_cons_zero, List.getElem_cons_succ] at cS11_2; have cS11_3 := S11.out.cell (j := 3) rfl; simp only [List.getElem_toArray, List.getElem_cons_zero, List.getElem_cons_succ] at cS11_3; have cS11_4 := S11.out.cell (j := 4) rfl; simp only [List.getElem_toArray, List.getElem_cons_zero, List.getElem_cons_succ] at cS11_4; have cS11_5 := S11.out.cell (j := 5) rfl; simp only [List.getElem_toArray, List.getElem_cons_zero, List.getElem_cons_succ] at cS11_5; have cS11_6 := S11.out.cell (j := 6) rfl; simp only [List.getElem_toArray, List.getElem_cons_zero, List.getElem_cons_succ] at cS11_6; have cS11_7 := S11.out.cell (j := 7) rfl; simp only [List.getElem_toArray, List.getElem_cons_zero, List.getElem_cons_succ] at cS11_7; have cS11_8 := S11.out.cell (j := 8) rfl; simp only [List.getElem_toArray, List.getElem_cons_zero, List.getElem_cons_succ] at cS11_8; have cS11_9 := S11.out.cell (j := 9) rfl; simp only [List.getElem_toArray, List.getElem_cons_zero, List.getElem_cons_succ] at cS11_9; (first | (have q3 := row_at (I11.out.rows.2.1) V3.out; obtain ⟨bb3, oo3, ea, hlt3, hr3⟩ := q3; cases ea; have cy31 := hr3 1 _ rfl; have cy32 := hr3 2 _ rfl; have cy33 := hr3 3 _ rfl; have cy34 := hr3 4 _ rfl; have cy35 := hr3 5 _ rfl; have cy36 := hr3 6 _ rfl; have cy37 := hr3 7 _ rfl; have cy38 := hr3 8 _ rfl; have cy39 := hr3 9 _ rfl; have cy310 := hr3 10 _ rfl; clear hr3) | (have q0 := True.intro)))))
 all_goals (as_aux_lemma =>
  (with_reducible refine wp_region_still_lit (by kernel_rfl) (by kernel_rfl) ?_; (iterate 26 (with_reducible refine wpStill_step (fun K hK => ?_); go_simp; with_reducible refine hK _ ?_; clear hK K)); with_reducible refine wpStill_nil ?_)
  obtain ⟨WB, hWB⟩ : ∃ W, W = w11.drew := ⟨_, rfl⟩
  have BB := hI (show Below W1.heap.size W1 WB from by rw [hWB]; exact B11.out.drew)
  have IB := hI (HCA.out _ BB.out)
  change Exit.then _ _ _ _ w11.drew
  rw [← hWB]
  clear hWB cA11 cS11_0 cS11_1 cS11_2 cS11_3 cS11_4 cS11_5 cS11_6 cS11_7 cS11_8 cS11_9
  (try clear hlt3 cy31 cy32 cy33 cy34 cy35 cy36 cy37 cy38 cy39 cy310)
  go_wp2_with (first
   | ((with_reducible show wpList _ _ _ ({ dst := some 141, op := .load 27 _, type := _, pos := _, after := _, guard := _ } :: _) _ _); refine wpList_load_st rfl 27 _ rfl (w5.heap.size) ((by first | rfl | simp [Act.eval, Act.put])) 27 _ (IB.out.st) _ Tryz.underlying27 rfl (by kernel_rfl) ?_)
   | (go_at_call 27; go_must (with_reducible refine (HNa.out _ _ IB.out.at').mono ?_); rintro e13 w13 ⟨he, b13⟩; have B13 := hI (BB.out.trans (b13.mono BB.out.size)); have I13 := hI (HCA.out _ B13.out); clear b13; rcases find_fnd (pName up nm) c.names with ⟨u1, u2⟩ | ⟨i4, x4, u1, u2, u3⟩ <;> rw [u2] at he <;> subst he <;> clear u2 <;> have U4 := hI u1 <;> clear u1 <;> (try (have V4 := hI u3; clear u3)))
   | ((with_reducible show wpList _ _ _ ({ dst := some 147, op := .load 27 _, type := _, pos := _, after := _, guard := _ } :: _) _ _); refine wpList_load_st rfl 27 _ rfl (w5.heap.size) ((by first | rfl | simp [Act.eval, Act.put])) 27 _ (I13.out.st) _ Tryz.underlying27 rfl (by kernel_rfl) ?_)
   | (go_at_call 28; go_must (with_reducible refine (ixName_any _ c up nm _ I13.out.at').mono ?_); rintro e14 w14 ⟨he, b14⟩; rw [U4.out] at he; subst he; have B14 := hI (B13.out.trans (b14.mono B13.out.size)); have I14 := hI (HCA.out _ B14.out); clear b14; (first | (have q := row_at (I14.out.rows.2.2.1) V4.out; obtain ⟨bb, oo, ea, hlt4, hr4⟩ := q; cases ea; have cz4 : w14.cell? ⟨w5.heap.size, 2, none⟩ = some _ := I14.out.st.cell rfl; have cy4 := hr4 2 _ rfl; clear hr4) | skip))
   | ((with_reducible show wpList _ _ _ ({ dst := some 177, op := .load 27 _, type := _, pos := _, after := _, guard := _ } :: _) _ _); refine wpList_load_st rfl 27 _ rfl (w5.heap.size) ((by first | rfl | simp [Act.eval, Act.put])) 27 _ (I14.out.st) _ Tryz.underlying27 rfl (by kernel_rfl) ?_)
   | (go_at_call 29; go_must (with_reducible refine (HBl.out _ _ I14.out.at').mono ?_); rintro e15 w15 ⟨he, b15⟩; have B15 := hI (B14.out.trans (b15.mono B14.out.size)); have I15 := hI (HCA.out _ B15.out); clear b15; rcases find_fnd (pBlock up no) c.blocks with ⟨u1, u2⟩ | ⟨i5, x5, u1, u2, u3⟩ <;> rw [u2] at he <;> subst he <;> clear u2 <;> have U5 := hI u1 <;> clear u1 <;> (try (have V5 := hI u3; clear u3)))
   | ((with_reducible show wpList _ _ _ ({ dst := some 183, op := .load 27 _, type := _, pos := _, after := _, guard := _ } :: _) _ _); refine wpList_load_st rfl 27 _ rfl (w5.heap.size) ((by first | rfl | simp [Act.eval, Act.put])) 27 _ (I15.out.st) _ Tryz.underlying27 rfl (by kernel_rfl) ?_)
   | (go_at_call 30; go_must (with_reducible refine (ixBlock_any _ c up no _ I15.out.at').mono ?_); rintro e16 w16 ⟨he, b16⟩; rw [U5.out] at he; subst he; have B16 := hI (B15.out.trans (b16.mono B15.out.size)); have I16 := hI (HCA.out _ B16.out); clear b16; (first | (have q := row_at (I16.out.rows.2.2.2) V5.out; obtain ⟨bb, oo, ea, hlt5, hr5⟩ := q; cases ea; have cz5 : w16.cell? ⟨w5.heap.size, 3, none⟩ = some _ := I16.out.st.cell rfl; have cy5 := hr5 2 _ rfl; clear hr5) | skip))
   | (go_at_call 10; (with_reducible refine (HKn.out _).mono ?_); rintro e17 w17 ⟨rfl, b17⟩; have B17 := hI (B16.out.trans (b17.mono B16.out.size)); clear b17))
  all_goals (go_ret; exact ⟨rfl, B1.out.trans (B17.out.mono B1.out.size)⟩))
end Go.Proofs.YtngfknplljedeaaGreat
