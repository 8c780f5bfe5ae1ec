/- Lemmas for the laws of index. -/
import Derived.Test.YtngfknplljedeaaGreatZr07
import Derived.Test.YtngfknplljedeaaGreatZr11
import Derived.Test.YtngfknplljedeaaGreatZr15
import Derived.Test.YtngfknplljedeaaGreatZr19
import Derived.Test.YtngfknplljedeaaGreatZrHi
namespace Go.Proofs.YtngfknplljedeaaGreat
open Go.RowKit
set_option maxRecDepth 100000 in
set_option maxHeartbeats 2000000 in
theorem ixgoes_4 {B : Nat} (cs : List Value) (ca : CA) (x : Ch) (w : World) (h : CAt B cs ca w) (hB : B ≤ w.heap.size) (hm1 : ca.files.length ≤ 1073741823) (hm3 : ca.names.length ≤ 1073741823) (hm4 : ca.blocks.length ≤ 1073741823) (hk : x.kind = 4) :
 Calls Tryz.prog 54 #[.agg cs.toArray, .agg x.vs.toArray] w fun e w' => ∃ cs', e = .returned (.tuple #[.agg cs'.toArray, .bool (ca.goes x).2]) ∧ CKeep B w.heap.size cs' (ca.goes x).1 w' ∧ Below w.heap.size w w' := by
 obtain ⟨iz, hiz, hz0, hz1, hz2⟩ := info_parts Tryz.infoCd
 obtain ⟨v1, v2, v3, v4, rfl, r1, r2, r3, r4⟩ := h
 obtain ⟨o1, o2, o3, o4⟩ : v1.oneCell' = true ∧ v2.oneCell' = true ∧ v3.oneCell' = true ∧ v4.oneCell' = true := ⟨r1.one, r2.one, r3.one, r4.one⟩
 have HAll := hI (show ∀ W, Below B w W → RowsAt W.heap.size 3 Hd.vs v1 ca.helds W ∧ RowsAt W.heap.size 11 Cd.vs v2 ca.files W ∧ RowsAt W.heap.size 3 Kn.vs v3 ca.names W ∧ RowsAt W.heap.size 3 Bk.vs v4 ca.blocks W from fun W hW => ⟨(r1.below hW).raise (Nat.le_trans hB hW.size), (r2.below hW).raise (Nat.le_trans hB hW.size), (r3.below hW).raise (Nat.le_trans hB hW.size), (r4.below hW).raise (Nat.le_trans hB hW.size)⟩)
 have HBw := hI hB
 have HY := hI (show ∀ W wy, Below w.heap.size w W → Frm (fun j => B ≤ j ∧ j < w.heap.size) W wy → Below B w wy from fun W wy h1 h2 => (h1.mono hB).trans (h2.below (Nat.le_trans hB h1.size) fun j e => e.1))
 obtain ⟨f, hf⟩ : ∃ f, f = fnd (pFile x.up) ca.files := ⟨_, rfl⟩
 have HG := hI (show ca.goes x = (if f < 0 then (ca, false) else (⟨ca.helds, ca.files.eraseIdx f.toNat, (ca.bare x.up).names, (ca.bare x.up).blocks⟩, true)) from by unfold CA.goes; rw [if_neg (by rw [hk]; decide), if_pos hk, ← hf])
 have hfn := fnd_nat (pFile x.up) ca.files
 rw [← hf] at hfn
 obtain ⟨G, hGG⟩ : ∃ G, G = ca.goes x := ⟨_, rfl⟩
 rw [← hGG] at HG ⊢
 obtain ⟨xk, xe, xs, xu, xn, xc, ⟨a0, a1, a2, a3, a4, a5, a6, a7, a8, a9⟩, xo, xl⟩ := x
 dsimp only at hk HG hf hfn
 subst hk
 obtain ⟨w1, hw1⟩ : ∃ w1, w1 = ((w.alloc (.cells #[v1, v2, v3, v4] 27 (0, 0))).alloc (.cells #[.int .i64 4, .int .i64 xe, .int .i64 xs, .string xu, .string xn, .string xc, .int .i64 a0, .int .i64 a1, .int .i64 a2, .int .i64 a3, .int .i64 a4, .int .i64 a5, .int .i64 a6, .int .i64 a7, .int .i64 a8, .int .i64 a9, .int .i64 xo, .int .i64 xl] 40 (0, 0))).alloc (.cells #[.slice none 0 0, .slice none 0 0, .slice none 0 0, .slice none 0 0] 27 (0, 0)) := ⟨_, rfl⟩
 have hb1 : Below w.heap.size w w1 := by rw [hw1]; exact (((Below.refl _ w).alloc (Nat.le_refl _) _).alloc (by simp) _).alloc (by simp; omega) _
 have hs1 : w1.heap.size = w.heap.size + 1 + 1 + 1 := by rw [hw1]; simp
 have st1 : St 27 w.heap.size #[v1, v2, v3, v4] w1 := by rw [hw1]; exact ((St.new w 27 _).alloc _).alloc _
 have st2 : St 40 (w.heap.size + 1) #[.int .i64 4, .int .i64 xe, .int .i64 xs, .string xu, .string xn, .string xc, .int .i64 a0, .int .i64 a1, .int .i64 a2, .int .i64 a3, .int .i64 a4, .int .i64 a5, .int .i64 a6, .int .i64 a7, .int .i64 a8, .int .i64 a9, .int .i64 xo, .int .i64 xl] w1 := by
  rw [hw1]
  refine St.alloc ?_ _
  rw [show w.heap.size + 1 = (w.alloc (.cells #[v1, v2, v3, v4] 27 (0, 0))).heap.size from by simp]; exact St.new _ _ _
 have st3 : St 27 (w.heap.size + 1 + 1) #[.slice none 0 0, .slice none 0 0, .slice none 0 0, .slice none 0 0] w1 := by
  rw [hw1]
  rw [show w.heap.size + 1 + 1 = ((w.alloc (.cells #[v1, v2, v3, v4] 27 (0, 0))).alloc (.cells #[.int .i64 4, .int .i64 xe, .int .i64 xs, .string xu, .string xn, .string xc, .int .i64 a0, .int .i64 a1, .int .i64 a2, .int .i64 a3, .int .i64 a4, .int .i64 a5, .int .i64 a6, .int .i64 a7, .int .i64 a8, .int .i64 a9, .int .i64 xo, .int .i64 xl] 40 (0, 0))).heap.size from by simp]; exact St.new _ _ _
 have ST1 := hI (show ∀ W, Below w1.heap.size w1 W → St 27 w.heap.size #[v1, v2, v3, v4] W from fun W hW => st1.below hW)
 have ST2 := hI (show ∀ W, Below w1.heap.size w1 W → St 40 (w.heap.size + 1) #[.int .i64 4, .int .i64 xe, .int .i64 xs, .string xu, .string xn, .string xc, .int .i64 a0, .int .i64 a1, .int .i64 a2, .int .i64 a3, .int .i64 a4, .int .i64 a5, .int .i64 a6, .int .i64 a7, .int .i64 a8, .int .i64 a9, .int .i64 xo, .int .i64 xl] W from fun W hW => st2.below hW)
 have ST3 := hI (show ∀ W, Below w1.heap.size w1 W → St 27 (w.heap.size + 1 + 1) #[.slice none 0 0, .slice none 0 0, .slice none 0 0, .slice none 0 0] W from fun W hW => st3.below hW)
 have HCall := hI (show Calls Tryz.prog 26 #[.agg #[v1, v2, v3, v4], .string xu] w1 fun e0 w' => e0 = .returned (.int .i64 f) ∧ Below w1.heap.size w1 w' from by rw [hf]; exact ixFile_any [v1, v2, v3, v4] ca xu w1 ⟨v1, v2, v3, v4, rfl, HAll.out w1 (hb1.mono hB)⟩)
 have HW1 := hI hw1
 have HB1 := hI hb1
 obtain ⟨ao, cap, b, off, hv1, hl, hcap, hx⟩ := r2.walk2
 obtain ⟨n, hn⟩ : ∃ n, n = ca.files.length := ⟨_, rfl⟩
 rw [← hn] at hfn hv1 hl hcap hx hm1
 have HN := hI hn
 have HV1 := hI hv1
 have HX := hI hx
 clear hx r1 r2 r3 r4 hb1 hw1 st1 st2 st3 hB hf hGG hn hv1
 show Calls Tryz.prog 54 #[.agg #[v1, v2, v3, v4], .agg #[.int .i64 4, .int .i64 xe, .int .i64 xs, .string xu, .string xn, .string xc, .int .i64 a0, .int .i64 a1, .int .i64 a2, .int .i64 a3, .int .i64 a4, .int .i64 a5, .int .i64 a6, .int .i64 a7, .int .i64 a8, .int .i64 a9, .int .i64 xo, .int .i64 xl]] w _
 by_cases hneg : f < 0
 · have d0 : decide (f < 0) = true := decide_eq_true hneg
   have HGN := hI (show G = (ca, false) from by rw [HG.out, if_pos hneg])
   clear hfn hneg
   go_enter Tryz.func54, Tryz.ntmps54
   go_wp2_with fail
   rw [← HW1.out]
   go_wp2_with (first
    | (go_at_call 26; go_must (with_reducible refine HCall.out.mono ?_); rintro e5 w5 ⟨rfl, b5⟩; have B5 := hI b5; have HL := hI (ST1.out w5 b5); have HD := hI (ST3.out w5 b5); clear b5)
    | ((with_reducible show wpList _ _ _ ({ dst := _, op := .load 27 _, type := _, pos := _, after := _, guard := _ } :: _) _ _); refine wpList_load_st rfl 27 _ rfl w.heap.size (by simp [Act.eval]) 27 #[v1, v2, v3, v4] HL.out _ Tryz.underlying27 rfl (by kernel_rfl) ?_)
    | ((with_reducible show wpList _ _ _ ({ dst := _, op := .store 27 _ _, type := _, pos := _, after := _, guard := _ } :: _) _ _); refine wpList_store_st rfl 27 _ _ rfl (w.heap.size + 1 + 1) #[v1, v2, v3, v4] (by simp [Act.eval, Act.put]) (by simp [Act.eval, Act.put]) _ HD.out (by kernel_rfl) rfl (by simp [o1, o2, o3, o4]) ?_; rintro w9 hw9 s9; have S9 := hI s9; have HW9 := hI hw9; clear hw9 s9))
   have hs5 := B5.out.size
   have BW : Below w.heap.size w w9 := by rw [HW9.out]; exact below_row (HB1.out.trans (B5.out.mono HB1.out.size)) (by omega) _
   refine ret_cell2 (r := 4) (t := 5) (x := .bool false) rfl (by simp) (by simp) S9.out Tryz.underlying27 rfl (by kernel_rfl) rfl ?_
   rw [HGN.out]
   exact ⟨[v1, v2, v3, v4], rfl, fun wy hy => ⟨_, _, _, _, rfl, HAll.out wy (HY.out w9 wy BW hy)⟩, BW⟩
 · obtain ⟨i, rfl, hi⟩ := hfn.resolve_left hneg
   have d0 : decide ((i : Int) < 0) = false := decide_eq_false hneg
   have HGN := hI (show G = (⟨ca.helds, ca.files.eraseIdx i, (ca.bare xu).names, (ca.bare xu).blocks⟩, true) from by rw [HG.out, if_neg hneg]; simp)
   clear hfn hneg
   obtain ⟨_, _, rfl, hbB, _⟩ := HX.out i hi
   obtain rfl := HV1.out
   have HR := hI (show ∀ (s m : Nat) W, Below w.heap.size w W → ∀ j u, (((ca.files.drop s).take m).flatMap Cd.vs)[j]? = some u → W.cell? ⟨b, off + s * 11 + j, none⟩ = some u from fun s m W hW j u hu => by
    have h1 := rows_part Cd.vs_length (w := w) (b := b) (off := off) (xs := ca.files) (fun q y hy => by
     obtain ⟨y', e1, _, _, e4⟩ := HX.out q (by rw [HN.out]; exact (List.getElem?_eq_some_iff.1 hy).1)
     rw [hy] at e1; cases e1; exact e4) s m j u hu
    exact (hW.cell (p := ⟨b, off + s * 11 + j, none⟩) (Nat.lt_of_lt_of_le hbB HBw.out)).trans h1)
   have hik : i ≤ cap := by omega
   obtain ⟨k1, hk1⟩ : ∃ k1, k1 = i + 1 := ⟨_, rfl⟩
   have hwr : IntKind.i64.wrap ((i : Int) + 1) = (k1 : Int) := by rw [IntKind.wrap_i64]; omega
   have hkn : k1 ≤ n := by omega
   have HTk := hI (show (((ca.files.drop 0).take i).flatMap Cd.vs).length = i * 11 from by rw [flat_length Cd.vs_length, List.drop_zero, List.length_take, ← HN.out]; congr 1; omega)
   have HDr := hI (show (((ca.files.drop k1).take (n - k1)).flatMap Cd.vs).length = (n - k1) * 11 from by rw [flat_length Cd.vs_length, List.length_take, List.length_drop, ← HN.out]; congr 1; omega)
   have HEr := hI (show ((ca.files.drop 0).take i).flatMap Cd.vs ++ ((ca.files.drop k1).take (n - k1)).flatMap Cd.vs = (ca.files.eraseIdx i).flatMap Cd.vs from by
    rw [hk1, List.take_of_length_le (l := ca.files.drop (i + 1)) (by rw [List.length_drop, ← HN.out]; omega), List.drop_zero]; exact flat_take _ _ _)
   have HEl := hI (show (ca.files.eraseIdx i).length = n - 1 from by rw [List.length_eraseIdx, ← HN.out, if_pos hi])
   have HOne := hI (show ∀ s m, ∀ u ∈ ((ca.files.drop s).take m).flatMap Cd.vs, u.oneCell' = true from fun s m u hu => by
    obtain ⟨y, _, hy⟩ := List.mem_flatMap.1 hu
    simp [Cd.vs] at hy
    rcases hy with rfl | rfl | rfl | rfl | rfl | rfl | rfl | rfl | rfl | rfl | rfl <;> rfl)
   have hk1' : i + 1 ≤ k1 := by omega
   have hk1'' : k1 ≤ i + 1 := by omega
   have KE := hI hk1
   clear hk1
   go_enter Tryz.func54, Tryz.ntmps54
   go_wp2_with fail
   rw [← HW1.out]
   go_wp2_with (first
    | (go_at_call 26; go_must (with_reducible refine HCall.out.mono ?_); rintro e5 w5 ⟨rfl, b5⟩; have B5 := hI b5; have HL := hI (ST1.out w5 b5); have HD := hI (ST3.out w5 b5); have HBr := hI (ixbare_own (B := w5.heap.size) v1 (.slice (some ⟨b, off, none⟩) n cap) v3 v4 ca xu w5 ⟨v1, (.slice (some ⟨b, off, none⟩) n cap), v3, v4, rfl, HAll.out w5 ((HB1.out.trans (b5.mono HB1.out.size)).mono HBw.out)⟩ (Nat.le_refl _) hm3 hm4); have c53 : w5.cell? ⟨w.heap.size + 1, 3, none⟩ = some (.string xu) := (ST2.out w5 b5).cell rfl; clear b5)
    | (go_at_call 111; go_must (with_reducible refine HBr.out.mono ?_); rintro e6 w6 ⟨u3, u4, rfl, q3, q4, b6⟩; have B6 := hI b6; have Q3 := hI q3; have Q4 := hI q4; have p3 := q3.one; have p4 := q4.one; have HL6 := hI (HL.out.below b6); have HD6 := hI (HD.out.below b6); clear b6 q3 q4)
    | ((with_reducible show wpList _ _ _ ({ dst := _, op := .load 27 _, type := _, pos := _, after := _, guard := _ } :: _) _ _); refine wpList_load_st rfl 27 _ rfl w.heap.size (by simp [Act.eval]) 27 #[v1, (.slice (some ⟨b, off, none⟩) n cap), v3, v4] HL.out _ Tryz.underlying27 rfl (by kernel_rfl) ?_)
    | ((with_reducible show wpList _ _ _ ({ dst := _, op := .store 27 (.tmp 2) _, type := _, pos := _, after := _, guard := _ } :: _) _ _); refine wpList_store_st rfl 27 _ _ rfl w.heap.size #[v1, (.slice (some ⟨b, off, none⟩) n cap), u3, u4] (by simp [Act.eval]) (by simp [Act.eval]) _ HL6.out (by kernel_rfl) rfl (by simp [o1, o2, p3, p4]) ?_; rintro w7 hw7 s7; have S7 := hI s7; have HW7 := hI hw7; have D7 := hI (show St 27 (w.heap.size + 1 + 1) #[.slice none 0 0, .slice none 0 0, .slice none 0 0, .slice none 0 0] w7 from by rw [hw7]; exact HD6.out.setRow_other (by omega) _); clear hw7 s7))
   have hs5 := B5.out.size
   have hs6 := B6.out.size
   have F1 : Frm (fun j => j = w.heap.size ∨ j = w.heap.size + 1 + 1) w6 w7 := by
    rw [HW7.out]
    exact ⟨rfl, rfl, rfl, by simp, fun j hj hn => Go.setRow_other _ _ j _ (fun e => hn (.inl e))⟩
   have BW7 := hI (show Below w.heap.size w w7 from (HB1.out.trans ((B5.out.trans (B6.out.mono B5.out.size)).mono HB1.out.size)).trans (F1.below (by omega) (fun j e => by rcases e with e | e <;> omega)))
   have hs7 : w6.heap.size ≤ w7.heap.size := F1.size
   have K7 := hI (F1.own Q3.out fun k hk e => by
    have := (World.ownsRow.lt Q3.out k hk).1
    rcases e with e | e <;> omega)
   have L7 := hI (F1.own Q4.out fun k hk e => by
    have := (World.ownsRow.lt Q4.out k hk).1
    rcases e with e | e <;> omega)
   have HO := hI (World.ownsRow_made (base := w7.heap.size) (e := 57) (size := 11) w7 #[] 0 (Nat.le_refl _) (by decide) (by simp))
   have HBa := hI (show Below w7.heap.size w7 (w7.alloc (.cells #[] 57 (0, 0))).drew from ((Below.refl _ w7).alloc (Nat.le_refl _) _).drew)
   have q0 : w.heap.size < w7.heap.size := by omega
   have c5 : w7.cell? ⟨w.heap.size, 1, none⟩ = some (.slice (some ⟨b, off, none⟩) n cap) := S7.out.cell rfl
   by_cases hkc : k1 = cap
   · subst hkc
     obtain rfl : n = k1 := by omega
     have HE0 := hI (show ((ca.files.drop 0).take i).flatMap Cd.vs ++ [] = (ca.files.eraseIdx i).flatMap Cd.vs from by
      have := HEr.out
      rw [Nat.sub_self] at this
      simpa using this)
     have SC := hI (show ∀ W, Below w7.heap.size w7 W → W.cell? ⟨w.heap.size, 1, none⟩ = some (.slice (some ⟨b, off, none⟩) n n) from fun W hW => (S7.out.below hW).cell rfl)
     go_region_law (first
      | (refine step_own rfl (.tmp 72) (.tmp 76) 23 rfl w7.heap.size 57 iz (.agg #[.string ⟨#[]⟩, .int .i64 0, .int .i64 0, .int .i64 0, .int .i64 0, .int .i64 0, .int .i64 0, .int .i64 0, .int .i64 0, .int .i64 0, .int .i64 0]) 11 96 Tryz.underlying23 hiz hz0 hz1 hz2 rfl (by decide) w7.heap.size 0 0 [] (by simp [Act.eval, Act.put]) (World.ownsRow.drew HO.out) ⟨b, off, none⟩ i n (((ca.files.drop 0).take i).flatMap Cd.vs) (by simp [Act.eval, Act.put]) HTk.out (fun j u hu => by have := HR.out 0 i _ (BW7.out.trans (HBa.out.mono BW7.out.size)) j u hu; rw [Addr.add_mid]; simpa using this) (HOne.out 0 i) i (by omega) (by unfold maxLen; omega) (by omega) (by simp) _ rfl ?_; intro g3 cap3 w9 h9 hg9; have H9 := hI h9; have B9 := hI (show Below w7.heap.size w7 w9 from HBa.out.grown hg9 (by simp) (fun k hk => by simp [Value.ownBlock] at hk; omega)); have c9 := SC.out w9 B9.out; clear h9 hg9)
      | (refine step_own rfl (.tmp 77) (.tmp 82) 23 rfl w7.heap.size 57 iz (.agg #[.string ⟨#[]⟩, .int .i64 0, .int .i64 0, .int .i64 0, .int .i64 0, .int .i64 0, .int .i64 0, .int .i64 0, .int .i64 0, .int .i64 0, .int .i64 0]) 11 96 Tryz.underlying23 hiz hz0 hz1 hz2 rfl (by decide) g3 i cap3 _ (by simp [Act.eval, Act.put]) H9.out ⟨b, off, none⟩ 0 0 [] (by simp [Act.eval, Act.put]) (by simp) (fun j u hu => by simp at hu) (by simp) (n - 1) (by omega) (by unfold maxLen; omega) (by omega) B9.out.size _ HE0.out ?_; intro g4 cap4 w10 h10 hg10; have H10 := hI h10; have B10 := hI (show Below w7.heap.size w7 w10 from B9.out.grown hg10 B9.out.size (fun k hk => (H9.out.lt k hk).1)); have fz := (S7.out.below B10.out).free 1; have cz := SC.out w10 B10.out; clear h10 hg10))
     all_goals (
      have SL := hI (show St 27 w.heap.size #[v1, .slice (some ⟨g4, 0, none⟩) (n - 1) cap4, u3, u4] (w10.setCell ⟨w.heap.size, 1, none⟩ (.slice (some ⟨g4, 0, none⟩) (n - 1) cap4)) from (S7.out.below B10.out).set 1 _)
      have SD := hI (show St 27 (w.heap.size + 1 + 1) #[.slice none 0 0, .slice none 0 0, .slice none 0 0, .slice none 0 0] (w10.setCell ⟨w.heap.size, 1, none⟩ (.slice (some ⟨g4, 0, none⟩) (n - 1) cap4)) from (D7.out.below B10.out).other _ _ _ (by omega))
      go_wp2_with (first
       | ((with_reducible show wpList _ _ _ ({ dst := _, op := .load 27 _, type := _, pos := _, after := _, guard := _ } :: _) _ _); refine wpList_load_st rfl 27 _ rfl w.heap.size (by simp [Act.eval]) 27 #[v1, .slice (some ⟨g4, 0, none⟩) (n - 1) cap4, u3, u4] SL.out _ Tryz.underlying27 rfl (by kernel_rfl) ?_)
       | ((with_reducible show wpList _ _ _ ({ dst := _, op := .store 27 _ _, type := _, pos := _, after := _, guard := _ } :: _) _ _); refine wpList_store_st rfl 27 _ _ rfl (w.heap.size + 1 + 1) #[v1, .slice (some ⟨g4, 0, none⟩) (n - 1) cap4, u3, u4] (by simp [Act.eval, Act.put]) (by simp [Act.eval, Act.put]) _ SD.out (by kernel_rfl) rfl (by simp [o1, p3, p4]; try rfl) ?_; rintro wz hwz sz; have SZ := hI sz; have HWZ := hI hwz; clear hwz sz))
      have FR : Frm (fun j => j = w.heap.size ∨ j = w.heap.size + 1 + 1) w10 wz := by
       rw [HWZ.out]
       exact ((Frm.refl _ w10).setCell (.inl (.inl rfl)) _).next ⟨rfl, rfl, rfl, by simp, fun j hj hn => Go.setRow_other _ _ j _ (fun e => hn (.inr e))⟩
      have hs10 := B10.out.size
      have RK := FR.own H10.out fun k hk e => by
       have := (World.ownsRow.lt H10.out k hk).1
       rcases e with e | e <;> omega
      have BW : Below w.heap.size w wz := (BW7.out.trans (B10.out.mono BW7.out.size)).trans (FR.below (by omega) (fun j e => by rcases e with e | e <;> omega))
      have KZ := FR.own ((Frm.of_below (F := fun _ => False) B10.out).own K7.out fun _ _ e => e) fun k hk e => by
       have := (World.ownsRow.lt K7.out k hk).1
       rcases e with e | e <;> omega
      have LZ := FR.own ((Frm.of_below (F := fun _ => False) B10.out).own L7.out fun _ _ e => e) fun k hk e => by
       have := (World.ownsRow.lt L7.out k hk).1
       rcases e with e | e <;> omega
      refine ret_cell2 (r := 4) (t := 5) (x := .bool true) rfl (by simp) (by simp) SZ.out Tryz.underlying27 rfl (by kernel_rfl) rfl ?_
      rw [HGN.out]
      refine ⟨[v1, .slice (some ⟨g4, 0, none⟩) (n - 1) cap4, u3, u4], rfl, fun wy hy => ?_, BW⟩
      obtain ⟨q1, q2, q3, q4⟩ := HAll.out wy (HY.out wz wy BW hy)
      have KY := hy.own KZ fun k hk e => by
       have := (World.ownsRow.lt KZ k hk).1
       omega
      have LY := hy.own LZ fun k hk e => by
       have := (World.ownsRow.lt LZ k hk).1
       omega
      have RY := hy.own RK fun k hk e => by
       have := (World.ownsRow.lt RK k hk).1
       omega
      exact ⟨_, _, _, _, rfl, q1, RowsAt.own Cd.vs_length (by rw [HEl.out]; exact RY), RowsAt.own Kn.vs_length KY, RowsAt.own Bk.vs_length LY⟩)
   · have hck : k1 < cap := by omega
     have hkc' : ¬ cap = k1 := fun e => hkc e.symm
     have SC := hI (show ∀ W, Below w7.heap.size w7 W → W.cell? ⟨w.heap.size, 1, none⟩ = some (.slice (some ⟨b, off, none⟩) n cap) from fun W hW => (S7.out.below hW).cell rfl)
     go_region_law (first
      | (refine step_own rfl (.tmp 72) (.tmp 76) 23 rfl w7.heap.size 57 iz (.agg #[.string ⟨#[]⟩, .int .i64 0, .int .i64 0, .int .i64 0, .int .i64 0, .int .i64 0, .int .i64 0, .int .i64 0, .int .i64 0, .int .i64 0, .int .i64 0]) 11 96 Tryz.underlying23 hiz hz0 hz1 hz2 rfl (by decide) w7.heap.size 0 0 [] (by simp [Act.eval, Act.put]) (World.ownsRow.drew HO.out) ⟨b, off, none⟩ i cap (((ca.files.drop 0).take i).flatMap Cd.vs) (by simp [Act.eval, Act.put]) HTk.out (fun j u hu => by have := HR.out 0 i _ (BW7.out.trans (HBa.out.mono BW7.out.size)) j u hu; rw [Addr.add_mid]; simpa using this) (HOne.out 0 i) i (by omega) (by unfold maxLen; omega) (by omega) (by simp) _ rfl ?_; intro g3 cap3 w9 h9 hg9; have H9 := hI h9; have B9 := hI (show Below w7.heap.size w7 w9 from HBa.out.grown hg9 (by simp) (fun k hk => by simp [Value.ownBlock] at hk; omega)); have c9 := SC.out w9 B9.out; clear h9 hg9)
      | (refine step_own rfl (.tmp 77) (.tmp 82) 23 rfl w7.heap.size 57 iz (.agg #[.string ⟨#[]⟩, .int .i64 0, .int .i64 0, .int .i64 0, .int .i64 0, .int .i64 0, .int .i64 0, .int .i64 0, .int .i64 0, .int .i64 0, .int .i64 0]) 11 96 Tryz.underlying23 hiz hz0 hz1 hz2 rfl (by decide) g3 i cap3 _ (by simp [Act.eval, Act.put]) H9.out ⟨b, off + k1 * 11, none⟩ (n - k1) (cap - k1) (((ca.files.drop k1).take (n - k1)).flatMap Cd.vs) (by simp [Act.eval, Act.put]) HDr.out (fun j u hu => by have := HR.out k1 (n - k1) _ (BW7.out.trans (B9.out.mono BW7.out.size)) j u hu; rw [Addr.add_mid]; exact this) (HOne.out k1 (n - k1)) (n - 1) (by omega) (by unfold maxLen; omega) (by omega) B9.out.size _ HEr.out ?_; intro g4 cap4 w10 h10 hg10; have H10 := hI h10; have B10 := hI (show Below w7.heap.size w7 w10 from B9.out.grown hg10 B9.out.size (fun k hk => (H9.out.lt k hk).1)); have fz := (S7.out.below B10.out).free 1; have cz := SC.out w10 B10.out; clear h10 hg10))
     all_goals (
      have SL := hI (show St 27 w.heap.size #[v1, .slice (some ⟨g4, 0, none⟩) (n - 1) cap4, u3, u4] (w10.setCell ⟨w.heap.size, 1, none⟩ (.slice (some ⟨g4, 0, none⟩) (n - 1) cap4)) from (S7.out.below B10.out).set 1 _)
      have SD := hI (show St 27 (w.heap.size + 1 + 1) #[.slice none 0 0, .slice none 0 0, .slice none 0 0, .slice none 0 0] (w10.setCell ⟨w.heap.size, 1, none⟩ (.slice (some ⟨g4, 0, none⟩) (n - 1) cap4)) from (D7.out.below B10.out).other _ _ _ (by omega))
      go_wp2_with (first
       | ((with_reducible show wpList _ _ _ ({ dst := _, op := .load 27 _, type := _, pos := _, after := _, guard := _ } :: _) _ _); refine wpList_load_st rfl 27 _ rfl w.heap.size (by simp [Act.eval]) 27 #[v1, .slice (some ⟨g4, 0, none⟩) (n - 1) cap4, u3, u4] SL.out _ Tryz.underlying27 rfl (by kernel_rfl) ?_)
       | ((with_reducible show wpList _ _ _ ({ dst := _, op := .store 27 _ _, type := _, pos := _, after := _, guard := _ } :: _) _ _); refine wpList_store_st rfl 27 _ _ rfl (w.heap.size + 1 + 1) #[v1, .slice (some ⟨g4, 0, none⟩) (n - 1) cap4, u3, u4] (by simp [Act.eval, Act.put]) (by simp [Act.eval, Act.put]) _ SD.out (by kernel_rfl) rfl (by simp [o1, p3, p4]; try rfl) ?_; rintro wz hwz sz; have SZ := hI sz; have HWZ := hI hwz; clear hwz sz))
      have FR : Frm (fun j => j = w.heap.size ∨ j = w.heap.size + 1 + 1) w10 wz := by
       rw [HWZ.out]
       exact ((Frm.refl _ w10).setCell (.inl (.inl rfl)) _).next ⟨rfl, rfl, rfl, by simp, fun j hj hn => Go.setRow_other _ _ j _ (fun e => hn (.inr e))⟩
      have hs10 := B10.out.size
      have RK := FR.own H10.out fun k hk e => by
       have := (World.ownsRow.lt H10.out k hk).1
       rcases e with e | e <;> omega
      have BW : Below w.heap.size w wz := (BW7.out.trans (B10.out.mono BW7.out.size)).trans (FR.below (by omega) (fun j e => by rcases e with e | e <;> omega))
      have KZ := FR.own ((Frm.of_below (F := fun _ => False) B10.out).own K7.out fun _ _ e => e) fun k hk e => by
       have := (World.ownsRow.lt K7.out k hk).1
       rcases e with e | e <;> omega
      have LZ := FR.own ((Frm.of_below (F := fun _ => False) B10.out).own L7.out fun _ _ e => e) fun k hk e => by
       have := (World.ownsRow.lt L7.out k hk).1
       rcases e with e | e <;> omega
      refine ret_cell2 (r := 4) (t := 5) (x := .bool true) rfl (by simp) (by simp) SZ.out Tryz.underlying27 rfl (by kernel_rfl) rfl ?_
      rw [HGN.out]
      refine ⟨[v1, .slice (some ⟨g4, 0, none⟩) (n - 1) cap4, u3, u4], rfl, fun wy hy => ?_, BW⟩
      obtain ⟨q1, q2, q3, q4⟩ := HAll.out wy (HY.out wz wy BW hy)
      have KY := hy.own KZ fun k hk e => by
       have := (World.ownsRow.lt KZ k hk).1
       omega
      have LY := hy.own LZ fun k hk e => by
       have := (World.ownsRow.lt LZ k hk).1
       omega
      have RY := hy.own RK fun k hk e => by
       have := (World.ownsRow.lt RK k hk).1
       omega
      exact ⟨_, _, _, _, rfl, q1, RowsAt.own Cd.vs_length (by rw [HEl.out]; exact RY), RowsAt.own Kn.vs_length KY, RowsAt.own Bk.vs_length LY⟩)
end Go.Proofs.YtngfknplljedeaaGreat
