/- Lemmas for the laws of index. -/
import Derived.Test.YtngfknplljedeaaGreatZr48
import Derived.Test.YtngfknplljedeaaGreatZrTk
import Derived.Test.YtngfknplljedeaaGreatZrHi
namespace Go.Proofs.YtngfknplljedeaaGreat
open Go.RowKit
set_option maxRecDepth 100000 in
set_option maxHeartbeats 2000000 in
theorem inSetName_yes {B b : Nat} (v1 v2 v3 v4 : Value) (c : CA) (x : Kn) (w : World) (s : St 27 b #[v1, v2, v3, v4] w) (o1 : OwnAt 49 3 Hd.vs B v1 c.helds w) (o2 : OwnAt 57 11 Cd.vs B v2 c.files w) (o3 : OwnAt 61 3 Kn.vs B v3 c.names w) (o4 : OwnAt 66 3 Bk.vs B v4 c.blocks w) (hb : B ≤ b) (hm : c.lens 1073741823) (h1 : c.files.any (pFile x.dir) = true) (hmo : c.names.Pairwise fun a b => ltKn a b = true) :
 Calls Tryz.prog 117 #[.pointer (some ⟨b, 0, none⟩), .agg x.vs.toArray] w fun e w' => e = .returned (.bool true) ∧ (∃ vs i, Place ltKn c.names x i ∧ OwnC B b vs ⟨c.helds, c.files, putAt ltKn c.names x i, c.blocks⟩ w') ∧ Below B w w' := by
 obtain ⟨w1, hw1⟩ : ∃ w1, w1 = w.alloc (.cells x.vs.toArray 61 (0, 0)) := ⟨_, rfl⟩
 have hb1 : Below w.heap.size w w1 := by rw [hw1]; exact (Below.refl _ w).alloc (Nat.le_refl _) _
 have hst : St 61 w.heap.size x.vs.toArray w1 := by rw [hw1]; exact St.new w _ _
 obtain ⟨x0, x1, x2⟩ := x
 have HST := hI (show St 61 w.heap.size #[.string x0, .string x1, .string x2] w1 from hst)
 have HW1 := hI (show w1 = w.alloc (.cells #[.string x0, .string x1, .string x2] 61 (0, 0)) from hw1)
 have HB1 := hI hb1
 have H1 := hI o1
 have H2 := hI o2
 have H3 := hI o3
 have H4 := hI o4
 have HSb := hI s
 have HBb := hI hb
 have HM := hI hm
 have lb0 := hI s.lt
 clear hst hw1 hb1 s o1 o2 o3 o4 hb hm
 have HH := hI (show ∀ (W : World) (lb : Array Value) (F : Nat → Prop), Below w1.heap.size w1 W → PredW Tryz.prog 125 lb Cd.vs (pFile x0) F W → Calls Tryz.prog 151 #[v2, .func (.func 125) #[] lb] W fun e w' => e = .returned (.bool true) ∧ Below W.heap.size W w' from fun W lb F hW hp => by
  rw [← (show c.files.any (pFile x0) = true from h1)]
  exact sxHasCached_any v2 c.files _ _ lb F W ((H2.out.below (HB1.out.trans (hW.mono HB1.out.size))).rows Cd.vs_length) (enters_of Tryz.func125 (by kernel_rfl) rfl) hp)
 have HS := hI (show ∀ W, Below w1.heap.size w1 W → W.cell? ⟨b, 1, none⟩ = some v2 ∧ W.cell? ⟨w.heap.size, 0, none⟩ = some (.string x0) from fun W hW => ⟨(HSb.out.below (HB1.out.trans (hW.mono HB1.out.size))).cell rfl, (HST.out.below hW).cell rfl⟩)
 have HMO := hI (pw_mono ltKn_trans hmo ⟨x0, x1, x2⟩)
 clear hmo
 clear h1
 show Calls Tryz.prog 117 #[.pointer (some ⟨b, 0, none⟩), .agg #[.string x0, .string x1, .string x2]] w _
 go_enter Tryz.func117, Tryz.ntmps117
 go_wp2_with fail
 rw [show w.alloc (.cells #[.string x0, .string x1, .string x2] 61) = w1 from HW1.out.symm]
 have HBD := hI (show Below w1.heap.size w1 w1.drew from (Below.refl _ _).drew)
 have C0 := hI (HS.out _ HBD.out)
 refine wp_region_held (S := (fun W => W.cell? ⟨b, 1, none⟩ = some v2 ∧ W.cell? ⟨w.heap.size, 0, none⟩ = some (.string x0))) (by kernel_rfl) ?_
 change wpAnyH _ _ _ _ _ _ _ _ (World.drew _)
 generalize World.drew w1 = WD at HBD C0 ⊢
 refine tkp 0 (.pointer (some ⟨b, 0, none⟩)) rfl (by kernel_rfl) q3 (fun w' hS => ?_) C0.out ?_
 · clear hS; go_simp
 try go_simp
 refine tkp 1 (.pointer (some ⟨b, 0, none⟩)) rfl (by kernel_rfl) q3 (fun w' hS => ?_) C0.out ?_
 · clear hS; go_simp
 try go_simp
 refine tkp 2 (.pointer (some ⟨b, 1, none⟩)) rfl (by kernel_rfl) q3 (fun w' hS => ?_) C0.out ?_
 · clear hS; go_simp
 try go_simp
 refine tkp 3 (v2) rfl (by kernel_rfl) q3 (fun w' hS => ?_) C0.out ?_
 · obtain ⟨s0, s1⟩ := hS; go_simp
 try go_simp
 refine tkp 4 (.pointer (some ⟨w.heap.size, 0, none⟩)) rfl (by kernel_rfl) q3 (fun w' hS => ?_) C0.out ?_
 · clear hS; go_simp
 try go_simp
 refine tkp 5 (.string x0) rfl (by kernel_rfl) q3 (fun w' hS => ?_) C0.out ?_
 · obtain ⟨s0, s1⟩ := hS; go_simp
 try go_simp
 refine rd1 6 (by kernel_rfl) rfl fun K hK => ?_
 go_simp
 refine (inqFile_any x0 _).mono ?_
 rintro e w5 ⟨lb, rfl, hb, hp⟩
 have HP := hI hp
 clear hp
 have B5 := hI (HBD.out.trans (hb.mono HBD.out.size))
 clear hb
 go_simp
 refine hK.out _ _ (HS.out _ B5.out) (fun S1 => ?_)
 clear hK K S1
 refine rd1 7 (by kernel_rfl) rfl fun K hK => ?_
 go_simp
 refine (HH.out _ lb _ B5.out HP.out).mono ?_
 rintro e w6 ⟨rfl, hb⟩
 have B6 := hI (B5.out.trans (hb.mono B5.out.size))
 clear hb
 go_simp
 refine hK.out _ _ (HS.out _ B6.out) (fun S1 => ?_)
 clear hK K S1
 refine tkp 8 (.bool false) rfl (by kernel_rfl) q3 (fun w' hS => ?_) (HS.out _ B6.out) ?_
 · clear hS; go_simp
 try go_simp
 refine wpAnyH_done (by kernel_rfl) ?_ _
 have BE := hI (show Below w1.heap.size w1 w6.drew from B6.out.drew)
 have AE := hI (HB1.out.trans (BE.out.mono HB1.out.size))
 have CE := hI (show St 61 w.heap.size #[.string x0, .string x1, .string x2] w6.drew from HST.out.below BE.out)
 go_wp2_with fail
 refine wp_region_held (S := (fun W => St 61 w.heap.size #[.string x0, .string x1, .string x2] W)) (by kernel_rfl) ?_
 change wpAnyH _ _ _ _ _ _ _ _ (World.drew _)
 generalize World.drew w6 = WE at BE AE CE ⊢
 refine tkp 0 (.pointer (some ⟨b, 0, none⟩)) rfl (by kernel_rfl) q3 (fun w' hS => ?_) CE.out ?_
 · clear hS; go_simp
 try go_simp
 refine tkp 1 (.pointer (some ⟨b, 0, none⟩)) rfl (by kernel_rfl) q3 (fun w' hS => ?_) CE.out ?_
 · clear hS; go_simp
 try go_simp
 refine tkp 2 (.pointer (some ⟨b, 2, none⟩)) rfl (by kernel_rfl) q3 (fun w' hS => ?_) CE.out ?_
 · clear hS; go_simp
 try go_simp
 refine tkl 3 (.agg #[.string x0, .string x1, .string x2]) rfl (by kernel_rfl) q3 (yld_boxi (by kernel_rfl) 61 (.tmp 3) rfl (w.heap.size) (by first | rfl | simp [Act.eval, Act.put]) 61 #[.string x0, .string x1, .string x2] (fun w' hS => hS) _ Tryz.underlying61 rfl (by kernel_rfl)) CE.out ?_
 try go_simp
 refine rd1 4 (by kernel_rfl) rfl fun K hK => ?_
 go_simp
 refine (inPutKnown_any v1 v2 v3 v4 c.names ⟨x0, x1, x2⟩ 89 WE (H3.out.below AE.out) (HSb.out.below AE.out) (Nat.le_trans HBb.out (Nat.le_trans (Nat.le_of_lt lb0.out) AE.out.size)) HM.out.2.2.1 (enters_of Tryz.func89 (by kernel_rfl) rfl) (fun W y z => inOrdKnown_any y z W) HMO.out).mono ?_
 rintro e w9 ⟨v', i, rfl, hpl, ho, hs, hf⟩
 have T9 := hI (OwnC.turn3 (HSb.out.below AE.out) (H1.out.below AE.out) (H2.out.below AE.out) (H3.out.below AE.out) (H4.out.below AE.out) ho hs hf HBb.out)
 have HPL := hI hpl
 have C9 := hI (show St 61 w.heap.size #[.string x0, .string x1, .string x2] w9 from St.frm (T := 61) CE.out hf (fun e => by rcases e with e | e; exact Nat.lt_irrefl _ ((World.ownsRow.lt H3.out _ e).2); exact absurd lb0.out (by rw [← e]; exact Nat.lt_irrefl _)))
 clear ho hs hf hpl
 go_simp
 refine hK.out _ _ C9.out (fun S1 => ?_)
 clear hK K S1
 refine wpAnyH_done (by kernel_rfl) ?_ _
 go_wp2
 go_ret
 exact ⟨rfl, ⟨_, i, HPL.out, T9.out.1⟩, (AE.out.mono (Nat.le_trans HBb.out (Nat.le_of_lt lb0.out))).trans T9.out.2⟩
set_option maxRecDepth 100000 in
set_option maxHeartbeats 2000000 in
theorem inSetBlock_no1 {B b : Nat} (v1 v2 v3 v4 : Value) (c : CA) (x : Bk) (w : World) (s : St 27 b #[v1, v2, v3, v4] w) (o1 : OwnAt 49 3 Hd.vs B v1 c.helds w) (o2 : OwnAt 57 11 Cd.vs B v2 c.files w) (o3 : OwnAt 61 3 Kn.vs B v3 c.names w) (o4 : OwnAt 66 3 Bk.vs B v4 c.blocks w) (hb : B ≤ b) (hm : c.lens 1073741823) (h1 : c.files.any (pFile x.up) = false) :
 Calls Tryz.prog 119 #[.pointer (some ⟨b, 0, none⟩), .agg x.vs.toArray] w fun e w' => e = .returned (.bool false) ∧ Below w.heap.size w w' := by
 obtain ⟨w1, hw1⟩ : ∃ w1, w1 = w.alloc (.cells x.vs.toArray 66 (0, 0)) := ⟨_, rfl⟩
 have hb1 : Below w.heap.size w w1 := by rw [hw1]; exact (Below.refl _ w).alloc (Nat.le_refl _) _
 have hst : St 66 w.heap.size x.vs.toArray w1 := by rw [hw1]; exact St.new w _ _
 obtain ⟨x0, x1, x2⟩ := x
 have HST := hI (show St 66 w.heap.size #[.string x0, .int .i64 x1, .int .i64 x2] w1 from hst)
 have HW1 := hI (show w1 = w.alloc (.cells #[.string x0, .int .i64 x1, .int .i64 x2] 66 (0, 0)) from hw1)
 have HB1 := hI hb1
 have H1 := hI o1
 have H2 := hI o2
 have H3 := hI o3
 have H4 := hI o4
 have HSb := hI s
 have HBb := hI hb
 have HM := hI hm
 have lb0 := hI s.lt
 clear hst hw1 hb1 s o1 o2 o3 o4 hb hm
 have HH := hI (show ∀ (W : World) (lb : Array Value) (F : Nat → Prop), Below w1.heap.size w1 W → PredW Tryz.prog 125 lb Cd.vs (pFile x0) F W → Calls Tryz.prog 151 #[v2, .func (.func 125) #[] lb] W fun e w' => e = .returned (.bool false) ∧ Below W.heap.size W w' from fun W lb F hW hp => by
  rw [← (show c.files.any (pFile x0) = false from h1)]
  exact sxHasCached_any v2 c.files _ _ lb F W ((H2.out.below (HB1.out.trans (hW.mono HB1.out.size))).rows Cd.vs_length) (enters_of Tryz.func125 (by kernel_rfl) rfl) hp)
 have HS := hI (show ∀ W, Below w1.heap.size w1 W → W.cell? ⟨b, 1, none⟩ = some v2 ∧ W.cell? ⟨b, 3, none⟩ = some v4 ∧ W.cell? ⟨w.heap.size, 0, none⟩ = some (.string x0) from fun W hW => ⟨(HSb.out.below (HB1.out.trans (hW.mono HB1.out.size))).cell rfl, (HSb.out.below (HB1.out.trans (hW.mono HB1.out.size))).cell rfl, (HST.out.below hW).cell rfl⟩)
 clear h1
 show Calls Tryz.prog 119 #[.pointer (some ⟨b, 0, none⟩), .agg #[.string x0, .int .i64 x1, .int .i64 x2]] w _
 go_enter Tryz.func119, Tryz.ntmps119
 go_wp2_with fail
 rw [show w.alloc (.cells #[.string x0, .int .i64 x1, .int .i64 x2] 66) = w1 from HW1.out.symm]
 have HBD := hI (show Below w1.heap.size w1 w1.drew from (Below.refl _ _).drew)
 have C0 := hI (HS.out _ HBD.out)
 refine wp_region_held (S := (fun W => W.cell? ⟨b, 1, none⟩ = some v2 ∧ W.cell? ⟨b, 3, none⟩ = some v4 ∧ W.cell? ⟨w.heap.size, 0, none⟩ = some (.string x0))) (by kernel_rfl) ?_
 change wpAnyH _ _ _ _ _ _ _ _ (World.drew _)
 generalize World.drew w1 = WD at HBD C0 ⊢
 refine tkp 0 (.pointer (some ⟨b, 0, none⟩)) rfl (by kernel_rfl) q3 (fun w' hS => ?_) C0.out ?_
 · clear hS; go_simp
 try go_simp
 refine tkp 1 (.pointer (some ⟨b, 0, none⟩)) rfl (by kernel_rfl) q3 (fun w' hS => ?_) C0.out ?_
 · clear hS; go_simp
 try go_simp
 refine tkp 2 (.pointer (some ⟨b, 1, none⟩)) rfl (by kernel_rfl) q3 (fun w' hS => ?_) C0.out ?_
 · clear hS; go_simp
 try go_simp
 refine tkp 3 (v2) rfl (by kernel_rfl) q3 (fun w' hS => ?_) C0.out ?_
 · obtain ⟨s0, s1, s2⟩ := hS; go_simp
 try go_simp
 refine tkp 4 (.pointer (some ⟨w.heap.size, 0, none⟩)) rfl (by kernel_rfl) q3 (fun w' hS => ?_) C0.out ?_
 · clear hS; go_simp
 try go_simp
 refine tkp 5 (.string x0) rfl (by kernel_rfl) q3 (fun w' hS => ?_) C0.out ?_
 · obtain ⟨s0, s1, s2⟩ := hS; go_simp
 try go_simp
 refine rd1 6 (by kernel_rfl) rfl fun K hK => ?_
 go_simp
 refine (inqFile_any x0 _).mono ?_
 rintro e w5 ⟨lb, rfl, hb, hp⟩
 have HP := hI hp
 clear hp
 have B5 := hI (HBD.out.trans (hb.mono HBD.out.size))
 clear hb
 go_simp
 refine hK.out _ _ (HS.out _ B5.out) (fun S1 => ?_)
 clear hK K S1
 refine rd1 7 (by kernel_rfl) rfl fun K hK => ?_
 go_simp
 refine (HH.out _ lb _ B5.out HP.out).mono ?_
 rintro e w6 ⟨rfl, hb⟩
 have B6 := hI (B5.out.trans (hb.mono B5.out.size))
 clear hb
 go_simp
 refine hK.out _ _ (HS.out _ B6.out) (fun S1 => ?_)
 clear hK K S1
 refine tkp 8 (.bool true) rfl (by kernel_rfl) q3 (fun w' hS => ?_) (HS.out _ B6.out) ?_
 · clear hS; go_simp
 try go_simp
 refine tkp 9 (.bool true) rfl (by kernel_rfl) q3 (fun w' hS => ?_) (HS.out _ B6.out) ?_
 · clear hS; go_simp
 try go_simp
 refine tku 10 rfl (by kernel_rfl) q3 (HS.out _ B6.out) ?_
 refine tku 11 rfl (by kernel_rfl) q3 (HS.out _ B6.out) ?_
 try go_simp
 refine tku 12 rfl (by kernel_rfl) q3 (HS.out _ B6.out) ?_
 refine tku 13 rfl (by kernel_rfl) q3 (HS.out _ B6.out) ?_
 try go_simp
 refine tku 14 rfl (by kernel_rfl) q3 (HS.out _ B6.out) ?_
 refine tku 15 rfl (by kernel_rfl) q3 (HS.out _ B6.out) ?_
 try go_simp
 refine tkp 16 (.bool true) rfl (by kernel_rfl) q3 (fun w' hS => ?_) (HS.out _ B6.out) ?_
 · clear hS; go_simp
 try go_simp
 refine wpAnyH_done (by kernel_rfl) ?_ _
 go_wp2
 go_returns
 exact ⟨rfl, HB1.out.trans (B6.out.mono HB1.out.size)⟩
set_option maxRecDepth 100000 in
set_option maxHeartbeats 2000000 in
theorem inSetBlock_no2 {B b : Nat} (v1 v2 v3 v4 : Value) (c : CA) (x : Bk) (w : World) (s : St 27 b #[v1, v2, v3, v4] w) (o1 : OwnAt 49 3 Hd.vs B v1 c.helds w) (o2 : OwnAt 57 11 Cd.vs B v2 c.files w) (o3 : OwnAt 61 3 Kn.vs B v3 c.names w) (o4 : OwnAt 66 3 Bk.vs B v4 c.blocks w) (hb : B ≤ b) (hm : c.lens 1073741823) (h1 : c.files.any (pFile x.up) = true) (h2 : c.blocks.any (inWay x) = true) :
 Calls Tryz.prog 119 #[.pointer (some ⟨b, 0, none⟩), .agg x.vs.toArray] w fun e w' => e = .returned (.bool false) ∧ Below w.heap.size w w' := by
 obtain ⟨w1, hw1⟩ : ∃ w1, w1 = w.alloc (.cells x.vs.toArray 66 (0, 0)) := ⟨_, rfl⟩
 have hb1 : Below w.heap.size w w1 := by rw [hw1]; exact (Below.refl _ w).alloc (Nat.le_refl _) _
 have hst : St 66 w.heap.size x.vs.toArray w1 := by rw [hw1]; exact St.new w _ _
 obtain ⟨x0, x1, x2⟩ := x
 have HST := hI (show St 66 w.heap.size #[.string x0, .int .i64 x1, .int .i64 x2] w1 from hst)
 have HW1 := hI (show w1 = w.alloc (.cells #[.string x0, .int .i64 x1, .int .i64 x2] 66 (0, 0)) from hw1)
 have HB1 := hI hb1
 have H1 := hI o1
 have H2 := hI o2
 have H3 := hI o3
 have H4 := hI o4
 have HSb := hI s
 have HBb := hI hb
 have HM := hI hm
 have lb0 := hI s.lt
 clear hst hw1 hb1 s o1 o2 o3 o4 hb hm
 have HH := hI (show ∀ (W : World) (lb : Array Value) (F : Nat → Prop), Below w1.heap.size w1 W → PredW Tryz.prog 125 lb Cd.vs (pFile x0) F W → Calls Tryz.prog 151 #[v2, .func (.func 125) #[] lb] W fun e w' => e = .returned (.bool true) ∧ Below W.heap.size W w' from fun W lb F hW hp => by
  rw [← (show c.files.any (pFile x0) = true from h1)]
  exact sxHasCached_any v2 c.files _ _ lb F W ((H2.out.below (HB1.out.trans (hW.mono HB1.out.size))).rows Cd.vs_length) (enters_of Tryz.func125 (by kernel_rfl) rfl) hp)
 have HI := hI (show ∀ (W : World), Below w1.heap.size w1 W → Calls Tryz.prog 158 #[v4, .func (.func 157) #[] #[.pointer (some ⟨w.heap.size, 0, none⟩)]] W fun e w' => e = .returned (.bool true) ∧ Below W.heap.size W w' from fun W hW => by
  rw [← h2]
  exact sxHasPlaced_any v4 c.blocks _ _ _ (fun _ => False) W ((H4.out.below (HB1.out.trans (hW.mono HB1.out.size))).rows Bk.vs_length) (enters_of Tryz.func157 (by kernel_rfl) rfl) (inSetBlockc_pred ⟨x0, x1, x2⟩ w.heap.size _ W (HST.out.below hW) id))
 have HS := hI (show ∀ W, Below w1.heap.size w1 W → W.cell? ⟨b, 1, none⟩ = some v2 ∧ W.cell? ⟨b, 3, none⟩ = some v4 ∧ W.cell? ⟨w.heap.size, 0, none⟩ = some (.string x0) from fun W hW => ⟨(HSb.out.below (HB1.out.trans (hW.mono HB1.out.size))).cell rfl, (HSb.out.below (HB1.out.trans (hW.mono HB1.out.size))).cell rfl, (HST.out.below hW).cell rfl⟩)
 clear h1 h2
 show Calls Tryz.prog 119 #[.pointer (some ⟨b, 0, none⟩), .agg #[.string x0, .int .i64 x1, .int .i64 x2]] w _
 go_enter Tryz.func119, Tryz.ntmps119
 go_wp2_with fail
 rw [show w.alloc (.cells #[.string x0, .int .i64 x1, .int .i64 x2] 66) = w1 from HW1.out.symm]
 have HBD := hI (show Below w1.heap.size w1 w1.drew from (Below.refl _ _).drew)
 have C0 := hI (HS.out _ HBD.out)
 refine wp_region_held (S := (fun W => W.cell? ⟨b, 1, none⟩ = some v2 ∧ W.cell? ⟨b, 3, none⟩ = some v4 ∧ W.cell? ⟨w.heap.size, 0, none⟩ = some (.string x0))) (by kernel_rfl) ?_
 change wpAnyH _ _ _ _ _ _ _ _ (World.drew _)
 generalize World.drew w1 = WD at HBD C0 ⊢
 refine tkp 0 (.pointer (some ⟨b, 0, none⟩)) rfl (by kernel_rfl) q3 (fun w' hS => ?_) C0.out ?_
 · clear hS; go_simp
 try go_simp
 refine tkp 1 (.pointer (some ⟨b, 0, none⟩)) rfl (by kernel_rfl) q3 (fun w' hS => ?_) C0.out ?_
 · clear hS; go_simp
 try go_simp
 refine tkp 2 (.pointer (some ⟨b, 1, none⟩)) rfl (by kernel_rfl) q3 (fun w' hS => ?_) C0.out ?_
 · clear hS; go_simp
 try go_simp
 refine tkp 3 (v2) rfl (by kernel_rfl) q3 (fun w' hS => ?_) C0.out ?_
 · obtain ⟨s0, s1, s2⟩ := hS; go_simp
 try go_simp
 refine tkp 4 (.pointer (some ⟨w.heap.size, 0, none⟩)) rfl (by kernel_rfl) q3 (fun w' hS => ?_) C0.out ?_
 · clear hS; go_simp
 try go_simp
 refine tkp 5 (.string x0) rfl (by kernel_rfl) q3 (fun w' hS => ?_) C0.out ?_
 · obtain ⟨s0, s1, s2⟩ := hS; go_simp
 try go_simp
 refine rd1 6 (by kernel_rfl) rfl fun K hK => ?_
 go_simp
 refine (inqFile_any x0 _).mono ?_
 rintro e w5 ⟨lb, rfl, hb, hp⟩
 have HP := hI hp
 clear hp
 have B5 := hI (HBD.out.trans (hb.mono HBD.out.size))
 clear hb
 go_simp
 refine hK.out _ _ (HS.out _ B5.out) (fun S1 => ?_)
 clear hK K S1
 refine rd1 7 (by kernel_rfl) rfl fun K hK => ?_
 go_simp
 refine (HH.out _ lb _ B5.out HP.out).mono ?_
 rintro e w6 ⟨rfl, hb⟩
 have B6 := hI (B5.out.trans (hb.mono B5.out.size))
 clear hb
 go_simp
 refine hK.out _ _ (HS.out _ B6.out) (fun S1 => ?_)
 clear hK K S1
 refine tkp 8 (.bool false) rfl (by kernel_rfl) q3 (fun w' hS => ?_) (HS.out _ B6.out) ?_
 · clear hS; go_simp
 try go_simp
 refine tkp 9 (.bool false) rfl (by kernel_rfl) q3 (fun w' hS => ?_) (HS.out _ B6.out) ?_
 · clear hS; go_simp
 try go_simp
 refine tkp 10 (.pointer (some ⟨b, 0, none⟩)) rfl (by kernel_rfl) q3 (fun w' hS => ?_) (HS.out _ B6.out) ?_
 · clear hS; go_simp
 try go_simp
 refine tkp 11 (.pointer (some ⟨b, 0, none⟩)) rfl (by kernel_rfl) q3 (fun w' hS => ?_) (HS.out _ B6.out) ?_
 · clear hS; go_simp
 try go_simp
 refine tkp 12 (.pointer (some ⟨b, 3, none⟩)) rfl (by kernel_rfl) q3 (fun w' hS => ?_) (HS.out _ B6.out) ?_
 · clear hS; go_simp
 try go_simp
 refine tkp 13 (v4) rfl (by kernel_rfl) q3 (fun w' hS => ?_) (HS.out _ B6.out) ?_
 · obtain ⟨s0, s1, s2⟩ := hS; go_simp
 try go_simp
 refine tkp 14 (.func (.func 157) #[] #[.pointer (some ⟨w.heap.size, 0, none⟩)]) rfl (by kernel_rfl) q3 (fun w' hS => ?_) (HS.out _ B6.out) ?_
 · clear hS; go_simp
 try go_simp
 refine rd1 15 (by kernel_rfl) rfl fun K hK => ?_
 go_simp
 refine (HI.out _ B6.out).mono ?_
 rintro e w8 ⟨rfl, hb⟩
 have B8 := hI (B6.out.trans (hb.mono B6.out.size))
 clear hb
 go_simp
 refine hK.out _ _ (HS.out _ B8.out) (fun S1 => ?_)
 clear hK K S1
 refine tkp 16 (.bool true) rfl (by kernel_rfl) q3 (fun w' hS => ?_) (HS.out _ B8.out) ?_
 · clear hS; go_simp
 try go_simp
 refine wpAnyH_done (by kernel_rfl) ?_ _
 go_wp2
 go_returns
 exact ⟨rfl, HB1.out.trans (B8.out.mono HB1.out.size)⟩
set_option maxRecDepth 100000 in
set_option maxHeartbeats 2000000 in
theorem inSetBlock_yes {B b : Nat} (v1 v2 v3 v4 : Value) (c : CA) (x : Bk) (w : World) (s : St 27 b #[v1, v2, v3, v4] w) (o1 : OwnAt 49 3 Hd.vs B v1 c.helds w) (o2 : OwnAt 57 11 Cd.vs B v2 c.files w) (o3 : OwnAt 61 3 Kn.vs B v3 c.names w) (o4 : OwnAt 66 3 Bk.vs B v4 c.blocks w) (hb : B ≤ b) (hm : c.lens 1073741823) (h1 : c.files.any (pFile x.up) = true) (h2 : c.blocks.any (inWay x) = false) (hmo : c.blocks.Pairwise fun a b => ltBk a b = true) :
 Calls Tryz.prog 119 #[.pointer (some ⟨b, 0, none⟩), .agg x.vs.toArray] w fun e w' => e = .returned (.bool true) ∧ (∃ vs i, Place ltBk c.blocks x i ∧ OwnC B b vs ⟨c.helds, c.files, c.names, putAt ltBk c.blocks x i⟩ w') ∧ Below B w w' := by
 obtain ⟨w1, hw1⟩ : ∃ w1, w1 = w.alloc (.cells x.vs.toArray 66 (0, 0)) := ⟨_, rfl⟩
 have hb1 : Below w.heap.size w w1 := by rw [hw1]; exact (Below.refl _ w).alloc (Nat.le_refl _) _
 have hst : St 66 w.heap.size x.vs.toArray w1 := by rw [hw1]; exact St.new w _ _
 obtain ⟨x0, x1, x2⟩ := x
 have HST := hI (show St 66 w.heap.size #[.string x0, .int .i64 x1, .int .i64 x2] w1 from hst)
 have HW1 := hI (show w1 = w.alloc (.cells #[.string x0, .int .i64 x1, .int .i64 x2] 66 (0, 0)) from hw1)
 have HB1 := hI hb1
 have H1 := hI o1
 have H2 := hI o2
 have H3 := hI o3
 have H4 := hI o4
 have HSb := hI s
 have HBb := hI hb
 have HM := hI hm
 have lb0 := hI s.lt
 clear hst hw1 hb1 s o1 o2 o3 o4 hb hm
 have HH := hI (show ∀ (W : World) (lb : Array Value) (F : Nat → Prop), Below w1.heap.size w1 W → PredW Tryz.prog 125 lb Cd.vs (pFile x0) F W → Calls Tryz.prog 151 #[v2, .func (.func 125) #[] lb] W fun e w' => e = .returned (.bool true) ∧ Below W.heap.size W w' from fun W lb F hW hp => by
  rw [← (show c.files.any (pFile x0) = true from h1)]
  exact sxHasCached_any v2 c.files _ _ lb F W ((H2.out.below (HB1.out.trans (hW.mono HB1.out.size))).rows Cd.vs_length) (enters_of Tryz.func125 (by kernel_rfl) rfl) hp)
 have HI := hI (show ∀ (W : World), Below w1.heap.size w1 W → Calls Tryz.prog 158 #[v4, .func (.func 157) #[] #[.pointer (some ⟨w.heap.size, 0, none⟩)]] W fun e w' => e = .returned (.bool false) ∧ Below W.heap.size W w' from fun W hW => by
  rw [← h2]
  exact sxHasPlaced_any v4 c.blocks _ _ _ (fun _ => False) W ((H4.out.below (HB1.out.trans (hW.mono HB1.out.size))).rows Bk.vs_length) (enters_of Tryz.func157 (by kernel_rfl) rfl) (inSetBlockc_pred ⟨x0, x1, x2⟩ w.heap.size _ W (HST.out.below hW) id))
 have HS := hI (show ∀ W, Below w1.heap.size w1 W → W.cell? ⟨b, 1, none⟩ = some v2 ∧ W.cell? ⟨b, 3, none⟩ = some v4 ∧ W.cell? ⟨w.heap.size, 0, none⟩ = some (.string x0) from fun W hW => ⟨(HSb.out.below (HB1.out.trans (hW.mono HB1.out.size))).cell rfl, (HSb.out.below (HB1.out.trans (hW.mono HB1.out.size))).cell rfl, (HST.out.below hW).cell rfl⟩)
 have HMO := hI (pw_mono ltBk_trans hmo ⟨x0, x1, x2⟩)
 clear hmo
 clear h1 h2
 show Calls Tryz.prog 119 #[.pointer (some ⟨b, 0, none⟩), .agg #[.string x0, .int .i64 x1, .int .i64 x2]] w _
 go_enter Tryz.func119, Tryz.ntmps119
 go_wp2_with fail
 rw [show w.alloc (.cells #[.string x0, .int .i64 x1, .int .i64 x2] 66) = w1 from HW1.out.symm]
 have HBD := hI (show Below w1.heap.size w1 w1.drew from (Below.refl _ _).drew)
 have C0 := hI (HS.out _ HBD.out)
 refine wp_region_held (S := (fun W => W.cell? ⟨b, 1, none⟩ = some v2 ∧ W.cell? ⟨b, 3, none⟩ = some v4 ∧ W.cell? ⟨w.heap.size, 0, none⟩ = some (.string x0))) (by kernel_rfl) ?_
 change wpAnyH _ _ _ _ _ _ _ _ (World.drew _)
 generalize World.drew w1 = WD at HBD C0 ⊢
 refine tkp 0 (.pointer (some ⟨b, 0, none⟩)) rfl (by kernel_rfl) q3 (fun w' hS => ?_) C0.out ?_
 · clear hS; go_simp
 try go_simp
 refine tkp 1 (.pointer (some ⟨b, 0, none⟩)) rfl (by kernel_rfl) q3 (fun w' hS => ?_) C0.out ?_
 · clear hS; go_simp
 try go_simp
 refine tkp 2 (.pointer (some ⟨b, 1, none⟩)) rfl (by kernel_rfl) q3 (fun w' hS => ?_) C0.out ?_
 · clear hS; go_simp
 try go_simp
 refine tkp 3 (v2) rfl (by kernel_rfl) q3 (fun w' hS => ?_) C0.out ?_
 · obtain ⟨s0, s1, s2⟩ := hS; go_simp
 try go_simp
 refine tkp 4 (.pointer (some ⟨w.heap.size, 0, none⟩)) rfl (by kernel_rfl) q3 (fun w' hS => ?_) C0.out ?_
 · clear hS; go_simp
 try go_simp
 refine tkp 5 (.string x0) rfl (by kernel_rfl) q3 (fun w' hS => ?_) C0.out ?_
 · obtain ⟨s0, s1, s2⟩ := hS; go_simp
 try go_simp
 refine rd1 6 (by kernel_rfl) rfl fun K hK => ?_
 go_simp
 refine (inqFile_any x0 _).mono ?_
 rintro e w5 ⟨lb, rfl, hb, hp⟩
 have HP := hI hp
 clear hp
 have B5 := hI (HBD.out.trans (hb.mono HBD.out.size))
 clear hb
 go_simp
 refine hK.out _ _ (HS.out _ B5.out) (fun S1 => ?_)
 clear hK K S1
 refine rd1 7 (by kernel_rfl) rfl fun K hK => ?_
 go_simp
 refine (HH.out _ lb _ B5.out HP.out).mono ?_
 rintro e w6 ⟨rfl, hb⟩
 have B6 := hI (B5.out.trans (hb.mono B5.out.size))
 clear hb
 go_simp
 refine hK.out _ _ (HS.out _ B6.out) (fun S1 => ?_)
 clear hK K S1
 refine tkp 8 (.bool false) rfl (by kernel_rfl) q3 (fun w' hS => ?_) (HS.out _ B6.out) ?_
 · clear hS; go_simp
 try go_simp
 refine tkp 9 (.bool false) rfl (by kernel_rfl) q3 (fun w' hS => ?_) (HS.out _ B6.out) ?_
 · clear hS; go_simp
 try go_simp
 refine tkp 10 (.pointer (some ⟨b, 0, none⟩)) rfl (by kernel_rfl) q3 (fun w' hS => ?_) (HS.out _ B6.out) ?_
 · clear hS; go_simp
 try go_simp
 refine tkp 11 (.pointer (some ⟨b, 0, none⟩)) rfl (by kernel_rfl) q3 (fun w' hS => ?_) (HS.out _ B6.out) ?_
 · clear hS; go_simp
 try go_simp
 refine tkp 12 (.pointer (some ⟨b, 3, none⟩)) rfl (by kernel_rfl) q3 (fun w' hS => ?_) (HS.out _ B6.out) ?_
 · clear hS; go_simp
 try go_simp
 refine tkp 13 (v4) rfl (by kernel_rfl) q3 (fun w' hS => ?_) (HS.out _ B6.out) ?_
 · obtain ⟨s0, s1, s2⟩ := hS; go_simp
 try go_simp
 refine tkp 14 (.func (.func 157) #[] #[.pointer (some ⟨w.heap.size, 0, none⟩)]) rfl (by kernel_rfl) q3 (fun w' hS => ?_) (HS.out _ B6.out) ?_
 · clear hS; go_simp
 try go_simp
 refine rd1 15 (by kernel_rfl) rfl fun K hK => ?_
 go_simp
 refine (HI.out _ B6.out).mono ?_
 rintro e w8 ⟨rfl, hb⟩
 have B8 := hI (B6.out.trans (hb.mono B6.out.size))
 clear hb
 go_simp
 refine hK.out _ _ (HS.out _ B8.out) (fun S1 => ?_)
 clear hK K S1
 refine tkp 16 (.bool false) rfl (by kernel_rfl) q3 (fun w' hS => ?_) (HS.out _ B8.out) ?_
 · clear hS; go_simp
 try go_simp
 refine wpAnyH_done (by kernel_rfl) ?_ _
 have BE := hI (show Below w1.heap.size w1 w8.drew from B8.out.drew)
 have AE := hI (HB1.out.trans (BE.out.mono HB1.out.size))
 have CE := hI (show St 66 w.heap.size #[.string x0, .int .i64 x1, .int .i64 x2] w8.drew from HST.out.below BE.out)
 go_wp2_with fail
 refine wp_region_held (S := (fun W => St 66 w.heap.size #[.string x0, .int .i64 x1, .int .i64 x2] W)) (by kernel_rfl) ?_
 change wpAnyH _ _ _ _ _ _ _ _ (World.drew _)
 generalize World.drew w8 = WE at BE AE CE ⊢
 refine tkp 0 (.pointer (some ⟨b, 0, none⟩)) rfl (by kernel_rfl) q3 (fun w' hS => ?_) CE.out ?_
 · clear hS; go_simp
 try go_simp
 refine tkp 1 (.pointer (some ⟨b, 0, none⟩)) rfl (by kernel_rfl) q3 (fun w' hS => ?_) CE.out ?_
 · clear hS; go_simp
 try go_simp
 refine tkp 2 (.pointer (some ⟨b, 3, none⟩)) rfl (by kernel_rfl) q3 (fun w' hS => ?_) CE.out ?_
 · clear hS; go_simp
 try go_simp
 refine tkl 3 (.agg #[.string x0, .int .i64 x1, .int .i64 x2]) rfl (by kernel_rfl) q3 (yld_boxi (by kernel_rfl) 66 (.tmp 3) rfl (w.heap.size) (by first | rfl | simp [Act.eval, Act.put]) 66 #[.string x0, .int .i64 x1, .int .i64 x2] (fun w' hS => hS) _ Tryz.underlying66 rfl (by kernel_rfl)) CE.out ?_
 try go_simp
 refine rd1 4 (by kernel_rfl) rfl fun K hK => ?_
 go_simp
 refine (inPutPlaced_any v1 v2 v3 v4 c.blocks ⟨x0, x1, x2⟩ 91 WE (H4.out.below AE.out) (HSb.out.below AE.out) (Nat.le_trans HBb.out (Nat.le_trans (Nat.le_of_lt lb0.out) AE.out.size)) HM.out.2.2.2 (enters_of Tryz.func91 (by kernel_rfl) rfl) (fun W y z => inOrdPlaced_any y z W) HMO.out).mono ?_
 rintro e w9 ⟨v', i, rfl, hpl, ho, hs, hf⟩
 have T9 := hI (OwnC.turn4 (HSb.out.below AE.out) (H1.out.below AE.out) (H2.out.below AE.out) (H3.out.below AE.out) (H4.out.below AE.out) ho hs hf HBb.out)
 have HPL := hI hpl
 have C9 := hI (show St 66 w.heap.size #[.string x0, .int .i64 x1, .int .i64 x2] w9 from St.frm (T := 66) CE.out hf (fun e => by rcases e with e | e; exact Nat.lt_irrefl _ ((World.ownsRow.lt H4.out _ e).2); exact absurd lb0.out (by rw [← e]; exact Nat.lt_irrefl _)))
 clear ho hs hf hpl
 go_simp
 refine hK.out _ _ C9.out (fun S1 => ?_)
 clear hK K S1
 refine wpAnyH_done (by kernel_rfl) ?_ _
 go_wp2
 go_ret
 exact ⟨rfl, ⟨_, i, HPL.out, T9.out.1⟩, (AE.out.mono (Nat.le_trans HBb.out (Nat.le_of_lt lb0.out))).trans T9.out.2⟩
end Go.Proofs.YtngfknplljedeaaGreat
