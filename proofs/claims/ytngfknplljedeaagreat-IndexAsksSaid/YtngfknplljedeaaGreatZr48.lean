/- Lemmas for the laws of index. -/
import Derived.Test.YtngfknplljedeaaGreatZr47
import Derived.Test.YtngfknplljedeaaGreatZrTk
import Derived.Test.YtngfknplljedeaaGreatZrHi
namespace Go.Proofs.YtngfknplljedeaaGreat
open Go.RowKit
set_option maxRecDepth 100000 in
set_option maxHeartbeats 2000000 in
theorem inPutCached_any {B b : Nat} (v1 v2 v3 v4 : Value) (xs : List Cd) (x : Cd) (g : Nat) (w : World) (h : OwnAt 57 11 Cd.vs B v2 xs w) (hs : St 27 b #[v1, v2, v3, v4] w) (hB : B ≤ w.heap.size) (hm : xs.length ≤ 1073741823) (eg : ∀ args w, (callFunc g args).run Tryz.prog w = .ok (.enter g args) w)
 (ho : ∀ (W : World) (y z : Cd), Calls Tryz.prog g #[.agg y.vs.toArray, .agg z.vs.toArray] W fun e w' => e = .returned (.int .i64 (ord ltCd y z)) ∧ Below W.heap.size W w')
 (hmono : ∀ (i j : Nat) y z, i ≤ j → xs[i]? = some y → xs[j]? = some z → ltCd z x = true → ltCd y x = true) :
 Calls Tryz.prog 114 #[.pointer (some ⟨b, 1, none⟩), .agg x.vs.toArray, .func (.func g) #[] #[]] w fun e w' => ∃ v' i, e = .returned (.tuple #[]) ∧ Place ltCd xs x i ∧ OwnAt 57 11 Cd.vs B v' (putAt ltCd xs x i) w' ∧ St 27 b #[v1, v', v3, v4] w' ∧ Frm (fun j => v2.ownBlock = some j ∨ j = b) w w' := by
 have hne : ¬ (v2.ownBlock = some b) := fun e => by
  obtain ⟨cur, hc⟩ := h.tag e
  exact absurd (St.tag hc hs) (by decide)
 obtain ⟨w1, hw1⟩ : ∃ w1, w1 = w.alloc (.cells x.vs.toArray 57 (0, 0)) := ⟨_, rfl⟩
 have hb1 : Below w.heap.size w w1 := by rw [hw1]; exact (Below.refl _ w).alloc (Nat.le_refl _) _
 have hst : St 57 w.heap.size x.vs.toArray w1 := by rw [hw1]; exact St.new w _ _
 have hlt := fun j (e : v2.ownBlock = some j) => (World.ownsRow.lt h j e).2
 obtain ⟨ao, n, cap, rfl⟩ := h.slice
 have hnl : n = xs.length := by
  rcases h.2 with ⟨e, e0⟩ | ⟨g, cap, cur, e, _⟩
  · cases e; rw [e0]
  · cases e; rfl
 have HN := hI hnl
 have HO0 := hI h
 have HOW := hI (show ∀ W, Below w1.heap.size w1 W → OwnAt 57 11 Cd.vs B (.slice ao n cap) xs W from fun W hW => h.below (hb1.trans (hW.mono hb1.size)))
 have HSC := hI (show ∀ W, Below w1.heap.size w1 W → St 27 b #[v1, (.slice ao n cap), v3, v4] W from fun W hW => hs.below (hb1.trans (hW.mono hb1.size)))
 have HSX := hI (show ∀ W, Below w1.heap.size w1 W → St 57 w.heap.size x.vs.toArray W from fun W hW => hst.below hW)
 have HBS := hI (show ∀ W, Below w1.heap.size w1 W → Calls Tryz.prog 149 #[.slice ao n cap, .agg x.vs.toArray, .func (.func g) #[] #[]] W fun e w' => (∃ i : Nat, e = .returned (.tuple #[.int .i64 i, .bool (isAt ltCd xs x i)]) ∧ Place ltCd xs x i) ∧ Below W.heap.size W w' from fun W hW => sxBsCached_any _ xs x g W ((HOW.out W hW).rows Cd.vs_length) hm eg ho hmono)
 have HW1 := hI hw1
 have HB1 := hI hb1
 have HNE := hI hne
 have HLT := hI hlt
 have HBw := hI (Nat.le_trans hB hb1.size)
 have HM := hI hm
 have HBB := hI (show b < w.heap.size from St.lt hs)
 clear hw1 hb1 hst h hs hB hm ho hmono hne hlt hnl eg
 obtain ⟨x0, ⟨x1, x2, x3, x4, x5, x6, x7, x8, x9, x10⟩⟩ := x
 show Calls Tryz.prog 114 #[.pointer (some ⟨b, 1, none⟩), .agg #[.string x0, .int .i64 x1, .int .i64 x2, .int .i64 x3, .int .i64 x4, .int .i64 x5, .int .i64 x6, .int .i64 x7, .int .i64 x8, .int .i64 x9, .int .i64 x10], .func (.func g) #[] #[]] w _
 go_enter Tryz.func114, Tryz.ntmps114
 go_wp2_with fail
 rw [show w.alloc (.cells #[.string x0, .int .i64 x1, .int .i64 x2, .int .i64 x3, .int .i64 x4, .int .i64 x5, .int .i64 x6, .int .i64 x7, .int .i64 x8, .int .i64 x9, .int .i64 x10] 57) = w1 from HW1.out.symm]
 have HBD := hI (show Below w1.heap.size w1 w1.drew from (Below.refl _ _).drew)
 have C0 := hI (show w1.drew.cell? ⟨b, 1, none⟩ = some (.slice ao n cap) ∧ St 57 w.heap.size #[.string x0, .int .i64 x1, .int .i64 x2, .int .i64 x3, .int .i64 x4, .int .i64 x5, .int .i64 x6, .int .i64 x7, .int .i64 x8, .int .i64 x9, .int .i64 x10] w1.drew from ⟨(HSC.out _ HBD.out).cell rfl, HSX.out _ HBD.out⟩)
 refine wp_region_held (S := (fun W => W.cell? ⟨b, 1, none⟩ = some (.slice ao n cap) ∧ St 57 w.heap.size #[.string x0, .int .i64 x1, .int .i64 x2, .int .i64 x3, .int .i64 x4, .int .i64 x5, .int .i64 x6, .int .i64 x7, .int .i64 x8, .int .i64 x9, .int .i64 x10] W)) (by kernel_rfl) ?_
 change wpAnyH _ _ _ _ _ _ _ _ (World.drew _)
 generalize World.drew w1 = WD at HBD C0 ⊢
 refine tkp 0 (.pointer (some ⟨b, 1, none⟩)) rfl (by kernel_rfl) q3 (fun w' hS => ?_) C0.out ?_
 · clear hS; go_simp
 try go_simp
 refine tkp 1 (.pointer (some ⟨b, 1, none⟩)) rfl (by kernel_rfl) q3 (fun w' hS => ?_) C0.out ?_
 · clear hS; go_simp
 try go_simp
 refine tkp 2 (.slice ao n cap) rfl (by kernel_rfl) q3 (fun w' hS => ?_) C0.out ?_
 · obtain ⟨s0, _⟩ := hS; go_simp
 try go_simp
 refine tkl 3 (.agg #[.string x0, .int .i64 x1, .int .i64 x2, .int .i64 x3, .int .i64 x4, .int .i64 x5, .int .i64 x6, .int .i64 x7, .int .i64 x8, .int .i64 x9, .int .i64 x10]) rfl (by kernel_rfl) q3 (yld_boxi (by kernel_rfl) 57 (.tmp 4) rfl (w.heap.size) (by first | rfl | simp [Act.eval, Act.put]) 57 #[.string x0, .int .i64 x1, .int .i64 x2, .int .i64 x3, .int .i64 x4, .int .i64 x5, .int .i64 x6, .int .i64 x7, .int .i64 x8, .int .i64 x9, .int .i64 x10] (fun w' hS => hS.2) _ Tryz.underlying57 rfl (by kernel_rfl)) C0.out ?_
 try go_simp
 refine tkp 4 (.func (.func g) #[] #[]) rfl (by kernel_rfl) q3 (fun w' hS => ?_) C0.out ?_
 · clear hS; go_simp
 try go_simp
 refine rd1 5 (by kernel_rfl) rfl fun K hK => ?_
 go_simp
 refine (HBS.out _ HBD.out).mono ?_
 rintro e w2 ⟨⟨i, rfl, hpl⟩, hb⟩
 have HPL := hI hpl
 have B2 := hI (HBD.out.trans (hb.mono HBD.out.size))
 have C2 := hI (show w2.cell? ⟨b, 1, none⟩ = some (.slice ao n cap) ∧ St 57 w.heap.size #[.string x0, .int .i64 x1, .int .i64 x2, .int .i64 x3, .int .i64 x4, .int .i64 x5, .int .i64 x6, .int .i64 x7, .int .i64 x8, .int .i64 x9, .int .i64 x10] w2 from ⟨(HSC.out _ B2.out).cell rfl, HSX.out _ B2.out⟩)
 clear hb hpl
 obtain ⟨f, hf⟩ : ∃ f, f = isAt ltCd xs (⟨x0, ⟨x1, x2, x3, x4, x5, x6, x7, x8, x9, x10⟩⟩ : Cd) i := ⟨_, rfl⟩
 rw [← hf]
 have HFF := hI hf
 clear hf
 go_simp
 refine hK.out _ _ C2.out (fun S1 => ?_)
 clear hK K S1
 refine tkp 6 (.tuple #[.int .i64 i, .bool f]) rfl (by kernel_rfl) q3 (fun w' hS => ?_) C2.out ?_
 · clear hS; go_simp
 try go_simp
 refine tkp 7 (.int .i64 i) rfl (by kernel_rfl) q3 (fun w' hS => ?_) C2.out ?_
 · clear hS; go_simp
 try go_simp
 refine tkp 8 (.bool f) rfl (by kernel_rfl) q3 (fun w' hS => ?_) C2.out ?_
 · clear hS; go_simp
 try go_simp
 refine rd1 9 (by kernel_rfl) rfl fun K hK => ?_
 go_simp
 refine hK.out _ _ C2.out (fun S1 => ?_)
 clear hK K S1
 refine rd1 10 (by kernel_rfl) rfl fun K hK => ?_
 go_simp
 refine hK.out _ _ C2.out (fun S1 => ?_)
 clear hK K S1
 refine wpAnyH_done (by kernel_rfl) ?_ _
 cases f with
 | true =>
  have HIL := hI (isAt_lt HFF.out.symm)
  have i0 : (0 : Int) ≤ (i : Int) := by omega
  have i1 : (i : Int) < (n : Int) := by have := HIL.out; rw [← HN.out] at this; omega
  obtain ⟨q, hq⟩ : ∃ q, ao = some ⟨q, 0, none⟩ := by
   rcases HO0.out.2 with ⟨e, e0⟩ | ⟨g, cap, cur, e, _⟩
   · have := HIL.out; omega
   · cases e; exact ⟨_, rfl⟩
  subst hq
  have B3 := hI (show Below w1.heap.size w1 w2.drew from B2.out.drew)
  have HTO := hI (show w2.drew.there q (i * 11) 11 ∧ OwnAt 57 11 Cd.vs B (.slice (some ⟨q, 0, none⟩) n cap) (xs.set i (⟨x0, ⟨x1, x2, x3, x4, x5, x6, x7, x8, x9, x10⟩⟩ : Cd)) (w2.drew.setCells q (i * 11) (⟨x0, ⟨x1, x2, x3, x4, x5, x6, x7, x8, x9, x10⟩⟩ : Cd).vs) from by
   obtain ⟨q2, cap2, hq, hth, hown⟩ := (HOW.out _ B3.out).set' Cd.vs_length HIL.out (⟨x0, ⟨x1, x2, x3, x4, x5, x6, x7, x8, x9, x10⟩⟩ : Cd)
   cases hq
   exact ⟨hth, hown⟩)
  have C3 := hI (show w2.drew.cell? ⟨b, 1, none⟩ = some (.slice (some ⟨q, 0, none⟩) n cap) ∧ St 57 w.heap.size #[.string x0, .int .i64 x1, .int .i64 x2, .int .i64 x3, .int .i64 x4, .int .i64 x5, .int .i64 x6, .int .i64 x7, .int .i64 x8, .int .i64 x9, .int .i64 x10] w2.drew from ⟨(HSC.out _ B3.out).cell rfl, HSX.out _ B3.out⟩)
  go_wp2_with fail
  refine wp_region_held (S := (fun W => W.cell? ⟨b, 1, none⟩ = some (.slice (some ⟨q, 0, none⟩) n cap) ∧ St 57 w.heap.size #[.string x0, .int .i64 x1, .int .i64 x2, .int .i64 x3, .int .i64 x4, .int .i64 x5, .int .i64 x6, .int .i64 x7, .int .i64 x8, .int .i64 x9, .int .i64 x10] W)) (by kernel_rfl) ?_
  change wpAnyH _ _ _ _ _ _ _ _ (World.drew _)
  generalize World.drew w2 = WE at B3 HTO C3 ⊢
  refine tkp 0 (.pointer (some ⟨b, 1, none⟩)) rfl (by kernel_rfl) q3 (fun w' hS => ?_) C3.out ?_
  · clear hS; go_simp
  try go_simp
  refine tkp 1 (.pointer (some ⟨b, 1, none⟩)) rfl (by kernel_rfl) q3 (fun w' hS => ?_) C3.out ?_
  · clear hS; go_simp
  try go_simp
  refine tkp 2 (.slice (some ⟨q, 0, none⟩) n cap) rfl (by kernel_rfl) q3 (fun w' hS => ?_) C3.out ?_
  · obtain ⟨s0, _⟩ := hS; go_simp
  try go_simp
  refine tkp 3 (.int .i64 i) rfl (by kernel_rfl) q3 (fun w' hS => ?_) C3.out ?_
  · clear hS; go_simp
  try go_simp
  refine tkl 4 (.agg #[.string x0, .int .i64 x1, .int .i64 x2, .int .i64 x3, .int .i64 x4, .int .i64 x5, .int .i64 x6, .int .i64 x7, .int .i64 x8, .int .i64 x9, .int .i64 x10]) rfl (by kernel_rfl) q3 (yld_boxi (by kernel_rfl) 57 (.tmp 4) rfl (w.heap.size) (by first | rfl | simp [Act.eval, Act.put]) 57 #[.string x0, .int .i64 x1, .int .i64 x2, .int .i64 x3, .int .i64 x4, .int .i64 x5, .int .i64 x6, .int .i64 x7, .int .i64 x8, .int .i64 x9, .int .i64 x10] (fun w' hS => hS.2) _ Tryz.underlying57 rfl (by kernel_rfl)) C3.out ?_
  try go_simp
  refine tkp 5 (.pointer (some ⟨q, i * 11, none⟩)) rfl (by kernel_rfl) q3 (fun w' hS => ?_) C3.out ?_
  · clear hS; go_simp
  try go_simp
  refine rd1 6 (by kernel_rfl) rfl fun K hK => ?_
  refine step_store_mid rfl 57 (.tmp 23) (.tmp 22) rfl q (i * 11) #[.string x0, .int .i64 x1, .int .i64 x2, .int .i64 x3, .int .i64 x4, .int .i64 x5, .int .i64 x6, .int .i64 x7, .int .i64 x8, .int .i64 x9, .int .i64 x10] (by first | rfl | simp [Act.eval, Act.put]) (by first | rfl | simp [Act.eval, Act.put]) HTO.out.1 (by kernel_rfl) (all_oneCell_toArray (Cd.one (⟨x0, ⟨x1, x2, x3, x4, x5, x6, x7, x8, x9, x10⟩⟩ : Cd))) ?_
  have hqb : q ≠ b := fun e => HNE.out (by rw [e]; rfl)
  have hqx : q < w.heap.size := HLT.out q rfl
  have F4 := hI (show Frm (fun j => j = q) w (WE.setCells q (i * 11) (⟨x0, ⟨x1, x2, x3, x4, x5, x6, x7, x8, x9, x10⟩⟩ : Cd).vs) from Frm.cells' (F := fun j => j = q) (g := q) (.inl rfl) _ _ _ (Frm.of_below (HB1.out.trans (B3.out.mono HB1.out.size))))
  have F5 := hI (show Frm (fun j => j = q) WE (WE.setCells q (i * 11) (⟨x0, ⟨x1, x2, x3, x4, x5, x6, x7, x8, x9, x10⟩⟩ : Cd).vs) from Frm.cells' (F := fun j => j = q) (g := q) (.inl rfl) _ _ _ (Frm.refl _ _))
  have C4 := hI (show (WE.setCells q (i * 11) (⟨x0, ⟨x1, x2, x3, x4, x5, x6, x7, x8, x9, x10⟩⟩ : Cd).vs).cell? ⟨b, 1, none⟩ = some (.slice (some ⟨q, 0, none⟩) n cap) ∧ St 57 w.heap.size #[.string x0, .int .i64 x1, .int .i64 x2, .int .i64 x3, .int .i64 x4, .int .i64 x5, .int .i64 x6, .int .i64 x7, .int .i64 x8, .int .i64 x9, .int .i64 x10] (WE.setCells q (i * 11) (⟨x0, ⟨x1, x2, x3, x4, x5, x6, x7, x8, x9, x10⟩⟩ : Cd).vs) from ⟨((HSC.out _ B3.out).frm F5.out (fun e => hqb e.symm)).cell rfl, St.frm (T := 57) C3.out.2 F5.out (by omega)⟩)
  have S4 := hI (show St 27 b #[v1, (.slice (some ⟨q, 0, none⟩) n cap), v3, v4] (WE.setCells q (i * 11) (⟨x0, ⟨x1, x2, x3, x4, x5, x6, x7, x8, x9, x10⟩⟩ : Cd).vs) from (HSC.out _ B3.out).frm F5.out (fun e => hqb e.symm))
  go_simp
  refine hK.out _ _ C4.out (fun S1 => ?_)
  clear hK K S1
  refine wpAnyH_done (by kernel_rfl) ?_ _
  go_wp2_with fail
  go_returns
  refine ⟨_, i, rfl, HPL.out, ?_, S4.out, F4.out.wide fun j e => .inl (by show Value.ownBlock _ = some j; rw [e]; rfl)⟩
  unfold putAt
  rw [if_pos HFF.out.symm]
  exact HTO.out.2
 | false =>
  have B3 := hI (show Below w1.heap.size w1 w2.drew from B2.out.drew)
  have C3 := hI (show St 57 w.heap.size #[.string x0, .int .i64 x1, .int .i64 x2, .int .i64 x3, .int .i64 x4, .int .i64 x5, .int .i64 x6, .int .i64 x7, .int .i64 x8, .int .i64 x9, .int .i64 x10] w2.drew from HSX.out _ B3.out)
  have c3 : w2.drew.cell? ⟨b, 1, none⟩ = some (.slice ao n cap) := (HSC.out _ B3.out).cell rfl
  go_wp2_with fail
  refine wp_region_held (S := (fun W => St 57 w.heap.size #[.string x0, .int .i64 x1, .int .i64 x2, .int .i64 x3, .int .i64 x4, .int .i64 x5, .int .i64 x6, .int .i64 x7, .int .i64 x8, .int .i64 x9, .int .i64 x10] W)) (by kernel_rfl) ?_
  change wpAnyH _ _ _ _ _ _ _ _ (World.drew _)
  generalize World.drew w2 = WE at B3 C3 c3 ⊢
  refine tkp 0 (.pointer (some ⟨b, 1, none⟩)) rfl (by kernel_rfl) q3 (fun w' hS => ?_) C3.out ?_
  · clear hS; go_simp
  try go_simp
  refine tkp 1 (.pointer (some ⟨b, 1, none⟩)) rfl (by kernel_rfl) q3 (fun w' hS => ?_) C3.out ?_
  · clear hS; go_simp
  try go_simp
  refine tkp 2 (.pointer (some ⟨b, 1, none⟩)) rfl (by kernel_rfl) q3 (fun w' hS => ?_) C3.out ?_
  · clear hS; go_simp
  try go_simp
  refine tkp 4 (.int .i64 i) rfl (by kernel_rfl) q3 (fun w' hS => ?_) C3.out ?_
  · clear hS; go_simp
  try go_simp
  refine tkl 5 (.agg #[.string x0, .int .i64 x1, .int .i64 x2, .int .i64 x3, .int .i64 x4, .int .i64 x5, .int .i64 x6, .int .i64 x7, .int .i64 x8, .int .i64 x9, .int .i64 x10]) rfl (by kernel_rfl) q3 (yld_boxi (by kernel_rfl) 57 (.tmp 4) rfl (w.heap.size) (by first | rfl | simp [Act.eval, Act.put]) 57 #[.string x0, .int .i64 x1, .int .i64 x2, .int .i64 x3, .int .i64 x4, .int .i64 x5, .int .i64 x6, .int .i64 x7, .int .i64 x8, .int .i64 x9, .int .i64 x10] (fun w' hS => hS) _ Tryz.underlying57 rfl (by kernel_rfl)) C3.out ?_
  try go_simp
  refine wpAnyH_ready (rs := [3, 6]) (by kernel_rfl) (by simp) ?_
  refine AllReadyH.cons rfl (fun K hK => ?_) (AllReadyH.cons rfl (fun K hK => ?_) AllReadyH.nil)
  · go_simp
    refine hK.out _ _ C3.out (fun S1 => ?_)
    clear hK K S1
    refine rd1 6 (by kernel_rfl) rfl fun K hK => ?_
    go_simp
    obtain ⟨W4, hw4⟩ : ∃ W, W = WE.alloc (.cells #[.string x0, .int .i64 x1, .int .i64 x2, .int .i64 x3, .int .i64 x4, .int .i64 x5, .int .i64 x6, .int .i64 x7, .int .i64 x8, .int .i64 x9, .int .i64 x10] 57 (0, 0)) := ⟨_, rfl⟩
    have B4 := hI (show Below w1.heap.size w1 W4 from by rw [hw4]; exact B3.out.alloc B3.out.size _)
    have N4 := hI (show St 57 WE.heap.size #[.string x0, .int .i64 x1, .int .i64 x2, .int .i64 x3, .int .i64 x4, .int .i64 x5, .int .i64 x6, .int .i64 x7, .int .i64 x8, .int .i64 x9, .int .i64 x10] W4 from by rw [hw4]; exact St.new _ _ _)
    obtain ⟨z, hz⟩ : ∃ z, z = WE.heap.size := ⟨_, rfl⟩
    have HZ := hI (show w1.heap.size ≤ z from by rw [hz]; exact B3.out.size)
    rw [show WE.alloc (.cells #[.string x0, .int .i64 x1, .int .i64 x2, .int .i64 x3, .int .i64 x4, .int .i64 x5, .int .i64 x6, .int .i64 x7, .int .i64 x8, .int .i64 x9, .int .i64 x10] 57) = W4 from hw4.symm, ← hz]
    rw [← hz] at N4
    have C4 := hI (HSX.out _ B4.out)
    have c4 : W4.cell? ⟨b, 1, none⟩ = some (.slice ao n cap) := (HSC.out _ B4.out).cell rfl
    clear hw4 hz
    refine hK.out _ _ C4.out (fun S1 => ?_)
    clear hK K S1
    refine rd1 7 (by kernel_rfl) rfl fun K hK => ?_
    go_simp
    refine (sxInsCached_any (.slice ao n cap) z i xs (⟨x0, ⟨x1, x2, x3, x4, x5, x6, x7, x8, x9, x10⟩⟩ : Cd) _ (HOW.out _ B4.out) (Nat.le_trans HBw.out B4.out.size) N4.out (fun e => by have := HLT.out z e; have h1 := HZ.out; have h2 := HB1.out.size; omega) HM.out HPL.out.le).mono ?_
    rintro e w9 ⟨v', rfl, ho, hf⟩
    obtain ⟨a2, n2, c2, rfl⟩ := ho.slice
    have HO := hI ho
    have HF := hI hf
    have S9 := hI (St.frm (HSC.out _ B4.out) hf HNE.out)
    have C9 := hI (show St 57 w.heap.size #[.string x0, .int .i64 x1, .int .i64 x2, .int .i64 x3, .int .i64 x4, .int .i64 x5, .int .i64 x6, .int .i64 x7, .int .i64 x8, .int .i64 x9, .int .i64 x10] w9 from St.frm (T := 57) C4.out hf (fun e => by have := HLT.out _ e; omega))
    have c9 : w9.cell? ⟨b, 1, none⟩ = some (.slice ao n cap) := S9.out.cell rfl
    have f9 := S9.out.free 1
    clear ho hf
    go_simp
    refine hK.out _ _ C9.out (fun S1 => ?_)
    clear hK K S1
    refine tkp 8 (.pointer (some ⟨b, 1, none⟩)) rfl (by kernel_rfl) q3 (fun w' hS => ?_) C9.out ?_
    · clear hS; go_simp
    try go_simp
    refine rd1 9 (by kernel_rfl) rfl fun K hK => ?_
    go_simp
    have C8 := hI (show St 57 w.heap.size #[.string x0, .int .i64 x1, .int .i64 x2, .int .i64 x3, .int .i64 x4, .int .i64 x5, .int .i64 x6, .int .i64 x7, .int .i64 x8, .int .i64 x9, .int .i64 x10] (w9.setCell ⟨b, 1, none⟩ (.slice a2 n2 c2)) from St.other (T := 57) C9.out _ _ _ (by have := HBB.out; omega))
    refine hK.out _ _ C8.out (fun S1 => ?_)
    clear hK K S1
    refine wpAnyH_done (by kernel_rfl) ?_ _
    go_wp2_with fail
    go_end0
    have FS : Frm (fun j => j = b) w9 (w9.setCell ⟨b, 1, none⟩ (.slice a2 n2 c2)) := Frm.setCell (F := fun j => j = b) (Frm.refl _ _) (.inl rfl) _
    refine ⟨.slice a2 n2 c2, i, rfl, HPL.out, ?_, S9.out.set 1 _, ?_⟩
    · unfold putAt
      rw [if_neg (by rw [← HFF.out]; decide)]
      refine FS.own HO.out fun j hj e => ?_
      subst e
      obtain ⟨cur, hc⟩ := HO.out.tag hj
      exact absurd (St.tag hc S9.out) (by decide)
    · exact ((Frm.of_below (HB1.out.trans (B4.out.mono HB1.out.size))).next (HF.out.wide fun j e => .inl e)).next (FS.wide fun j e => .inr e)
  · go_simp
    obtain ⟨W4, hw4⟩ : ∃ W, W = WE.alloc (.cells #[.string x0, .int .i64 x1, .int .i64 x2, .int .i64 x3, .int .i64 x4, .int .i64 x5, .int .i64 x6, .int .i64 x7, .int .i64 x8, .int .i64 x9, .int .i64 x10] 57 (0, 0)) := ⟨_, rfl⟩
    have B4 := hI (show Below w1.heap.size w1 W4 from by rw [hw4]; exact B3.out.alloc B3.out.size _)
    have N4 := hI (show St 57 WE.heap.size #[.string x0, .int .i64 x1, .int .i64 x2, .int .i64 x3, .int .i64 x4, .int .i64 x5, .int .i64 x6, .int .i64 x7, .int .i64 x8, .int .i64 x9, .int .i64 x10] W4 from by rw [hw4]; exact St.new _ _ _)
    obtain ⟨z, hz⟩ : ∃ z, z = WE.heap.size := ⟨_, rfl⟩
    have HZ := hI (show w1.heap.size ≤ z from by rw [hz]; exact B3.out.size)
    rw [show WE.alloc (.cells #[.string x0, .int .i64 x1, .int .i64 x2, .int .i64 x3, .int .i64 x4, .int .i64 x5, .int .i64 x6, .int .i64 x7, .int .i64 x8, .int .i64 x9, .int .i64 x10] 57) = W4 from hw4.symm, ← hz]
    rw [← hz] at N4
    have C4 := hI (HSX.out _ B4.out)
    have c4 : W4.cell? ⟨b, 1, none⟩ = some (.slice ao n cap) := (HSC.out _ B4.out).cell rfl
    clear hw4 hz
    refine hK.out _ _ C4.out (fun S1 => ?_)
    clear hK K S1
    refine rd1 3 (by kernel_rfl) rfl fun K hK => ?_
    go_simp
    refine hK.out _ _ C4.out (fun S1 => ?_)
    clear hK K S1
    refine rd1 7 (by kernel_rfl) rfl fun K hK => ?_
    go_simp
    refine (sxInsCached_any (.slice ao n cap) z i xs (⟨x0, ⟨x1, x2, x3, x4, x5, x6, x7, x8, x9, x10⟩⟩ : Cd) _ (HOW.out _ B4.out) (Nat.le_trans HBw.out B4.out.size) N4.out (fun e => by have := HLT.out z e; have h1 := HZ.out; have h2 := HB1.out.size; omega) HM.out HPL.out.le).mono ?_
    rintro e w9 ⟨v', rfl, ho, hf⟩
    obtain ⟨a2, n2, c2, rfl⟩ := ho.slice
    have HO := hI ho
    have HF := hI hf
    have S9 := hI (St.frm (HSC.out _ B4.out) hf HNE.out)
    have C9 := hI (show St 57 w.heap.size #[.string x0, .int .i64 x1, .int .i64 x2, .int .i64 x3, .int .i64 x4, .int .i64 x5, .int .i64 x6, .int .i64 x7, .int .i64 x8, .int .i64 x9, .int .i64 x10] w9 from St.frm (T := 57) C4.out hf (fun e => by have := HLT.out _ e; omega))
    have c9 : w9.cell? ⟨b, 1, none⟩ = some (.slice ao n cap) := S9.out.cell rfl
    have f9 := S9.out.free 1
    clear ho hf
    go_simp
    refine hK.out _ _ C9.out (fun S1 => ?_)
    clear hK K S1
    refine tkp 8 (.pointer (some ⟨b, 1, none⟩)) rfl (by kernel_rfl) q3 (fun w' hS => ?_) C9.out ?_
    · clear hS; go_simp
    try go_simp
    refine rd1 9 (by kernel_rfl) rfl fun K hK => ?_
    go_simp
    have C8 := hI (show St 57 w.heap.size #[.string x0, .int .i64 x1, .int .i64 x2, .int .i64 x3, .int .i64 x4, .int .i64 x5, .int .i64 x6, .int .i64 x7, .int .i64 x8, .int .i64 x9, .int .i64 x10] (w9.setCell ⟨b, 1, none⟩ (.slice a2 n2 c2)) from St.other (T := 57) C9.out _ _ _ (by have := HBB.out; omega))
    refine hK.out _ _ C8.out (fun S1 => ?_)
    clear hK K S1
    refine wpAnyH_done (by kernel_rfl) ?_ _
    go_wp2_with fail
    go_end0
    have FS : Frm (fun j => j = b) w9 (w9.setCell ⟨b, 1, none⟩ (.slice a2 n2 c2)) := Frm.setCell (F := fun j => j = b) (Frm.refl _ _) (.inl rfl) _
    refine ⟨.slice a2 n2 c2, i, rfl, HPL.out, ?_, S9.out.set 1 _, ?_⟩
    · unfold putAt
      rw [if_neg (by rw [← HFF.out]; decide)]
      refine FS.own HO.out fun j hj e => ?_
      subst e
      obtain ⟨cur, hc⟩ := HO.out.tag hj
      exact absurd (St.tag hc S9.out) (by decide)
    · exact ((Frm.of_below (HB1.out.trans (B4.out.mono HB1.out.size))).next (HF.out.wide fun j e => .inl e)).next (FS.wide fun j e => .inr e)
set_option maxRecDepth 100000 in
set_option maxHeartbeats 2000000 in
theorem inPutKnown_any {B b : Nat} (v1 v2 v3 v4 : Value) (xs : List Kn) (x : Kn) (g : Nat) (w : World) (h : OwnAt 61 3 Kn.vs B v3 xs w) (hs : St 27 b #[v1, v2, v3, v4] w) (hB : B ≤ w.heap.size) (hm : xs.length ≤ 1073741823) (eg : ∀ args w, (callFunc g args).run Tryz.prog w = .ok (.enter g args) w)
 (ho : ∀ (W : World) (y z : Kn), Calls Tryz.prog g #[.agg y.vs.toArray, .agg z.vs.toArray] W fun e w' => e = .returned (.int .i64 (ord ltKn y z)) ∧ Below W.heap.size W w')
 (hmono : ∀ (i j : Nat) y z, i ≤ j → xs[i]? = some y → xs[j]? = some z → ltKn z x = true → ltKn y x = true) :
 Calls Tryz.prog 155 #[.pointer (some ⟨b, 2, none⟩), .agg x.vs.toArray, .func (.func g) #[] #[]] w fun e w' => ∃ v' i, e = .returned (.tuple #[]) ∧ Place ltKn xs x i ∧ OwnAt 61 3 Kn.vs B v' (putAt ltKn xs x i) w' ∧ St 27 b #[v1, v2, v', v4] w' ∧ Frm (fun j => v3.ownBlock = some j ∨ j = b) w w' := by
 have hne : ¬ (v3.ownBlock = some b) := fun e => by
  obtain ⟨cur, hc⟩ := h.tag e
  exact absurd (St.tag hc hs) (by decide)
 obtain ⟨w1, hw1⟩ : ∃ w1, w1 = w.alloc (.cells x.vs.toArray 61 (0, 0)) := ⟨_, rfl⟩
 have hb1 : Below w.heap.size w w1 := by rw [hw1]; exact (Below.refl _ w).alloc (Nat.le_refl _) _
 have hst : St 61 w.heap.size x.vs.toArray w1 := by rw [hw1]; exact St.new w _ _
 have hlt := fun j (e : v3.ownBlock = some j) => (World.ownsRow.lt h j e).2
 obtain ⟨ao, n, cap, rfl⟩ := h.slice
 have hnl : n = xs.length := by
  rcases h.2 with ⟨e, e0⟩ | ⟨g, cap, cur, e, _⟩
  · cases e; rw [e0]
  · cases e; rfl
 have HN := hI hnl
 have HO0 := hI h
 have HOW := hI (show ∀ W, Below w1.heap.size w1 W → OwnAt 61 3 Kn.vs B (.slice ao n cap) xs W from fun W hW => h.below (hb1.trans (hW.mono hb1.size)))
 have HSC := hI (show ∀ W, Below w1.heap.size w1 W → St 27 b #[v1, v2, (.slice ao n cap), v4] W from fun W hW => hs.below (hb1.trans (hW.mono hb1.size)))
 have HSX := hI (show ∀ W, Below w1.heap.size w1 W → St 61 w.heap.size x.vs.toArray W from fun W hW => hst.below hW)
 have HBS := hI (show ∀ W, Below w1.heap.size w1 W → Calls Tryz.prog 178 #[.slice ao n cap, .agg x.vs.toArray, .func (.func g) #[] #[]] W fun e w' => (∃ i : Nat, e = .returned (.tuple #[.int .i64 i, .bool (isAt ltKn xs x i)]) ∧ Place ltKn xs x i) ∧ Below W.heap.size W w' from fun W hW => sxBsKnown_any _ xs x g W ((HOW.out W hW).rows Kn.vs_length) hm eg ho hmono)
 have HW1 := hI hw1
 have HB1 := hI hb1
 have HNE := hI hne
 have HLT := hI hlt
 have HBw := hI (Nat.le_trans hB hb1.size)
 have HM := hI hm
 have HBB := hI (show b < w.heap.size from St.lt hs)
 clear hw1 hb1 hst h hs hB hm ho hmono hne hlt hnl eg
 obtain ⟨x0, x1, x2⟩ := x
 show Calls Tryz.prog 155 #[.pointer (some ⟨b, 2, none⟩), .agg #[.string x0, .string x1, .string x2], .func (.func g) #[] #[]] w _
 go_enter Tryz.func155, Tryz.ntmps155
 go_wp2_with fail
 rw [show w.alloc (.cells #[.string x0, .string x1, .string x2] 61) = w1 from HW1.out.symm]
 have HBD := hI (show Below w1.heap.size w1 w1.drew from (Below.refl _ _).drew)
 have C0 := hI (show w1.drew.cell? ⟨b, 2, none⟩ = some (.slice ao n cap) ∧ St 61 w.heap.size #[.string x0, .string x1, .string x2] w1.drew from ⟨(HSC.out _ HBD.out).cell rfl, HSX.out _ HBD.out⟩)
 refine wp_region_held (S := (fun W => W.cell? ⟨b, 2, none⟩ = some (.slice ao n cap) ∧ St 61 w.heap.size #[.string x0, .string x1, .string x2] W)) (by kernel_rfl) ?_
 change wpAnyH _ _ _ _ _ _ _ _ (World.drew _)
 generalize World.drew w1 = WD at HBD C0 ⊢
 refine tkp 0 (.pointer (some ⟨b, 2, none⟩)) rfl (by kernel_rfl) q3 (fun w' hS => ?_) C0.out ?_
 · clear hS; go_simp
 try go_simp
 refine tkp 1 (.pointer (some ⟨b, 2, none⟩)) rfl (by kernel_rfl) q3 (fun w' hS => ?_) C0.out ?_
 · clear hS; go_simp
 try go_simp
 refine tkp 2 (.slice ao n cap) rfl (by kernel_rfl) q3 (fun w' hS => ?_) C0.out ?_
 · obtain ⟨s0, _⟩ := hS; go_simp
 try go_simp
 refine tkl 3 (.agg #[.string x0, .string x1, .string x2]) rfl (by kernel_rfl) q3 (yld_boxi (by kernel_rfl) 61 (.tmp 4) rfl (w.heap.size) (by first | rfl | simp [Act.eval, Act.put]) 61 #[.string x0, .string x1, .string x2] (fun w' hS => hS.2) _ Tryz.underlying61 rfl (by kernel_rfl)) C0.out ?_
 try go_simp
 refine tkp 4 (.func (.func g) #[] #[]) rfl (by kernel_rfl) q3 (fun w' hS => ?_) C0.out ?_
 · clear hS; go_simp
 try go_simp
 refine rd1 5 (by kernel_rfl) rfl fun K hK => ?_
 go_simp
 refine (HBS.out _ HBD.out).mono ?_
 rintro e w2 ⟨⟨i, rfl, hpl⟩, hb⟩
 have HPL := hI hpl
 have B2 := hI (HBD.out.trans (hb.mono HBD.out.size))
 have C2 := hI (show w2.cell? ⟨b, 2, none⟩ = some (.slice ao n cap) ∧ St 61 w.heap.size #[.string x0, .string x1, .string x2] w2 from ⟨(HSC.out _ B2.out).cell rfl, HSX.out _ B2.out⟩)
 clear hb hpl
 obtain ⟨f, hf⟩ : ∃ f, f = isAt ltKn xs (⟨x0, x1, x2⟩ : Kn) i := ⟨_, rfl⟩
 rw [← hf]
 have HFF := hI hf
 clear hf
 go_simp
 refine hK.out _ _ C2.out (fun S1 => ?_)
 clear hK K S1
 refine tkp 6 (.tuple #[.int .i64 i, .bool f]) rfl (by kernel_rfl) q3 (fun w' hS => ?_) C2.out ?_
 · clear hS; go_simp
 try go_simp
 refine tkp 7 (.int .i64 i) rfl (by kernel_rfl) q3 (fun w' hS => ?_) C2.out ?_
 · clear hS; go_simp
 try go_simp
 refine tkp 8 (.bool f) rfl (by kernel_rfl) q3 (fun w' hS => ?_) C2.out ?_
 · clear hS; go_simp
 try go_simp
 refine rd1 9 (by kernel_rfl) rfl fun K hK => ?_
 go_simp
 refine hK.out _ _ C2.out (fun S1 => ?_)
 clear hK K S1
 refine rd1 10 (by kernel_rfl) rfl fun K hK => ?_
 go_simp
 refine hK.out _ _ C2.out (fun S1 => ?_)
 clear hK K S1
 refine wpAnyH_done (by kernel_rfl) ?_ _
 cases f with
 | true =>
  have HIL := hI (isAt_lt HFF.out.symm)
  have i0 : (0 : Int) ≤ (i : Int) := by omega
  have i1 : (i : Int) < (n : Int) := by have := HIL.out; rw [← HN.out] at this; omega
  obtain ⟨q, hq⟩ : ∃ q, ao = some ⟨q, 0, none⟩ := by
   rcases HO0.out.2 with ⟨e, e0⟩ | ⟨g, cap, cur, e, _⟩
   · have := HIL.out; omega
   · cases e; exact ⟨_, rfl⟩
  subst hq
  have B3 := hI (show Below w1.heap.size w1 w2.drew from B2.out.drew)
  have HTO := hI (show w2.drew.there q (i * 3) 3 ∧ OwnAt 61 3 Kn.vs B (.slice (some ⟨q, 0, none⟩) n cap) (xs.set i (⟨x0, x1, x2⟩ : Kn)) (w2.drew.setCells q (i * 3) (⟨x0, x1, x2⟩ : Kn).vs) from by
   obtain ⟨q2, cap2, hq, hth, hown⟩ := (HOW.out _ B3.out).set' Kn.vs_length HIL.out (⟨x0, x1, x2⟩ : Kn)
   cases hq
   exact ⟨hth, hown⟩)
  have C3 := hI (show w2.drew.cell? ⟨b, 2, none⟩ = some (.slice (some ⟨q, 0, none⟩) n cap) ∧ St 61 w.heap.size #[.string x0, .string x1, .string x2] w2.drew from ⟨(HSC.out _ B3.out).cell rfl, HSX.out _ B3.out⟩)
  go_wp2_with fail
  refine wp_region_held (S := (fun W => W.cell? ⟨b, 2, none⟩ = some (.slice (some ⟨q, 0, none⟩) n cap) ∧ St 61 w.heap.size #[.string x0, .string x1, .string x2] W)) (by kernel_rfl) ?_
  change wpAnyH _ _ _ _ _ _ _ _ (World.drew _)
  generalize World.drew w2 = WE at B3 HTO C3 ⊢
  refine tkp 0 (.pointer (some ⟨b, 2, none⟩)) rfl (by kernel_rfl) q3 (fun w' hS => ?_) C3.out ?_
  · clear hS; go_simp
  try go_simp
  refine tkp 1 (.pointer (some ⟨b, 2, none⟩)) rfl (by kernel_rfl) q3 (fun w' hS => ?_) C3.out ?_
  · clear hS; go_simp
  try go_simp
  refine tkp 2 (.slice (some ⟨q, 0, none⟩) n cap) rfl (by kernel_rfl) q3 (fun w' hS => ?_) C3.out ?_
  · obtain ⟨s0, _⟩ := hS; go_simp
  try go_simp
  refine tkp 3 (.int .i64 i) rfl (by kernel_rfl) q3 (fun w' hS => ?_) C3.out ?_
  · clear hS; go_simp
  try go_simp
  refine tkl 4 (.agg #[.string x0, .string x1, .string x2]) rfl (by kernel_rfl) q3 (yld_boxi (by kernel_rfl) 61 (.tmp 4) rfl (w.heap.size) (by first | rfl | simp [Act.eval, Act.put]) 61 #[.string x0, .string x1, .string x2] (fun w' hS => hS.2) _ Tryz.underlying61 rfl (by kernel_rfl)) C3.out ?_
  try go_simp
  refine tkp 5 (.pointer (some ⟨q, i * 3, none⟩)) rfl (by kernel_rfl) q3 (fun w' hS => ?_) C3.out ?_
  · clear hS; go_simp
  try go_simp
  refine rd1 6 (by kernel_rfl) rfl fun K hK => ?_
  refine step_store_mid rfl 61 (.tmp 23) (.tmp 22) rfl q (i * 3) #[.string x0, .string x1, .string x2] (by first | rfl | simp [Act.eval, Act.put]) (by first | rfl | simp [Act.eval, Act.put]) HTO.out.1 (by kernel_rfl) (all_oneCell_toArray (Kn.one (⟨x0, x1, x2⟩ : Kn))) ?_
  have hqb : q ≠ b := fun e => HNE.out (by rw [e]; rfl)
  have hqx : q < w.heap.size := HLT.out q rfl
  have F4 := hI (show Frm (fun j => j = q) w (WE.setCells q (i * 3) (⟨x0, x1, x2⟩ : Kn).vs) from Frm.cells' (F := fun j => j = q) (g := q) (.inl rfl) _ _ _ (Frm.of_below (HB1.out.trans (B3.out.mono HB1.out.size))))
  have F5 := hI (show Frm (fun j => j = q) WE (WE.setCells q (i * 3) (⟨x0, x1, x2⟩ : Kn).vs) from Frm.cells' (F := fun j => j = q) (g := q) (.inl rfl) _ _ _ (Frm.refl _ _))
  have C4 := hI (show (WE.setCells q (i * 3) (⟨x0, x1, x2⟩ : Kn).vs).cell? ⟨b, 2, none⟩ = some (.slice (some ⟨q, 0, none⟩) n cap) ∧ St 61 w.heap.size #[.string x0, .string x1, .string x2] (WE.setCells q (i * 3) (⟨x0, x1, x2⟩ : Kn).vs) from ⟨((HSC.out _ B3.out).frm F5.out (fun e => hqb e.symm)).cell rfl, St.frm (T := 61) C3.out.2 F5.out (by omega)⟩)
  have S4 := hI (show St 27 b #[v1, v2, (.slice (some ⟨q, 0, none⟩) n cap), v4] (WE.setCells q (i * 3) (⟨x0, x1, x2⟩ : Kn).vs) from (HSC.out _ B3.out).frm F5.out (fun e => hqb e.symm))
  go_simp
  refine hK.out _ _ C4.out (fun S1 => ?_)
  clear hK K S1
  refine wpAnyH_done (by kernel_rfl) ?_ _
  go_wp2_with fail
  go_returns
  refine ⟨_, i, rfl, HPL.out, ?_, S4.out, F4.out.wide fun j e => .inl (by show Value.ownBlock _ = some j; rw [e]; rfl)⟩
  unfold putAt
  rw [if_pos HFF.out.symm]
  exact HTO.out.2
 | false =>
  have B3 := hI (show Below w1.heap.size w1 w2.drew from B2.out.drew)
  have C3 := hI (show St 61 w.heap.size #[.string x0, .string x1, .string x2] w2.drew from HSX.out _ B3.out)
  have c3 : w2.drew.cell? ⟨b, 2, none⟩ = some (.slice ao n cap) := (HSC.out _ B3.out).cell rfl
  go_wp2_with fail
  refine wp_region_held (S := (fun W => St 61 w.heap.size #[.string x0, .string x1, .string x2] W)) (by kernel_rfl) ?_
  change wpAnyH _ _ _ _ _ _ _ _ (World.drew _)
  generalize World.drew w2 = WE at B3 C3 c3 ⊢
  refine tkp 0 (.pointer (some ⟨b, 2, none⟩)) rfl (by kernel_rfl) q3 (fun w' hS => ?_) C3.out ?_
  · clear hS; go_simp
  try go_simp
  refine tkp 1 (.pointer (some ⟨b, 2, none⟩)) rfl (by kernel_rfl) q3 (fun w' hS => ?_) C3.out ?_
  · clear hS; go_simp
  try go_simp
  refine tkp 2 (.pointer (some ⟨b, 2, none⟩)) rfl (by kernel_rfl) q3 (fun w' hS => ?_) C3.out ?_
  · clear hS; go_simp
  try go_simp
  refine tkp 4 (.int .i64 i) rfl (by kernel_rfl) q3 (fun w' hS => ?_) C3.out ?_
  · clear hS; go_simp
  try go_simp
  refine tkl 5 (.agg #[.string x0, .string x1, .string x2]) rfl (by kernel_rfl) q3 (yld_boxi (by kernel_rfl) 61 (.tmp 4) rfl (w.heap.size) (by first | rfl | simp [Act.eval, Act.put]) 61 #[.string x0, .string x1, .string x2] (fun w' hS => hS) _ Tryz.underlying61 rfl (by kernel_rfl)) C3.out ?_
  try go_simp
  refine wpAnyH_ready (rs := [3, 6]) (by kernel_rfl) (by simp) ?_
  refine AllReadyH.cons rfl (fun K hK => ?_) (AllReadyH.cons rfl (fun K hK => ?_) AllReadyH.nil)
  · go_simp
    refine hK.out _ _ C3.out (fun S1 => ?_)
    clear hK K S1
    refine rd1 6 (by kernel_rfl) rfl fun K hK => ?_
    go_simp
    obtain ⟨W4, hw4⟩ : ∃ W, W = WE.alloc (.cells #[.string x0, .string x1, .string x2] 61 (0, 0)) := ⟨_, rfl⟩
    have B4 := hI (show Below w1.heap.size w1 W4 from by rw [hw4]; exact B3.out.alloc B3.out.size _)
    have N4 := hI (show St 61 WE.heap.size #[.string x0, .string x1, .string x2] W4 from by rw [hw4]; exact St.new _ _ _)
    obtain ⟨z, hz⟩ : ∃ z, z = WE.heap.size := ⟨_, rfl⟩
    have HZ := hI (show w1.heap.size ≤ z from by rw [hz]; exact B3.out.size)
    rw [show WE.alloc (.cells #[.string x0, .string x1, .string x2] 61) = W4 from hw4.symm, ← hz]
    rw [← hz] at N4
    have C4 := hI (HSX.out _ B4.out)
    have c4 : W4.cell? ⟨b, 2, none⟩ = some (.slice ao n cap) := (HSC.out _ B4.out).cell rfl
    clear hw4 hz
    refine hK.out _ _ C4.out (fun S1 => ?_)
    clear hK K S1
    refine rd1 7 (by kernel_rfl) rfl fun K hK => ?_
    go_simp
    refine (sxInsKnown_any (.slice ao n cap) z i xs (⟨x0, x1, x2⟩ : Kn) _ (HOW.out _ B4.out) (Nat.le_trans HBw.out B4.out.size) N4.out (fun e => by have := HLT.out z e; have h1 := HZ.out; have h2 := HB1.out.size; omega) HM.out HPL.out.le).mono ?_
    rintro e w9 ⟨v', rfl, ho, hf⟩
    obtain ⟨a2, n2, c2, rfl⟩ := ho.slice
    have HO := hI ho
    have HF := hI hf
    have S9 := hI (St.frm (HSC.out _ B4.out) hf HNE.out)
    have C9 := hI (show St 61 w.heap.size #[.string x0, .string x1, .string x2] w9 from St.frm (T := 61) C4.out hf (fun e => by have := HLT.out _ e; omega))
    have c9 : w9.cell? ⟨b, 2, none⟩ = some (.slice ao n cap) := S9.out.cell rfl
    have f9 := S9.out.free 2
    clear ho hf
    go_simp
    refine hK.out _ _ C9.out (fun S1 => ?_)
    clear hK K S1
    refine tkp 8 (.pointer (some ⟨b, 2, none⟩)) rfl (by kernel_rfl) q3 (fun w' hS => ?_) C9.out ?_
    · clear hS; go_simp
    try go_simp
    refine rd1 9 (by kernel_rfl) rfl fun K hK => ?_
    go_simp
    have C8 := hI (show St 61 w.heap.size #[.string x0, .string x1, .string x2] (w9.setCell ⟨b, 2, none⟩ (.slice a2 n2 c2)) from St.other (T := 61) C9.out _ _ _ (by have := HBB.out; omega))
    refine hK.out _ _ C8.out (fun S1 => ?_)
    clear hK K S1
    refine wpAnyH_done (by kernel_rfl) ?_ _
    go_wp2_with fail
    go_end0
    have FS : Frm (fun j => j = b) w9 (w9.setCell ⟨b, 2, none⟩ (.slice a2 n2 c2)) := Frm.setCell (F := fun j => j = b) (Frm.refl _ _) (.inl rfl) _
    refine ⟨.slice a2 n2 c2, i, rfl, HPL.out, ?_, S9.out.set 2 _, ?_⟩
    · unfold putAt
      rw [if_neg (by rw [← HFF.out]; decide)]
      refine FS.own HO.out fun j hj e => ?_
      subst e
      obtain ⟨cur, hc⟩ := HO.out.tag hj
      exact absurd (St.tag hc S9.out) (by decide)
    · exact ((Frm.of_below (HB1.out.trans (B4.out.mono HB1.out.size))).next (HF.out.wide fun j e => .inl e)).next (FS.wide fun j e => .inr e)
  · go_simp
    obtain ⟨W4, hw4⟩ : ∃ W, W = WE.alloc (.cells #[.string x0, .string x1, .string x2] 61 (0, 0)) := ⟨_, rfl⟩
    have B4 := hI (show Below w1.heap.size w1 W4 from by rw [hw4]; exact B3.out.alloc B3.out.size _)
    have N4 := hI (show St 61 WE.heap.size #[.string x0, .string x1, .string x2] W4 from by rw [hw4]; exact St.new _ _ _)
    obtain ⟨z, hz⟩ : ∃ z, z = WE.heap.size := ⟨_, rfl⟩
    have HZ := hI (show w1.heap.size ≤ z from by rw [hz]; exact B3.out.size)
    rw [show WE.alloc (.cells #[.string x0, .string x1, .string x2] 61) = W4 from hw4.symm, ← hz]
    rw [← hz] at N4
    have C4 := hI (HSX.out _ B4.out)
    have c4 : W4.cell? ⟨b, 2, none⟩ = some (.slice ao n cap) := (HSC.out _ B4.out).cell rfl
    clear hw4 hz
    refine hK.out _ _ C4.out (fun S1 => ?_)
    clear hK K S1
    refine rd1 3 (by kernel_rfl) rfl fun K hK => ?_
    go_simp
    refine hK.out _ _ C4.out (fun S1 => ?_)
    clear hK K S1
    refine rd1 7 (by kernel_rfl) rfl fun K hK => ?_
    go_simp
    refine (sxInsKnown_any (.slice ao n cap) z i xs (⟨x0, x1, x2⟩ : Kn) _ (HOW.out _ B4.out) (Nat.le_trans HBw.out B4.out.size) N4.out (fun e => by have := HLT.out z e; have h1 := HZ.out; have h2 := HB1.out.size; omega) HM.out HPL.out.le).mono ?_
    rintro e w9 ⟨v', rfl, ho, hf⟩
    obtain ⟨a2, n2, c2, rfl⟩ := ho.slice
    have HO := hI ho
    have HF := hI hf
    have S9 := hI (St.frm (HSC.out _ B4.out) hf HNE.out)
    have C9 := hI (show St 61 w.heap.size #[.string x0, .string x1, .string x2] w9 from St.frm (T := 61) C4.out hf (fun e => by have := HLT.out _ e; omega))
    have c9 : w9.cell? ⟨b, 2, none⟩ = some (.slice ao n cap) := S9.out.cell rfl
    have f9 := S9.out.free 2
    clear ho hf
    go_simp
    refine hK.out _ _ C9.out (fun S1 => ?_)
    clear hK K S1
    refine tkp 8 (.pointer (some ⟨b, 2, none⟩)) rfl (by kernel_rfl) q3 (fun w' hS => ?_) C9.out ?_
    · clear hS; go_simp
    try go_simp
    refine rd1 9 (by kernel_rfl) rfl fun K hK => ?_
    go_simp
    have C8 := hI (show St 61 w.heap.size #[.string x0, .string x1, .string x2] (w9.setCell ⟨b, 2, none⟩ (.slice a2 n2 c2)) from St.other (T := 61) C9.out _ _ _ (by have := HBB.out; omega))
    refine hK.out _ _ C8.out (fun S1 => ?_)
    clear hK K S1
    refine wpAnyH_done (by kernel_rfl) ?_ _
    go_wp2_with fail
    go_end0
    have FS : Frm (fun j => j = b) w9 (w9.setCell ⟨b, 2, none⟩ (.slice a2 n2 c2)) := Frm.setCell (F := fun j => j = b) (Frm.refl _ _) (.inl rfl) _
    refine ⟨.slice a2 n2 c2, i, rfl, HPL.out, ?_, S9.out.set 2 _, ?_⟩
    · unfold putAt
      rw [if_neg (by rw [← HFF.out]; decide)]
      refine FS.own HO.out fun j hj e => ?_
      subst e
      obtain ⟨cur, hc⟩ := HO.out.tag hj
      exact absurd (St.tag hc S9.out) (by decide)
    · exact ((Frm.of_below (HB1.out.trans (B4.out.mono HB1.out.size))).next (HF.out.wide fun j e => .inl e)).next (FS.wide fun j e => .inr e)
set_option maxRecDepth 100000 in
set_option maxHeartbeats 2000000 in
theorem inPutPlaced_any {B b : Nat} (v1 v2 v3 v4 : Value) (xs : List Bk) (x : Bk) (g : Nat) (w : World) (h : OwnAt 66 3 Bk.vs B v4 xs w) (hs : St 27 b #[v1, v2, v3, v4] w) (hB : B ≤ w.heap.size) (hm : xs.length ≤ 1073741823) (eg : ∀ args w, (callFunc g args).run Tryz.prog w = .ok (.enter g args) w)
 (ho : ∀ (W : World) (y z : Bk), Calls Tryz.prog g #[.agg y.vs.toArray, .agg z.vs.toArray] W fun e w' => e = .returned (.int .i64 (ord ltBk y z)) ∧ Below W.heap.size W w')
 (hmono : ∀ (i j : Nat) y z, i ≤ j → xs[i]? = some y → xs[j]? = some z → ltBk z x = true → ltBk y x = true) :
 Calls Tryz.prog 159 #[.pointer (some ⟨b, 3, none⟩), .agg x.vs.toArray, .func (.func g) #[] #[]] w fun e w' => ∃ v' i, e = .returned (.tuple #[]) ∧ Place ltBk xs x i ∧ OwnAt 66 3 Bk.vs B v' (putAt ltBk xs x i) w' ∧ St 27 b #[v1, v2, v3, v'] w' ∧ Frm (fun j => v4.ownBlock = some j ∨ j = b) w w' := by
 have hne : ¬ (v4.ownBlock = some b) := fun e => by
  obtain ⟨cur, hc⟩ := h.tag e
  exact absurd (St.tag hc hs) (by decide)
 obtain ⟨w1, hw1⟩ : ∃ w1, w1 = w.alloc (.cells x.vs.toArray 66 (0, 0)) := ⟨_, rfl⟩
 have hb1 : Below w.heap.size w w1 := by rw [hw1]; exact (Below.refl _ w).alloc (Nat.le_refl _) _
 have hst : St 66 w.heap.size x.vs.toArray w1 := by rw [hw1]; exact St.new w _ _
 have hlt := fun j (e : v4.ownBlock = some j) => (World.ownsRow.lt h j e).2
 obtain ⟨ao, n, cap, rfl⟩ := h.slice
 have hnl : n = xs.length := by
  rcases h.2 with ⟨e, e0⟩ | ⟨g, cap, cur, e, _⟩
  · cases e; rw [e0]
  · cases e; rfl
 have HN := hI hnl
 have HO0 := hI h
 have HOW := hI (show ∀ W, Below w1.heap.size w1 W → OwnAt 66 3 Bk.vs B (.slice ao n cap) xs W from fun W hW => h.below (hb1.trans (hW.mono hb1.size)))
 have HSC := hI (show ∀ W, Below w1.heap.size w1 W → St 27 b #[v1, v2, v3, (.slice ao n cap)] W from fun W hW => hs.below (hb1.trans (hW.mono hb1.size)))
 have HSX := hI (show ∀ W, Below w1.heap.size w1 W → St 66 w.heap.size x.vs.toArray W from fun W hW => hst.below hW)
 have HBS := hI (show ∀ W, Below w1.heap.size w1 W → Calls Tryz.prog 180 #[.slice ao n cap, .agg x.vs.toArray, .func (.func g) #[] #[]] W fun e w' => (∃ i : Nat, e = .returned (.tuple #[.int .i64 i, .bool (isAt ltBk xs x i)]) ∧ Place ltBk xs x i) ∧ Below W.heap.size W w' from fun W hW => sxBsPlaced_any _ xs x g W ((HOW.out W hW).rows Bk.vs_length) hm eg ho hmono)
 have HW1 := hI hw1
 have HB1 := hI hb1
 have HNE := hI hne
 have HLT := hI hlt
 have HBw := hI (Nat.le_trans hB hb1.size)
 have HM := hI hm
 have HBB := hI (show b < w.heap.size from St.lt hs)
 clear hw1 hb1 hst h hs hB hm ho hmono hne hlt hnl eg
 obtain ⟨x0, x1, x2⟩ := x
 show Calls Tryz.prog 159 #[.pointer (some ⟨b, 3, none⟩), .agg #[.string x0, .int .i64 x1, .int .i64 x2], .func (.func g) #[] #[]] w _
 go_enter Tryz.func159, Tryz.ntmps159
 go_wp2_with fail
 rw [show w.alloc (.cells #[.string x0, .int .i64 x1, .int .i64 x2] 66) = w1 from HW1.out.symm]
 have HBD := hI (show Below w1.heap.size w1 w1.drew from (Below.refl _ _).drew)
 have C0 := hI (show w1.drew.cell? ⟨b, 3, none⟩ = some (.slice ao n cap) ∧ St 66 w.heap.size #[.string x0, .int .i64 x1, .int .i64 x2] w1.drew from ⟨(HSC.out _ HBD.out).cell rfl, HSX.out _ HBD.out⟩)
 refine wp_region_held (S := (fun W => W.cell? ⟨b, 3, none⟩ = some (.slice ao n cap) ∧ St 66 w.heap.size #[.string x0, .int .i64 x1, .int .i64 x2] W)) (by kernel_rfl) ?_
 change wpAnyH _ _ _ _ _ _ _ _ (World.drew _)
 generalize World.drew w1 = WD at HBD C0 ⊢
 refine tkp 0 (.pointer (some ⟨b, 3, none⟩)) rfl (by kernel_rfl) q3 (fun w' hS => ?_) C0.out ?_
 · clear hS; go_simp
 try go_simp
 refine tkp 1 (.pointer (some ⟨b, 3, none⟩)) rfl (by kernel_rfl) q3 (fun w' hS => ?_) C0.out ?_
 · clear hS; go_simp
 try go_simp
 refine tkp 2 (.slice ao n cap) rfl (by kernel_rfl) q3 (fun w' hS => ?_) C0.out ?_
 · obtain ⟨s0, _⟩ := hS; go_simp
 try go_simp
 refine tkl 3 (.agg #[.string x0, .int .i64 x1, .int .i64 x2]) rfl (by kernel_rfl) q3 (yld_boxi (by kernel_rfl) 66 (.tmp 4) rfl (w.heap.size) (by first | rfl | simp [Act.eval, Act.put]) 66 #[.string x0, .int .i64 x1, .int .i64 x2] (fun w' hS => hS.2) _ Tryz.underlying66 rfl (by kernel_rfl)) C0.out ?_
 try go_simp
 refine tkp 4 (.func (.func g) #[] #[]) rfl (by kernel_rfl) q3 (fun w' hS => ?_) C0.out ?_
 · clear hS; go_simp
 try go_simp
 refine rd1 5 (by kernel_rfl) rfl fun K hK => ?_
 go_simp
 refine (HBS.out _ HBD.out).mono ?_
 rintro e w2 ⟨⟨i, rfl, hpl⟩, hb⟩
 have HPL := hI hpl
 have B2 := hI (HBD.out.trans (hb.mono HBD.out.size))
 have C2 := hI (show w2.cell? ⟨b, 3, none⟩ = some (.slice ao n cap) ∧ St 66 w.heap.size #[.string x0, .int .i64 x1, .int .i64 x2] w2 from ⟨(HSC.out _ B2.out).cell rfl, HSX.out _ B2.out⟩)
 clear hb hpl
 obtain ⟨f, hf⟩ : ∃ f, f = isAt ltBk xs (⟨x0, x1, x2⟩ : Bk) i := ⟨_, rfl⟩
 rw [← hf]
 have HFF := hI hf
 clear hf
 go_simp
 refine hK.out _ _ C2.out (fun S1 => ?_)
 clear hK K S1
 refine tkp 6 (.tuple #[.int .i64 i, .bool f]) rfl (by kernel_rfl) q3 (fun w' hS => ?_) C2.out ?_
 · clear hS; go_simp
 try go_simp
 refine tkp 7 (.int .i64 i) rfl (by kernel_rfl) q3 (fun w' hS => ?_) C2.out ?_
 · clear hS; go_simp
 try go_simp
 refine tkp 8 (.bool f) rfl (by kernel_rfl) q3 (fun w' hS => ?_) C2.out ?_
 · clear hS; go_simp
 try go_simp
 refine rd1 9 (by kernel_rfl) rfl fun K hK => ?_
 go_simp
 refine hK.out _ _ C2.out (fun S1 => ?_)
 clear hK K S1
 refine rd1 10 (by kernel_rfl) rfl fun K hK => ?_
 go_simp
 refine hK.out _ _ C2.out (fun S1 => ?_)
 clear hK K S1
 refine wpAnyH_done (by kernel_rfl) ?_ _
 cases f with
 | true =>
  have HIL := hI (isAt_lt HFF.out.symm)
  have i0 : (0 : Int) ≤ (i : Int) := by omega
  have i1 : (i : Int) < (n : Int) := by have := HIL.out; rw [← HN.out] at this; omega
  obtain ⟨q, hq⟩ : ∃ q, ao = some ⟨q, 0, none⟩ := by
   rcases HO0.out.2 with ⟨e, e0⟩ | ⟨g, cap, cur, e, _⟩
   · have := HIL.out; omega
   · cases e; exact ⟨_, rfl⟩
  subst hq
  have B3 := hI (show Below w1.heap.size w1 w2.drew from B2.out.drew)
  have HTO := hI (show w2.drew.there q (i * 3) 3 ∧ OwnAt 66 3 Bk.vs B (.slice (some ⟨q, 0, none⟩) n cap) (xs.set i (⟨x0, x1, x2⟩ : Bk)) (w2.drew.setCells q (i * 3) (⟨x0, x1, x2⟩ : Bk).vs) from by
   obtain ⟨q2, cap2, hq, hth, hown⟩ := (HOW.out _ B3.out).set' Bk.vs_length HIL.out (⟨x0, x1, x2⟩ : Bk)
   cases hq
   exact ⟨hth, hown⟩)
  have C3 := hI (show w2.drew.cell? ⟨b, 3, none⟩ = some (.slice (some ⟨q, 0, none⟩) n cap) ∧ St 66 w.heap.size #[.string x0, .int .i64 x1, .int .i64 x2] w2.drew from ⟨(HSC.out _ B3.out).cell rfl, HSX.out _ B3.out⟩)
  go_wp2_with fail
  refine wp_region_held (S := (fun W => W.cell? ⟨b, 3, none⟩ = some (.slice (some ⟨q, 0, none⟩) n cap) ∧ St 66 w.heap.size #[.string x0, .int .i64 x1, .int .i64 x2] W)) (by kernel_rfl) ?_
  change wpAnyH _ _ _ _ _ _ _ _ (World.drew _)
  generalize World.drew w2 = WE at B3 HTO C3 ⊢
  refine tkp 0 (.pointer (some ⟨b, 3, none⟩)) rfl (by kernel_rfl) q3 (fun w' hS => ?_) C3.out ?_
  · clear hS; go_simp
  try go_simp
  refine tkp 1 (.pointer (some ⟨b, 3, none⟩)) rfl (by kernel_rfl) q3 (fun w' hS => ?_) C3.out ?_
  · clear hS; go_simp
  try go_simp
  refine tkp 2 (.slice (some ⟨q, 0, none⟩) n cap) rfl (by kernel_rfl) q3 (fun w' hS => ?_) C3.out ?_
  · obtain ⟨s0, _⟩ := hS; go_simp
  try go_simp
  refine tkp 3 (.int .i64 i) rfl (by kernel_rfl) q3 (fun w' hS => ?_) C3.out ?_
  · clear hS; go_simp
  try go_simp
  refine tkl 4 (.agg #[.string x0, .int .i64 x1, .int .i64 x2]) rfl (by kernel_rfl) q3 (yld_boxi (by kernel_rfl) 66 (.tmp 4) rfl (w.heap.size) (by first | rfl | simp [Act.eval, Act.put]) 66 #[.string x0, .int .i64 x1, .int .i64 x2] (fun w' hS => hS.2) _ Tryz.underlying66 rfl (by kernel_rfl)) C3.out ?_
  try go_simp
  refine tkp 5 (.pointer (some ⟨q, i * 3, none⟩)) rfl (by kernel_rfl) q3 (fun w' hS => ?_) C3.out ?_
  · clear hS; go_simp
  try go_simp
  refine rd1 6 (by kernel_rfl) rfl fun K hK => ?_
  refine step_store_mid rfl 66 (.tmp 23) (.tmp 22) rfl q (i * 3) #[.string x0, .int .i64 x1, .int .i64 x2] (by first | rfl | simp [Act.eval, Act.put]) (by first | rfl | simp [Act.eval, Act.put]) HTO.out.1 (by kernel_rfl) (all_oneCell_toArray (Bk.one (⟨x0, x1, x2⟩ : Bk))) ?_
  have hqb : q ≠ b := fun e => HNE.out (by rw [e]; rfl)
  have hqx : q < w.heap.size := HLT.out q rfl
  have F4 := hI (show Frm (fun j => j = q) w (WE.setCells q (i * 3) (⟨x0, x1, x2⟩ : Bk).vs) from Frm.cells' (F := fun j => j = q) (g := q) (.inl rfl) _ _ _ (Frm.of_below (HB1.out.trans (B3.out.mono HB1.out.size))))
  have F5 := hI (show Frm (fun j => j = q) WE (WE.setCells q (i * 3) (⟨x0, x1, x2⟩ : Bk).vs) from Frm.cells' (F := fun j => j = q) (g := q) (.inl rfl) _ _ _ (Frm.refl _ _))
  have C4 := hI (show (WE.setCells q (i * 3) (⟨x0, x1, x2⟩ : Bk).vs).cell? ⟨b, 3, none⟩ = some (.slice (some ⟨q, 0, none⟩) n cap) ∧ St 66 w.heap.size #[.string x0, .int .i64 x1, .int .i64 x2] (WE.setCells q (i * 3) (⟨x0, x1, x2⟩ : Bk).vs) from ⟨((HSC.out _ B3.out).frm F5.out (fun e => hqb e.symm)).cell rfl, St.frm (T := 66) C3.out.2 F5.out (by omega)⟩)
  have S4 := hI (show St 27 b #[v1, v2, v3, (.slice (some ⟨q, 0, none⟩) n cap)] (WE.setCells q (i * 3) (⟨x0, x1, x2⟩ : Bk).vs) from (HSC.out _ B3.out).frm F5.out (fun e => hqb e.symm))
  go_simp
  refine hK.out _ _ C4.out (fun S1 => ?_)
  clear hK K S1
  refine wpAnyH_done (by kernel_rfl) ?_ _
  go_wp2_with fail
  go_returns
  refine ⟨_, i, rfl, HPL.out, ?_, S4.out, F4.out.wide fun j e => .inl (by show Value.ownBlock _ = some j; rw [e]; rfl)⟩
  unfold putAt
  rw [if_pos HFF.out.symm]
  exact HTO.out.2
 | false =>
  have B3 := hI (show Below w1.heap.size w1 w2.drew from B2.out.drew)
  have C3 := hI (show St 66 w.heap.size #[.string x0, .int .i64 x1, .int .i64 x2] w2.drew from HSX.out _ B3.out)
  have c3 : w2.drew.cell? ⟨b, 3, none⟩ = some (.slice ao n cap) := (HSC.out _ B3.out).cell rfl
  go_wp2_with fail
  refine wp_region_held (S := (fun W => St 66 w.heap.size #[.string x0, .int .i64 x1, .int .i64 x2] W)) (by kernel_rfl) ?_
  change wpAnyH _ _ _ _ _ _ _ _ (World.drew _)
  generalize World.drew w2 = WE at B3 C3 c3 ⊢
  refine tkp 0 (.pointer (some ⟨b, 3, none⟩)) rfl (by kernel_rfl) q3 (fun w' hS => ?_) C3.out ?_
  · clear hS; go_simp
  try go_simp
  refine tkp 1 (.pointer (some ⟨b, 3, none⟩)) rfl (by kernel_rfl) q3 (fun w' hS => ?_) C3.out ?_
  · clear hS; go_simp
  try go_simp
  refine tkp 2 (.pointer (some ⟨b, 3, none⟩)) rfl (by kernel_rfl) q3 (fun w' hS => ?_) C3.out ?_
  · clear hS; go_simp
  try go_simp
  refine tkp 4 (.int .i64 i) rfl (by kernel_rfl) q3 (fun w' hS => ?_) C3.out ?_
  · clear hS; go_simp
  try go_simp
  refine tkl 5 (.agg #[.string x0, .int .i64 x1, .int .i64 x2]) rfl (by kernel_rfl) q3 (yld_boxi (by kernel_rfl) 66 (.tmp 4) rfl (w.heap.size) (by first | rfl | simp [Act.eval, Act.put]) 66 #[.string x0, .int .i64 x1, .int .i64 x2] (fun w' hS => hS) _ Tryz.underlying66 rfl (by kernel_rfl)) C3.out ?_
  try go_simp
  refine wpAnyH_ready (rs := [3, 6]) (by kernel_rfl) (by simp) ?_
  refine AllReadyH.cons rfl (fun K hK => ?_) (AllReadyH.cons rfl (fun K hK => ?_) AllReadyH.nil)
  · go_simp
    refine hK.out _ _ C3.out (fun S1 => ?_)
    clear hK K S1
    refine rd1 6 (by kernel_rfl) rfl fun K hK => ?_
    go_simp
    obtain ⟨W4, hw4⟩ : ∃ W, W = WE.alloc (.cells #[.string x0, .int .i64 x1, .int .i64 x2] 66 (0, 0)) := ⟨_, rfl⟩
    have B4 := hI (show Below w1.heap.size w1 W4 from by rw [hw4]; exact B3.out.alloc B3.out.size _)
    have N4 := hI (show St 66 WE.heap.size #[.string x0, .int .i64 x1, .int .i64 x2] W4 from by rw [hw4]; exact St.new _ _ _)
    obtain ⟨z, hz⟩ : ∃ z, z = WE.heap.size := ⟨_, rfl⟩
    have HZ := hI (show w1.heap.size ≤ z from by rw [hz]; exact B3.out.size)
    rw [show WE.alloc (.cells #[.string x0, .int .i64 x1, .int .i64 x2] 66) = W4 from hw4.symm, ← hz]
    rw [← hz] at N4
    have C4 := hI (HSX.out _ B4.out)
    have c4 : W4.cell? ⟨b, 3, none⟩ = some (.slice ao n cap) := (HSC.out _ B4.out).cell rfl
    clear hw4 hz
    refine hK.out _ _ C4.out (fun S1 => ?_)
    clear hK K S1
    refine rd1 7 (by kernel_rfl) rfl fun K hK => ?_
    go_simp
    refine (sxInsPlaced_any (.slice ao n cap) z i xs (⟨x0, x1, x2⟩ : Bk) _ (HOW.out _ B4.out) (Nat.le_trans HBw.out B4.out.size) N4.out (fun e => by have := HLT.out z e; have h1 := HZ.out; have h2 := HB1.out.size; omega) HM.out HPL.out.le).mono ?_
    rintro e w9 ⟨v', rfl, ho, hf⟩
    obtain ⟨a2, n2, c2, rfl⟩ := ho.slice
    have HO := hI ho
    have HF := hI hf
    have S9 := hI (St.frm (HSC.out _ B4.out) hf HNE.out)
    have C9 := hI (show St 66 w.heap.size #[.string x0, .int .i64 x1, .int .i64 x2] w9 from St.frm (T := 66) C4.out hf (fun e => by have := HLT.out _ e; omega))
    have c9 : w9.cell? ⟨b, 3, none⟩ = some (.slice ao n cap) := S9.out.cell rfl
    have f9 := S9.out.free 3
    clear ho hf
    go_simp
    refine hK.out _ _ C9.out (fun S1 => ?_)
    clear hK K S1
    refine tkp 8 (.pointer (some ⟨b, 3, none⟩)) rfl (by kernel_rfl) q3 (fun w' hS => ?_) C9.out ?_
    · clear hS; go_simp
    try go_simp
    refine rd1 9 (by kernel_rfl) rfl fun K hK => ?_
    go_simp
    have C8 := hI (show St 66 w.heap.size #[.string x0, .int .i64 x1, .int .i64 x2] (w9.setCell ⟨b, 3, none⟩ (.slice a2 n2 c2)) from St.other (T := 66) C9.out _ _ _ (by have := HBB.out; omega))
    refine hK.out _ _ C8.out (fun S1 => ?_)
    clear hK K S1
    refine wpAnyH_done (by kernel_rfl) ?_ _
    go_wp2_with fail
    go_end0
    have FS : Frm (fun j => j = b) w9 (w9.setCell ⟨b, 3, none⟩ (.slice a2 n2 c2)) := Frm.setCell (F := fun j => j = b) (Frm.refl _ _) (.inl rfl) _
    refine ⟨.slice a2 n2 c2, i, rfl, HPL.out, ?_, S9.out.set 3 _, ?_⟩
    · unfold putAt
      rw [if_neg (by rw [← HFF.out]; decide)]
      refine FS.own HO.out fun j hj e => ?_
      subst e
      obtain ⟨cur, hc⟩ := HO.out.tag hj
      exact absurd (St.tag hc S9.out) (by decide)
    · exact ((Frm.of_below (HB1.out.trans (B4.out.mono HB1.out.size))).next (HF.out.wide fun j e => .inl e)).next (FS.wide fun j e => .inr e)
  · go_simp
    obtain ⟨W4, hw4⟩ : ∃ W, W = WE.alloc (.cells #[.string x0, .int .i64 x1, .int .i64 x2] 66 (0, 0)) := ⟨_, rfl⟩
    have B4 := hI (show Below w1.heap.size w1 W4 from by rw [hw4]; exact B3.out.alloc B3.out.size _)
    have N4 := hI (show St 66 WE.heap.size #[.string x0, .int .i64 x1, .int .i64 x2] W4 from by rw [hw4]; exact St.new _ _ _)
    obtain ⟨z, hz⟩ : ∃ z, z = WE.heap.size := ⟨_, rfl⟩
    have HZ := hI (show w1.heap.size ≤ z from by rw [hz]; exact B3.out.size)
    rw [show WE.alloc (.cells #[.string x0, .int .i64 x1, .int .i64 x2] 66) = W4 from hw4.symm, ← hz]
    rw [← hz] at N4
    have C4 := hI (HSX.out _ B4.out)
    have c4 : W4.cell? ⟨b, 3, none⟩ = some (.slice ao n cap) := (HSC.out _ B4.out).cell rfl
    clear hw4 hz
    refine hK.out _ _ C4.out (fun S1 => ?_)
    clear hK K S1
    refine rd1 3 (by kernel_rfl) rfl fun K hK => ?_
    go_simp
    refine hK.out _ _ C4.out (fun S1 => ?_)
    clear hK K S1
    refine rd1 7 (by kernel_rfl) rfl fun K hK => ?_
    go_simp
    refine (sxInsPlaced_any (.slice ao n cap) z i xs (⟨x0, x1, x2⟩ : Bk) _ (HOW.out _ B4.out) (Nat.le_trans HBw.out B4.out.size) N4.out (fun e => by have := HLT.out z e; have h1 := HZ.out; have h2 := HB1.out.size; omega) HM.out HPL.out.le).mono ?_
    rintro e w9 ⟨v', rfl, ho, hf⟩
    obtain ⟨a2, n2, c2, rfl⟩ := ho.slice
    have HO := hI ho
    have HF := hI hf
    have S9 := hI (St.frm (HSC.out _ B4.out) hf HNE.out)
    have C9 := hI (show St 66 w.heap.size #[.string x0, .int .i64 x1, .int .i64 x2] w9 from St.frm (T := 66) C4.out hf (fun e => by have := HLT.out _ e; omega))
    have c9 : w9.cell? ⟨b, 3, none⟩ = some (.slice ao n cap) := S9.out.cell rfl
    have f9 := S9.out.free 3
    clear ho hf
    go_simp
    refine hK.out _ _ C9.out (fun S1 => ?_)
    clear hK K S1
    refine tkp 8 (.pointer (some ⟨b, 3, none⟩)) rfl (by kernel_rfl) q3 (fun w' hS => ?_) C9.out ?_
    · clear hS; go_simp
    try go_simp
    refine rd1 9 (by kernel_rfl) rfl fun K hK => ?_
    go_simp
    have C8 := hI (show St 66 w.heap.size #[.string x0, .int .i64 x1, .int .i64 x2] (w9.setCell ⟨b, 3, none⟩ (.slice a2 n2 c2)) from St.other (T := 66) C9.out _ _ _ (by have := HBB.out; omega))
    refine hK.out _ _ C8.out (fun S1 => ?_)
    clear hK K S1
    refine wpAnyH_done (by kernel_rfl) ?_ _
    go_wp2_with fail
    go_end0
    have FS : Frm (fun j => j = b) w9 (w9.setCell ⟨b, 3, none⟩ (.slice a2 n2 c2)) := Frm.setCell (F := fun j => j = b) (Frm.refl _ _) (.inl rfl) _
    refine ⟨.slice a2 n2 c2, i, rfl, HPL.out, ?_, S9.out.set 3 _, ?_⟩
    · unfold putAt
      rw [if_neg (by rw [← HFF.out]; decide)]
      refine FS.own HO.out fun j hj e => ?_
      subst e
      obtain ⟨cur, hc⟩ := HO.out.tag hj
      exact absurd (St.tag hc S9.out) (by decide)
    · exact ((Frm.of_below (HB1.out.trans (B4.out.mono HB1.out.size))).next (HF.out.wide fun j e => .inl e)).next (FS.wide fun j e => .inr e)
end Go.Proofs.YtngfknplljedeaaGreat
namespace Go.Proofs.YtngfknplljedeaaGreat
open Go.RowKit
section
variable {α : Type}
theorem pw_mono {lt : α → α → Bool} (ht : ∀ a b c, lt a b = true → lt b c = true → lt a c = true) {xs : List α} (h : xs.Pairwise fun a b => lt a b = true) (x : α) :
 ∀ (i j : Nat) y z, i ≤ j → xs[i]? = some y → xs[j]? = some z → lt z x = true → lt y x = true := by
 intro i j y z hij hy hz hzx
 by_cases e : i = j
 · subst e
   rw [hy] at hz
   cases hz
   exact hzx
 · obtain ⟨hi, rfl⟩ := List.getElem?_eq_some_iff.1 hy
   obtain ⟨hj, rfl⟩ := List.getElem?_eq_some_iff.1 hz
   exact ht _ _ _ (List.pairwise_iff_getElem.1 h i j hi hj (by omega)) hzx
theorem tw_place {p : α → Bool} : ∀ {xs : List α} {i : Nat}, i ≤ xs.length → (∀ (j : Nat) y, j < i → xs[j]? = some y → p y = true) → (∀ (j : Nat) y, i ≤ j → xs[j]? = some y → p y = false) → xs.takeWhile p = xs.take i ∧ xs.dropWhile p = xs.drop i
 | [], i, _, _, _ => by simp
 | y :: xs, 0, _, _, h2 => by
  have := h2 0 y (Nat.le_refl _) rfl
  simp [this]
 | y :: xs, i + 1, hl, h1, h2 => by
  have := h1 0 y (Nat.succ_pos _) rfl
  obtain ⟨e1, e2⟩ := tw_place (p := p) (xs := xs) (i := i) (by simpa using hl) (fun j z hj hz => h1 (j + 1) z (by omega) (by simpa using hz)) (fun j z hj hz => h2 (j + 1) z (by omega) (by simpa using hz))
  rw [List.takeWhile_cons, List.dropWhile_cons, if_pos this, if_pos this, e1, e2]
  exact ⟨rfl, rfl⟩
theorem putAt_eq {lt : α → α → Bool} {xs : List α} {x : α} {i : Nat} (keep : α → Bool) (h : Place lt xs x i) (hs : xs.Pairwise fun a b => lt a b = true)
 (hk : ∀ y ∈ xs, keep y = false ↔ (lt y x = false ∧ lt x y = false)) (hl : ∀ z y, lt z x = false → lt x z = false → lt z y = true → lt y x = false → lt x y = true) (hr : ∀ y z, lt y x = false → lt x y = false → lt z y = true → lt z x = true) :
 putAt lt xs x i = putIn (fun y => !lt y x) keep x xs := by
 obtain ⟨e1, e2⟩ := tw_place (p := fun y => lt y x) h.le h.low h.high
 rw [putIn_eq]
 simp only [Bool.not_not]
 rw [e1, e2]
 have f1 : (xs.take i).filter keep = xs.take i := List.filter_eq_self.2 fun y hy => by
  obtain ⟨j, hj, rfl⟩ := List.getElem_of_mem hy
  have hj2 : j < i ∧ j < xs.length := by rw [List.length_take] at hj; omega
  rw [List.getElem_take] at hy ⊢
  have hjl := hj2.2
  cases hkk : keep xs[j] with
  | true => rfl
  | false =>
   have := ((hk _ (List.mem_of_mem_take hy)).1 hkk).1
   rw [h.low j _ hj2.1 (List.getElem?_eq_getElem _)] at this
   cases this
 rw [f1]
 unfold putAt
 cases hx : xs[i]? with
 | none =>
  have hi : xs.length ≤ i := List.getElem?_eq_none_iff.1 hx
  rw [if_neg (by unfold isAt; rw [hx]; exact Bool.false_ne_true), List.drop_eq_nil_of_le hi]
  rfl
 | some z =>
  obtain ⟨hi, hz⟩ := List.getElem?_eq_some_iff.1 hx
  have hd : xs.drop i = z :: xs.drop (i + 1) := by rw [List.drop_eq_getElem_cons hi, hz]
  have hzx := h.high i z (Nat.le_refl _) hx
  have hzm : z ∈ xs := List.mem_of_getElem? hx
  have hpw : ∀ y ∈ xs.drop (i + 1), lt z y = true := by
   have := hs.sublist (List.drop_sublist i xs)
   rw [hd, List.pairwise_cons] at this
   exact this.1
  have hmem : ∀ y ∈ xs.drop (i + 1), y ∈ xs ∧ lt y x = false := fun y hy => by
   obtain ⟨j, hj, rfl⟩ := List.getElem_of_mem hy
   rw [List.getElem_drop] at hy ⊢
   exact ⟨List.mem_of_mem_drop hy, h.high _ _ (by omega) (List.getElem?_eq_getElem _)⟩
  by_cases ha : isAt lt xs x i = true
  · rw [if_pos ha]
    unfold isAt at ha
    rw [hx] at ha
    have hz0 := ord_zero.1 (of_decide_eq_true ha)
    have hkz : keep z = false := (hk z hzm).2 hz0
    have f2 : (xs.drop (i + 1)).filter keep = xs.drop (i + 1) := List.filter_eq_self.2 fun y hy => by
     cases hkk : keep y with
     | true => rfl
     | false =>
      have := ((hk y (hmem y hy).1).1 hkk)
      rw [hl z y hz0.1 hz0.2 (hpw y hy) this.1] at this
      exact absurd this.2 (by decide)
    rw [hd, List.filter_cons, hkz, f2, List.set_eq_take_append_cons_drop, if_pos hi]
    rfl
  · rw [if_neg ha, hd]
    have hkz : keep z = true := by
     cases hkk : keep z with
     | true => rfl
     | false =>
      exfalso
      apply ha
      unfold isAt
      rw [hx]
      exact decide_eq_true (ord_zero.2 ((hk z hzm).1 hkk))
    have f2 : (z :: xs.drop (i + 1)).filter keep = z :: xs.drop (i + 1) := by
     rw [List.filter_cons, hkz, if_pos rfl]
     congr 1
     refine List.filter_eq_self.2 fun y hy => ?_
     cases hkk : keep y with
     | true => rfl
     | false =>
      have := ((hk y (hmem y hy).1).1 hkk)
      rw [hr y z this.1 this.2 (hpw y hy)] at hzx
      cases hzx
    rw [f2]
end
end Go.Proofs.YtngfknplljedeaaGreat
namespace Go.Proofs.YtngfknplljedeaaGreat
open Go.RowKit
theorem ltHd_key {a b : Hd} : (ltHd a b = false ∧ ltHd b a = false) ↔ (a.epoch = b.epoch ∧ a.serial = b.serial) := by
 constructor
 · exact fun h => ltHd_tri a b h.1 h.2
 · intro h
   unfold ltHd
   rw [h.1, h.2]
   simp
theorem ltKn_key {a b : Kn} : (ltKn a b = false ∧ ltKn b a = false) ↔ (a.dir = b.dir ∧ a.name = b.name) := by
 constructor
 · exact fun h => ltKn_tri a b h.1 h.2
 · intro h
   unfold ltKn
   rw [h.1, h.2]
   simp [slt_irr]
theorem ltBk_key {a b : Bk} : (ltBk a b = false ∧ ltBk b a = false) ↔ (a.up = b.up ∧ a.no = b.no) := by
 constructor
 · exact fun h => ltBk_tri a b h.1 h.2
 · intro h
   unfold ltBk
   rw [h.1, h.2]
   simp [slt_irr]
theorem ltCd_key {a b : Cd} : (ltCd a b = false ∧ ltCd b a = false) ↔ a.up = b.up := by
 constructor
 · exact fun h => slt_tri a.up b.up h.1 h.2
 · intro h
   unfold ltCd
   rw [h]
   simp [slt_irr]
theorem ltHd_sub {a b : Hd} (h : a.epoch = b.epoch ∧ a.serial = b.serial) (y : Hd) : ltHd y a = ltHd y b ∧ ltHd a y = ltHd b y := by
 unfold ltHd
 rw [h.1, h.2]
 exact ⟨rfl, rfl⟩
theorem ltKn_sub {a b : Kn} (h : a.dir = b.dir ∧ a.name = b.name) (y : Kn) : ltKn y a = ltKn y b ∧ ltKn a y = ltKn b y := by
 unfold ltKn
 rw [h.1, h.2]
 exact ⟨rfl, rfl⟩
theorem ltBk_sub {a b : Bk} (h : a.up = b.up ∧ a.no = b.no) (y : Bk) : ltBk y a = ltBk y b ∧ ltBk a y = ltBk b y := by
 unfold ltBk
 rw [h.1, h.2]
 exact ⟨rfl, rfl⟩
theorem ltCd_sub {a b : Cd} (h : a.up = b.up) (y : Cd) : ltCd y a = ltCd y b ∧ ltCd a y = ltCd b y := by
 unfold ltCd
 rw [h]
 exact ⟨rfl, rfl⟩
theorem putAt_held {xs : List Hd} {x : Hd} {i : Nat} (h : Place ltHd xs x i) (hs : xs.Pairwise fun a b => ltHd a b = true) (hn : ∀ y ∈ xs, pHeld x.epoch x.serial y = false) : putAt ltHd xs x i = putIn (fun y => !ltHd y x) (fun _ => true) x xs := by
 refine putAt_eq _ h hs (fun y hy => ⟨fun e => (by cases e), fun e => ?_⟩) (fun z y h1 h2 h3 _ => ?_) (fun y z h1 h2 h3 => ?_)
 · have := ltHd_key.1 e
   have h2 := hn y hy
   simp [pHeld, this.1, this.2] at h2
 · rw [← (ltHd_sub (ltHd_key.1 ⟨h1, h2⟩) y).2]; exact h3
 · rw [← (ltHd_sub (ltHd_key.1 ⟨h1, h2⟩) z).1]; exact h3
theorem putAt_name {xs : List Kn} {x : Kn} {i : Nat} (h : Place ltKn xs x i) (hs : xs.Pairwise fun a b => ltKn a b = true) : putAt ltKn xs x i = putIn (fun y => !ltKn y x) (fun y => !(decide (y.dir = x.dir) && decide (y.name = x.name))) x xs := by
 refine putAt_eq _ h hs (fun y hy => ?_) (fun z y h1 h2 h3 _ => ?_) (fun y z h1 h2 h3 => ?_)
 · rw [ltKn_key]; simp
 · rw [← (ltKn_sub (ltKn_key.1 ⟨h1, h2⟩) y).2]; exact h3
 · rw [← (ltKn_sub (ltKn_key.1 ⟨h1, h2⟩) z).1]; exact h3
theorem putAt_block {xs : List Bk} {x : Bk} {i : Nat} (h : Place ltBk xs x i) (hs : xs.Pairwise fun a b => ltBk a b = true) : putAt ltBk xs x i = putIn (fun y => !ltBk y x) (fun y => !(decide (y.up = x.up) && decide (y.no = x.no))) x xs := by
 refine putAt_eq _ h hs (fun y hy => ?_) (fun z y h1 h2 h3 _ => ?_) (fun y z h1 h2 h3 => ?_)
 · rw [ltBk_key]; simp
 · rw [← (ltBk_sub (ltBk_key.1 ⟨h1, h2⟩) y).2]; exact h3
 · rw [← (ltBk_sub (ltBk_key.1 ⟨h1, h2⟩) z).1]; exact h3
theorem putAt_file {xs : List Cd} {x : Cd} {i : Nat} (h : Place ltCd xs x i) (hs : xs.Pairwise fun a b => slt a.up b.up = true) : putAt ltCd xs x i = putIn (fun y => !slt y.up x.up) (fun y => !decide (y.up = x.up)) x xs := by
 refine putAt_eq _ h hs (fun y hy => ?_) (fun z y h1 h2 h3 _ => ?_) (fun y z h1 h2 h3 => ?_)
 · rw [ltCd_key]; simp
 · rw [← (ltCd_sub (ltCd_key.1 ⟨h1, h2⟩) y).2]; exact h3
 · rw [← (ltCd_sub (ltCd_key.1 ⟨h1, h2⟩) z).1]; exact h3
theorem ltCd_trans (a b c : Cd) (h : ltCd a b = true) (g : ltCd b c = true) : ltCd a c = true := slt_trans _ _ _ h g
def OwnC (B b : Nat) (vs : List Value) (c : CA) (w : World) : Prop :=
 ∃ v1 v2 v3 v4, vs = [v1, v2, v3, v4] ∧ St 27 b #[v1, v2, v3, v4] w ∧ OwnAt 49 3 Hd.vs B v1 c.helds w ∧ OwnAt 57 11 Cd.vs B v2 c.files w ∧ OwnAt 61 3 Kn.vs B v3 c.names w ∧ OwnAt 66 3 Bk.vs B v4 c.blocks w
theorem OwnC.below {B b : Nat} {vs : List Value} {c : CA} {w w' : World} (h : OwnC B b vs c w) (hb : Below w.heap.size w w') : OwnC B b vs c w' := by
 obtain ⟨v1, v2, v3, v4, e, s, o1, o2, o3, o4⟩ := h
 exact ⟨v1, v2, v3, v4, e, s.below hb, o1.below hb, o2.below hb, o3.below hb, o4.below hb⟩
theorem OwnC.rows {B b : Nat} {vs : List Value} {c : CA} {w : World} (h : OwnC B b vs c w) : CAt w.heap.size vs c w := by
 obtain ⟨v1, v2, v3, v4, e, _, o1, o2, o3, o4⟩ := h
 exact ⟨v1, v2, v3, v4, e, o1.rows Hd.vs_length, o2.rows Cd.vs_length, o3.rows Kn.vs_length, o4.rows Bk.vs_length⟩
theorem own_far {α β : Type} {T T' : TypeId} {k k' B B' : Nat} {f : α → List Value} {f' : β → List Value} {v v' : Value} {xs : List α} {ys : List β} {w : World} (h : OwnAt T k f B v xs w) (h' : OwnAt T' k' f' B' v' ys w) (hT : T ≠ T') : ∀ j, v.ownBlock = some j → ¬ v'.ownBlock = some j := fun j e e' => by
 obtain ⟨c, hc⟩ := h.tag e
 obtain ⟨c', hc'⟩ := h'.tag e'
 exact hT (St.tag hc hc')
theorem OwnAt.frm {α : Type} {T : TypeId} {k B : Nat} {f : α → List Value} {v : Value} {xs : List α} {F : Nat → Prop} {w w' : World} (h : OwnAt T k f B v xs w) (hF : Frm F w w') (hn : ∀ j, v.ownBlock = some j → ¬ F j) : OwnAt T k f B v xs w' := hF.own h hn
theorem own_box {α : Type} {T T' : TypeId} {k B b : Nat} {f : α → List Value} {v : Value} {xs : List α} {c : Array Value} {w : World} (h : OwnAt T k f B v xs w) (hs : St T' b c w) (hT : T ≠ T') : ¬ v.ownBlock = some b := fun e => by
 obtain ⟨c', hc⟩ := h.tag e
 exact hT (St.tag hc hs)
theorem OwnC.turn1 {B b : Nat} {v1 v2 v3 v4 v' : Value} {c : CA} {l : List Hd} {w w' : World} (s : St 27 b #[v1, v2, v3, v4] w) (o1 : OwnAt 49 3 Hd.vs B v1 c.helds w) (o2 : OwnAt 57 11 Cd.vs B v2 c.files w) (o3 : OwnAt 61 3 Kn.vs B v3 c.names w) (o4 : OwnAt 66 3 Bk.vs B v4 c.blocks w)
 (ho : OwnAt 49 3 Hd.vs B v' l w') (hs : St 27 b #[v', v2, v3, v4] w') (hf : Frm (fun j => v1.ownBlock = some j ∨ j = b) w w') (hb : B ≤ b) : OwnC B b [v', v2, v3, v4] ⟨l, c.files, c.names, c.blocks⟩ w' ∧ Below B w w' := by
 have f2 := o2.frm hf (fun j e e' => by rcases e' with e' | e'; exact own_far o2 o1 (by decide) j e e'; rw [e'] at e; exact own_box o2 s (by decide) e)
 have f3 := o3.frm hf (fun j e e' => by rcases e' with e' | e'; exact own_far o3 o1 (by decide) j e e'; rw [e'] at e; exact own_box o3 s (by decide) e)
 have f4 := o4.frm hf (fun j e e' => by rcases e' with e' | e'; exact own_far o4 o1 (by decide) j e e'; rw [e'] at e; exact own_box o4 s (by decide) e)
 refine ⟨⟨v', v2, v3, v4, rfl, hs, ho, f2, f3, f4⟩, hf.below (Nat.le_trans hb (Nat.le_of_lt s.lt)) fun j e => ?_⟩
 rcases e with e | e
 · exact (World.ownsRow.lt o1 j e).1
 · rw [e]; exact hb
theorem OwnC.turn2 {B b : Nat} {v1 v2 v3 v4 v' : Value} {c : CA} {l : List Cd} {w w' : World} (s : St 27 b #[v1, v2, v3, v4] w) (o1 : OwnAt 49 3 Hd.vs B v1 c.helds w) (o2 : OwnAt 57 11 Cd.vs B v2 c.files w) (o3 : OwnAt 61 3 Kn.vs B v3 c.names w) (o4 : OwnAt 66 3 Bk.vs B v4 c.blocks w)
 (ho : OwnAt 57 11 Cd.vs B v' l w') (hs : St 27 b #[v1, v', v3, v4] w') (hf : Frm (fun j => v2.ownBlock = some j ∨ j = b) w w') (hb : B ≤ b) : OwnC B b [v1, v', v3, v4] ⟨c.helds, l, c.names, c.blocks⟩ w' ∧ Below B w w' := by
 have f1 := o1.frm hf (fun j e e' => by rcases e' with e' | e'; exact own_far o1 o2 (by decide) j e e'; rw [e'] at e; exact own_box o1 s (by decide) e)
 have f3 := o3.frm hf (fun j e e' => by rcases e' with e' | e'; exact own_far o3 o2 (by decide) j e e'; rw [e'] at e; exact own_box o3 s (by decide) e)
 have f4 := o4.frm hf (fun j e e' => by rcases e' with e' | e'; exact own_far o4 o2 (by decide) j e e'; rw [e'] at e; exact own_box o4 s (by decide) e)
 refine ⟨⟨v1, v', v3, v4, rfl, hs, f1, ho, f3, f4⟩, hf.below (Nat.le_trans hb (Nat.le_of_lt s.lt)) fun j e => ?_⟩
 rcases e with e | e
 · exact (World.ownsRow.lt o2 j e).1
 · rw [e]; exact hb
theorem OwnC.turn3 {B b : Nat} {v1 v2 v3 v4 v' : Value} {c : CA} {l : List Kn} {w w' : World} (s : St 27 b #[v1, v2, v3, v4] w) (o1 : OwnAt 49 3 Hd.vs B v1 c.helds w) (o2 : OwnAt 57 11 Cd.vs B v2 c.files w) (o3 : OwnAt 61 3 Kn.vs B v3 c.names w) (o4 : OwnAt 66 3 Bk.vs B v4 c.blocks w)
 (ho : OwnAt 61 3 Kn.vs B v' l w') (hs : St 27 b #[v1, v2, v', v4] w') (hf : Frm (fun j => v3.ownBlock = some j ∨ j = b) w w') (hb : B ≤ b) : OwnC B b [v1, v2, v', v4] ⟨c.helds, c.files, l, c.blocks⟩ w' ∧ Below B w w' := by
 have f1 := o1.frm hf (fun j e e' => by rcases e' with e' | e'; exact own_far o1 o3 (by decide) j e e'; rw [e'] at e; exact own_box o1 s (by decide) e)
 have f2 := o2.frm hf (fun j e e' => by rcases e' with e' | e'; exact own_far o2 o3 (by decide) j e e'; rw [e'] at e; exact own_box o2 s (by decide) e)
 have f4 := o4.frm hf (fun j e e' => by rcases e' with e' | e'; exact own_far o4 o3 (by decide) j e e'; rw [e'] at e; exact own_box o4 s (by decide) e)
 refine ⟨⟨v1, v2, v', v4, rfl, hs, f1, f2, ho, f4⟩, hf.below (Nat.le_trans hb (Nat.le_of_lt s.lt)) fun j e => ?_⟩
 rcases e with e | e
 · exact (World.ownsRow.lt o3 j e).1
 · rw [e]; exact hb
theorem OwnC.turn4 {B b : Nat} {v1 v2 v3 v4 v' : Value} {c : CA} {l : List Bk} {w w' : World} (s : St 27 b #[v1, v2, v3, v4] w) (o1 : OwnAt 49 3 Hd.vs B v1 c.helds w) (o2 : OwnAt 57 11 Cd.vs B v2 c.files w) (o3 : OwnAt 61 3 Kn.vs B v3 c.names w) (o4 : OwnAt 66 3 Bk.vs B v4 c.blocks w)
 (ho : OwnAt 66 3 Bk.vs B v' l w') (hs : St 27 b #[v1, v2, v3, v'] w') (hf : Frm (fun j => v4.ownBlock = some j ∨ j = b) w w') (hb : B ≤ b) : OwnC B b [v1, v2, v3, v'] ⟨c.helds, c.files, c.names, l⟩ w' ∧ Below B w w' := by
 have f1 := o1.frm hf (fun j e e' => by rcases e' with e' | e'; exact own_far o1 o4 (by decide) j e e'; rw [e'] at e; exact own_box o1 s (by decide) e)
 have f2 := o2.frm hf (fun j e e' => by rcases e' with e' | e'; exact own_far o2 o4 (by decide) j e e'; rw [e'] at e; exact own_box o2 s (by decide) e)
 have f3 := o3.frm hf (fun j e e' => by rcases e' with e' | e'; exact own_far o3 o4 (by decide) j e e'; rw [e'] at e; exact own_box o3 s (by decide) e)
 refine ⟨⟨v1, v2, v3, v', rfl, hs, f1, f2, f3, ho⟩, hf.below (Nat.le_trans hb (Nat.le_of_lt s.lt)) fun j e => ?_⟩
 rcases e with e | e
 · exact (World.ownsRow.lt o4 j e).1
 · rw [e]; exact hb
set_option maxRecDepth 100000 in
set_option maxHeartbeats 400000 in
theorem inBarec1_any (u : ByteArray) (q : Nat) (x : Kn) (W : World) (c0 : W.cell? ⟨q, 0, none⟩ = some (.string u)) (l0 : q < W.heap.size) :
 Calls Tryz.prog 152 #[.agg x.vs.toArray, .pointer (some ⟨q, 0, none⟩)] W fun e w' => e = .returned (.bool ((fun (y : Kn) => decide (y.dir = u)) x)) ∧ Below W.heap.size W w' := by
 obtain ⟨x0, x1, x2⟩ := x
 show Calls Tryz.prog 152 #[.agg #[.string x0, .string x1, .string x2], .pointer (some ⟨q, 0, none⟩)] W fun e w' => e = .returned (.bool (decide (x0 = u))) ∧ Below W.heap.size W w'
 by_cases h0 : x0 = u
 · have d0 := str_is h0
   rw [decide_eq_true h0]
   clear h0
   go_enter Tryz.func152, Tryz.ntmps152
   go_wp2
   go_ret
   exact ⟨rfl, (Below.refl _ W).alloc (Nat.le_refl _) _⟩
 · have d0 := str_not h0
   rw [decide_eq_false h0]
   clear h0
   go_enter Tryz.func152, Tryz.ntmps152
   go_wp2
   go_ret
   exact ⟨rfl, (Below.refl _ W).alloc (Nat.le_refl _) _⟩
theorem inBarec1_pred (u : ByteArray) (q : Nat) (F : Nat → Prop) (w : World) (c0 : w.cell? ⟨q, 0, none⟩ = some (.string u)) (l0 : q < w.heap.size) (hq : ¬ F q) : PredW Tryz.prog 152 #[.pointer (some ⟨q, 0, none⟩)] Kn.vs (fun (y : Kn) => decide (y.dir = u)) F w :=
 fun W x hW => inBarec1_any u q x W ((hW.cell (q := ⟨q, 0, none⟩) l0 hq).trans c0) (Nat.lt_of_lt_of_le l0 hW.size)
set_option maxRecDepth 100000 in
set_option maxHeartbeats 400000 in
theorem inBarec2_any (u : ByteArray) (q : Nat) (x : Bk) (W : World) (c0 : W.cell? ⟨q, 0, none⟩ = some (.string u)) (l0 : q < W.heap.size) :
 Calls Tryz.prog 153 #[.agg x.vs.toArray, .pointer (some ⟨q, 0, none⟩)] W fun e w' => e = .returned (.bool ((fun (y : Bk) => decide (y.up = u)) x)) ∧ Below W.heap.size W w' := by
 obtain ⟨x0, x1, x2⟩ := x
 show Calls Tryz.prog 153 #[.agg #[.string x0, .int .i64 x1, .int .i64 x2], .pointer (some ⟨q, 0, none⟩)] W fun e w' => e = .returned (.bool (decide (x0 = u))) ∧ Below W.heap.size W w'
 by_cases h0 : x0 = u
 · have d0 := str_is h0
   rw [decide_eq_true h0]
   clear h0
   go_enter Tryz.func153, Tryz.ntmps153
   go_wp2
   go_ret
   exact ⟨rfl, (Below.refl _ W).alloc (Nat.le_refl _) _⟩
 · have d0 := str_not h0
   rw [decide_eq_false h0]
   clear h0
   go_enter Tryz.func153, Tryz.ntmps153
   go_wp2
   go_ret
   exact ⟨rfl, (Below.refl _ W).alloc (Nat.le_refl _) _⟩
theorem inBarec2_pred (u : ByteArray) (q : Nat) (F : Nat → Prop) (w : World) (c0 : w.cell? ⟨q, 0, none⟩ = some (.string u)) (l0 : q < w.heap.size) (hq : ¬ F q) : PredW Tryz.prog 153 #[.pointer (some ⟨q, 0, none⟩)] Bk.vs (fun (y : Bk) => decide (y.up = u)) F w :=
 fun W x hW => inBarec2_any u q x W ((hW.cell (q := ⟨q, 0, none⟩) l0 hq).trans c0) (Nat.lt_of_lt_of_le l0 hW.size)
set_option maxRecDepth 100000 in
set_option maxHeartbeats 1000000 in
theorem inBare_no {B b : Nat} (v1 v2 v3 v4 : Value) (c : CA) (u : ByteArray) (w : World) (s : St 27 b #[v1, v2, v3, v4] w) (o1 : OwnAt 49 3 Hd.vs B v1 c.helds w) (o2 : OwnAt 57 11 Cd.vs B v2 c.files w) (o3 : OwnAt 61 3 Kn.vs B v3 c.names w) (o4 : OwnAt 66 3 Bk.vs B v4 c.blocks w) (hb : B ≤ b) (hm : c.lens 1073741823) (hf : fnd (pFile u) c.files < 0) :
 Calls Tryz.prog 115 #[.pointer (some ⟨b, 0, none⟩), .string u] w fun e w' => e = .returned (.bool false) ∧ Below w.heap.size w w' := by
 have hr : c.files.any (pFile u) = false := by rw [any_fnd]; exact decide_eq_false (by omega)
 obtain ⟨w1, hw1⟩ : ∃ w1, w1 = w.alloc (.cells #[.string u] 9 (0, 0)) := ⟨_, rfl⟩
 have hb1 : Below w.heap.size w w1 := by rw [hw1]; exact (Below.refl _ w).alloc (Nat.le_refl _) _
 have hst : St 9 w.heap.size #[.string u] w1 := by rw [hw1]; exact St.new w _ _
 have HS := hI (show ∀ W, Below w1.heap.size w1 W → W.cell? ⟨b, 1, none⟩ = some v2 ∧ W.cell? ⟨w.heap.size, 0, none⟩ = some (.string u) from fun W hW => ⟨(s.below (hb1.trans (hW.mono hb1.size))).cell rfl, (hst.below hW).cell rfl⟩)
 have HR := hI (show ∀ W, Below w1.heap.size w1 W → RowsAt W.heap.size 11 Cd.vs v2 c.files W from fun W hW => (o2.below (hb1.trans (hW.mono hb1.size))).rows Cd.vs_length)
 have HH := hI (show ∀ (W : World) (lb : Array Value) (F : Nat → Prop), Below w1.heap.size w1 W → PredW Tryz.prog 125 lb Cd.vs (pFile u) F W → Calls Tryz.prog 151 #[v2, .func (.func 125) #[] lb] W fun e w' => e = .returned (.bool false) ∧ Below W.heap.size W w' from fun W lb F hW hp => by
  rw [← hr]
  exact sxHasCached_any v2 c.files _ _ lb F W (HR.out W hW) (enters_of Tryz.func125 (by kernel_rfl) rfl) hp)
 have HST := hI hst
 have HW1 := hI hw1
 have HB1 := hI hb1
 have H1 := hI o1
 have H2 := hI o2
 have H3 := hI o3
 have H4 := hI o4
 have HSb := hI s
 have HBb := hI hb
 have HM := hI hm
 have l3 := hI (fun j (e : v3.ownBlock = some j) => (World.ownsRow.lt o3 j e).2)
 have l4 := hI (fun j (e : v4.ownBlock = some j) => (World.ownsRow.lt o4 j e).2)
 have lb0 := hI s.lt
 clear hst hw1 hb1 s o1 o2 o3 o4 hb hm hr hf HR
 go_enter Tryz.func115, Tryz.ntmps115
 go_wp2_with fail
 rw [← HW1.out]
 have HBD := hI (show Below w1.heap.size w1 w1.drew from (Below.refl _ _).drew)
 have C0 := hI (HS.out _ HBD.out)
 refine wp_region_held (S := (fun W => W.cell? ⟨b, 1, none⟩ = some v2 ∧ W.cell? ⟨w.heap.size, 0, none⟩ = some (.string u))) (by kernel_rfl) ?_
 change wpAnyH _ _ _ _ _ _ _ _ (World.drew _)
 generalize World.drew w1 = WD at HBD C0 ⊢
 refine tkp 0 (.pointer (some ⟨b, 0, none⟩)) rfl (by kernel_rfl) q3 (fun w' hS => ?_) C0.out ?_
 · clear hS; go_simp
 try go_simp
 refine tkp 1 (.pointer (some ⟨b, 0, none⟩)) rfl (by kernel_rfl) q3 (fun w' hS => ?_) C0.out ?_
 · clear hS; go_simp
 try go_simp
 refine tkp 2 (.pointer (some ⟨b, 1, none⟩)) rfl (by kernel_rfl) q3 (fun w' hS => ?_) C0.out ?_
 · clear hS; go_simp
 try go_simp
 refine tkp 3 (v2) rfl (by kernel_rfl) q3 (fun w' hS => ?_) C0.out ?_
 · obtain ⟨s0, s1⟩ := hS; go_simp
 try go_simp
 refine tkp 4 (.string u) rfl (by kernel_rfl) q3 (fun w' hS => ?_) C0.out ?_
 · obtain ⟨s0, s1⟩ := hS; go_simp
 try go_simp
 refine rd1 5 (by kernel_rfl) rfl fun K hK => ?_
 go_simp
 refine (inqFile_any u _).mono ?_
 rintro e w5 ⟨lb, rfl, hb, hp⟩
 have HP := hI hp
 clear hp
 have B5 := hI (HBD.out.trans (hb.mono HBD.out.size))
 clear hb
 go_simp
 refine hK.out _ _ (HS.out _ B5.out) (fun S1 => ?_)
 clear hK K S1
 refine rd1 6 (by kernel_rfl) rfl fun K hK => ?_
 go_simp
 refine (HH.out _ lb _ B5.out HP.out).mono ?_
 rintro e w6 ⟨rfl, hb⟩
 have B6 := hI (B5.out.trans (hb.mono B5.out.size))
 clear hb
 go_simp
 refine hK.out _ _ (HS.out _ B6.out) (fun S1 => ?_)
 clear hK K S1
 refine tkp 7 (.bool true) rfl (by kernel_rfl) q3 (fun w' hS => ?_) (HS.out _ B6.out) ?_
 · clear hS; go_simp
 try go_simp
 refine wpAnyH_done (by kernel_rfl) ?_ _
 go_wp2
 go_returns
 exact ⟨rfl, HB1.out.trans (B6.out.mono HB1.out.size)⟩
set_option maxRecDepth 100000 in
set_option maxHeartbeats 1000000 in
theorem inBare_yes {B b : Nat} (v1 v2 v3 v4 : Value) (c : CA) (u : ByteArray) (w : World) (s : St 27 b #[v1, v2, v3, v4] w) (o1 : OwnAt 49 3 Hd.vs B v1 c.helds w) (o2 : OwnAt 57 11 Cd.vs B v2 c.files w) (o3 : OwnAt 61 3 Kn.vs B v3 c.names w) (o4 : OwnAt 66 3 Bk.vs B v4 c.blocks w) (hb : B ≤ b) (hm : c.lens 1073741823) (hf : ¬ fnd (pFile u) c.files < 0) :
 Calls Tryz.prog 115 #[.pointer (some ⟨b, 0, none⟩), .string u] w fun e w' => e = .returned (.bool true) ∧ (∃ vs, OwnC B b vs (c.bare u) w') ∧ Below B w w' ∧ Frm (fun j => v3.ownBlock = some j ∨ v4.ownBlock = some j ∨ j = b) w w' := by
 have hr : c.files.any (pFile u) = true := by rw [any_fnd]; exact decide_eq_true (by omega)
 obtain ⟨w1, hw1⟩ : ∃ w1, w1 = w.alloc (.cells #[.string u] 9 (0, 0)) := ⟨_, rfl⟩
 have hb1 : Below w.heap.size w w1 := by rw [hw1]; exact (Below.refl _ w).alloc (Nat.le_refl _) _
 have hst : St 9 w.heap.size #[.string u] w1 := by rw [hw1]; exact St.new w _ _
 have HS := hI (show ∀ W, Below w1.heap.size w1 W → W.cell? ⟨b, 1, none⟩ = some v2 ∧ W.cell? ⟨w.heap.size, 0, none⟩ = some (.string u) from fun W hW => ⟨(s.below (hb1.trans (hW.mono hb1.size))).cell rfl, (hst.below hW).cell rfl⟩)
 have HR := hI (show ∀ W, Below w1.heap.size w1 W → RowsAt W.heap.size 11 Cd.vs v2 c.files W from fun W hW => (o2.below (hb1.trans (hW.mono hb1.size))).rows Cd.vs_length)
 have HH := hI (show ∀ (W : World) (lb : Array Value) (F : Nat → Prop), Below w1.heap.size w1 W → PredW Tryz.prog 125 lb Cd.vs (pFile u) F W → Calls Tryz.prog 151 #[v2, .func (.func 125) #[] lb] W fun e w' => e = .returned (.bool true) ∧ Below W.heap.size W w' from fun W lb F hW hp => by
  rw [← hr]
  exact sxHasCached_any v2 c.files _ _ lb F W (HR.out W hW) (enters_of Tryz.func125 (by kernel_rfl) rfl) hp)
 have HST := hI hst
 have HW1 := hI hw1
 have HB1 := hI hb1
 have H1 := hI o1
 have H2 := hI o2
 have H3 := hI o3
 have H4 := hI o4
 have HSb := hI s
 have HBb := hI hb
 have HM := hI hm
 have l3 := hI (fun j (e : v3.ownBlock = some j) => (World.ownsRow.lt o3 j e).2)
 have l4 := hI (fun j (e : v4.ownBlock = some j) => (World.ownsRow.lt o4 j e).2)
 have lb0 := hI s.lt
 clear hst hw1 hb1 s o1 o2 o3 o4 hb hm hr hf HR
 go_enter Tryz.func115, Tryz.ntmps115
 go_wp2_with fail
 rw [← HW1.out]
 have HBD := hI (show Below w1.heap.size w1 w1.drew from (Below.refl _ _).drew)
 have C0 := hI (HS.out _ HBD.out)
 refine wp_region_held (S := (fun W => W.cell? ⟨b, 1, none⟩ = some v2 ∧ W.cell? ⟨w.heap.size, 0, none⟩ = some (.string u))) (by kernel_rfl) ?_
 change wpAnyH _ _ _ _ _ _ _ _ (World.drew _)
 generalize World.drew w1 = WD at HBD C0 ⊢
 refine tkp 0 (.pointer (some ⟨b, 0, none⟩)) rfl (by kernel_rfl) q3 (fun w' hS => ?_) C0.out ?_
 · clear hS; go_simp
 try go_simp
 refine tkp 1 (.pointer (some ⟨b, 0, none⟩)) rfl (by kernel_rfl) q3 (fun w' hS => ?_) C0.out ?_
 · clear hS; go_simp
 try go_simp
 refine tkp 2 (.pointer (some ⟨b, 1, none⟩)) rfl (by kernel_rfl) q3 (fun w' hS => ?_) C0.out ?_
 · clear hS; go_simp
 try go_simp
 refine tkp 3 (v2) rfl (by kernel_rfl) q3 (fun w' hS => ?_) C0.out ?_
 · obtain ⟨s0, s1⟩ := hS; go_simp
 try go_simp
 refine tkp 4 (.string u) rfl (by kernel_rfl) q3 (fun w' hS => ?_) C0.out ?_
 · obtain ⟨s0, s1⟩ := hS; go_simp
 try go_simp
 refine rd1 5 (by kernel_rfl) rfl fun K hK => ?_
 go_simp
 refine (inqFile_any u _).mono ?_
 rintro e w5 ⟨lb, rfl, hb, hp⟩
 have HP := hI hp
 clear hp
 have B5 := hI (HBD.out.trans (hb.mono HBD.out.size))
 clear hb
 go_simp
 refine hK.out _ _ (HS.out _ B5.out) (fun S1 => ?_)
 clear hK K S1
 refine rd1 6 (by kernel_rfl) rfl fun K hK => ?_
 go_simp
 refine (HH.out _ lb _ B5.out HP.out).mono ?_
 rintro e w6 ⟨rfl, hb⟩
 have B6 := hI (B5.out.trans (hb.mono B5.out.size))
 clear hb
 go_simp
 refine hK.out _ _ (HS.out _ B6.out) (fun S1 => ?_)
 clear hK K S1
 refine tkp 7 (.bool false) rfl (by kernel_rfl) q3 (fun w' hS => ?_) (HS.out _ B6.out) ?_
 · clear hS; go_simp
 try go_simp
 refine wpAnyH_done (by kernel_rfl) ?_ _
 have A6 := hI (HB1.out.trans (B6.out.mono HB1.out.size))
 have S6 := hI (HSb.out.below A6.out)
 have q6 := hI (HST.out.below B6.out)
 have D1 := hI (inDropKnown_any v1 v2 v3 v4 c.names (fun y => decide (y.dir = u)) 152 #[.pointer (some ⟨w.heap.size, 0, none⟩)] w6 (H3.out.below A6.out) S6.out HM.out.2.2.1 (enters_of Tryz.func152 (by kernel_rfl) rfl) (inBarec1_pred u w.heap.size _ w6 (q6.out.cell rfl) q6.out.lt (fun e => Nat.lt_irrefl _ (l3.out _ e))))
 go_wp2_with (first | ((with_reducible refine D1.out.mono ?_); rintro e w9 ⟨v', rfl, ho, hs, hf⟩; have HF1 := hI hf; have T9 := OwnC.turn3 S6.out (H1.out.below A6.out) (H2.out.below A6.out) (H3.out.below A6.out) (H4.out.below A6.out) ho hs hf HBb.out; obtain ⟨⟨u1, u2, u3, u4, eu, s9, p1, p2, p3, p4⟩, b9⟩ := T9; cases eu; have P1 := hI p1; have P2 := hI p2; have P3 := hI p3; have P4 := hI p4; have S9 := hI s9; have B9 := hI b9; have q9 := hI (show St 9 w.heap.size #[.string u] w9 from q6.out.frm hf (fun e => by rcases e with e | e; exact Nat.lt_irrefl _ (l3.out _ e); exact absurd lb0.out (by rw [e]; exact Nat.lt_irrefl _))); have L4 := hI (fun j (e : v4.ownBlock = some j) => (World.ownsRow.lt H4.out j e).2); have D2 := hI (inDropPlaced_any v1 v2 v' v4 c.blocks (fun y => decide (y.up = u)) 153 #[.pointer (some ⟨w.heap.size, 0, none⟩)] w9 p4 s9 HM.out.2.2.2 (enters_of Tryz.func153 (by kernel_rfl) rfl) (inBarec2_pred u w.heap.size _ w9 (q9.out.cell rfl) q9.out.lt (fun e => Nat.lt_irrefl _ (l4.out _ e)))); clear ho hs hf p1 p2 p3 p4 s9 b9) | ((with_reducible refine D2.out.mono ?_); rintro e w8 ⟨v2', rfl, ho, hs, hf⟩; have HF2 := hI hf; have T8 := hI (OwnC.turn4 (c := ⟨c.helds, c.files, c.names.filter (fun y => !decide (y.dir = u)), c.blocks⟩) S9.out P1.out P2.out P3.out P4.out ho hs hf HBb.out); clear ho hs hf))
 go_ret
 exact ⟨rfl, ⟨_, T8.out.1⟩, ((A6.out.mono (Nat.le_trans HBb.out (Nat.le_of_lt lb0.out))).trans (B9.out)).trans T8.out.2, ((Frm.of_below A6.out).next (HF1.out.wide fun j e => by rcases e with e | e; exact .inl e; exact .inr (.inr e))).next (HF2.out.wide fun j e => by rcases e with e | e; exact .inr (.inl e); exact .inr (.inr e))⟩
def inWay (x y : Bk) : Bool := decide (y.slot = x.slot) && !decide (ord ltBk y x = 0)
theorem inWay_tkn (x : Ch) (y : Bk) : inWay ⟨x.up, x.no, x.slot⟩ y = tkn x y := by
 unfold inWay tkn
 have : decide (ord ltBk y ⟨x.up, x.no, x.slot⟩ = 0) = (decide (y.up = x.up) && decide (y.no = x.no)) := by
  rw [Bool.eq_iff_iff, Bool.and_eq_true, decide_eq_true_iff, decide_eq_true_iff, decide_eq_true_iff, ord_zero, ltBk_key]
 rw [this, Bool.not_and]
set_option maxRecDepth 100000 in
set_option maxHeartbeats 1000000 in
theorem inSetBlockc_any (x y : Bk) (q : Nat) (w : World) (hq : St 66 q x.vs.toArray w) :
 Calls Tryz.prog 157 #[.agg y.vs.toArray, .pointer (some ⟨q, 0, none⟩)] w fun e w' => e = .returned (.bool (inWay x y)) ∧ Below w.heap.size w w' := by
 obtain ⟨x0, x1, x2⟩ := x
 obtain ⟨y0, y1, y2⟩ := y
 have HO := hI (fun W => (show Calls Tryz.prog 91 #[.agg #[.string y0, .int .i64 y1, .int .i64 y2], .agg #[.string x0, .int .i64 x1, .int .i64 x2]] W fun e w' => e = .returned (.int .i64 (ord ltBk ⟨y0, y1, y2⟩ ⟨x0, x1, x2⟩)) ∧ Below W.heap.size W w' from inOrdPlaced_any ⟨y0, y1, y2⟩ ⟨x0, x1, x2⟩ W))
 have k10 : w.cell? ⟨q, 0, none⟩ = some (.string x0) := hq.cell rfl
 have k11 : w.cell? ⟨q, 1, none⟩ = some (.int .i64 x1) := hq.cell rfl
 have k12 : w.cell? ⟨q, 2, none⟩ = some (.int .i64 x2) := hq.cell rfl
 obtain ⟨r, hr⟩ : ∃ r, r = ord ltBk ⟨y0, y1, y2⟩ ⟨x0, x1, x2⟩ := ⟨_, rfl⟩
 have hv : inWay ⟨x0, x1, x2⟩ ⟨y0, y1, y2⟩ = (decide (y2 = x2) && !decide (r = 0)) := by rw [hr]; rfl
 rw [hv]
 rw [← hr] at HO
 have hql := hq.lt
 clear hq hr hv
 show Calls Tryz.prog 157 #[.agg #[.string y0, .int .i64 y1, .int .i64 y2], .pointer (some ⟨q, 0, none⟩)] w _
 by_cases h0 : y2 = x2
 · have d0 : (y2 == x2) = true := beq_iff_eq.2 h0
   obtain ⟨f, hf⟩ : ∃ f, f = (r != 0) := ⟨_, rfl⟩
   have d1 := hf.symm
   have HE := hI (show (decide (y2 = x2) && !decide (r = 0)) = f from by
    rw [decide_eq_true h0, Bool.true_and, hf]
    by_cases hr0 : r = 0 <;> simp [hr0])
   rw [HE.out]
   clear h0 hf
   go_enter Tryz.func157, Tryz.ntmps157
   go_wp2_with ((with_reducible refine (HO.out _).mono ?_); rintro e w8 ⟨rfl, hb⟩; have B8 := hI (((Below.refl _ w).alloc (Nat.le_refl _) _).trans (hb.mono (by simp))); clear hb)
   go_ret
   exact ⟨rfl, B8.out⟩
 · have d0 : (y2 == x2) = false := beq_eq_false_iff_ne.2 h0
   have HE := hI (show (decide (y2 = x2) && !decide (r = 0)) = false from by rw [decide_eq_false h0, Bool.false_and])
   rw [HE.out]
   clear h0
   go_enter Tryz.func157, Tryz.ntmps157
   go_wp2
   go_ret
   exact ⟨rfl, (Below.refl _ w).alloc (Nat.le_refl _) _⟩
theorem inSetBlockc_pred (x : Bk) (q : Nat) (F : Nat → Prop) (w : World) (hq : St 66 q x.vs.toArray w) (hn : ¬ F q) : PredW Tryz.prog 157 #[.pointer (some ⟨q, 0, none⟩)] Bk.vs (inWay x) F w :=
 fun W y hW => inSetBlockc_any x y q W (hq.frm hW hn)
set_option maxRecDepth 100000 in
set_option maxHeartbeats 2000000 in
theorem inAdd_no1 {B b : Nat} (v1 v2 v3 v4 : Value) (c : CA) (x : Hd) (w : World) (s : St 27 b #[v1, v2, v3, v4] w) (o1 : OwnAt 49 3 Hd.vs B v1 c.helds w) (o2 : OwnAt 57 11 Cd.vs B v2 c.files w) (o3 : OwnAt 61 3 Kn.vs B v3 c.names w) (o4 : OwnAt 66 3 Bk.vs B v4 c.blocks w) (hb : B ≤ b) (hm : c.lens 1073741823) (h1 : c.helds.any (pHeld x.epoch x.serial) = true) :
 Calls Tryz.prog 112 #[.pointer (some ⟨b, 0, none⟩), .agg x.vs.toArray] w fun e w' => e = .returned (.bool false) ∧ Below w.heap.size w w' := by
 obtain ⟨w1, hw1⟩ : ∃ w1, w1 = w.alloc (.cells x.vs.toArray 49 (0, 0)) := ⟨_, rfl⟩
 have hb1 : Below w.heap.size w w1 := by rw [hw1]; exact (Below.refl _ w).alloc (Nat.le_refl _) _
 have hst : St 49 w.heap.size x.vs.toArray w1 := by rw [hw1]; exact St.new w _ _
 obtain ⟨x0, x1, x2⟩ := x
 have HST := hI (show St 49 w.heap.size #[.int .i64 x0, .int .i64 x1, .string x2] w1 from hst)
 have HW1 := hI (show w1 = w.alloc (.cells #[.int .i64 x0, .int .i64 x1, .string x2] 49 (0, 0)) from hw1)
 have HB1 := hI hb1
 have H1 := hI o1
 have H2 := hI o2
 have H3 := hI o3
 have H4 := hI o4
 have HSb := hI s
 have HBb := hI hb
 have HM := hI hm
 have lb0 := hI s.lt
 clear hst hw1 hb1 s o1 o2 o3 o4 hb hm
 have HH := hI (show ∀ (W : World) (lb : Array Value) (F : Nat → Prop), Below w1.heap.size w1 W → PredW Tryz.prog 122 lb Hd.vs (pHeld x0 x1) F W → Calls Tryz.prog 146 #[v1, .func (.func 122) #[] lb] W fun e w' => e = .returned (.bool true) ∧ Below W.heap.size W w' from fun W lb F hW hp => by
  rw [← (show c.helds.any (pHeld x0 x1) = true from h1)]
  exact sxHasHeld_any v1 c.helds _ _ lb F W ((H1.out.below (HB1.out.trans (hW.mono HB1.out.size))).rows Hd.vs_length) (enters_of Tryz.func122 (by kernel_rfl) rfl) hp)
 have HS := hI (show ∀ W, Below w1.heap.size w1 W → W.cell? ⟨b, 0, none⟩ = some v1 ∧ W.cell? ⟨w.heap.size, 0, none⟩ = some (.int .i64 x0) ∧ W.cell? ⟨w.heap.size, 1, none⟩ = some (.int .i64 x1) ∧ W.cell? ⟨w.heap.size, 2, none⟩ = some (.string x2) from fun W hW => ⟨(HSb.out.below (HB1.out.trans (hW.mono HB1.out.size))).cell rfl, (HST.out.below hW).cell rfl, (HST.out.below hW).cell rfl, (HST.out.below hW).cell rfl⟩)
 clear h1
 show Calls Tryz.prog 112 #[.pointer (some ⟨b, 0, none⟩), .agg #[.int .i64 x0, .int .i64 x1, .string x2]] w _
 go_enter Tryz.func112, Tryz.ntmps112
 go_wp2_with fail
 rw [show w.alloc (.cells #[.int .i64 x0, .int .i64 x1, .string x2] 49) = w1 from HW1.out.symm]
 have HBD := hI (show Below w1.heap.size w1 w1.drew from (Below.refl _ _).drew)
 have C0 := hI (HS.out _ HBD.out)
 refine wp_region_held (S := (fun W => W.cell? ⟨b, 0, none⟩ = some v1 ∧ W.cell? ⟨w.heap.size, 0, none⟩ = some (.int .i64 x0) ∧ W.cell? ⟨w.heap.size, 1, none⟩ = some (.int .i64 x1) ∧ W.cell? ⟨w.heap.size, 2, none⟩ = some (.string x2))) (by kernel_rfl) ?_
 change wpAnyH _ _ _ _ _ _ _ _ (World.drew _)
 generalize World.drew w1 = WD at HBD C0 ⊢
 refine tkp 0 (.pointer (some ⟨b, 0, none⟩)) rfl (by kernel_rfl) q3 (fun w' hS => ?_) C0.out ?_
 · clear hS; go_simp
 try go_simp
 refine tkp 1 (.pointer (some ⟨b, 0, none⟩)) rfl (by kernel_rfl) q3 (fun w' hS => ?_) C0.out ?_
 · clear hS; go_simp
 try go_simp
 refine tkp 2 (.pointer (some ⟨b, 0, none⟩)) rfl (by kernel_rfl) q3 (fun w' hS => ?_) C0.out ?_
 · clear hS; go_simp
 try go_simp
 refine tkp 3 (v1) rfl (by kernel_rfl) q3 (fun w' hS => ?_) C0.out ?_
 · obtain ⟨s0, s1, s2, s3⟩ := hS; go_simp
 try go_simp
 refine tkp 4 (.pointer (some ⟨w.heap.size, 0, none⟩)) rfl (by kernel_rfl) q3 (fun w' hS => ?_) C0.out ?_
 · clear hS; go_simp
 try go_simp
 refine tkp 5 (.int .i64 x0) rfl (by kernel_rfl) q3 (fun w' hS => ?_) C0.out ?_
 · obtain ⟨s0, s1, s2, s3⟩ := hS; go_simp
 try go_simp
 refine tkp 6 (.pointer (some ⟨w.heap.size, 1, none⟩)) rfl (by kernel_rfl) q3 (fun w' hS => ?_) C0.out ?_
 · clear hS; go_simp
 try go_simp
 refine tkp 7 (.int .i64 x1) rfl (by kernel_rfl) q3 (fun w' hS => ?_) C0.out ?_
 · obtain ⟨s0, s1, s2, s3⟩ := hS; go_simp
 try go_simp
 refine rd1 8 (by kernel_rfl) rfl fun K hK => ?_
 go_simp
 refine (inqHandle_any x0 x1 _).mono ?_
 rintro e w5 ⟨lb, rfl, hb, hp⟩
 have HP := hI hp
 clear hp
 have B5 := hI (HBD.out.trans (hb.mono HBD.out.size))
 clear hb
 go_simp
 refine hK.out _ _ (HS.out _ B5.out) (fun S1 => ?_)
 clear hK K S1
 refine rd1 9 (by kernel_rfl) rfl fun K hK => ?_
 go_simp
 refine (HH.out _ lb _ B5.out HP.out).mono ?_
 rintro e w6 ⟨rfl, hb⟩
 have B6 := hI (B5.out.trans (hb.mono B5.out.size))
 clear hb
 go_simp
 refine hK.out _ _ (HS.out _ B6.out) (fun S1 => ?_)
 clear hK K S1
 refine tkp 10 (.bool true) rfl (by kernel_rfl) q3 (fun w' hS => ?_) (HS.out _ B6.out) ?_
 · clear hS; go_simp
 try go_simp
 refine tku 11 rfl (by kernel_rfl) q3 (HS.out _ B6.out) ?_
 try go_simp
 refine tku 12 rfl (by kernel_rfl) q3 (HS.out _ B6.out) ?_
 refine tku 13 rfl (by kernel_rfl) q3 (HS.out _ B6.out) ?_
 try go_simp
 refine tku 14 rfl (by kernel_rfl) q3 (HS.out _ B6.out) ?_
 refine tku 15 rfl (by kernel_rfl) q3 (HS.out _ B6.out) ?_
 try go_simp
 refine tku 16 rfl (by kernel_rfl) q3 (HS.out _ B6.out) ?_
 refine tku 17 rfl (by kernel_rfl) q3 (HS.out _ B6.out) ?_
 try go_simp
 refine tku 18 rfl (by kernel_rfl) q3 (HS.out _ B6.out) ?_
 refine tkp 19 (.bool true) rfl (by kernel_rfl) q3 (fun w' hS => ?_) (HS.out _ B6.out) ?_
 · clear hS; go_simp
 try go_simp
 refine wpAnyH_done (by kernel_rfl) ?_ _
 go_wp2
 go_returns
 exact ⟨rfl, HB1.out.trans (B6.out.mono HB1.out.size)⟩
set_option maxRecDepth 100000 in
set_option maxHeartbeats 2000000 in
theorem inAdd_no2 {B b : Nat} (v1 v2 v3 v4 : Value) (c : CA) (x : Hd) (w : World) (s : St 27 b #[v1, v2, v3, v4] w) (o1 : OwnAt 49 3 Hd.vs B v1 c.helds w) (o2 : OwnAt 57 11 Cd.vs B v2 c.files w) (o3 : OwnAt 61 3 Kn.vs B v3 c.names w) (o4 : OwnAt 66 3 Bk.vs B v4 c.blocks w) (hb : B ≤ b) (hm : c.lens 1073741823) (h1 : c.helds.any (pHeld x.epoch x.serial) = false) (h2 : c.helds.any (pIssued x.up) = true) :
 Calls Tryz.prog 112 #[.pointer (some ⟨b, 0, none⟩), .agg x.vs.toArray] w fun e w' => e = .returned (.bool false) ∧ Below w.heap.size w w' := by
 obtain ⟨w1, hw1⟩ : ∃ w1, w1 = w.alloc (.cells x.vs.toArray 49 (0, 0)) := ⟨_, rfl⟩
 have hb1 : Below w.heap.size w w1 := by rw [hw1]; exact (Below.refl _ w).alloc (Nat.le_refl _) _
 have hst : St 49 w.heap.size x.vs.toArray w1 := by rw [hw1]; exact St.new w _ _
 obtain ⟨x0, x1, x2⟩ := x
 have HST := hI (show St 49 w.heap.size #[.int .i64 x0, .int .i64 x1, .string x2] w1 from hst)
 have HW1 := hI (show w1 = w.alloc (.cells #[.int .i64 x0, .int .i64 x1, .string x2] 49 (0, 0)) from hw1)
 have HB1 := hI hb1
 have H1 := hI o1
 have H2 := hI o2
 have H3 := hI o3
 have H4 := hI o4
 have HSb := hI s
 have HBb := hI hb
 have HM := hI hm
 have lb0 := hI s.lt
 clear hst hw1 hb1 s o1 o2 o3 o4 hb hm
 have HH := hI (show ∀ (W : World) (lb : Array Value) (F : Nat → Prop), Below w1.heap.size w1 W → PredW Tryz.prog 122 lb Hd.vs (pHeld x0 x1) F W → Calls Tryz.prog 146 #[v1, .func (.func 122) #[] lb] W fun e w' => e = .returned (.bool false) ∧ Below W.heap.size W w' from fun W lb F hW hp => by
  rw [← (show c.helds.any (pHeld x0 x1) = false from h1)]
  exact sxHasHeld_any v1 c.helds _ _ lb F W ((H1.out.below (HB1.out.trans (hW.mono HB1.out.size))).rows Hd.vs_length) (enters_of Tryz.func122 (by kernel_rfl) rfl) hp)
 have HI := hI (show ∀ (W : World) (lb : Array Value) (F : Nat → Prop), Below w1.heap.size w1 W → PredW Tryz.prog 123 lb Hd.vs (pIssued x2) F W → Calls Tryz.prog 146 #[v1, .func (.func 123) #[] lb] W fun e w' => e = .returned (.bool true) ∧ Below W.heap.size W w' from fun W lb F hW hp => by
  rw [← (show c.helds.any (pIssued x2) = true from h2)]
  exact sxHasHeld_any v1 c.helds _ _ lb F W ((H1.out.below (HB1.out.trans (hW.mono HB1.out.size))).rows Hd.vs_length) (enters_of Tryz.func123 (by kernel_rfl) rfl) hp)
 have HS := hI (show ∀ W, Below w1.heap.size w1 W → W.cell? ⟨b, 0, none⟩ = some v1 ∧ W.cell? ⟨w.heap.size, 0, none⟩ = some (.int .i64 x0) ∧ W.cell? ⟨w.heap.size, 1, none⟩ = some (.int .i64 x1) ∧ W.cell? ⟨w.heap.size, 2, none⟩ = some (.string x2) from fun W hW => ⟨(HSb.out.below (HB1.out.trans (hW.mono HB1.out.size))).cell rfl, (HST.out.below hW).cell rfl, (HST.out.below hW).cell rfl, (HST.out.below hW).cell rfl⟩)
 clear h1 h2
 show Calls Tryz.prog 112 #[.pointer (some ⟨b, 0, none⟩), .agg #[.int .i64 x0, .int .i64 x1, .string x2]] w _
 go_enter Tryz.func112, Tryz.ntmps112
 go_wp2_with fail
 rw [show w.alloc (.cells #[.int .i64 x0, .int .i64 x1, .string x2] 49) = w1 from HW1.out.symm]
 have HBD := hI (show Below w1.heap.size w1 w1.drew from (Below.refl _ _).drew)
 have C0 := hI (HS.out _ HBD.out)
 refine wp_region_held (S := (fun W => W.cell? ⟨b, 0, none⟩ = some v1 ∧ W.cell? ⟨w.heap.size, 0, none⟩ = some (.int .i64 x0) ∧ W.cell? ⟨w.heap.size, 1, none⟩ = some (.int .i64 x1) ∧ W.cell? ⟨w.heap.size, 2, none⟩ = some (.string x2))) (by kernel_rfl) ?_
 change wpAnyH _ _ _ _ _ _ _ _ (World.drew _)
 generalize World.drew w1 = WD at HBD C0 ⊢
 refine tkp 0 (.pointer (some ⟨b, 0, none⟩)) rfl (by kernel_rfl) q3 (fun w' hS => ?_) C0.out ?_
 · clear hS; go_simp
 try go_simp
 refine tkp 1 (.pointer (some ⟨b, 0, none⟩)) rfl (by kernel_rfl) q3 (fun w' hS => ?_) C0.out ?_
 · clear hS; go_simp
 try go_simp
 refine tkp 2 (.pointer (some ⟨b, 0, none⟩)) rfl (by kernel_rfl) q3 (fun w' hS => ?_) C0.out ?_
 · clear hS; go_simp
 try go_simp
 refine tkp 3 (v1) rfl (by kernel_rfl) q3 (fun w' hS => ?_) C0.out ?_
 · obtain ⟨s0, s1, s2, s3⟩ := hS; go_simp
 try go_simp
 refine tkp 4 (.pointer (some ⟨w.heap.size, 0, none⟩)) rfl (by kernel_rfl) q3 (fun w' hS => ?_) C0.out ?_
 · clear hS; go_simp
 try go_simp
 refine tkp 5 (.int .i64 x0) rfl (by kernel_rfl) q3 (fun w' hS => ?_) C0.out ?_
 · obtain ⟨s0, s1, s2, s3⟩ := hS; go_simp
 try go_simp
 refine tkp 6 (.pointer (some ⟨w.heap.size, 1, none⟩)) rfl (by kernel_rfl) q3 (fun w' hS => ?_) C0.out ?_
 · clear hS; go_simp
 try go_simp
 refine tkp 7 (.int .i64 x1) rfl (by kernel_rfl) q3 (fun w' hS => ?_) C0.out ?_
 · obtain ⟨s0, s1, s2, s3⟩ := hS; go_simp
 try go_simp
 refine rd1 8 (by kernel_rfl) rfl fun K hK => ?_
 go_simp
 refine (inqHandle_any x0 x1 _).mono ?_
 rintro e w5 ⟨lb, rfl, hb, hp⟩
 have HP := hI hp
 clear hp
 have B5 := hI (HBD.out.trans (hb.mono HBD.out.size))
 clear hb
 go_simp
 refine hK.out _ _ (HS.out _ B5.out) (fun S1 => ?_)
 clear hK K S1
 refine rd1 9 (by kernel_rfl) rfl fun K hK => ?_
 go_simp
 refine (HH.out _ lb _ B5.out HP.out).mono ?_
 rintro e w6 ⟨rfl, hb⟩
 have B6 := hI (B5.out.trans (hb.mono B5.out.size))
 clear hb
 go_simp
 refine hK.out _ _ (HS.out _ B6.out) (fun S1 => ?_)
 clear hK K S1
 refine tkp 10 (.bool false) rfl (by kernel_rfl) q3 (fun w' hS => ?_) (HS.out _ B6.out) ?_
 · clear hS; go_simp
 try go_simp
 refine tkp 11 (.pointer (some ⟨b, 0, none⟩)) rfl (by kernel_rfl) q3 (fun w' hS => ?_) (HS.out _ B6.out) ?_
 · clear hS; go_simp
 try go_simp
 refine tkp 12 (.pointer (some ⟨b, 0, none⟩)) rfl (by kernel_rfl) q3 (fun w' hS => ?_) (HS.out _ B6.out) ?_
 · clear hS; go_simp
 try go_simp
 refine tkp 13 (.pointer (some ⟨b, 0, none⟩)) rfl (by kernel_rfl) q3 (fun w' hS => ?_) (HS.out _ B6.out) ?_
 · clear hS; go_simp
 try go_simp
 refine tkp 14 (v1) rfl (by kernel_rfl) q3 (fun w' hS => ?_) (HS.out _ B6.out) ?_
 · obtain ⟨s0, s1, s2, s3⟩ := hS; go_simp
 try go_simp
 refine tkp 15 (.pointer (some ⟨w.heap.size, 2, none⟩)) rfl (by kernel_rfl) q3 (fun w' hS => ?_) (HS.out _ B6.out) ?_
 · clear hS; go_simp
 try go_simp
 refine tkp 16 (.string x2) rfl (by kernel_rfl) q3 (fun w' hS => ?_) (HS.out _ B6.out) ?_
 · obtain ⟨s0, s1, s2, s3⟩ := hS; go_simp
 try go_simp
 refine rd1 17 (by kernel_rfl) rfl fun K hK => ?_
 go_simp
 refine (inqFor_any x2 _).mono ?_
 rintro e w7 ⟨lb2, rfl, hb, hp⟩
 have HP2 := hI hp
 clear hp
 have B7 := hI (B6.out.trans (hb.mono B6.out.size))
 clear hb
 go_simp
 refine hK.out _ _ (HS.out _ B7.out) (fun S1 => ?_)
 clear hK K S1
 refine rd1 18 (by kernel_rfl) rfl fun K hK => ?_
 go_simp
 refine (HI.out _ lb2 _ B7.out HP2.out).mono ?_
 rintro e w8 ⟨rfl, hb⟩
 have B8 := hI (B7.out.trans (hb.mono B7.out.size))
 clear hb
 go_simp
 refine hK.out _ _ (HS.out _ B8.out) (fun S1 => ?_)
 clear hK K S1
 refine tkp 19 (.bool true) rfl (by kernel_rfl) q3 (fun w' hS => ?_) (HS.out _ B8.out) ?_
 · clear hS; go_simp
 try go_simp
 refine wpAnyH_done (by kernel_rfl) ?_ _
 go_wp2
 go_returns
 exact ⟨rfl, HB1.out.trans (B8.out.mono HB1.out.size)⟩
set_option maxRecDepth 100000 in
set_option maxHeartbeats 2000000 in
theorem inAdd_yes {B b : Nat} (v1 v2 v3 v4 : Value) (c : CA) (x : Hd) (w : World) (s : St 27 b #[v1, v2, v3, v4] w) (o1 : OwnAt 49 3 Hd.vs B v1 c.helds w) (o2 : OwnAt 57 11 Cd.vs B v2 c.files w) (o3 : OwnAt 61 3 Kn.vs B v3 c.names w) (o4 : OwnAt 66 3 Bk.vs B v4 c.blocks w) (hb : B ≤ b) (hm : c.lens 1073741823) (h1 : c.helds.any (pHeld x.epoch x.serial) = false) (h2 : c.helds.any (pIssued x.up) = false) (hmo : c.helds.Pairwise fun a b => ltHd a b = true) :
 Calls Tryz.prog 112 #[.pointer (some ⟨b, 0, none⟩), .agg x.vs.toArray] w fun e w' => e = .returned (.bool true) ∧ (∃ vs i, Place ltHd c.helds x i ∧ OwnC B b vs ⟨putAt ltHd c.helds x i, c.files, c.names, c.blocks⟩ w') ∧ Below B w w' := by
 obtain ⟨w1, hw1⟩ : ∃ w1, w1 = w.alloc (.cells x.vs.toArray 49 (0, 0)) := ⟨_, rfl⟩
 have hb1 : Below w.heap.size w w1 := by rw [hw1]; exact (Below.refl _ w).alloc (Nat.le_refl _) _
 have hst : St 49 w.heap.size x.vs.toArray w1 := by rw [hw1]; exact St.new w _ _
 obtain ⟨x0, x1, x2⟩ := x
 have HST := hI (show St 49 w.heap.size #[.int .i64 x0, .int .i64 x1, .string x2] w1 from hst)
 have HW1 := hI (show w1 = w.alloc (.cells #[.int .i64 x0, .int .i64 x1, .string x2] 49 (0, 0)) from hw1)
 have HB1 := hI hb1
 have H1 := hI o1
 have H2 := hI o2
 have H3 := hI o3
 have H4 := hI o4
 have HSb := hI s
 have HBb := hI hb
 have HM := hI hm
 have lb0 := hI s.lt
 clear hst hw1 hb1 s o1 o2 o3 o4 hb hm
 have HH := hI (show ∀ (W : World) (lb : Array Value) (F : Nat → Prop), Below w1.heap.size w1 W → PredW Tryz.prog 122 lb Hd.vs (pHeld x0 x1) F W → Calls Tryz.prog 146 #[v1, .func (.func 122) #[] lb] W fun e w' => e = .returned (.bool false) ∧ Below W.heap.size W w' from fun W lb F hW hp => by
  rw [← (show c.helds.any (pHeld x0 x1) = false from h1)]
  exact sxHasHeld_any v1 c.helds _ _ lb F W ((H1.out.below (HB1.out.trans (hW.mono HB1.out.size))).rows Hd.vs_length) (enters_of Tryz.func122 (by kernel_rfl) rfl) hp)
 have HI := hI (show ∀ (W : World) (lb : Array Value) (F : Nat → Prop), Below w1.heap.size w1 W → PredW Tryz.prog 123 lb Hd.vs (pIssued x2) F W → Calls Tryz.prog 146 #[v1, .func (.func 123) #[] lb] W fun e w' => e = .returned (.bool false) ∧ Below W.heap.size W w' from fun W lb F hW hp => by
  rw [← (show c.helds.any (pIssued x2) = false from h2)]
  exact sxHasHeld_any v1 c.helds _ _ lb F W ((H1.out.below (HB1.out.trans (hW.mono HB1.out.size))).rows Hd.vs_length) (enters_of Tryz.func123 (by kernel_rfl) rfl) hp)
 have HS := hI (show ∀ W, Below w1.heap.size w1 W → W.cell? ⟨b, 0, none⟩ = some v1 ∧ W.cell? ⟨w.heap.size, 0, none⟩ = some (.int .i64 x0) ∧ W.cell? ⟨w.heap.size, 1, none⟩ = some (.int .i64 x1) ∧ W.cell? ⟨w.heap.size, 2, none⟩ = some (.string x2) from fun W hW => ⟨(HSb.out.below (HB1.out.trans (hW.mono HB1.out.size))).cell rfl, (HST.out.below hW).cell rfl, (HST.out.below hW).cell rfl, (HST.out.below hW).cell rfl⟩)
 have HMO := hI (pw_mono ltHd_trans hmo ⟨x0, x1, x2⟩)
 clear hmo
 clear h1 h2
 show Calls Tryz.prog 112 #[.pointer (some ⟨b, 0, none⟩), .agg #[.int .i64 x0, .int .i64 x1, .string x2]] w _
 go_enter Tryz.func112, Tryz.ntmps112
 go_wp2_with fail
 rw [show w.alloc (.cells #[.int .i64 x0, .int .i64 x1, .string x2] 49) = w1 from HW1.out.symm]
 have HBD := hI (show Below w1.heap.size w1 w1.drew from (Below.refl _ _).drew)
 have C0 := hI (HS.out _ HBD.out)
 refine wp_region_held (S := (fun W => W.cell? ⟨b, 0, none⟩ = some v1 ∧ W.cell? ⟨w.heap.size, 0, none⟩ = some (.int .i64 x0) ∧ W.cell? ⟨w.heap.size, 1, none⟩ = some (.int .i64 x1) ∧ W.cell? ⟨w.heap.size, 2, none⟩ = some (.string x2))) (by kernel_rfl) ?_
 change wpAnyH _ _ _ _ _ _ _ _ (World.drew _)
 generalize World.drew w1 = WD at HBD C0 ⊢
 refine tkp 0 (.pointer (some ⟨b, 0, none⟩)) rfl (by kernel_rfl) q3 (fun w' hS => ?_) C0.out ?_
 · clear hS; go_simp
 try go_simp
 refine tkp 1 (.pointer (some ⟨b, 0, none⟩)) rfl (by kernel_rfl) q3 (fun w' hS => ?_) C0.out ?_
 · clear hS; go_simp
 try go_simp
 refine tkp 2 (.pointer (some ⟨b, 0, none⟩)) rfl (by kernel_rfl) q3 (fun w' hS => ?_) C0.out ?_
 · clear hS; go_simp
 try go_simp
 refine tkp 3 (v1) rfl (by kernel_rfl) q3 (fun w' hS => ?_) C0.out ?_
 · obtain ⟨s0, s1, s2, s3⟩ := hS; go_simp
 try go_simp
 refine tkp 4 (.pointer (some ⟨w.heap.size, 0, none⟩)) rfl (by kernel_rfl) q3 (fun w' hS => ?_) C0.out ?_
 · clear hS; go_simp
 try go_simp
 refine tkp 5 (.int .i64 x0) rfl (by kernel_rfl) q3 (fun w' hS => ?_) C0.out ?_
 · obtain ⟨s0, s1, s2, s3⟩ := hS; go_simp
 try go_simp
 refine tkp 6 (.pointer (some ⟨w.heap.size, 1, none⟩)) rfl (by kernel_rfl) q3 (fun w' hS => ?_) C0.out ?_
 · clear hS; go_simp
 try go_simp
 refine tkp 7 (.int .i64 x1) rfl (by kernel_rfl) q3 (fun w' hS => ?_) C0.out ?_
 · obtain ⟨s0, s1, s2, s3⟩ := hS; go_simp
 try go_simp
 refine rd1 8 (by kernel_rfl) rfl fun K hK => ?_
 go_simp
 refine (inqHandle_any x0 x1 _).mono ?_
 rintro e w5 ⟨lb, rfl, hb, hp⟩
 have HP := hI hp
 clear hp
 have B5 := hI (HBD.out.trans (hb.mono HBD.out.size))
 clear hb
 go_simp
 refine hK.out _ _ (HS.out _ B5.out) (fun S1 => ?_)
 clear hK K S1
 refine rd1 9 (by kernel_rfl) rfl fun K hK => ?_
 go_simp
 refine (HH.out _ lb _ B5.out HP.out).mono ?_
 rintro e w6 ⟨rfl, hb⟩
 have B6 := hI (B5.out.trans (hb.mono B5.out.size))
 clear hb
 go_simp
 refine hK.out _ _ (HS.out _ B6.out) (fun S1 => ?_)
 clear hK K S1
 refine tkp 10 (.bool false) rfl (by kernel_rfl) q3 (fun w' hS => ?_) (HS.out _ B6.out) ?_
 · clear hS; go_simp
 try go_simp
 refine tkp 11 (.pointer (some ⟨b, 0, none⟩)) rfl (by kernel_rfl) q3 (fun w' hS => ?_) (HS.out _ B6.out) ?_
 · clear hS; go_simp
 try go_simp
 refine tkp 12 (.pointer (some ⟨b, 0, none⟩)) rfl (by kernel_rfl) q3 (fun w' hS => ?_) (HS.out _ B6.out) ?_
 · clear hS; go_simp
 try go_simp
 refine tkp 13 (.pointer (some ⟨b, 0, none⟩)) rfl (by kernel_rfl) q3 (fun w' hS => ?_) (HS.out _ B6.out) ?_
 · clear hS; go_simp
 try go_simp
 refine tkp 14 (v1) rfl (by kernel_rfl) q3 (fun w' hS => ?_) (HS.out _ B6.out) ?_
 · obtain ⟨s0, s1, s2, s3⟩ := hS; go_simp
 try go_simp
 refine tkp 15 (.pointer (some ⟨w.heap.size, 2, none⟩)) rfl (by kernel_rfl) q3 (fun w' hS => ?_) (HS.out _ B6.out) ?_
 · clear hS; go_simp
 try go_simp
 refine tkp 16 (.string x2) rfl (by kernel_rfl) q3 (fun w' hS => ?_) (HS.out _ B6.out) ?_
 · obtain ⟨s0, s1, s2, s3⟩ := hS; go_simp
 try go_simp
 refine rd1 17 (by kernel_rfl) rfl fun K hK => ?_
 go_simp
 refine (inqFor_any x2 _).mono ?_
 rintro e w7 ⟨lb2, rfl, hb, hp⟩
 have HP2 := hI hp
 clear hp
 have B7 := hI (B6.out.trans (hb.mono B6.out.size))
 clear hb
 go_simp
 refine hK.out _ _ (HS.out _ B7.out) (fun S1 => ?_)
 clear hK K S1
 refine rd1 18 (by kernel_rfl) rfl fun K hK => ?_
 go_simp
 refine (HI.out _ lb2 _ B7.out HP2.out).mono ?_
 rintro e w8 ⟨rfl, hb⟩
 have B8 := hI (B7.out.trans (hb.mono B7.out.size))
 clear hb
 go_simp
 refine hK.out _ _ (HS.out _ B8.out) (fun S1 => ?_)
 clear hK K S1
 refine tkp 19 (.bool false) rfl (by kernel_rfl) q3 (fun w' hS => ?_) (HS.out _ B8.out) ?_
 · clear hS; go_simp
 try go_simp
 refine wpAnyH_done (by kernel_rfl) ?_ _
 have BE := hI (show Below w1.heap.size w1 w8.drew from B8.out.drew)
 have AE := hI (HB1.out.trans (BE.out.mono HB1.out.size))
 have CE := hI (show St 49 w.heap.size #[.int .i64 x0, .int .i64 x1, .string x2] w8.drew from HST.out.below BE.out)
 go_wp2_with fail
 refine wp_region_held (S := (fun W => St 49 w.heap.size #[.int .i64 x0, .int .i64 x1, .string x2] W)) (by kernel_rfl) ?_
 change wpAnyH _ _ _ _ _ _ _ _ (World.drew _)
 generalize World.drew w8 = WE at BE AE CE ⊢
 refine tkp 0 (.pointer (some ⟨b, 0, none⟩)) rfl (by kernel_rfl) q3 (fun w' hS => ?_) CE.out ?_
 · clear hS; go_simp
 try go_simp
 refine tkp 1 (.pointer (some ⟨b, 0, none⟩)) rfl (by kernel_rfl) q3 (fun w' hS => ?_) CE.out ?_
 · clear hS; go_simp
 try go_simp
 refine tkp 2 (.pointer (some ⟨b, 0, none⟩)) rfl (by kernel_rfl) q3 (fun w' hS => ?_) CE.out ?_
 · clear hS; go_simp
 try go_simp
 refine tkl 3 (.agg #[.int .i64 x0, .int .i64 x1, .string x2]) rfl (by kernel_rfl) q3 (yld_boxi (by kernel_rfl) 49 (.tmp 3) rfl (w.heap.size) (by first | rfl | simp [Act.eval, Act.put]) 49 #[.int .i64 x0, .int .i64 x1, .string x2] (fun w' hS => hS) _ Tryz.underlying49 rfl (by kernel_rfl)) CE.out ?_
 try go_simp
 refine rd1 4 (by kernel_rfl) rfl fun K hK => ?_
 go_simp
 refine (inPutHeld_any v1 v2 v3 v4 c.helds ⟨x0, x1, x2⟩ 85 WE (H1.out.below AE.out) (HSb.out.below AE.out) (Nat.le_trans HBb.out (Nat.le_trans (Nat.le_of_lt lb0.out) AE.out.size)) HM.out.1 (enters_of Tryz.func85 (by kernel_rfl) rfl) (fun W y z => inOrdHeld_any y z W) HMO.out).mono ?_
 rintro e w9 ⟨v', i, rfl, hpl, ho, hs, hf⟩
 have T9 := hI (OwnC.turn1 (HSb.out.below AE.out) (H1.out.below AE.out) (H2.out.below AE.out) (H3.out.below AE.out) (H4.out.below AE.out) ho hs hf HBb.out)
 have HPL := hI hpl
 have C9 := hI (show St 49 w.heap.size #[.int .i64 x0, .int .i64 x1, .string x2] w9 from St.frm (T := 49) CE.out hf (fun e => by rcases e with e | e; exact Nat.lt_irrefl _ ((World.ownsRow.lt H1.out _ e).2); exact absurd lb0.out (by rw [← e]; exact Nat.lt_irrefl _)))
 clear ho hs hf hpl
 go_simp
 refine hK.out _ _ C9.out (fun S1 => ?_)
 clear hK K S1
 refine wpAnyH_done (by kernel_rfl) ?_ _
 go_wp2
 go_ret
 exact ⟨rfl, ⟨_, i, HPL.out, T9.out.1⟩, (AE.out.mono (Nat.le_trans HBb.out (Nat.le_of_lt lb0.out))).trans T9.out.2⟩
end Go.Proofs.YtngfknplljedeaaGreat
