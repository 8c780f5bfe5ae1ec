/- Lemmas for the laws of index. -/
import Derived.Test.YtngfknplljedeaaGreatZr57
import Derived.Test.YtngfknplljedeaaGreatZr60
import Derived.Test.YtngfknplljedeaaGreatZrTk
import Derived.Test.YtngfknplljedeaaGreatZrHi
namespace Go.Proofs.YtngfknplljedeaaGreat
open Go.RowKit
theorem ixformed_any (b : Bool) (w : World) : Calls Tryz.prog 12 #[.bool b] w fun e w' => e = .returned (.int .i64 (if b then 0 else 14)) ∧ w = w' := by
 cases b
 · go_enter Tryz.func12, Tryz.ntmps12
   go_wp2
   go_ret
   exact ⟨rfl, rfl⟩
 · go_enter Tryz.func12, Tryz.ntmps12
   go_wp2
   go_ret
   exact ⟨rfl, rfl⟩
set_option maxRecDepth 100000 in
set_option maxHeartbeats 4000000 in
theorem ichecks_walk (cs : List Value) (ca : CA) (w : World) (h : CAt w.heap.size cs ca w) (hn : ca.num) : Calls Tryz.prog 3 #[.agg cs.toArray] w fun e w' => e = .returned (.bool true) ∧ Below w.heap.size w w' := by
 have HNm := hI hn
 clear hn
 have HCC := hI (show ∀ W, Below w.heap.size w W → CAt W.heap.size cs ca W from fun W hW => (h.below hW).raise hW.size)
 obtain ⟨a1, n1, c1, a2, n2, c2, a3, n3, c3, a4, n4, c4, rfl⟩ := h.slices
 clear h
 obtain ⟨w1, hw1⟩ : ∃ w1, w1 = w.alloc (.cells #[.slice a1 n1 c1, .slice a2 n2 c2, .slice a3 n3 c3, .slice a4 n4 c4] 27 (0, 0)) := ⟨_, rfl⟩
 have hb1 : Below w.heap.size w w1 := by rw [hw1]; exact (Below.refl _ w).alloc (Nat.le_refl _) _
 have hs1 : w1.heap.size = w.heap.size + 1 := by rw [hw1]; simp
 have hst : St 27 w.heap.size #[.slice a1 n1 c1, .slice a2 n2 c2, .slice a3 n3 c3, .slice a4 n4 c4] w1 := by rw [hw1]; exact St.new w 27 _
 have HS := hI (show ∀ W, Below w1.heap.size w1 W → St 27 w.heap.size #[.slice a1 n1 c1, .slice a2 n2 c2, .slice a3 n3 c3, .slice a4 n4 c4] W from fun W hW => hst.below hW)
 have HLg := hI (show Calls Tryz.prog 9 #[.agg #[.slice a1 n1 c1, .slice a2 n2 c2, .slice a3 n3 c3, .slice a4 n4 c4]] w1 fun e w' => BigSays ca e ∧ Below w1.heap.size w1 w' from ixLarge_any [.slice a1 n1 c1, .slice a2 n2 c2, .slice a3 n3 c3, .slice a4 n4 c4] ca w1 (HCC.out w1 hb1))
 have HKn := hI (fun W => ixknown_any W)
 have HFo := hI (fun b W => ixformed_any b W)
 have HW1 := hI hw1
 have HB1 := hI hb1
 have HCC1 := hI (show ∀ W, Below w1.heap.size w1 W → CAt W.heap.size [.slice a1 n1 c1, .slice a2 n2 c2, .slice a3 n3 c3, .slice a4 n4 c4] ca W from fun W hW => HCC.out W (hb1.trans (hW.mono hb1.size)))
 have e1 : w1.cell? ⟨w.heap.size, 0, none⟩ = some (.slice a1 n1 c1) := hst.cell rfl
 have e2 : w1.cell? ⟨w.heap.size, 1, none⟩ = some (.slice a2 n2 c2) := hst.cell rfl
 have e3 : w1.cell? ⟨w.heap.size, 2, none⟩ = some (.slice a3 n3 c3) := hst.cell rfl
 have e4 : w1.cell? ⟨w.heap.size, 3, none⟩ = some (.slice a4 n4 c4) := hst.cell rfl
 clear hw1 hb1 hst HCC
 show Calls Tryz.prog 3 #[.agg #[.slice a1 n1 c1, .slice a2 n2 c2, .slice a3 n3 c3, .slice a4 n4 c4]] w _
 go_enter Tryz.func3, Tryz.ntmps3
 go_wp2_with fail
 rw [← HW1.out]
 go_wp2_with (first
  | (go_at_call 9; go_must (with_reducible refine HLg.out.mono ?_); rintro e5 w5 ⟨⟨r, rfl, hr⟩, b5⟩; have HR := hI hr; have B5 := hI b5; clear hr b5; cases r)
  | (go_at_call 10; go_must (with_reducible refine (HKn.out _).mono ?_); rintro e6 w6 ⟨rfl, b6⟩))
 · have HLn := hI (HR.out (by trivial))
   obtain ⟨o, ho⟩ : ∃ o : Bool, o = true ↔ ca.Ok := by
    by_cases h : ca.Ok
    · exact ⟨true, fun _ => h, fun _ => rfl⟩
    · exact ⟨false, fun e => (by cases e), fun e => absurd e h⟩
   have HIc := hI (show ∀ W, Below w1.heap.size w1 W → Calls Tryz.prog 11 #[.agg #[.slice a1 n1 c1, .slice a2 n2 c2, .slice a3 n3 c3, .slice a4 n4 c4]] W fun e w' => e = .returned (.int .i64 (if o then 0 else 14)) ∧ Below W.heap.size W w' from fun W hW => (inCheck_any _ ca W (HCC1.out W hW) (HLn.out.mono (by decide)) HNm.out).mono fun e w' ⟨⟨r, he, h1, h2⟩, hb⟩ => ⟨by
    rw [he]
    cases o with
    | true => rw [h2.2 (ho.1 rfl)]; rfl
    | false => rw [h1.resolve_left fun e => by cases ho.2 (h2.1 e)]; rfl, hb⟩)
   have HXc := hI (show ∀ W, Below w1.heap.size w1 W → Calls Tryz.prog 13 #[.agg #[.slice a1 n1 c1, .slice a2 n2 c2, .slice a3 n3 c3, .slice a4 n4 c4]] W fun e w' => e = .returned (.bool o) ∧ Below W.heap.size W w' from fun W hW => (ixCheck_any _ ca W (HCC1.out W hW) (by obtain ⟨h1, h2, h3, h4⟩ := HLn.out; omega)).mono fun e w' ⟨⟨r, he, h1⟩, hb⟩ => ⟨by
    rw [he]
    have : r = o := by
     cases r <;> cases o <;> first | rfl | (exact absurd (ho.2 (h1.1 rfl)) (by decide)) | (exact absurd (h1.2 (ho.1 rfl)) (by decide))
    rw [this], hb⟩)
   have HBD := hI (show Below w1.heap.size w1 w5.drew from B5.out.drew)
   have C0 := hI (HS.out _ HBD.out)
   clear ho e1 e2 e3 e4
   cases o with
   | true =>
    refine wp_region_held (S := fun W => St 27 w.heap.size #[.slice a1 n1 c1, .slice a2 n2 c2, .slice a3 n3 c3, .slice a4 n4 c4] W) (by kernel_rfl) ?_
    change wpAnyH _ _ _ _ _ _ _ _ (World.drew _)
    generalize World.drew w5 = WD at HBD C0 ⊢
    refine tkl 0 (.agg #[.slice a1 n1 c1, .slice a2 n2 c2, .slice a3 n3 c3, .slice a4 n4 c4]) rfl (by kernel_rfl) q3 (yld_box (by kernel_rfl) 27 (.tmp 1) rfl w.heap.size (by first | rfl | simp [Act.eval, Act.put]) 27 #[.slice a1 n1 c1, .slice a2 n2 c2, .slice a3 n3 c3, .slice a4 n4 c4] (fun w' hS => hS) _ Tryz.underlying27 rfl (by kernel_rfl)) C0.out ?_
    try go_simp
    refine tkl 2 (.agg #[.slice a1 n1 c1, .slice a2 n2 c2, .slice a3 n3 c3, .slice a4 n4 c4]) rfl (by kernel_rfl) q3 (yld_box (by kernel_rfl) 27 (.tmp 1) rfl w.heap.size (by first | rfl | simp [Act.eval, Act.put]) 27 #[.slice a1 n1 c1, .slice a2 n2 c2, .slice a3 n3 c3, .slice a4 n4 c4] (fun w' hS => hS) _ Tryz.underlying27 rfl (by kernel_rfl)) C0.out ?_
    try go_simp
    refine rd1 1 (by kernel_rfl) rfl fun K hK => ?_
    go_simp
    refine (HIc.out _ HBD.out).mono ?_
    rintro e6 w6 ⟨rfl, b6⟩
    have B6 := hI (HBD.out.trans (b6.mono HBD.out.size))
    have C6 := hI (HS.out _ B6.out)
    clear b6
    go_simp
    refine hK.out _ _ C6.out (fun S1 => ?_)
    clear hK K S1
    refine rd1 3 (by kernel_rfl) rfl fun K hK => ?_
    go_simp
    refine (HXc.out _ B6.out).mono ?_
    rintro e7 w7 ⟨rfl, b7⟩
    have B7 := hI (B6.out.trans (b7.mono B6.out.size))
    have C7 := hI (HS.out _ B7.out)
    clear b7
    go_simp
    refine hK.out _ _ C7.out (fun S1 => ?_)
    clear hK K S1
    refine rd1 4 (by kernel_rfl) rfl fun K hK => ?_
    go_simp
    refine (HFo.out _ _).mono ?_
    rintro e8 w8 ⟨rfl, rfl⟩
    go_simp
    refine hK.out _ _ C7.out (fun S1 => ?_)
    clear hK K S1
    refine tkp 5 (.bool true) rfl (by kernel_rfl) q3 (fun w' hS => ?_) C7.out ?_
    · clear hS; go_simp
    try go_simp
    refine tkp 6 (.bool true) rfl (by kernel_rfl) q3 (fun w' hS => ?_) C7.out ?_
    · clear hS; go_simp
    try go_simp
    refine rd1 7 (by kernel_rfl) rfl fun K hK => ?_
    go_simp
    refine (HKn.out _).mono ?_
    rintro e9 w9 ⟨rfl, b9⟩
    have B9 := hI (B7.out.trans (b9.mono B7.out.size))
    have C9 := hI (HS.out _ B9.out)
    clear b9
    go_simp
    refine hK.out _ _ C9.out (fun S1 => ?_)
    clear hK K S1
    refine tkp 8 (.bool true) rfl (by kernel_rfl) q3 (fun w' hS => ?_) C9.out ?_
    · clear hS; go_simp
    try go_simp
    refine rd1 9 (by kernel_rfl) rfl fun K hK => ?_
    go_simp
    refine hK.out _ _ C9.out (fun S1 => ?_)
    clear hK K S1
    refine wpAnyH_done (by kernel_rfl) ?_ _
    go_wp2_with fail
    go_ret
    exact ⟨rfl, HB1.out.trans (B9.out.mono HB1.out.size)⟩
   | false =>
    refine wp_region_held (S := fun W => St 27 w.heap.size #[.slice a1 n1 c1, .slice a2 n2 c2, .slice a3 n3 c3, .slice a4 n4 c4] W) (by kernel_rfl) ?_
    change wpAnyH _ _ _ _ _ _ _ _ (World.drew _)
    generalize World.drew w5 = WD at HBD C0 ⊢
    refine tkl 0 (.agg #[.slice a1 n1 c1, .slice a2 n2 c2, .slice a3 n3 c3, .slice a4 n4 c4]) rfl (by kernel_rfl) q3 (yld_box (by kernel_rfl) 27 (.tmp 1) rfl w.heap.size (by first | rfl | simp [Act.eval, Act.put]) 27 #[.slice a1 n1 c1, .slice a2 n2 c2, .slice a3 n3 c3, .slice a4 n4 c4] (fun w' hS => hS) _ Tryz.underlying27 rfl (by kernel_rfl)) C0.out ?_
    try go_simp
    refine tkl 2 (.agg #[.slice a1 n1 c1, .slice a2 n2 c2, .slice a3 n3 c3, .slice a4 n4 c4]) rfl (by kernel_rfl) q3 (yld_box (by kernel_rfl) 27 (.tmp 1) rfl w.heap.size (by first | rfl | simp [Act.eval, Act.put]) 27 #[.slice a1 n1 c1, .slice a2 n2 c2, .slice a3 n3 c3, .slice a4 n4 c4] (fun w' hS => hS) _ Tryz.underlying27 rfl (by kernel_rfl)) C0.out ?_
    try go_simp
    refine rd1 1 (by kernel_rfl) rfl fun K hK => ?_
    go_simp
    refine (HIc.out _ HBD.out).mono ?_
    rintro e6 w6 ⟨rfl, b6⟩
    have B6 := hI (HBD.out.trans (b6.mono HBD.out.size))
    have C6 := hI (HS.out _ B6.out)
    clear b6
    go_simp
    refine hK.out _ _ C6.out (fun S1 => ?_)
    clear hK K S1
    refine rd1 3 (by kernel_rfl) rfl fun K hK => ?_
    go_simp
    refine (HXc.out _ B6.out).mono ?_
    rintro e7 w7 ⟨rfl, b7⟩
    have B7 := hI (B6.out.trans (b7.mono B6.out.size))
    have C7 := hI (HS.out _ B7.out)
    clear b7
    go_simp
    refine hK.out _ _ C7.out (fun S1 => ?_)
    clear hK K S1
    refine rd1 4 (by kernel_rfl) rfl fun K hK => ?_
    go_simp
    refine (HFo.out _ _).mono ?_
    rintro e8 w8 ⟨rfl, rfl⟩
    go_simp
    refine hK.out _ _ C7.out (fun S1 => ?_)
    clear hK K S1
    refine tkp 5 (.bool true) rfl (by kernel_rfl) q3 (fun w' hS => ?_) C7.out ?_
    · clear hS; go_simp
    try go_simp
    refine tkp 6 (.bool true) rfl (by kernel_rfl) q3 (fun w' hS => ?_) C7.out ?_
    · clear hS; go_simp
    try go_simp
    refine rd1 7 (by kernel_rfl) rfl fun K hK => ?_
    go_simp
    refine (HKn.out _).mono ?_
    rintro e9 w9 ⟨rfl, b9⟩
    have B9 := hI (B7.out.trans (b9.mono B7.out.size))
    have C9 := hI (HS.out _ B9.out)
    clear b9
    go_simp
    refine hK.out _ _ C9.out (fun S1 => ?_)
    clear hK K S1
    refine tkp 8 (.bool true) rfl (by kernel_rfl) q3 (fun w' hS => ?_) C9.out ?_
    · clear hS; go_simp
    try go_simp
    refine rd1 9 (by kernel_rfl) rfl fun K hK => ?_
    go_simp
    refine hK.out _ _ C9.out (fun S1 => ?_)
    clear hK K S1
    refine wpAnyH_done (by kernel_rfl) ?_ _
    go_wp2_with fail
    go_ret
    exact ⟨rfl, HB1.out.trans (B9.out.mono HB1.out.size)⟩
 · go_ret
   exact ⟨rfl, HB1.out.trans ((B5.out.trans (b6.mono B5.out.size)).mono HB1.out.size)⟩
end Go.Proofs.YtngfknplljedeaaGreat
