/- Lemmas for the laws of index. -/
import Derived.Test.YtngfknplljedeaaGreatZr39
import Derived.Test.YtngfknplljedeaaGreatZrTk
import Derived.Test.YtngfknplljedeaaGreatZrHi
namespace Go.Proofs.YtngfknplljedeaaGreat
open Go.RowKit
theorem ord_i64 {α : Type} (lt : α → α → Bool) (x y : α) : ord lt x y = -1 ∨ ord lt x y = 1 ∨ ord lt x y = 0 := by
 unfold ord
 cases lt x y <;> cases lt y x <;> simp
set_option maxRecDepth 100000 in
set_option maxHeartbeats 4000000 in
theorem inAscHeld_any (v : Value) (xs : List Hd) (lt : Hd → Hd → Bool) (g : Nat) (w : World) (h : RowsAt w.heap.size 3 Hd.vs v xs w) (ht : ∀ a b c, lt a b = true → lt b c = true → lt a c = true) (eg : ∀ args w, (callFunc g args).run Tryz.prog w = .ok (.enter g args) w) (hof : ∀ W y x, Calls Tryz.prog g #[.agg (Hd.vs y).toArray, .agg (Hd.vs x).toArray] W fun e w' => e = .returned (.int .i64 (ord lt y x)) ∧ Below W.heap.size W w') :
 Calls Tryz.prog 84 #[v, .func (.func g) #[] #[]] w fun e w' => (∃ r, e = .returned (.bool r) ∧ (r = true ↔ xs.Pairwise fun a b => lt a b = true)) ∧ Below w.heap.size w w' := by
 obtain ⟨ao, cap, b, off, rfl, hl, hx⟩ := h.walk
 obtain ⟨n, hn⟩ : ∃ n, n = xs.length := ⟨_, rfl⟩
 rw [← hn] at hl hx ⊢
 have HX := hI (show ∀ i, i < n → ∃ x : Hd, xs[i]? = some x ∧ ao = some ⟨b, off, none⟩ ∧ ∀ W, Below w.heap.size w W → W.rangeAt b (off + i * 3) x.vs from fun i hi => by
  obtain ⟨x, e1, e2, e3, e4⟩ := hx i hi
  exact ⟨x, e1, e2, fun W hW j u hu => (hW.cell (p := ⟨b, off + i * 3 + j, none⟩) e3).trans (e4 j u hu)⟩)
 have HF := hI hof
 have HAll := hI (show (∀ j y x, j + 1 < n → xs[j]? = some y → xs[j + 1]? = some x → lt y x = true) → xs.Pairwise fun a b => lt a b = true from fun h => rises_of ht fun i x y hy hx => h i y x (by have := (List.getElem?_eq_some_iff.1 hx).1; omega) hy hx)
 have HNo := hI (show ∀ (j : Nat) y x, xs[j]? = some y → xs[j + 1]? = some x → lt y x = false → ¬ xs.Pairwise fun a b => lt a b = true from fun j y x hy hx hf hp => by
  have := rises_at hp (Nat.lt_succ_self j) hy hx
  rw [hf] at this
  cases this)
 clear hx h hn hof ht
 go_enter Tryz.func84, Tryz.ntmps84
 go_wp2_with fail
 go_loopw [5] (fun c wr => ∃ i m : Nat, Hid (i = m + 1) ∧ c = .int .i64 i ∧ (m = 0 ∨ m < n) ∧ (∀ j y x, j < m → xs[j]? = some y → xs[j + 1]? = some x → lt y x = true) ∧ Below w.heap.size w wr) (fun c _ => n + 1 - (intOf c).toNat)
 case atStart => exact ⟨1, 0, hI rfl, rfl, .inl rfl, fun j y x hj => by omega, Below.refl _ _⟩
 case round =>
  obtain ⟨i, m, HI, rfl, hmn, hall, hbel⟩ := hrel
  have HAl := hI hall
  have HB := hI hbel
  have HM := hI hmn
  have hi := HI.out
  clear hall hbel hmn
  by_cases hlt : i < n
  · obtain ⟨x, hxi, rfl, hr⟩ := HX.out i hlt
    obtain ⟨y, hyi, _, hr2⟩ := HX.out m (by omega)
    have HS := hI (show ∀ W, Below w.heap.size w W → W.rangeAt b (off + m * 3) y.vs ∧ W.rangeAt b (off + i * 3) x.vs from fun W hW => ⟨hr2 W hW, hr W hW⟩)
    have HXI := hI (And.intro hyi hxi)
    have i0 : (0 : Int) ≤ (i : Int) := by omega
    have i1 : (i : Int) < (n : Int) := by omega
    have m0 : (0 : Int) ≤ (m : Int) := by omega
    have m1 : (m : Int) < (n : Int) := by omega
    have s1 : IntKind.i64.wrap ((i : Int) - 1) = (m : Int) := by rw [IntWalk.i64_in _ (by omega)]; omega
    obtain ⟨r, hr3⟩ : ∃ r, r = ord lt y x := ⟨_, rfl⟩
    have HC := hI (show ∀ W, Calls Tryz.prog g #[.agg (Hd.vs y).toArray, .agg (Hd.vs x).toArray] W fun e w' => e = .returned (.int .i64 r) ∧ Below W.heap.size W w' from fun W => by rw [hr3]; exact HF.out W y x)
    have HBD := hI (show Below w.heap.size w wr.drew from HB.out.drew)
    have C0 := hI (HS.out _ HBD.out)
    have hord := ord_i64 lt y x
    rw [← hr3] at hord
    have HR3 := hI hr3
    clear hr hr2 hxi hyi hr3 hi
    rcases hord with rfl | h01
    · go_wp2_with fail
      refine wp_region_held (S := (fun W => W.rangeAt b (off + m * 3) y.vs ∧ W.rangeAt b (off + i * 3) x.vs)) (by kernel_rfl) ?_
      change wpAnyH _ _ _ _ _ _ _ _ (World.drew _)
      generalize World.drew wr = WD at HBD C0 ⊢
      refine tkp 0 (.func (.func g) #[] #[]) rfl (by kernel_rfl) q3 (fun w' hS => ?_) C0.out ?_
      · clear hS; go_simp
      try go_simp
      refine tkp 1 (.slice (some ⟨b, off, none⟩) n cap) rfl (by kernel_rfl) q3 (fun w' hS => ?_) C0.out ?_
      · clear hS; go_simp
      try go_simp
      refine tkp 2 (.int .i64 i) rfl (by kernel_rfl) q3 (fun w' hS => ?_) C0.out ?_
      · clear hS; go_simp
      try go_simp
      refine tkp 3 (.int .i64 m) rfl (by kernel_rfl) q3 (fun w' hS => ?_) C0.out ?_
      · clear hS; go_simp
      try go_simp
      refine tkp 4 (.pointer (some ⟨b, off + m * 3, none⟩)) rfl (by kernel_rfl) q3 (fun w' hS => ?_) C0.out ?_
      · clear hS; go_simp
      try go_simp
      refine tkl 5 (.agg y.vs.toArray) rfl (by kernel_rfl) q3 (yieldsIf_load_mid (by kernel_rfl) 49 (.tmp 16) rfl b (off + m * 3) (by first | rfl | simp [Act.eval, Act.put]) y.vs _ (fun w' hS => hS.1) Tryz.underlying49 rfl (by kernel_rfl)) C0.out ?_
      try go_simp
      refine tkp 6 (.slice (some ⟨b, off, none⟩) n cap) rfl (by kernel_rfl) q3 (fun w' hS => ?_) C0.out ?_
      · clear hS; go_simp
      try go_simp
      refine tkp 7 (.int .i64 i) rfl (by kernel_rfl) q3 (fun w' hS => ?_) C0.out ?_
      · clear hS; go_simp
      try go_simp
      refine tkp 8 (.pointer (some ⟨b, off + i * 3, none⟩)) rfl (by kernel_rfl) q3 (fun w' hS => ?_) C0.out ?_
      · clear hS; go_simp
      try go_simp
      refine tkl 9 (.agg x.vs.toArray) rfl (by kernel_rfl) q3 (yieldsIf_load_mid (by kernel_rfl) 49 (.tmp 20) rfl b (off + i * 3) (by first | rfl | simp [Act.eval, Act.put]) x.vs _ (fun w' hS => hS.2) Tryz.underlying49 rfl (by kernel_rfl)) C0.out ?_
      try go_simp
      refine rd1 10 (by kernel_rfl) rfl fun K hK => ?_
      go_simp
      refine (HC.out _).mono ?_
      rintro e w5 ⟨rfl, hb⟩
      have B5 := hI (HBD.out.trans (hb.mono HBD.out.size))
      clear hb
      go_simp
      refine hK.out _ _ (HS.out _ B5.out) (fun S1 => ?_)
      clear hK K S1
      refine tkp 11 (.bool false) rfl (by kernel_rfl) q3 (fun w' hS => ?_) (HS.out _ B5.out) ?_
      · clear hS; go_simp
      try go_simp
      refine wpAnyH_done (by kernel_rfl) ?_ _
      go_wp2_with fail
      go_roundw
      case rel =>
       refine ⟨i + 1, i, hI rfl, by go_num, .inr hlt, fun j y0 x0 hj hy hx => ?_, B5.out⟩
       by_cases hjm : j = m
       · subst hjm
         rw [HXI.out.1] at hy
         rw [← HI.out, HXI.out.2] at hx
         cases hy
         cases hx
         exact ord_neg.1 (by rw [← HR3.out]; decide)
       · exact HAl.out j y0 x0 (by have := HI.out; omega) hy hx
      case measure => simp [intOf]; omega
    · rcases h01 with rfl | rfl
      all_goals (
       go_wp2_with fail
       refine wp_region_held (S := (fun W => W.rangeAt b (off + m * 3) y.vs ∧ W.rangeAt b (off + i * 3) x.vs)) (by kernel_rfl) ?_
       change wpAnyH _ _ _ _ _ _ _ _ (World.drew _)
       generalize World.drew wr = WD at HBD C0 ⊢
       refine tkp 0 (.func (.func g) #[] #[]) rfl (by kernel_rfl) q3 (fun w' hS => ?_) C0.out ?_
       · clear hS; go_simp
       try go_simp
       refine tkp 1 (.slice (some ⟨b, off, none⟩) n cap) rfl (by kernel_rfl) q3 (fun w' hS => ?_) C0.out ?_
       · clear hS; go_simp
       try go_simp
       refine tkp 2 (.int .i64 i) rfl (by kernel_rfl) q3 (fun w' hS => ?_) C0.out ?_
       · clear hS; go_simp
       try go_simp
       refine tkp 3 (.int .i64 m) rfl (by kernel_rfl) q3 (fun w' hS => ?_) C0.out ?_
       · clear hS; go_simp
       try go_simp
       refine tkp 4 (.pointer (some ⟨b, off + m * 3, none⟩)) rfl (by kernel_rfl) q3 (fun w' hS => ?_) C0.out ?_
       · clear hS; go_simp
       try go_simp
       refine tkl 5 (.agg y.vs.toArray) rfl (by kernel_rfl) q3 (yieldsIf_load_mid (by kernel_rfl) 49 (.tmp 16) rfl b (off + m * 3) (by first | rfl | simp [Act.eval, Act.put]) y.vs _ (fun w' hS => hS.1) Tryz.underlying49 rfl (by kernel_rfl)) C0.out ?_
       try go_simp
       refine tkp 6 (.slice (some ⟨b, off, none⟩) n cap) rfl (by kernel_rfl) q3 (fun w' hS => ?_) C0.out ?_
       · clear hS; go_simp
       try go_simp
       refine tkp 7 (.int .i64 i) rfl (by kernel_rfl) q3 (fun w' hS => ?_) C0.out ?_
       · clear hS; go_simp
       try go_simp
       refine tkp 8 (.pointer (some ⟨b, off + i * 3, none⟩)) rfl (by kernel_rfl) q3 (fun w' hS => ?_) C0.out ?_
       · clear hS; go_simp
       try go_simp
       refine tkl 9 (.agg x.vs.toArray) rfl (by kernel_rfl) q3 (yieldsIf_load_mid (by kernel_rfl) 49 (.tmp 20) rfl b (off + i * 3) (by first | rfl | simp [Act.eval, Act.put]) x.vs _ (fun w' hS => hS.2) Tryz.underlying49 rfl (by kernel_rfl)) C0.out ?_
       try go_simp
       refine rd1 10 (by kernel_rfl) rfl fun K hK => ?_
       go_simp
       refine (HC.out _).mono ?_
       rintro e w5 ⟨rfl, hb⟩
       have B5 := hI (HBD.out.trans (hb.mono HBD.out.size))
       clear hb
       go_simp
       refine hK.out _ _ (HS.out _ B5.out) (fun S1 => ?_)
       clear hK K S1
       refine tkp 11 (.bool true) rfl (by kernel_rfl) q3 (fun w' hS => ?_) (HS.out _ B5.out) ?_
       · clear hS; go_simp
       try go_simp
       refine wpAnyH_done (by kernel_rfl) ?_ _
       go_wp2_with fail
       go_ret
       refine ⟨⟨false, rfl, fun e => (by cases e), fun hp => absurd hp ?_⟩, B5.out⟩
       refine HNo.out m y x HXI.out.1 (by rw [← HI.out]; exact HXI.out.2) ?_
       cases hll : lt y x with
       | false => rfl
       | true => exact absurd (ord_neg.2 hll) (by rw [← HR3.out]; decide))
  · have hmm := HM.out
    have hall := HAl.out
    go_wp2_with fail
    go_ret
    exact ⟨⟨true, rfl, fun _ => HAll.out fun j y x hj hy hx => hall j y x (by omega) hy hx, fun _ => rfl⟩, HB.out⟩
set_option maxRecDepth 100000 in
set_option maxHeartbeats 4000000 in
theorem inAscCached_any (v : Value) (xs : List Cd) (lt : Cd → Cd → Bool) (g : Nat) (w : World) (h : RowsAt w.heap.size 11 Cd.vs v xs w) (ht : ∀ a b c, lt a b = true → lt b c = true → lt a c = true) (eg : ∀ args w, (callFunc g args).run Tryz.prog w = .ok (.enter g args) w) (hof : ∀ W y x, Calls Tryz.prog g #[.agg (Cd.vs y).toArray, .agg (Cd.vs x).toArray] W fun e w' => e = .returned (.int .i64 (ord lt y x)) ∧ Below W.heap.size W w') :
 Calls Tryz.prog 86 #[v, .func (.func g) #[] #[]] w fun e w' => (∃ r, e = .returned (.bool r) ∧ (r = true ↔ xs.Pairwise fun a b => lt a b = true)) ∧ Below w.heap.size w w' := by
 obtain ⟨ao, cap, b, off, rfl, hl, hx⟩ := h.walk
 obtain ⟨n, hn⟩ : ∃ n, n = xs.length := ⟨_, rfl⟩
 rw [← hn] at hl hx ⊢
 have HX := hI (show ∀ i, i < n → ∃ x : Cd, xs[i]? = some x ∧ ao = some ⟨b, off, none⟩ ∧ ∀ W, Below w.heap.size w W → W.rangeAt b (off + i * 11) x.vs from fun i hi => by
  obtain ⟨x, e1, e2, e3, e4⟩ := hx i hi
  exact ⟨x, e1, e2, fun W hW j u hu => (hW.cell (p := ⟨b, off + i * 11 + j, none⟩) e3).trans (e4 j u hu)⟩)
 have HF := hI hof
 have HAll := hI (show (∀ j y x, j + 1 < n → xs[j]? = some y → xs[j + 1]? = some x → lt y x = true) → xs.Pairwise fun a b => lt a b = true from fun h => rises_of ht fun i x y hy hx => h i y x (by have := (List.getElem?_eq_some_iff.1 hx).1; omega) hy hx)
 have HNo := hI (show ∀ (j : Nat) y x, xs[j]? = some y → xs[j + 1]? = some x → lt y x = false → ¬ xs.Pairwise fun a b => lt a b = true from fun j y x hy hx hf hp => by
  have := rises_at hp (Nat.lt_succ_self j) hy hx
  rw [hf] at this
  cases this)
 clear hx h hn hof ht
 go_enter Tryz.func86, Tryz.ntmps86
 go_wp2_with fail
 go_loopw [5] (fun c wr => ∃ i m : Nat, Hid (i = m + 1) ∧ c = .int .i64 i ∧ (m = 0 ∨ m < n) ∧ (∀ j y x, j < m → xs[j]? = some y → xs[j + 1]? = some x → lt y x = true) ∧ Below w.heap.size w wr) (fun c _ => n + 1 - (intOf c).toNat)
 case atStart => exact ⟨1, 0, hI rfl, rfl, .inl rfl, fun j y x hj => by omega, Below.refl _ _⟩
 case round =>
  obtain ⟨i, m, HI, rfl, hmn, hall, hbel⟩ := hrel
  have HAl := hI hall
  have HB := hI hbel
  have HM := hI hmn
  have hi := HI.out
  clear hall hbel hmn
  by_cases hlt : i < n
  · obtain ⟨x, hxi, rfl, hr⟩ := HX.out i hlt
    obtain ⟨y, hyi, _, hr2⟩ := HX.out m (by omega)
    have HS := hI (show ∀ W, Below w.heap.size w W → W.rangeAt b (off + m * 11) y.vs ∧ W.rangeAt b (off + i * 11) x.vs from fun W hW => ⟨hr2 W hW, hr W hW⟩)
    have HXI := hI (And.intro hyi hxi)
    have i0 : (0 : Int) ≤ (i : Int) := by omega
    have i1 : (i : Int) < (n : Int) := by omega
    have m0 : (0 : Int) ≤ (m : Int) := by omega
    have m1 : (m : Int) < (n : Int) := by omega
    have s1 : IntKind.i64.wrap ((i : Int) - 1) = (m : Int) := by rw [IntWalk.i64_in _ (by omega)]; omega
    obtain ⟨r, hr3⟩ : ∃ r, r = ord lt y x := ⟨_, rfl⟩
    have HC := hI (show ∀ W, Calls Tryz.prog g #[.agg (Cd.vs y).toArray, .agg (Cd.vs x).toArray] W fun e w' => e = .returned (.int .i64 r) ∧ Below W.heap.size W w' from fun W => by rw [hr3]; exact HF.out W y x)
    have HBD := hI (show Below w.heap.size w wr.drew from HB.out.drew)
    have C0 := hI (HS.out _ HBD.out)
    have hord := ord_i64 lt y x
    rw [← hr3] at hord
    have HR3 := hI hr3
    clear hr hr2 hxi hyi hr3 hi
    rcases hord with rfl | h01
    · go_wp2_with fail
      refine wp_region_held (S := (fun W => W.rangeAt b (off + m * 11) y.vs ∧ W.rangeAt b (off + i * 11) x.vs)) (by kernel_rfl) ?_
      change wpAnyH _ _ _ _ _ _ _ _ (World.drew _)
      generalize World.drew wr = WD at HBD C0 ⊢
      refine tkp 0 (.func (.func g) #[] #[]) rfl (by kernel_rfl) q3 (fun w' hS => ?_) C0.out ?_
      · clear hS; go_simp
      try go_simp
      refine tkp 1 (.slice (some ⟨b, off, none⟩) n cap) rfl (by kernel_rfl) q3 (fun w' hS => ?_) C0.out ?_
      · clear hS; go_simp
      try go_simp
      refine tkp 2 (.int .i64 i) rfl (by kernel_rfl) q3 (fun w' hS => ?_) C0.out ?_
      · clear hS; go_simp
      try go_simp
      refine tkp 3 (.int .i64 m) rfl (by kernel_rfl) q3 (fun w' hS => ?_) C0.out ?_
      · clear hS; go_simp
      try go_simp
      refine tkp 4 (.pointer (some ⟨b, off + m * 11, none⟩)) rfl (by kernel_rfl) q3 (fun w' hS => ?_) C0.out ?_
      · clear hS; go_simp
      try go_simp
      refine tkl 5 (.agg y.vs.toArray) rfl (by kernel_rfl) q3 (yieldsIf_load_mid (by kernel_rfl) 57 (.tmp 16) rfl b (off + m * 11) (by first | rfl | simp [Act.eval, Act.put]) y.vs _ (fun w' hS => hS.1) Tryz.underlying57 rfl (by kernel_rfl)) C0.out ?_
      try go_simp
      refine tkp 6 (.slice (some ⟨b, off, none⟩) n cap) rfl (by kernel_rfl) q3 (fun w' hS => ?_) C0.out ?_
      · clear hS; go_simp
      try go_simp
      refine tkp 7 (.int .i64 i) rfl (by kernel_rfl) q3 (fun w' hS => ?_) C0.out ?_
      · clear hS; go_simp
      try go_simp
      refine tkp 8 (.pointer (some ⟨b, off + i * 11, none⟩)) rfl (by kernel_rfl) q3 (fun w' hS => ?_) C0.out ?_
      · clear hS; go_simp
      try go_simp
      refine tkl 9 (.agg x.vs.toArray) rfl (by kernel_rfl) q3 (yieldsIf_load_mid (by kernel_rfl) 57 (.tmp 20) rfl b (off + i * 11) (by first | rfl | simp [Act.eval, Act.put]) x.vs _ (fun w' hS => hS.2) Tryz.underlying57 rfl (by kernel_rfl)) C0.out ?_
      try go_simp
      refine rd1 10 (by kernel_rfl) rfl fun K hK => ?_
      go_simp
      refine (HC.out _).mono ?_
      rintro e w5 ⟨rfl, hb⟩
      have B5 := hI (HBD.out.trans (hb.mono HBD.out.size))
      clear hb
      go_simp
      refine hK.out _ _ (HS.out _ B5.out) (fun S1 => ?_)
      clear hK K S1
      refine tkp 11 (.bool false) rfl (by kernel_rfl) q3 (fun w' hS => ?_) (HS.out _ B5.out) ?_
      · clear hS; go_simp
      try go_simp
      refine wpAnyH_done (by kernel_rfl) ?_ _
      go_wp2_with fail
      go_roundw
      case rel =>
       refine ⟨i + 1, i, hI rfl, by go_num, .inr hlt, fun j y0 x0 hj hy hx => ?_, B5.out⟩
       by_cases hjm : j = m
       · subst hjm
         rw [HXI.out.1] at hy
         rw [← HI.out, HXI.out.2] at hx
         cases hy
         cases hx
         exact ord_neg.1 (by rw [← HR3.out]; decide)
       · exact HAl.out j y0 x0 (by have := HI.out; omega) hy hx
      case measure => simp [intOf]; omega
    · rcases h01 with rfl | rfl
      all_goals (
       go_wp2_with fail
       refine wp_region_held (S := (fun W => W.rangeAt b (off + m * 11) y.vs ∧ W.rangeAt b (off + i * 11) x.vs)) (by kernel_rfl) ?_
       change wpAnyH _ _ _ _ _ _ _ _ (World.drew _)
       generalize World.drew wr = WD at HBD C0 ⊢
       refine tkp 0 (.func (.func g) #[] #[]) rfl (by kernel_rfl) q3 (fun w' hS => ?_) C0.out ?_
       · clear hS; go_simp
       try go_simp
       refine tkp 1 (.slice (some ⟨b, off, none⟩) n cap) rfl (by kernel_rfl) q3 (fun w' hS => ?_) C0.out ?_
       · clear hS; go_simp
       try go_simp
       refine tkp 2 (.int .i64 i) rfl (by kernel_rfl) q3 (fun w' hS => ?_) C0.out ?_
       · clear hS; go_simp
       try go_simp
       refine tkp 3 (.int .i64 m) rfl (by kernel_rfl) q3 (fun w' hS => ?_) C0.out ?_
       · clear hS; go_simp
       try go_simp
       refine tkp 4 (.pointer (some ⟨b, off + m * 11, none⟩)) rfl (by kernel_rfl) q3 (fun w' hS => ?_) C0.out ?_
       · clear hS; go_simp
       try go_simp
       refine tkl 5 (.agg y.vs.toArray) rfl (by kernel_rfl) q3 (yieldsIf_load_mid (by kernel_rfl) 57 (.tmp 16) rfl b (off + m * 11) (by first | rfl | simp [Act.eval, Act.put]) y.vs _ (fun w' hS => hS.1) Tryz.underlying57 rfl (by kernel_rfl)) C0.out ?_
       try go_simp
       refine tkp 6 (.slice (some ⟨b, off, none⟩) n cap) rfl (by kernel_rfl) q3 (fun w' hS => ?_) C0.out ?_
       · clear hS; go_simp
       try go_simp
       refine tkp 7 (.int .i64 i) rfl (by kernel_rfl) q3 (fun w' hS => ?_) C0.out ?_
       · clear hS; go_simp
       try go_simp
       refine tkp 8 (.pointer (some ⟨b, off + i * 11, none⟩)) rfl (by kernel_rfl) q3 (fun w' hS => ?_) C0.out ?_
       · clear hS; go_simp
       try go_simp
       refine tkl 9 (.agg x.vs.toArray) rfl (by kernel_rfl) q3 (yieldsIf_load_mid (by kernel_rfl) 57 (.tmp 20) rfl b (off + i * 11) (by first | rfl | simp [Act.eval, Act.put]) x.vs _ (fun w' hS => hS.2) Tryz.underlying57 rfl (by kernel_rfl)) C0.out ?_
       try go_simp
       refine rd1 10 (by kernel_rfl) rfl fun K hK => ?_
       go_simp
       refine (HC.out _).mono ?_
       rintro e w5 ⟨rfl, hb⟩
       have B5 := hI (HBD.out.trans (hb.mono HBD.out.size))
       clear hb
       go_simp
       refine hK.out _ _ (HS.out _ B5.out) (fun S1 => ?_)
       clear hK K S1
       refine tkp 11 (.bool true) rfl (by kernel_rfl) q3 (fun w' hS => ?_) (HS.out _ B5.out) ?_
       · clear hS; go_simp
       try go_simp
       refine wpAnyH_done (by kernel_rfl) ?_ _
       go_wp2_with fail
       go_ret
       refine ⟨⟨false, rfl, fun e => (by cases e), fun hp => absurd hp ?_⟩, B5.out⟩
       refine HNo.out m y x HXI.out.1 (by rw [← HI.out]; exact HXI.out.2) ?_
       cases hll : lt y x with
       | false => rfl
       | true => exact absurd (ord_neg.2 hll) (by rw [← HR3.out]; decide))
  · have hmm := HM.out
    have hall := HAl.out
    go_wp2_with fail
    go_ret
    exact ⟨⟨true, rfl, fun _ => HAll.out fun j y x hj hy hx => hall j y x (by omega) hy hx, fun _ => rfl⟩, HB.out⟩
set_option maxRecDepth 100000 in
set_option maxHeartbeats 4000000 in
theorem inAscKnown_any (v : Value) (xs : List Kn) (lt : Kn → Kn → Bool) (g : Nat) (w : World) (h : RowsAt w.heap.size 3 Kn.vs v xs w) (ht : ∀ a b c, lt a b = true → lt b c = true → lt a c = true) (eg : ∀ args w, (callFunc g args).run Tryz.prog w = .ok (.enter g args) w) (hof : ∀ W y x, Calls Tryz.prog g #[.agg (Kn.vs y).toArray, .agg (Kn.vs x).toArray] W fun e w' => e = .returned (.int .i64 (ord lt y x)) ∧ Below W.heap.size W w') :
 Calls Tryz.prog 88 #[v, .func (.func g) #[] #[]] w fun e w' => (∃ r, e = .returned (.bool r) ∧ (r = true ↔ xs.Pairwise fun a b => lt a b = true)) ∧ Below w.heap.size w w' := by
 obtain ⟨ao, cap, b, off, rfl, hl, hx⟩ := h.walk
 obtain ⟨n, hn⟩ : ∃ n, n = xs.length := ⟨_, rfl⟩
 rw [← hn] at hl hx ⊢
 have HX := hI (show ∀ i, i < n → ∃ x : Kn, xs[i]? = some x ∧ ao = some ⟨b, off, none⟩ ∧ ∀ W, Below w.heap.size w W → W.rangeAt b (off + i * 3) x.vs from fun i hi => by
  obtain ⟨x, e1, e2, e3, e4⟩ := hx i hi
  exact ⟨x, e1, e2, fun W hW j u hu => (hW.cell (p := ⟨b, off + i * 3 + j, none⟩) e3).trans (e4 j u hu)⟩)
 have HF := hI hof
 have HAll := hI (show (∀ j y x, j + 1 < n → xs[j]? = some y → xs[j + 1]? = some x → lt y x = true) → xs.Pairwise fun a b => lt a b = true from fun h => rises_of ht fun i x y hy hx => h i y x (by have := (List.getElem?_eq_some_iff.1 hx).1; omega) hy hx)
 have HNo := hI (show ∀ (j : Nat) y x, xs[j]? = some y → xs[j + 1]? = some x → lt y x = false → ¬ xs.Pairwise fun a b => lt a b = true from fun j y x hy hx hf hp => by
  have := rises_at hp (Nat.lt_succ_self j) hy hx
  rw [hf] at this
  cases this)
 clear hx h hn hof ht
 go_enter Tryz.func88, Tryz.ntmps88
 go_wp2_with fail
 go_loopw [5] (fun c wr => ∃ i m : Nat, Hid (i = m + 1) ∧ c = .int .i64 i ∧ (m = 0 ∨ m < n) ∧ (∀ j y x, j < m → xs[j]? = some y → xs[j + 1]? = some x → lt y x = true) ∧ Below w.heap.size w wr) (fun c _ => n + 1 - (intOf c).toNat)
 case atStart => exact ⟨1, 0, hI rfl, rfl, .inl rfl, fun j y x hj => by omega, Below.refl _ _⟩
 case round =>
  obtain ⟨i, m, HI, rfl, hmn, hall, hbel⟩ := hrel
  have HAl := hI hall
  have HB := hI hbel
  have HM := hI hmn
  have hi := HI.out
  clear hall hbel hmn
  by_cases hlt : i < n
  · obtain ⟨x, hxi, rfl, hr⟩ := HX.out i hlt
    obtain ⟨y, hyi, _, hr2⟩ := HX.out m (by omega)
    have HS := hI (show ∀ W, Below w.heap.size w W → W.rangeAt b (off + m * 3) y.vs ∧ W.rangeAt b (off + i * 3) x.vs from fun W hW => ⟨hr2 W hW, hr W hW⟩)
    have HXI := hI (And.intro hyi hxi)
    have i0 : (0 : Int) ≤ (i : Int) := by omega
    have i1 : (i : Int) < (n : Int) := by omega
    have m0 : (0 : Int) ≤ (m : Int) := by omega
    have m1 : (m : Int) < (n : Int) := by omega
    have s1 : IntKind.i64.wrap ((i : Int) - 1) = (m : Int) := by rw [IntWalk.i64_in _ (by omega)]; omega
    obtain ⟨r, hr3⟩ : ∃ r, r = ord lt y x := ⟨_, rfl⟩
    have HC := hI (show ∀ W, Calls Tryz.prog g #[.agg (Kn.vs y).toArray, .agg (Kn.vs x).toArray] W fun e w' => e = .returned (.int .i64 r) ∧ Below W.heap.size W w' from fun W => by rw [hr3]; exact HF.out W y x)
    have HBD := hI (show Below w.heap.size w wr.drew from HB.out.drew)
    have C0 := hI (HS.out _ HBD.out)
    have hord := ord_i64 lt y x
    rw [← hr3] at hord
    have HR3 := hI hr3
    clear hr hr2 hxi hyi hr3 hi
    rcases hord with rfl | h01
    · go_wp2_with fail
      refine wp_region_held (S := (fun W => W.rangeAt b (off + m * 3) y.vs ∧ W.rangeAt b (off + i * 3) x.vs)) (by kernel_rfl) ?_
      change wpAnyH _ _ _ _ _ _ _ _ (World.drew _)
      generalize World.drew wr = WD at HBD C0 ⊢
      refine tkp 0 (.func (.func g) #[] #[]) rfl (by kernel_rfl) q3 (fun w' hS => ?_) C0.out ?_
      · clear hS; go_simp
      try go_simp
      refine tkp 1 (.slice (some ⟨b, off, none⟩) n cap) rfl (by kernel_rfl) q3 (fun w' hS => ?_) C0.out ?_
      · clear hS; go_simp
      try go_simp
      refine tkp 2 (.int .i64 i) rfl (by kernel_rfl) q3 (fun w' hS => ?_) C0.out ?_
      · clear hS; go_simp
      try go_simp
      refine tkp 3 (.int .i64 m) rfl (by kernel_rfl) q3 (fun w' hS => ?_) C0.out ?_
      · clear hS; go_simp
      try go_simp
      refine tkp 4 (.pointer (some ⟨b, off + m * 3, none⟩)) rfl (by kernel_rfl) q3 (fun w' hS => ?_) C0.out ?_
      · clear hS; go_simp
      try go_simp
      refine tkl 5 (.agg y.vs.toArray) rfl (by kernel_rfl) q3 (yieldsIf_load_mid (by kernel_rfl) 61 (.tmp 16) rfl b (off + m * 3) (by first | rfl | simp [Act.eval, Act.put]) y.vs _ (fun w' hS => hS.1) Tryz.underlying61 rfl (by kernel_rfl)) C0.out ?_
      try go_simp
      refine tkp 6 (.slice (some ⟨b, off, none⟩) n cap) rfl (by kernel_rfl) q3 (fun w' hS => ?_) C0.out ?_
      · clear hS; go_simp
      try go_simp
      refine tkp 7 (.int .i64 i) rfl (by kernel_rfl) q3 (fun w' hS => ?_) C0.out ?_
      · clear hS; go_simp
      try go_simp
      refine tkp 8 (.pointer (some ⟨b, off + i * 3, none⟩)) rfl (by kernel_rfl) q3 (fun w' hS => ?_) C0.out ?_
      · clear hS; go_simp
      try go_simp
      refine tkl 9 (.agg x.vs.toArray) rfl (by kernel_rfl) q3 (yieldsIf_load_mid (by kernel_rfl) 61 (.tmp 20) rfl b (off + i * 3) (by first | rfl | simp [Act.eval, Act.put]) x.vs _ (fun w' hS => hS.2) Tryz.underlying61 rfl (by kernel_rfl)) C0.out ?_
      try go_simp
      refine rd1 10 (by kernel_rfl) rfl fun K hK => ?_
      go_simp
      refine (HC.out _).mono ?_
      rintro e w5 ⟨rfl, hb⟩
      have B5 := hI (HBD.out.trans (hb.mono HBD.out.size))
      clear hb
      go_simp
      refine hK.out _ _ (HS.out _ B5.out) (fun S1 => ?_)
      clear hK K S1
      refine tkp 11 (.bool false) rfl (by kernel_rfl) q3 (fun w' hS => ?_) (HS.out _ B5.out) ?_
      · clear hS; go_simp
      try go_simp
      refine wpAnyH_done (by kernel_rfl) ?_ _
      go_wp2_with fail
      go_roundw
      case rel =>
       refine ⟨i + 1, i, hI rfl, by go_num, .inr hlt, fun j y0 x0 hj hy hx => ?_, B5.out⟩
       by_cases hjm : j = m
       · subst hjm
         rw [HXI.out.1] at hy
         rw [← HI.out, HXI.out.2] at hx
         cases hy
         cases hx
         exact ord_neg.1 (by rw [← HR3.out]; decide)
       · exact HAl.out j y0 x0 (by have := HI.out; omega) hy hx
      case measure => simp [intOf]; omega
    · rcases h01 with rfl | rfl
      all_goals (
       go_wp2_with fail
       refine wp_region_held (S := (fun W => W.rangeAt b (off + m * 3) y.vs ∧ W.rangeAt b (off + i * 3) x.vs)) (by kernel_rfl) ?_
       change wpAnyH _ _ _ _ _ _ _ _ (World.drew _)
       generalize World.drew wr = WD at HBD C0 ⊢
       refine tkp 0 (.func (.func g) #[] #[]) rfl (by kernel_rfl) q3 (fun w' hS => ?_) C0.out ?_
       · clear hS; go_simp
       try go_simp
       refine tkp 1 (.slice (some ⟨b, off, none⟩) n cap) rfl (by kernel_rfl) q3 (fun w' hS => ?_) C0.out ?_
       · clear hS; go_simp
       try go_simp
       refine tkp 2 (.int .i64 i) rfl (by kernel_rfl) q3 (fun w' hS => ?_) C0.out ?_
       · clear hS; go_simp
       try go_simp
       refine tkp 3 (.int .i64 m) rfl (by kernel_rfl) q3 (fun w' hS => ?_) C0.out ?_
       · clear hS; go_simp
       try go_simp
       refine tkp 4 (.pointer (some ⟨b, off + m * 3, none⟩)) rfl (by kernel_rfl) q3 (fun w' hS => ?_) C0.out ?_
       · clear hS; go_simp
       try go_simp
       refine tkl 5 (.agg y.vs.toArray) rfl (by kernel_rfl) q3 (yieldsIf_load_mid (by kernel_rfl) 61 (.tmp 16) rfl b (off + m * 3) (by first | rfl | simp [Act.eval, Act.put]) y.vs _ (fun w' hS => hS.1) Tryz.underlying61 rfl (by kernel_rfl)) C0.out ?_
       try go_simp
       refine tkp 6 (.slice (some ⟨b, off, none⟩) n cap) rfl (by kernel_rfl) q3 (fun w' hS => ?_) C0.out ?_
       · clear hS; go_simp
       try go_simp
       refine tkp 7 (.int .i64 i) rfl (by kernel_rfl) q3 (fun w' hS => ?_) C0.out ?_
       · clear hS; go_simp
       try go_simp
       refine tkp 8 (.pointer (some ⟨b, off + i * 3, none⟩)) rfl (by kernel_rfl) q3 (fun w' hS => ?_) C0.out ?_
       · clear hS; go_simp
       try go_simp
       refine tkl 9 (.agg x.vs.toArray) rfl (by kernel_rfl) q3 (yieldsIf_load_mid (by kernel_rfl) 61 (.tmp 20) rfl b (off + i * 3) (by first | rfl | simp [Act.eval, Act.put]) x.vs _ (fun w' hS => hS.2) Tryz.underlying61 rfl (by kernel_rfl)) C0.out ?_
       try go_simp
       refine rd1 10 (by kernel_rfl) rfl fun K hK => ?_
       go_simp
       refine (HC.out _).mono ?_
       rintro e w5 ⟨rfl, hb⟩
       have B5 := hI (HBD.out.trans (hb.mono HBD.out.size))
       clear hb
       go_simp
       refine hK.out _ _ (HS.out _ B5.out) (fun S1 => ?_)
       clear hK K S1
       refine tkp 11 (.bool true) rfl (by kernel_rfl) q3 (fun w' hS => ?_) (HS.out _ B5.out) ?_
       · clear hS; go_simp
       try go_simp
       refine wpAnyH_done (by kernel_rfl) ?_ _
       go_wp2_with fail
       go_ret
       refine ⟨⟨false, rfl, fun e => (by cases e), fun hp => absurd hp ?_⟩, B5.out⟩
       refine HNo.out m y x HXI.out.1 (by rw [← HI.out]; exact HXI.out.2) ?_
       cases hll : lt y x with
       | false => rfl
       | true => exact absurd (ord_neg.2 hll) (by rw [← HR3.out]; decide))
  · have hmm := HM.out
    have hall := HAl.out
    go_wp2_with fail
    go_ret
    exact ⟨⟨true, rfl, fun _ => HAll.out fun j y x hj hy hx => hall j y x (by omega) hy hx, fun _ => rfl⟩, HB.out⟩
set_option maxRecDepth 100000 in
set_option maxHeartbeats 4000000 in
theorem inAscPlaced_any (v : Value) (xs : List Bk) (lt : Bk → Bk → Bool) (g : Nat) (w : World) (h : RowsAt w.heap.size 3 Bk.vs v xs w) (ht : ∀ a b c, lt a b = true → lt b c = true → lt a c = true) (eg : ∀ args w, (callFunc g args).run Tryz.prog w = .ok (.enter g args) w) (hof : ∀ W y x, Calls Tryz.prog g #[.agg (Bk.vs y).toArray, .agg (Bk.vs x).toArray] W fun e w' => e = .returned (.int .i64 (ord lt y x)) ∧ Below W.heap.size W w') :
 Calls Tryz.prog 90 #[v, .func (.func g) #[] #[]] w fun e w' => (∃ r, e = .returned (.bool r) ∧ (r = true ↔ xs.Pairwise fun a b => lt a b = true)) ∧ Below w.heap.size w w' := by
 obtain ⟨ao, cap, b, off, rfl, hl, hx⟩ := h.walk
 obtain ⟨n, hn⟩ : ∃ n, n = xs.length := ⟨_, rfl⟩
 rw [← hn] at hl hx ⊢
 have HX := hI (show ∀ i, i < n → ∃ x : Bk, xs[i]? = some x ∧ ao = some ⟨b, off, none⟩ ∧ ∀ W, Below w.heap.size w W → W.rangeAt b (off + i * 3) x.vs from fun i hi => by
  obtain ⟨x, e1, e2, e3, e4⟩ := hx i hi
  exact ⟨x, e1, e2, fun W hW j u hu => (hW.cell (p := ⟨b, off + i * 3 + j, none⟩) e3).trans (e4 j u hu)⟩)
 have HF := hI hof
 have HAll := hI (show (∀ j y x, j + 1 < n → xs[j]? = some y → xs[j + 1]? = some x → lt y x = true) → xs.Pairwise fun a b => lt a b = true from fun h => rises_of ht fun i x y hy hx => h i y x (by have := (List.getElem?_eq_some_iff.1 hx).1; omega) hy hx)
 have HNo := hI (show ∀ (j : Nat) y x, xs[j]? = some y → xs[j + 1]? = some x → lt y x = false → ¬ xs.Pairwise fun a b => lt a b = true from fun j y x hy hx hf hp => by
  have := rises_at hp (Nat.lt_succ_self j) hy hx
  rw [hf] at this
  cases this)
 clear hx h hn hof ht
 go_enter Tryz.func90, Tryz.ntmps90
 go_wp2_with fail
 go_loopw [5] (fun c wr => ∃ i m : Nat, Hid (i = m + 1) ∧ c = .int .i64 i ∧ (m = 0 ∨ m < n) ∧ (∀ j y x, j < m → xs[j]? = some y → xs[j + 1]? = some x → lt y x = true) ∧ Below w.heap.size w wr) (fun c _ => n + 1 - (intOf c).toNat)
 case atStart => exact ⟨1, 0, hI rfl, rfl, .inl rfl, fun j y x hj => by omega, Below.refl _ _⟩
 case round =>
  obtain ⟨i, m, HI, rfl, hmn, hall, hbel⟩ := hrel
  have HAl := hI hall
  have HB := hI hbel
  have HM := hI hmn
  have hi := HI.out
  clear hall hbel hmn
  by_cases hlt : i < n
  · obtain ⟨x, hxi, rfl, hr⟩ := HX.out i hlt
    obtain ⟨y, hyi, _, hr2⟩ := HX.out m (by omega)
    have HS := hI (show ∀ W, Below w.heap.size w W → W.rangeAt b (off + m * 3) y.vs ∧ W.rangeAt b (off + i * 3) x.vs from fun W hW => ⟨hr2 W hW, hr W hW⟩)
    have HXI := hI (And.intro hyi hxi)
    have i0 : (0 : Int) ≤ (i : Int) := by omega
    have i1 : (i : Int) < (n : Int) := by omega
    have m0 : (0 : Int) ≤ (m : Int) := by omega
    have m1 : (m : Int) < (n : Int) := by omega
    have s1 : IntKind.i64.wrap ((i : Int) - 1) = (m : Int) := by rw [IntWalk.i64_in _ (by omega)]; omega
    obtain ⟨r, hr3⟩ : ∃ r, r = ord lt y x := ⟨_, rfl⟩
    have HC := hI (show ∀ W, Calls Tryz.prog g #[.agg (Bk.vs y).toArray, .agg (Bk.vs x).toArray] W fun e w' => e = .returned (.int .i64 r) ∧ Below W.heap.size W w' from fun W => by rw [hr3]; exact HF.out W y x)
    have HBD := hI (show Below w.heap.size w wr.drew from HB.out.drew)
    have C0 := hI (HS.out _ HBD.out)
    have hord := ord_i64 lt y x
    rw [← hr3] at hord
    have HR3 := hI hr3
    clear hr hr2 hxi hyi hr3 hi
    rcases hord with rfl | h01
    · go_wp2_with fail
      refine wp_region_held (S := (fun W => W.rangeAt b (off + m * 3) y.vs ∧ W.rangeAt b (off + i * 3) x.vs)) (by kernel_rfl) ?_
      change wpAnyH _ _ _ _ _ _ _ _ (World.drew _)
      generalize World.drew wr = WD at HBD C0 ⊢
      refine tkp 0 (.func (.func g) #[] #[]) rfl (by kernel_rfl) q3 (fun w' hS => ?_) C0.out ?_
      · clear hS; go_simp
      try go_simp
      refine tkp 1 (.slice (some ⟨b, off, none⟩) n cap) rfl (by kernel_rfl) q3 (fun w' hS => ?_) C0.out ?_
      · clear hS; go_simp
      try go_simp
      refine tkp 2 (.int .i64 i) rfl (by kernel_rfl) q3 (fun w' hS => ?_) C0.out ?_
      · clear hS; go_simp
      try go_simp
      refine tkp 3 (.int .i64 m) rfl (by kernel_rfl) q3 (fun w' hS => ?_) C0.out ?_
      · clear hS; go_simp
      try go_simp
      refine tkp 4 (.pointer (some ⟨b, off + m * 3, none⟩)) rfl (by kernel_rfl) q3 (fun w' hS => ?_) C0.out ?_
      · clear hS; go_simp
      try go_simp
      refine tkl 5 (.agg y.vs.toArray) rfl (by kernel_rfl) q3 (yieldsIf_load_mid (by kernel_rfl) 66 (.tmp 16) rfl b (off + m * 3) (by first | rfl | simp [Act.eval, Act.put]) y.vs _ (fun w' hS => hS.1) Tryz.underlying66 rfl (by kernel_rfl)) C0.out ?_
      try go_simp
      refine tkp 6 (.slice (some ⟨b, off, none⟩) n cap) rfl (by kernel_rfl) q3 (fun w' hS => ?_) C0.out ?_
      · clear hS; go_simp
      try go_simp
      refine tkp 7 (.int .i64 i) rfl (by kernel_rfl) q3 (fun w' hS => ?_) C0.out ?_
      · clear hS; go_simp
      try go_simp
      refine tkp 8 (.pointer (some ⟨b, off + i * 3, none⟩)) rfl (by kernel_rfl) q3 (fun w' hS => ?_) C0.out ?_
      · clear hS; go_simp
      try go_simp
      refine tkl 9 (.agg x.vs.toArray) rfl (by kernel_rfl) q3 (yieldsIf_load_mid (by kernel_rfl) 66 (.tmp 20) rfl b (off + i * 3) (by first | rfl | simp [Act.eval, Act.put]) x.vs _ (fun w' hS => hS.2) Tryz.underlying66 rfl (by kernel_rfl)) C0.out ?_
      try go_simp
      refine rd1 10 (by kernel_rfl) rfl fun K hK => ?_
      go_simp
      refine (HC.out _).mono ?_
      rintro e w5 ⟨rfl, hb⟩
      have B5 := hI (HBD.out.trans (hb.mono HBD.out.size))
      clear hb
      go_simp
      refine hK.out _ _ (HS.out _ B5.out) (fun S1 => ?_)
      clear hK K S1
      refine tkp 11 (.bool false) rfl (by kernel_rfl) q3 (fun w' hS => ?_) (HS.out _ B5.out) ?_
      · clear hS; go_simp
      try go_simp
      refine wpAnyH_done (by kernel_rfl) ?_ _
      go_wp2_with fail
      go_roundw
      case rel =>
       refine ⟨i + 1, i, hI rfl, by go_num, .inr hlt, fun j y0 x0 hj hy hx => ?_, B5.out⟩
       by_cases hjm : j = m
       · subst hjm
         rw [HXI.out.1] at hy
         rw [← HI.out, HXI.out.2] at hx
         cases hy
         cases hx
         exact ord_neg.1 (by rw [← HR3.out]; decide)
       · exact HAl.out j y0 x0 (by have := HI.out; omega) hy hx
      case measure => simp [intOf]; omega
    · rcases h01 with rfl | rfl
      all_goals (
       go_wp2_with fail
       refine wp_region_held (S := (fun W => W.rangeAt b (off + m * 3) y.vs ∧ W.rangeAt b (off + i * 3) x.vs)) (by kernel_rfl) ?_
       change wpAnyH _ _ _ _ _ _ _ _ (World.drew _)
       generalize World.drew wr = WD at HBD C0 ⊢
       refine tkp 0 (.func (.func g) #[] #[]) rfl (by kernel_rfl) q3 (fun w' hS => ?_) C0.out ?_
       · clear hS; go_simp
       try go_simp
       refine tkp 1 (.slice (some ⟨b, off, none⟩) n cap) rfl (by kernel_rfl) q3 (fun w' hS => ?_) C0.out ?_
       · clear hS; go_simp
       try go_simp
       refine tkp 2 (.int .i64 i) rfl (by kernel_rfl) q3 (fun w' hS => ?_) C0.out ?_
       · clear hS; go_simp
       try go_simp
       refine tkp 3 (.int .i64 m) rfl (by kernel_rfl) q3 (fun w' hS => ?_) C0.out ?_
       · clear hS; go_simp
       try go_simp
       refine tkp 4 (.pointer (some ⟨b, off + m * 3, none⟩)) rfl (by kernel_rfl) q3 (fun w' hS => ?_) C0.out ?_
       · clear hS; go_simp
       try go_simp
       refine tkl 5 (.agg y.vs.toArray) rfl (by kernel_rfl) q3 (yieldsIf_load_mid (by kernel_rfl) 66 (.tmp 16) rfl b (off + m * 3) (by first | rfl | simp [Act.eval, Act.put]) y.vs _ (fun w' hS => hS.1) Tryz.underlying66 rfl (by kernel_rfl)) C0.out ?_
       try go_simp
       refine tkp 6 (.slice (some ⟨b, off, none⟩) n cap) rfl (by kernel_rfl) q3 (fun w' hS => ?_) C0.out ?_
       · clear hS; go_simp
       try go_simp
       refine tkp 7 (.int .i64 i) rfl (by kernel_rfl) q3 (fun w' hS => ?_) C0.out ?_
       · clear hS; go_simp
       try go_simp
       refine tkp 8 (.pointer (some ⟨b, off + i * 3, none⟩)) rfl (by kernel_rfl) q3 (fun w' hS => ?_) C0.out ?_
       · clear hS; go_simp
       try go_simp
       refine tkl 9 (.agg x.vs.toArray) rfl (by kernel_rfl) q3 (yieldsIf_load_mid (by kernel_rfl) 66 (.tmp 20) rfl b (off + i * 3) (by first | rfl | simp [Act.eval, Act.put]) x.vs _ (fun w' hS => hS.2) Tryz.underlying66 rfl (by kernel_rfl)) C0.out ?_
       try go_simp
       refine rd1 10 (by kernel_rfl) rfl fun K hK => ?_
       go_simp
       refine (HC.out _).mono ?_
       rintro e w5 ⟨rfl, hb⟩
       have B5 := hI (HBD.out.trans (hb.mono HBD.out.size))
       clear hb
       go_simp
       refine hK.out _ _ (HS.out _ B5.out) (fun S1 => ?_)
       clear hK K S1
       refine tkp 11 (.bool true) rfl (by kernel_rfl) q3 (fun w' hS => ?_) (HS.out _ B5.out) ?_
       · clear hS; go_simp
       try go_simp
       refine wpAnyH_done (by kernel_rfl) ?_ _
       go_wp2_with fail
       go_ret
       refine ⟨⟨false, rfl, fun e => (by cases e), fun hp => absurd hp ?_⟩, B5.out⟩
       refine HNo.out m y x HXI.out.1 (by rw [← HI.out]; exact HXI.out.2) ?_
       cases hll : lt y x with
       | false => rfl
       | true => exact absurd (ord_neg.2 hll) (by rw [← HR3.out]; decide))
  · have hmm := HM.out
    have hall := HAl.out
    go_wp2_with fail
    go_ret
    exact ⟨⟨true, rfl, fun _ => HAll.out fun j y x hj hy hx => hall j y x (by omega) hy hx, fun _ => rfl⟩, HB.out⟩
end Go.Proofs.YtngfknplljedeaaGreat
