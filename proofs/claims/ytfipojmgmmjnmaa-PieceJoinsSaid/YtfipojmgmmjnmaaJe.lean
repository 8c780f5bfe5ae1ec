/- The reference's Join. -/
import Derived.Test.YtfipojmgmmjnmaaJd
import Derived.Test.YtfipojmgmmjnmaaQe
namespace Go.Proofs.Ytfipojmgmmjnmaa
open Go.RowKit
set_option linter.unusedVariables false

theorem headD_of {l : List Pz} {x y : Pz} (h : l[0]? = some y) : l.headD x = y := by
  cases l with
  | nil => simp at h
  | cons z l => simp at h; exact h
theorem glue_at (l : List Pz) (k : Nat) (x : Pz) (h : l[k]? = some x) : glue (l.take (k + 1)) = glue (l.take k) ++ x.data := by
  obtain ⟨hk, rfl⟩ := List.getElem?_eq_some_iff.1 h
  rw [List.take_succ_eq_append_getElem hk]
  exact glue_snoc _ _
theorem glue_size (l : List Pz) (h : ∀ x ∈ l, x.data.size ≤ 1000) : ∀ k, k ≤ l.length → (glue (l.take k)).size ≤ 1000 * k
  | 0, _ => by simp only [List.take_zero, Nat.mul_zero]; exact Nat.le_refl 0
  | k + 1, hk => by
    obtain ⟨x, hx⟩ : ∃ x, l[k]? = some x := ⟨_, List.getElem?_eq_getElem (by omega)⟩
    rw [glue_at l k x hx, ByteArray.size_append]
    have h1 := glue_size l h k (by omega)
    have h2 := h x (List.mem_of_getElem? hx)
    omega

set_option maxRecDepth 100000 in
set_option maxHeartbeats 40000000 in
theorem pkJoin_any {ok : Nat → Prop} (v : Value) (xs : List Pz) (w : World) (hsz : ∀ x ∈ xs, x.data.size ≤ 1000) (hxl : xs.length ≤ 100000) (h : Pzs ok v xs w) :
    Calls Try.prog 34 #[v] w fun a w' => a = .returned (.tuple #[.string ((joined xs).getD ⟨#[]⟩), .bool (joined xs).isSome]) ∧ Below w.heap.size w w' := by
  obtain ⟨ao, cap, b, off, rfl, ⟨hl, _⟩, hao, hx⟩ := h
  obtain ⟨n, hn⟩ : ∃ n, n = xs.length := ⟨_, rfl⟩
  obtain ⟨res, hres⟩ : ∃ res, res = joined xs := ⟨_, rfl⟩
  rw [← hres, ← hn]
  have HRes := Lib.hid hres
  have HN := Lib.hid hn
  have HX := Lib.hid (show ∀ k, k < n → ∃ (x y : Pz), xs[k]? = some x ∧ xs[0]? = some y ∧ ao = some ⟨b, off, none⟩ ∧ b < w.heap.size ∧ w.rangeAt b (off + k * 5) x.arr.toList ∧ w.rangeAt b off y.arr.toList from fun k hk => by
    obtain ⟨x, hxk⟩ : ∃ x, xs[k]? = some x := ⟨_, List.getElem?_eq_getElem (by omega)⟩
    obtain ⟨y, hy0⟩ : ∃ y, xs[0]? = some y := ⟨_, List.getElem?_eq_getElem (by omega)⟩
    have hb := (hao (by omega)).2.1
    exact ⟨x, y, hxk, hy0, (hao (by omega)).1, hb, hx k x hxk, by have := hx 0 y hy0; rwa [Nat.zero_mul, Nat.add_zero] at this⟩)
  have HSz := Lib.hid (fun k hk => glue_size xs hsz k hk)
  rw [← hn] at hxl HSz
  have HSx := Lib.hid hsz
  clear hx hao hn hres hsz hl
  go_enter Try.func34, Try.ntmps34
  go_wp2_with fail
  go_loopw [4, 5, 6] (fun s c _ wr => ∃ k : Nat, k ≤ n ∧ c = .int .i64 k ∧ s = .string (glue (xs.take k)) ∧ allFit xs k = true ∧ Below w.heap.size w wr) (fun _ c _ _ => n - (intOf c).toNat)
  case atStart => exact ⟨0, Nat.zero_le _, rfl, rfl, rfl, Below.refl _ _⟩
  case round =>
    obtain ⟨k, hk, rfl, rfl, hfit, hb⟩ := hrel
    have HB := Lib.hid hb
    have HF := Lib.hid hfit
    have hws := hb.size
    obtain ⟨s, hs⟩ : ∃ s, s = glue (xs.take k) := ⟨_, rfl⟩
    rw [← hs]
    have HS := Lib.hid hs
    have hss : s.size ≤ 1000 * k := by rw [hs]; exact HSz.out k hk
    clear hfit hb hs
    by_cases hlt : k < n
    · obtain ⟨x, y, hxk, hy0, rfl, hbw, hrg, hr0⟩ := HX.out k hlt
      have HXK := Lib.hid (And.intro hxk hy0)
      have HRG := Lib.hid (range_below hrg hbw HB.out)
      have hbw2 : b < wr.heap.size := Nat.lt_of_lt_of_le hbw hws
      have P5 := Lib.hid (show x.arr.size = 5 from rfl)
      have P5l := Lib.hid (show x.arr.toList.length = 5 from rfl)
      have P1 := Lib.hid (pz_one x)
      have C0 := Lib.hid (show x.arr[0]? = some (.int .i64 x.epoch) from rfl)
      have C1 := Lib.hid (show x.arr[1]? = some (.int .i64 x.seq) from rfl)
      have C2 := Lib.hid (show x.arr[2]? = some (.int .i64 x.part) from rfl)
      have C3 := Lib.hid (show x.arr[3]? = some (.int .i64 x.parts) from rfl)
      have C4 := Lib.hid (show x.arr[4]? = some (.string x.data) from rfl)
      have hCk := fun W => pkCheck_any x W
      obtain ⟨cs, hcs⟩ : ∃ cs, cs = x.arr := ⟨_, rfl⟩
      rw [← hcs] at HRG P5 P5l P1 C0 C1 C2 C3 C4 hCk
      have Y0 := Lib.hid (show y.arr.toList[0]? = some (.int .i64 y.epoch) from rfl)
      have Y1 := Lib.hid (show y.arr.toList[1]? = some (.int .i64 y.seq) from rfl)
      have HR0w := Lib.hid (range_below hr0 hbw HB.out)
      obtain ⟨hc, hhc⟩ : ∃ hc, hc = y.arr := ⟨_, rfl⟩
      rw [← hhc] at Y0 Y1 HR0w
      have HZ := Lib.hid (St.new wr 81 #[.int .i64 0, .int .i64 0, .int .i64 0, .int .i64 0, .string ⟨#[]⟩])
      obtain ⟨nb, hnb⟩ : ∃ nb, nb = wr.heap.size := ⟨_, rfl⟩
      have HNB := Lib.hid hnb
      have hb0 : (0 : Int) ≤ (k : Int) := by omega
      have hb1 : (k : Int) < (n : Int) := by omega
      have hn0 : (0 : Int) < (n : Int) := by omega
      have hnz : n ≠ 0 := by omega
      clear hxk hy0 hrg hr0 hcs hhc hnb
      cases hok : x.ok with
      | false =>
        rw [hok] at hCk
        have HCk := Lib.hid hCk
        have HOK := Lib.hid hok
        clear hCk hok
        go_wp2_with (first
          | ((with_reducible show wpList _ _ _ ({ dst := _, op := .load 81 _, type := _, pos := _, after := _, guard := _ } :: _) _ _); refine wpList_load_mid rfl 81 _ rfl b (off + k * 5) rfl cs.toList _ HRG.out Try.underlying81 rfl (by rw [P5l.out]; kernel_rfl) ?_)
          | ((with_reducible show wpList _ _ _ ({ dst := _, op := .store 81 _ _, type := _, pos := _, after := _, guard := _ } :: _) _ _); refine wpList_store_st rfl 81 _ _ rfl wr.heap.size cs rfl rfl _ HZ.out (by rw [P5.out]; kernel_rfl) (by rw [P5.out]; rfl) P1.out ?_; intro w6 hw6 k6; have B6 := Lib.hid (show Below wr.heap.size wr w6 from by rw [hw6]; exact below_row ((Below.refl _ wr).alloc (Nat.le_refl _) _) (Nat.le_refl _) _); have K6 := Lib.hid k6; clear hw6 k6))
        have SD := Lib.hid (show St 81 nb cs w6.drew ∧ w6.drew.rangeAt b off hc.toList from ⟨by rw [HNB.out]; exact K6.out, range_below HR0w.out hbw2 B6.out.drew⟩)
        have HL6 := Lib.hid (show b < w6.drew.heap.size from Nat.lt_of_lt_of_le hbw2 B6.out.size)
        have BD := Lib.hid (B6.out.drew)
        rw [← HNB.out]
        refine wp_region_held (S := fun w' => St 81 nb cs w' ∧ w'.rangeAt b off hc.toList) (by kernel_rfl) ?_
        change wpAnyH _ _ _ _ _ _ _ _ (World.drew _)
        generalize World.drew w6 = WD at SD HL6 BD ⊢
        refine wpAnyH_take (i := 0) (v := .agg cs) rfl (by kernel_rfl) (by kernel_rfl) (by kernel_rfl) (fun _ _ _ h => h) (yld_st (by rfl) 81 (.tmp 6) rfl nb (by simp [Act.eval]) 81 cs (fun w' hS => hS.1) _ Try.underlying81 rfl (by rw [P5.out]; kernel_rfl)) SD.out ?_
        refine wpAnyH_ready (rs := [1]) (by kernel_rfl) (by simp) ?_
        refine AllReadyH.cons rfl (fun K hK => ?_) AllReadyH.nil
        go_simp
        refine (HCk.out _).mono ?_
        rintro a w7 ⟨rfl, b7⟩
        have S7 := Lib.hid (And.intro (St.below SD.out.1 b7) (range_below SD.out.2 HL6.out b7))
        have HL7 := Lib.hid (Nat.lt_of_lt_of_le HL6.out b7.size)
        have B7 := Lib.hid (b7)
        clear b7
        go_simp
        refine hK.out _ _ S7.out (fun S1 => ?_)
        clear hK K S1
        refine wpAnyH_ready (rs := [2]) (by kernel_rfl) (by simp) ?_
        refine AllReadyH.cons rfl (fun K hK => ?_) AllReadyH.nil
        go_simp
        refine hK.out _ _ S7.out (fun S1 => ?_)
        clear hK K S1
        refine wpAnyH_ready (rs := [3]) (by kernel_rfl) (by simp) ?_
        refine AllReadyH.cons rfl (fun K hK => ?_) AllReadyH.nil
        go_simp
        refine hK.out _ _ S7.out (fun S1 => ?_)
        clear hK K S1
        refine wpAnyH_take (i := 4) (v := undef) rfl (by kernel_rfl) (by kernel_rfl) (by kernel_rfl) (fun _ _ _ h => h) (Or.inr ⟨by rfl, rfl⟩) S7.out ?_
        refine wpAnyH_take (i := 5) (v := undef) rfl (by kernel_rfl) (by kernel_rfl) (by kernel_rfl) (fun _ _ _ h => h) (Or.inr ⟨by rfl, rfl⟩) S7.out ?_
        refine wpAnyH_take (i := 6) (v := undef) rfl (by kernel_rfl) (by kernel_rfl) (by kernel_rfl) (fun _ _ _ h => h) (Or.inr ⟨by rfl, rfl⟩) S7.out ?_
        refine wpAnyH_take (i := 7) (v := undef) rfl (by kernel_rfl) (by kernel_rfl) (by kernel_rfl) (fun _ _ _ h => h) (Or.inr ⟨by rfl, rfl⟩) S7.out ?_
        refine wpAnyH_ready (rs := [8]) (by kernel_rfl) (by simp) ?_
        refine AllReadyH.cons rfl (fun K hK => ?_) AllReadyH.nil
        go_simp
        refine hK.out _ _ S7.out (fun S1 => ?_)
        clear hK K S1
        refine wpAnyH_ready (rs := [9]) (by kernel_rfl) (by simp) ?_
        refine AllReadyH.cons rfl (fun K hK => ?_) AllReadyH.nil
        go_simp
        refine hK.out _ _ S7.out (fun S1 => ?_)
        clear hK K S1
        refine wpAnyH_take (i := 10) (v := undef) rfl (by kernel_rfl) (by kernel_rfl) (by kernel_rfl) (fun _ _ _ h => h) (Or.inr ⟨by rfl, rfl⟩) S7.out ?_
        refine wpAnyH_take (i := 11) (v := undef) rfl (by kernel_rfl) (by kernel_rfl) (by kernel_rfl) (fun _ _ _ h => h) (Or.inr ⟨by rfl, rfl⟩) S7.out ?_
        refine wpAnyH_take (i := 12) (v := undef) rfl (by kernel_rfl) (by kernel_rfl) (by kernel_rfl) (fun _ _ _ h => h) (Or.inr ⟨by rfl, rfl⟩) S7.out ?_
        refine wpAnyH_take (i := 13) (v := undef) rfl (by kernel_rfl) (by kernel_rfl) (by kernel_rfl) (fun _ _ _ h => h) (Or.inr ⟨by rfl, rfl⟩) S7.out ?_
        refine wpAnyH_take (i := 14) (v := undef) rfl (by kernel_rfl) (by kernel_rfl) (by kernel_rfl) (fun _ _ _ h => h) (Or.inr ⟨by rfl, rfl⟩) S7.out ?_
        refine wpAnyH_ready (rs := [15]) (by kernel_rfl) (by simp) ?_
        refine AllReadyH.cons rfl (fun K hK => ?_) AllReadyH.nil
        go_simp
        refine hK.out _ _ S7.out (fun S1 => ?_)
        clear hK K S1
        refine wpAnyH_ready (rs := [16]) (by kernel_rfl) (by simp) ?_
        refine AllReadyH.cons rfl (fun K hK => ?_) AllReadyH.nil
        go_simp
        refine hK.out _ _ S7.out (fun S1 => ?_)
        clear hK K S1
        refine wpAnyH_take (i := 17) (v := undef) rfl (by kernel_rfl) (by kernel_rfl) (by kernel_rfl) (fun _ _ _ h => h) (Or.inr ⟨by rfl, rfl⟩) S7.out ?_
        refine wpAnyH_take (i := 18) (v := undef) rfl (by kernel_rfl) (by kernel_rfl) (by kernel_rfl) (fun _ _ _ h => h) (Or.inr ⟨by rfl, rfl⟩) S7.out ?_
        refine wpAnyH_take (i := 19) (v := undef) rfl (by kernel_rfl) (by kernel_rfl) (by kernel_rfl) (fun _ _ _ h => h) (Or.inr ⟨by rfl, rfl⟩) S7.out ?_
        refine wpAnyH_take (i := 20) (v := undef) rfl (by kernel_rfl) (by kernel_rfl) (by kernel_rfl) (fun _ _ _ h => h) (Or.inr ⟨by rfl, rfl⟩) S7.out ?_
        refine wpAnyH_take (i := 21) (v := undef) rfl (by kernel_rfl) (by kernel_rfl) (by kernel_rfl) (fun _ _ _ h => h) (Or.inr ⟨by rfl, rfl⟩) S7.out ?_
        refine wpAnyH_take (i := 22) (v := undef) rfl (by kernel_rfl) (by kernel_rfl) (by kernel_rfl) (fun _ _ _ h => h) (Or.inr ⟨by rfl, rfl⟩) S7.out ?_
        refine wpAnyH_take (i := 23) (v := undef) rfl (by kernel_rfl) (by kernel_rfl) (by kernel_rfl) (fun _ _ _ h => h) (Or.inr ⟨by rfl, rfl⟩) S7.out ?_
        refine wpAnyH_ready (rs := [24]) (by kernel_rfl) (by simp) ?_
        refine AllReadyH.cons rfl (fun K hK => ?_) AllReadyH.nil
        go_simp
        refine hK.out _ _ S7.out (fun S1 => ?_)
        clear hK K S1
        refine wpAnyH_ready (rs := [25]) (by kernel_rfl) (by simp) ?_
        refine AllReadyH.cons rfl (fun K hK => ?_) AllReadyH.nil
        go_simp
        refine hK.out _ _ S7.out (fun S1 => ?_)
        clear hK K S1
        refine wpAnyH_take (i := 26) (v := undef) rfl (by kernel_rfl) (by kernel_rfl) (by kernel_rfl) (fun _ _ _ h => h) (Or.inr ⟨by rfl, rfl⟩) S7.out ?_
        refine wpAnyH_take (i := 27) (v := undef) rfl (by kernel_rfl) (by kernel_rfl) (by kernel_rfl) (fun _ _ _ h => h) (Or.inr ⟨by rfl, rfl⟩) S7.out ?_
        refine wpAnyH_take (i := 28) (v := undef) rfl (by kernel_rfl) (by kernel_rfl) (by kernel_rfl) (fun _ _ _ h => h) (Or.inr ⟨by rfl, rfl⟩) S7.out ?_
        refine wpAnyH_take (i := 29) (v := undef) rfl (by kernel_rfl) (by kernel_rfl) (by kernel_rfl) (fun _ _ _ h => h) (Or.inr ⟨by rfl, rfl⟩) S7.out ?_
        refine wpAnyH_take (i := 30) (v := undef) rfl (by kernel_rfl) (by kernel_rfl) (by kernel_rfl) (fun _ _ _ h => h) (Or.inr ⟨by rfl, rfl⟩) S7.out ?_
        refine wpAnyH_take (i := 31) (v := undef) rfl (by kernel_rfl) (by kernel_rfl) (by kernel_rfl) (fun _ _ _ h => h) (Or.inr ⟨by rfl, rfl⟩) S7.out ?_
        refine wpAnyH_take (i := 32) (v := undef) rfl (by kernel_rfl) (by kernel_rfl) (by kernel_rfl) (fun _ _ _ h => h) (Or.inr ⟨by rfl, rfl⟩) S7.out ?_
        refine wpAnyH_ready (rs := [33]) (by kernel_rfl) (by simp) ?_
        refine AllReadyH.cons rfl (fun K hK => ?_) AllReadyH.nil
        go_simp
        refine hK.out _ _ S7.out (fun S1 => ?_)
        clear hK K S1
        refine wpAnyH_done (by kernel_rfl) ?_ _
        go_wp2_with fail
        go_ret2
        refine ⟨?_, below_chain (below_chain HB.out BD.out) B7.out⟩
        rw [show res = none from by rw [HRes.out]; exact joined_none xs k (by rw [← HN.out]; exact hlt) (by rw [fitsAt_of HXK.out.1]; unfold fits; rw [HOK.out]; rfl)]
        rfl
      | true =>
        rw [hok] at hCk
        have HCk := Lib.hid hCk
        have HOK := Lib.hid hok
        clear hCk hok
        by_cases h1 : x.part = (k : Int)
        · have d1 : (x.part != (k : Int)) = false := by rw [bne_eq_false_iff_eq]; exact h1
          have HE1 := Lib.hid h1
          clear h1
          by_cases h2 : x.parts = (n : Int)
          · have d2 : (x.parts != (n : Int)) = false := by rw [bne_eq_false_iff_eq]; exact h2
            have HE2 := Lib.hid h2
            clear h2
            by_cases h3 : x.epoch = y.epoch
            · have d3 : (x.epoch != y.epoch) = false := by rw [bne_eq_false_iff_eq]; exact h3
              have HE3 := Lib.hid h3
              clear h3
              by_cases h4 : x.seq = y.seq
              · have d4 : (x.seq != y.seq) = false := by rw [bne_eq_false_iff_eq]; exact h4
                have HE4 := Lib.hid h4
                clear h4
                go_wp2_with (first
                  | ((with_reducible show wpList _ _ _ ({ dst := _, op := .load 81 _, type := _, pos := _, after := _, guard := _ } :: _) _ _); refine wpList_load_mid rfl 81 _ rfl b (off + k * 5) rfl cs.toList _ HRG.out Try.underlying81 rfl (by rw [P5l.out]; kernel_rfl) ?_)
                  | ((with_reducible show wpList _ _ _ ({ dst := _, op := .store 81 _ _, type := _, pos := _, after := _, guard := _ } :: _) _ _); refine wpList_store_st rfl 81 _ _ rfl wr.heap.size cs rfl rfl _ HZ.out (by rw [P5.out]; kernel_rfl) (by rw [P5.out]; rfl) P1.out ?_; intro w6 hw6 k6; have B6 := Lib.hid (show Below wr.heap.size wr w6 from by rw [hw6]; exact below_row ((Below.refl _ wr).alloc (Nat.le_refl _) _) (Nat.le_refl _) _); have K6 := Lib.hid k6; clear hw6 k6))
                have SD := Lib.hid (show St 81 nb cs w6.drew ∧ w6.drew.rangeAt b off hc.toList from ⟨by rw [HNB.out]; exact K6.out, range_below HR0w.out hbw2 B6.out.drew⟩)
                have HL6 := Lib.hid (show b < w6.drew.heap.size from Nat.lt_of_lt_of_le hbw2 B6.out.size)
                have BD := Lib.hid (B6.out.drew)
                rw [← HNB.out]
                refine wp_region_held (S := fun w' => St 81 nb cs w' ∧ w'.rangeAt b off hc.toList) (by kernel_rfl) ?_
                change wpAnyH _ _ _ _ _ _ _ _ (World.drew _)
                generalize World.drew w6 = WD at SD HL6 BD ⊢
                refine wpAnyH_take (i := 0) (v := .agg cs) rfl (by kernel_rfl) (by kernel_rfl) (by kernel_rfl) (fun _ _ _ h => h) (yld_st (by rfl) 81 (.tmp 6) rfl nb (by simp [Act.eval]) 81 cs (fun w' hS => hS.1) _ Try.underlying81 rfl (by rw [P5.out]; kernel_rfl)) SD.out ?_
                refine wpAnyH_ready (rs := [1]) (by kernel_rfl) (by simp) ?_
                refine AllReadyH.cons rfl (fun K hK => ?_) AllReadyH.nil
                go_simp
                refine (HCk.out _).mono ?_
                rintro a w7 ⟨rfl, b7⟩
                have S7 := Lib.hid (And.intro (St.below SD.out.1 b7) (range_below SD.out.2 HL6.out b7))
                have HL7 := Lib.hid (Nat.lt_of_lt_of_le HL6.out b7.size)
                have B7 := Lib.hid (b7)
                clear b7
                go_simp
                refine hK.out _ _ S7.out (fun S1 => ?_)
                clear hK K S1
                refine wpAnyH_ready (rs := [2]) (by kernel_rfl) (by simp) ?_
                refine AllReadyH.cons rfl (fun K hK => ?_) AllReadyH.nil
                go_simp
                refine hK.out _ _ S7.out (fun S1 => ?_)
                clear hK K S1
                refine wpAnyH_ready (rs := [3]) (by kernel_rfl) (by simp) ?_
                refine AllReadyH.cons rfl (fun K hK => ?_) AllReadyH.nil
                go_simp
                refine hK.out _ _ S7.out (fun S1 => ?_)
                clear hK K S1
                refine wpAnyH_take (i := 4) (v := (.pointer (some ⟨nb, 2, none⟩))) rfl (by kernel_rfl) (by kernel_rfl) (by kernel_rfl) (fun _ _ _ h => h) (Or.inl ⟨by rfl, fun w' hS => ?_⟩) S7.out ?_
                · clear hS; go_simp
                refine wpAnyH_take (i := 5) (v := (.int .i64 x.part)) rfl (by kernel_rfl) (by kernel_rfl) (by kernel_rfl) (fun _ _ _ h => h) (Or.inl ⟨by rfl, fun w' hS => ?_⟩) S7.out ?_
                · have cc := hS.1.cell C2.out; clear hS; go_simp
                refine wpAnyH_take (i := 6) (v := (.int .i64 (k : Int))) rfl (by kernel_rfl) (by kernel_rfl) (by kernel_rfl) (fun _ _ _ h => h) (Or.inl ⟨by rfl, fun w' hS => ?_⟩) S7.out ?_
                · clear hS; go_simp
                refine wpAnyH_take (i := 7) (v := (.bool false)) rfl (by kernel_rfl) (by kernel_rfl) (by kernel_rfl) (fun _ _ _ h => h) (Or.inl ⟨by rfl, fun w' hS => ?_⟩) S7.out ?_
                · clear hS; go_simp
                refine wpAnyH_ready (rs := [8]) (by kernel_rfl) (by simp) ?_
                refine AllReadyH.cons rfl (fun K hK => ?_) AllReadyH.nil
                go_simp
                refine hK.out _ _ S7.out (fun S1 => ?_)
                clear hK K S1
                refine wpAnyH_ready (rs := [9]) (by kernel_rfl) (by simp) ?_
                refine AllReadyH.cons rfl (fun K hK => ?_) AllReadyH.nil
                go_simp
                refine hK.out _ _ S7.out (fun S1 => ?_)
                clear hK K S1
                refine wpAnyH_take (i := 10) (v := (.pointer (some ⟨nb, 3, none⟩))) rfl (by kernel_rfl) (by kernel_rfl) (by kernel_rfl) (fun _ _ _ h => h) (Or.inl ⟨by rfl, fun w' hS => ?_⟩) S7.out ?_
                · clear hS; go_simp
                refine wpAnyH_take (i := 11) (v := (.int .i64 x.parts)) rfl (by kernel_rfl) (by kernel_rfl) (by kernel_rfl) (fun _ _ _ h => h) (Or.inl ⟨by rfl, fun w' hS => ?_⟩) S7.out ?_
                · have cc := hS.1.cell C3.out; clear hS; go_simp
                refine wpAnyH_take (i := 12) (v := (.slice (some ⟨b, off, none⟩) n cap)) rfl (by kernel_rfl) (by kernel_rfl) (by kernel_rfl) (fun _ _ _ h => h) (Or.inl ⟨by rfl, fun w' hS => ?_⟩) S7.out ?_
                · clear hS; go_simp
                refine wpAnyH_take (i := 13) (v := (.int .i64 (n : Int))) rfl (by kernel_rfl) (by kernel_rfl) (by kernel_rfl) (fun _ _ _ h => h) (Or.inl ⟨by rfl, fun w' hS => ?_⟩) S7.out ?_
                · clear hS; go_simp
                refine wpAnyH_take (i := 14) (v := (.bool false)) rfl (by kernel_rfl) (by kernel_rfl) (by kernel_rfl) (fun _ _ _ h => h) (Or.inl ⟨by rfl, fun w' hS => ?_⟩) S7.out ?_
                · clear hS; go_simp
                refine wpAnyH_ready (rs := [15]) (by kernel_rfl) (by simp) ?_
                refine AllReadyH.cons rfl (fun K hK => ?_) AllReadyH.nil
                go_simp
                refine hK.out _ _ S7.out (fun S1 => ?_)
                clear hK K S1
                refine wpAnyH_ready (rs := [16]) (by kernel_rfl) (by simp) ?_
                refine AllReadyH.cons rfl (fun K hK => ?_) AllReadyH.nil
                go_simp
                refine hK.out _ _ S7.out (fun S1 => ?_)
                clear hK K S1
                refine wpAnyH_take (i := 17) (v := (.pointer (some ⟨nb, 0, none⟩))) rfl (by kernel_rfl) (by kernel_rfl) (by kernel_rfl) (fun _ _ _ h => h) (Or.inl ⟨by rfl, fun w' hS => ?_⟩) S7.out ?_
                · clear hS; go_simp
                refine wpAnyH_take (i := 18) (v := (.int .i64 x.epoch)) rfl (by kernel_rfl) (by kernel_rfl) (by kernel_rfl) (fun _ _ _ h => h) (Or.inl ⟨by rfl, fun w' hS => ?_⟩) S7.out ?_
                · have cc := hS.1.cell C0.out; clear hS; go_simp
                refine wpAnyH_take (i := 19) (v := (.slice (some ⟨b, off, none⟩) n cap)) rfl (by kernel_rfl) (by kernel_rfl) (by kernel_rfl) (fun _ _ _ h => h) (Or.inl ⟨by rfl, fun w' hS => ?_⟩) S7.out ?_
                · clear hS; go_simp
                refine wpAnyH_take (i := 20) (v := (.pointer (some ⟨b, off, none⟩))) rfl (by kernel_rfl) (by kernel_rfl) (by kernel_rfl) (fun _ _ _ h => h) (Or.inl ⟨by rfl, fun w' hS => ?_⟩) S7.out ?_
                · clear hS; go_simp
                refine wpAnyH_take (i := 21) (v := (.pointer (some ⟨b, off, none⟩))) rfl (by kernel_rfl) (by kernel_rfl) (by kernel_rfl) (fun _ _ _ h => h) (Or.inl ⟨by rfl, fun w' hS => ?_⟩) S7.out ?_
                · clear hS; go_simp
                refine wpAnyH_take (i := 22) (v := (.int .i64 y.epoch)) rfl (by kernel_rfl) (by kernel_rfl) (by kernel_rfl) (fun _ _ _ h => h) (Or.inl ⟨by rfl, fun w' hS => ?_⟩) S7.out ?_
                · have cc : w'.cell? ⟨b, off, none⟩ = some (.int .i64 y.epoch) := hS.2 0 _ Y0.out; clear hS; go_simp
                refine wpAnyH_take (i := 23) (v := (.bool false)) rfl (by kernel_rfl) (by kernel_rfl) (by kernel_rfl) (fun _ _ _ h => h) (Or.inl ⟨by rfl, fun w' hS => ?_⟩) S7.out ?_
                · clear hS; go_simp
                refine wpAnyH_ready (rs := [24]) (by kernel_rfl) (by simp) ?_
                refine AllReadyH.cons rfl (fun K hK => ?_) AllReadyH.nil
                go_simp
                refine hK.out _ _ S7.out (fun S1 => ?_)
                clear hK K S1
                refine wpAnyH_ready (rs := [25]) (by kernel_rfl) (by simp) ?_
                refine AllReadyH.cons rfl (fun K hK => ?_) AllReadyH.nil
                go_simp
                refine hK.out _ _ S7.out (fun S1 => ?_)
                clear hK K S1
                refine wpAnyH_take (i := 26) (v := (.pointer (some ⟨nb, 1, none⟩))) rfl (by kernel_rfl) (by kernel_rfl) (by kernel_rfl) (fun _ _ _ h => h) (Or.inl ⟨by rfl, fun w' hS => ?_⟩) S7.out ?_
                · clear hS; go_simp
                refine wpAnyH_take (i := 27) (v := (.int .i64 x.seq)) rfl (by kernel_rfl) (by kernel_rfl) (by kernel_rfl) (fun _ _ _ h => h) (Or.inl ⟨by rfl, fun w' hS => ?_⟩) S7.out ?_
                · have cc := hS.1.cell C1.out; clear hS; go_simp
                refine wpAnyH_take (i := 28) (v := (.slice (some ⟨b, off, none⟩) n cap)) rfl (by kernel_rfl) (by kernel_rfl) (by kernel_rfl) (fun _ _ _ h => h) (Or.inl ⟨by rfl, fun w' hS => ?_⟩) S7.out ?_
                · clear hS; go_simp
                refine wpAnyH_take (i := 29) (v := (.pointer (some ⟨b, off, none⟩))) rfl (by kernel_rfl) (by kernel_rfl) (by kernel_rfl) (fun _ _ _ h => h) (Or.inl ⟨by rfl, fun w' hS => ?_⟩) S7.out ?_
                · clear hS; go_simp
                refine wpAnyH_take (i := 30) (v := (.pointer (some ⟨b, off + 1, none⟩))) rfl (by kernel_rfl) (by kernel_rfl) (by kernel_rfl) (fun _ _ _ h => h) (Or.inl ⟨by rfl, fun w' hS => ?_⟩) S7.out ?_
                · clear hS; go_simp
                refine wpAnyH_take (i := 31) (v := (.int .i64 y.seq)) rfl (by kernel_rfl) (by kernel_rfl) (by kernel_rfl) (fun _ _ _ h => h) (Or.inl ⟨by rfl, fun w' hS => ?_⟩) S7.out ?_
                · have cc : w'.cell? ⟨b, off + 1, none⟩ = some (.int .i64 y.seq) := hS.2 1 _ Y1.out; clear hS; go_simp
                refine wpAnyH_take (i := 32) (v := (.bool false)) rfl (by kernel_rfl) (by kernel_rfl) (by kernel_rfl) (fun _ _ _ h => h) (Or.inl ⟨by rfl, fun w' hS => ?_⟩) S7.out ?_
                · clear hS; go_simp
                refine wpAnyH_ready (rs := [33]) (by kernel_rfl) (by simp) ?_
                refine AllReadyH.cons rfl (fun K hK => ?_) AllReadyH.nil
                go_simp
                refine hK.out _ _ S7.out (fun S1 => ?_)
                clear hK K S1
                refine wpAnyH_done (by kernel_rfl) ?_ _
                have hfits : fitsAt xs k = true := by
                  rw [fitsAt_of HXK.out.1]; unfold fits
                  rw [HOK.out, headD_of HXK.out.2]
                  simp only [Bool.true_and, Bool.and_eq_true, decide_eq_true_eq]
                  exact ⟨⟨⟨HE1.out, by rw [← HN.out]; exact HE2.out⟩, HE3.out⟩, HE4.out⟩
                have HFits := Lib.hid hfits
                have hcat : ¬ 9223372036854775807 < s.size + x.data.size := by
                  have := HSx.out _ (List.mem_of_getElem? HXK.out.1)
                  omega
                have c4 : w7.cell? ⟨nb, 4, none⟩ = some (.string x.data) := S7.out.1.cell C4.out
                clear hfits
                go_wp2_with fail
                go_roundw
                case rel => exact ⟨k + 1, by omega, by go_num, by rw [glue_at xs k _ HXK.out.1, ← HS.out], by rw [allFit_succ, HF.out, HFits.out]; rfl, below_chain (below_chain HB.out BD.out) B7.out⟩
                case measure => simp [intOf]; omega
              · have d4 : (x.seq != y.seq) = true := by rw [bne_iff_ne]; exact h4
                have HE4 := Lib.hid h4
                clear h4
                go_wp2_with (first
                  | ((with_reducible show wpList _ _ _ ({ dst := _, op := .load 81 _, type := _, pos := _, after := _, guard := _ } :: _) _ _); refine wpList_load_mid rfl 81 _ rfl b (off + k * 5) rfl cs.toList _ HRG.out Try.underlying81 rfl (by rw [P5l.out]; kernel_rfl) ?_)
                  | ((with_reducible show wpList _ _ _ ({ dst := _, op := .store 81 _ _, type := _, pos := _, after := _, guard := _ } :: _) _ _); refine wpList_store_st rfl 81 _ _ rfl wr.heap.size cs rfl rfl _ HZ.out (by rw [P5.out]; kernel_rfl) (by rw [P5.out]; rfl) P1.out ?_; intro w6 hw6 k6; have B6 := Lib.hid (show Below wr.heap.size wr w6 from by rw [hw6]; exact below_row ((Below.refl _ wr).alloc (Nat.le_refl _) _) (Nat.le_refl _) _); have K6 := Lib.hid k6; clear hw6 k6))
                have SD := Lib.hid (show St 81 nb cs w6.drew ∧ w6.drew.rangeAt b off hc.toList from ⟨by rw [HNB.out]; exact K6.out, range_below HR0w.out hbw2 B6.out.drew⟩)
                have HL6 := Lib.hid (show b < w6.drew.heap.size from Nat.lt_of_lt_of_le hbw2 B6.out.size)
                have BD := Lib.hid (B6.out.drew)
                rw [← HNB.out]
                refine wp_region_held (S := fun w' => St 81 nb cs w' ∧ w'.rangeAt b off hc.toList) (by kernel_rfl) ?_
                change wpAnyH _ _ _ _ _ _ _ _ (World.drew _)
                generalize World.drew w6 = WD at SD HL6 BD ⊢
                refine wpAnyH_take (i := 0) (v := .agg cs) rfl (by kernel_rfl) (by kernel_rfl) (by kernel_rfl) (fun _ _ _ h => h) (yld_st (by rfl) 81 (.tmp 6) rfl nb (by simp [Act.eval]) 81 cs (fun w' hS => hS.1) _ Try.underlying81 rfl (by rw [P5.out]; kernel_rfl)) SD.out ?_
                refine wpAnyH_ready (rs := [1]) (by kernel_rfl) (by simp) ?_
                refine AllReadyH.cons rfl (fun K hK => ?_) AllReadyH.nil
                go_simp
                refine (HCk.out _).mono ?_
                rintro a w7 ⟨rfl, b7⟩
                have S7 := Lib.hid (And.intro (St.below SD.out.1 b7) (range_below SD.out.2 HL6.out b7))
                have HL7 := Lib.hid (Nat.lt_of_lt_of_le HL6.out b7.size)
                have B7 := Lib.hid (b7)
                clear b7
                go_simp
                refine hK.out _ _ S7.out (fun S1 => ?_)
                clear hK K S1
                refine wpAnyH_ready (rs := [2]) (by kernel_rfl) (by simp) ?_
                refine AllReadyH.cons rfl (fun K hK => ?_) AllReadyH.nil
                go_simp
                refine hK.out _ _ S7.out (fun S1 => ?_)
                clear hK K S1
                refine wpAnyH_ready (rs := [3]) (by kernel_rfl) (by simp) ?_
                refine AllReadyH.cons rfl (fun K hK => ?_) AllReadyH.nil
                go_simp
                refine hK.out _ _ S7.out (fun S1 => ?_)
                clear hK K S1
                refine wpAnyH_take (i := 4) (v := (.pointer (some ⟨nb, 2, none⟩))) rfl (by kernel_rfl) (by kernel_rfl) (by kernel_rfl) (fun _ _ _ h => h) (Or.inl ⟨by rfl, fun w' hS => ?_⟩) S7.out ?_
                · clear hS; go_simp
                refine wpAnyH_take (i := 5) (v := (.int .i64 x.part)) rfl (by kernel_rfl) (by kernel_rfl) (by kernel_rfl) (fun _ _ _ h => h) (Or.inl ⟨by rfl, fun w' hS => ?_⟩) S7.out ?_
                · have cc := hS.1.cell C2.out; clear hS; go_simp
                refine wpAnyH_take (i := 6) (v := (.int .i64 (k : Int))) rfl (by kernel_rfl) (by kernel_rfl) (by kernel_rfl) (fun _ _ _ h => h) (Or.inl ⟨by rfl, fun w' hS => ?_⟩) S7.out ?_
                · clear hS; go_simp
                refine wpAnyH_take (i := 7) (v := (.bool false)) rfl (by kernel_rfl) (by kernel_rfl) (by kernel_rfl) (fun _ _ _ h => h) (Or.inl ⟨by rfl, fun w' hS => ?_⟩) S7.out ?_
                · clear hS; go_simp
                refine wpAnyH_ready (rs := [8]) (by kernel_rfl) (by simp) ?_
                refine AllReadyH.cons rfl (fun K hK => ?_) AllReadyH.nil
                go_simp
                refine hK.out _ _ S7.out (fun S1 => ?_)
                clear hK K S1
                refine wpAnyH_ready (rs := [9]) (by kernel_rfl) (by simp) ?_
                refine AllReadyH.cons rfl (fun K hK => ?_) AllReadyH.nil
                go_simp
                refine hK.out _ _ S7.out (fun S1 => ?_)
                clear hK K S1
                refine wpAnyH_take (i := 10) (v := (.pointer (some ⟨nb, 3, none⟩))) rfl (by kernel_rfl) (by kernel_rfl) (by kernel_rfl) (fun _ _ _ h => h) (Or.inl ⟨by rfl, fun w' hS => ?_⟩) S7.out ?_
                · clear hS; go_simp
                refine wpAnyH_take (i := 11) (v := (.int .i64 x.parts)) rfl (by kernel_rfl) (by kernel_rfl) (by kernel_rfl) (fun _ _ _ h => h) (Or.inl ⟨by rfl, fun w' hS => ?_⟩) S7.out ?_
                · have cc := hS.1.cell C3.out; clear hS; go_simp
                refine wpAnyH_take (i := 12) (v := (.slice (some ⟨b, off, none⟩) n cap)) rfl (by kernel_rfl) (by kernel_rfl) (by kernel_rfl) (fun _ _ _ h => h) (Or.inl ⟨by rfl, fun w' hS => ?_⟩) S7.out ?_
                · clear hS; go_simp
                refine wpAnyH_take (i := 13) (v := (.int .i64 (n : Int))) rfl (by kernel_rfl) (by kernel_rfl) (by kernel_rfl) (fun _ _ _ h => h) (Or.inl ⟨by rfl, fun w' hS => ?_⟩) S7.out ?_
                · clear hS; go_simp
                refine wpAnyH_take (i := 14) (v := (.bool false)) rfl (by kernel_rfl) (by kernel_rfl) (by kernel_rfl) (fun _ _ _ h => h) (Or.inl ⟨by rfl, fun w' hS => ?_⟩) S7.out ?_
                · clear hS; go_simp
                refine wpAnyH_ready (rs := [15]) (by kernel_rfl) (by simp) ?_
                refine AllReadyH.cons rfl (fun K hK => ?_) AllReadyH.nil
                go_simp
                refine hK.out _ _ S7.out (fun S1 => ?_)
                clear hK K S1
                refine wpAnyH_ready (rs := [16]) (by kernel_rfl) (by simp) ?_
                refine AllReadyH.cons rfl (fun K hK => ?_) AllReadyH.nil
                go_simp
                refine hK.out _ _ S7.out (fun S1 => ?_)
                clear hK K S1
                refine wpAnyH_take (i := 17) (v := (.pointer (some ⟨nb, 0, none⟩))) rfl (by kernel_rfl) (by kernel_rfl) (by kernel_rfl) (fun _ _ _ h => h) (Or.inl ⟨by rfl, fun w' hS => ?_⟩) S7.out ?_
                · clear hS; go_simp
                refine wpAnyH_take (i := 18) (v := (.int .i64 x.epoch)) rfl (by kernel_rfl) (by kernel_rfl) (by kernel_rfl) (fun _ _ _ h => h) (Or.inl ⟨by rfl, fun w' hS => ?_⟩) S7.out ?_
                · have cc := hS.1.cell C0.out; clear hS; go_simp
                refine wpAnyH_take (i := 19) (v := (.slice (some ⟨b, off, none⟩) n cap)) rfl (by kernel_rfl) (by kernel_rfl) (by kernel_rfl) (fun _ _ _ h => h) (Or.inl ⟨by rfl, fun w' hS => ?_⟩) S7.out ?_
                · clear hS; go_simp
                refine wpAnyH_take (i := 20) (v := (.pointer (some ⟨b, off, none⟩))) rfl (by kernel_rfl) (by kernel_rfl) (by kernel_rfl) (fun _ _ _ h => h) (Or.inl ⟨by rfl, fun w' hS => ?_⟩) S7.out ?_
                · clear hS; go_simp
                refine wpAnyH_take (i := 21) (v := (.pointer (some ⟨b, off, none⟩))) rfl (by kernel_rfl) (by kernel_rfl) (by kernel_rfl) (fun _ _ _ h => h) (Or.inl ⟨by rfl, fun w' hS => ?_⟩) S7.out ?_
                · clear hS; go_simp
                refine wpAnyH_take (i := 22) (v := (.int .i64 y.epoch)) rfl (by kernel_rfl) (by kernel_rfl) (by kernel_rfl) (fun _ _ _ h => h) (Or.inl ⟨by rfl, fun w' hS => ?_⟩) S7.out ?_
                · have cc : w'.cell? ⟨b, off, none⟩ = some (.int .i64 y.epoch) := hS.2 0 _ Y0.out; clear hS; go_simp
                refine wpAnyH_take (i := 23) (v := (.bool false)) rfl (by kernel_rfl) (by kernel_rfl) (by kernel_rfl) (fun _ _ _ h => h) (Or.inl ⟨by rfl, fun w' hS => ?_⟩) S7.out ?_
                · clear hS; go_simp
                refine wpAnyH_ready (rs := [24]) (by kernel_rfl) (by simp) ?_
                refine AllReadyH.cons rfl (fun K hK => ?_) AllReadyH.nil
                go_simp
                refine hK.out _ _ S7.out (fun S1 => ?_)
                clear hK K S1
                refine wpAnyH_ready (rs := [25]) (by kernel_rfl) (by simp) ?_
                refine AllReadyH.cons rfl (fun K hK => ?_) AllReadyH.nil
                go_simp
                refine hK.out _ _ S7.out (fun S1 => ?_)
                clear hK K S1
                refine wpAnyH_take (i := 26) (v := (.pointer (some ⟨nb, 1, none⟩))) rfl (by kernel_rfl) (by kernel_rfl) (by kernel_rfl) (fun _ _ _ h => h) (Or.inl ⟨by rfl, fun w' hS => ?_⟩) S7.out ?_
                · clear hS; go_simp
                refine wpAnyH_take (i := 27) (v := (.int .i64 x.seq)) rfl (by kernel_rfl) (by kernel_rfl) (by kernel_rfl) (fun _ _ _ h => h) (Or.inl ⟨by rfl, fun w' hS => ?_⟩) S7.out ?_
                · have cc := hS.1.cell C1.out; clear hS; go_simp
                refine wpAnyH_take (i := 28) (v := (.slice (some ⟨b, off, none⟩) n cap)) rfl (by kernel_rfl) (by kernel_rfl) (by kernel_rfl) (fun _ _ _ h => h) (Or.inl ⟨by rfl, fun w' hS => ?_⟩) S7.out ?_
                · clear hS; go_simp
                refine wpAnyH_take (i := 29) (v := (.pointer (some ⟨b, off, none⟩))) rfl (by kernel_rfl) (by kernel_rfl) (by kernel_rfl) (fun _ _ _ h => h) (Or.inl ⟨by rfl, fun w' hS => ?_⟩) S7.out ?_
                · clear hS; go_simp
                refine wpAnyH_take (i := 30) (v := (.pointer (some ⟨b, off + 1, none⟩))) rfl (by kernel_rfl) (by kernel_rfl) (by kernel_rfl) (fun _ _ _ h => h) (Or.inl ⟨by rfl, fun w' hS => ?_⟩) S7.out ?_
                · clear hS; go_simp
                refine wpAnyH_take (i := 31) (v := (.int .i64 y.seq)) rfl (by kernel_rfl) (by kernel_rfl) (by kernel_rfl) (fun _ _ _ h => h) (Or.inl ⟨by rfl, fun w' hS => ?_⟩) S7.out ?_
                · have cc : w'.cell? ⟨b, off + 1, none⟩ = some (.int .i64 y.seq) := hS.2 1 _ Y1.out; clear hS; go_simp
                refine wpAnyH_take (i := 32) (v := (.bool true)) rfl (by kernel_rfl) (by kernel_rfl) (by kernel_rfl) (fun _ _ _ h => h) (Or.inl ⟨by rfl, fun w' hS => ?_⟩) S7.out ?_
                · clear hS; go_simp
                refine wpAnyH_ready (rs := [33]) (by kernel_rfl) (by simp) ?_
                refine AllReadyH.cons rfl (fun K hK => ?_) AllReadyH.nil
                go_simp
                refine hK.out _ _ S7.out (fun S1 => ?_)
                clear hK K S1
                refine wpAnyH_done (by kernel_rfl) ?_ _
                go_wp2_with fail
                go_ret2
                refine ⟨?_, below_chain (below_chain HB.out BD.out) B7.out⟩
                rw [show res = none from by rw [HRes.out]; exact joined_none xs k (by rw [← HN.out]; exact hlt) (by rw [fitsAt_of HXK.out.1]; unfold fits; rw [headD_of HXK.out.2, decide_eq_false (show ¬ x.seq = y.seq from HE4.out), Bool.and_false])]
                rfl
            · have d3 : (x.epoch != y.epoch) = true := by rw [bne_iff_ne]; exact h3
              have HE3 := Lib.hid h3
              clear h3
              go_wp2_with (first
                | ((with_reducible show wpList _ _ _ ({ dst := _, op := .load 81 _, type := _, pos := _, after := _, guard := _ } :: _) _ _); refine wpList_load_mid rfl 81 _ rfl b (off + k * 5) rfl cs.toList _ HRG.out Try.underlying81 rfl (by rw [P5l.out]; kernel_rfl) ?_)
                | ((with_reducible show wpList _ _ _ ({ dst := _, op := .store 81 _ _, type := _, pos := _, after := _, guard := _ } :: _) _ _); refine wpList_store_st rfl 81 _ _ rfl wr.heap.size cs rfl rfl _ HZ.out (by rw [P5.out]; kernel_rfl) (by rw [P5.out]; rfl) P1.out ?_; intro w6 hw6 k6; have B6 := Lib.hid (show Below wr.heap.size wr w6 from by rw [hw6]; exact below_row ((Below.refl _ wr).alloc (Nat.le_refl _) _) (Nat.le_refl _) _); have K6 := Lib.hid k6; clear hw6 k6))
              have SD := Lib.hid (show St 81 nb cs w6.drew ∧ w6.drew.rangeAt b off hc.toList from ⟨by rw [HNB.out]; exact K6.out, range_below HR0w.out hbw2 B6.out.drew⟩)
              have HL6 := Lib.hid (show b < w6.drew.heap.size from Nat.lt_of_lt_of_le hbw2 B6.out.size)
              have BD := Lib.hid (B6.out.drew)
              rw [← HNB.out]
              refine wp_region_held (S := fun w' => St 81 nb cs w' ∧ w'.rangeAt b off hc.toList) (by kernel_rfl) ?_
              change wpAnyH _ _ _ _ _ _ _ _ (World.drew _)
              generalize World.drew w6 = WD at SD HL6 BD ⊢
              refine wpAnyH_take (i := 0) (v := .agg cs) rfl (by kernel_rfl) (by kernel_rfl) (by kernel_rfl) (fun _ _ _ h => h) (yld_st (by rfl) 81 (.tmp 6) rfl nb (by simp [Act.eval]) 81 cs (fun w' hS => hS.1) _ Try.underlying81 rfl (by rw [P5.out]; kernel_rfl)) SD.out ?_
              refine wpAnyH_ready (rs := [1]) (by kernel_rfl) (by simp) ?_
              refine AllReadyH.cons rfl (fun K hK => ?_) AllReadyH.nil
              go_simp
              refine (HCk.out _).mono ?_
              rintro a w7 ⟨rfl, b7⟩
              have S7 := Lib.hid (And.intro (St.below SD.out.1 b7) (range_below SD.out.2 HL6.out b7))
              have HL7 := Lib.hid (Nat.lt_of_lt_of_le HL6.out b7.size)
              have B7 := Lib.hid (b7)
              clear b7
              go_simp
              refine hK.out _ _ S7.out (fun S1 => ?_)
              clear hK K S1
              refine wpAnyH_ready (rs := [2]) (by kernel_rfl) (by simp) ?_
              refine AllReadyH.cons rfl (fun K hK => ?_) AllReadyH.nil
              go_simp
              refine hK.out _ _ S7.out (fun S1 => ?_)
              clear hK K S1
              refine wpAnyH_ready (rs := [3]) (by kernel_rfl) (by simp) ?_
              refine AllReadyH.cons rfl (fun K hK => ?_) AllReadyH.nil
              go_simp
              refine hK.out _ _ S7.out (fun S1 => ?_)
              clear hK K S1
              refine wpAnyH_take (i := 4) (v := (.pointer (some ⟨nb, 2, none⟩))) rfl (by kernel_rfl) (by kernel_rfl) (by kernel_rfl) (fun _ _ _ h => h) (Or.inl ⟨by rfl, fun w' hS => ?_⟩) S7.out ?_
              · clear hS; go_simp
              refine wpAnyH_take (i := 5) (v := (.int .i64 x.part)) rfl (by kernel_rfl) (by kernel_rfl) (by kernel_rfl) (fun _ _ _ h => h) (Or.inl ⟨by rfl, fun w' hS => ?_⟩) S7.out ?_
              · have cc := hS.1.cell C2.out; clear hS; go_simp
              refine wpAnyH_take (i := 6) (v := (.int .i64 (k : Int))) rfl (by kernel_rfl) (by kernel_rfl) (by kernel_rfl) (fun _ _ _ h => h) (Or.inl ⟨by rfl, fun w' hS => ?_⟩) S7.out ?_
              · clear hS; go_simp
              refine wpAnyH_take (i := 7) (v := (.bool false)) rfl (by kernel_rfl) (by kernel_rfl) (by kernel_rfl) (fun _ _ _ h => h) (Or.inl ⟨by rfl, fun w' hS => ?_⟩) S7.out ?_
              · clear hS; go_simp
              refine wpAnyH_ready (rs := [8]) (by kernel_rfl) (by simp) ?_
              refine AllReadyH.cons rfl (fun K hK => ?_) AllReadyH.nil
              go_simp
              refine hK.out _ _ S7.out (fun S1 => ?_)
              clear hK K S1
              refine wpAnyH_ready (rs := [9]) (by kernel_rfl) (by simp) ?_
              refine AllReadyH.cons rfl (fun K hK => ?_) AllReadyH.nil
              go_simp
              refine hK.out _ _ S7.out (fun S1 => ?_)
              clear hK K S1
              refine wpAnyH_take (i := 10) (v := (.pointer (some ⟨nb, 3, none⟩))) rfl (by kernel_rfl) (by kernel_rfl) (by kernel_rfl) (fun _ _ _ h => h) (Or.inl ⟨by rfl, fun w' hS => ?_⟩) S7.out ?_
              · clear hS; go_simp
              refine wpAnyH_take (i := 11) (v := (.int .i64 x.parts)) rfl (by kernel_rfl) (by kernel_rfl) (by kernel_rfl) (fun _ _ _ h => h) (Or.inl ⟨by rfl, fun w' hS => ?_⟩) S7.out ?_
              · have cc := hS.1.cell C3.out; clear hS; go_simp
              refine wpAnyH_take (i := 12) (v := (.slice (some ⟨b, off, none⟩) n cap)) rfl (by kernel_rfl) (by kernel_rfl) (by kernel_rfl) (fun _ _ _ h => h) (Or.inl ⟨by rfl, fun w' hS => ?_⟩) S7.out ?_
              · clear hS; go_simp
              refine wpAnyH_take (i := 13) (v := (.int .i64 (n : Int))) rfl (by kernel_rfl) (by kernel_rfl) (by kernel_rfl) (fun _ _ _ h => h) (Or.inl ⟨by rfl, fun w' hS => ?_⟩) S7.out ?_
              · clear hS; go_simp
              refine wpAnyH_take (i := 14) (v := (.bool false)) rfl (by kernel_rfl) (by kernel_rfl) (by kernel_rfl) (fun _ _ _ h => h) (Or.inl ⟨by rfl, fun w' hS => ?_⟩) S7.out ?_
              · clear hS; go_simp
              refine wpAnyH_ready (rs := [15]) (by kernel_rfl) (by simp) ?_
              refine AllReadyH.cons rfl (fun K hK => ?_) AllReadyH.nil
              go_simp
              refine hK.out _ _ S7.out (fun S1 => ?_)
              clear hK K S1
              refine wpAnyH_ready (rs := [16]) (by kernel_rfl) (by simp) ?_
              refine AllReadyH.cons rfl (fun K hK => ?_) AllReadyH.nil
              go_simp
              refine hK.out _ _ S7.out (fun S1 => ?_)
              clear hK K S1
              refine wpAnyH_take (i := 17) (v := (.pointer (some ⟨nb, 0, none⟩))) rfl (by kernel_rfl) (by kernel_rfl) (by kernel_rfl) (fun _ _ _ h => h) (Or.inl ⟨by rfl, fun w' hS => ?_⟩) S7.out ?_
              · clear hS; go_simp
              refine wpAnyH_take (i := 18) (v := (.int .i64 x.epoch)) rfl (by kernel_rfl) (by kernel_rfl) (by kernel_rfl) (fun _ _ _ h => h) (Or.inl ⟨by rfl, fun w' hS => ?_⟩) S7.out ?_
              · have cc := hS.1.cell C0.out; clear hS; go_simp
              refine wpAnyH_take (i := 19) (v := (.slice (some ⟨b, off, none⟩) n cap)) rfl (by kernel_rfl) (by kernel_rfl) (by kernel_rfl) (fun _ _ _ h => h) (Or.inl ⟨by rfl, fun w' hS => ?_⟩) S7.out ?_
              · clear hS; go_simp
              refine wpAnyH_take (i := 20) (v := (.pointer (some ⟨b, off, none⟩))) rfl (by kernel_rfl) (by kernel_rfl) (by kernel_rfl) (fun _ _ _ h => h) (Or.inl ⟨by rfl, fun w' hS => ?_⟩) S7.out ?_
              · clear hS; go_simp
              refine wpAnyH_take (i := 21) (v := (.pointer (some ⟨b, off, none⟩))) rfl (by kernel_rfl) (by kernel_rfl) (by kernel_rfl) (fun _ _ _ h => h) (Or.inl ⟨by rfl, fun w' hS => ?_⟩) S7.out ?_
              · clear hS; go_simp
              refine wpAnyH_take (i := 22) (v := (.int .i64 y.epoch)) rfl (by kernel_rfl) (by kernel_rfl) (by kernel_rfl) (fun _ _ _ h => h) (Or.inl ⟨by rfl, fun w' hS => ?_⟩) S7.out ?_
              · have cc : w'.cell? ⟨b, off, none⟩ = some (.int .i64 y.epoch) := hS.2 0 _ Y0.out; clear hS; go_simp
              refine wpAnyH_take (i := 23) (v := (.bool true)) rfl (by kernel_rfl) (by kernel_rfl) (by kernel_rfl) (fun _ _ _ h => h) (Or.inl ⟨by rfl, fun w' hS => ?_⟩) S7.out ?_
              · clear hS; go_simp
              refine wpAnyH_ready (rs := [24]) (by kernel_rfl) (by simp) ?_
              refine AllReadyH.cons rfl (fun K hK => ?_) AllReadyH.nil
              go_simp
              refine hK.out _ _ S7.out (fun S1 => ?_)
              clear hK K S1
              refine wpAnyH_ready (rs := [25]) (by kernel_rfl) (by simp) ?_
              refine AllReadyH.cons rfl (fun K hK => ?_) AllReadyH.nil
              go_simp
              refine hK.out _ _ S7.out (fun S1 => ?_)
              clear hK K S1
              refine wpAnyH_take (i := 26) (v := undef) rfl (by kernel_rfl) (by kernel_rfl) (by kernel_rfl) (fun _ _ _ h => h) (Or.inr ⟨by rfl, rfl⟩) S7.out ?_
              refine wpAnyH_take (i := 27) (v := undef) rfl (by kernel_rfl) (by kernel_rfl) (by kernel_rfl) (fun _ _ _ h => h) (Or.inr ⟨by rfl, rfl⟩) S7.out ?_
              refine wpAnyH_take (i := 28) (v := undef) rfl (by kernel_rfl) (by kernel_rfl) (by kernel_rfl) (fun _ _ _ h => h) (Or.inr ⟨by rfl, rfl⟩) S7.out ?_
              refine wpAnyH_take (i := 29) (v := undef) rfl (by kernel_rfl) (by kernel_rfl) (by kernel_rfl) (fun _ _ _ h => h) (Or.inr ⟨by rfl, rfl⟩) S7.out ?_
              refine wpAnyH_take (i := 30) (v := undef) rfl (by kernel_rfl) (by kernel_rfl) (by kernel_rfl) (fun _ _ _ h => h) (Or.inr ⟨by rfl, rfl⟩) S7.out ?_
              refine wpAnyH_take (i := 31) (v := undef) rfl (by kernel_rfl) (by kernel_rfl) (by kernel_rfl) (fun _ _ _ h => h) (Or.inr ⟨by rfl, rfl⟩) S7.out ?_
              refine wpAnyH_take (i := 32) (v := undef) rfl (by kernel_rfl) (by kernel_rfl) (by kernel_rfl) (fun _ _ _ h => h) (Or.inr ⟨by rfl, rfl⟩) S7.out ?_
              refine wpAnyH_ready (rs := [33]) (by kernel_rfl) (by simp) ?_
              refine AllReadyH.cons rfl (fun K hK => ?_) AllReadyH.nil
              go_simp
              refine hK.out _ _ S7.out (fun S1 => ?_)
              clear hK K S1
              refine wpAnyH_done (by kernel_rfl) ?_ _
              go_wp2_with fail
              go_ret2
              refine ⟨?_, below_chain (below_chain HB.out BD.out) B7.out⟩
              rw [show res = none from by rw [HRes.out]; exact joined_none xs k (by rw [← HN.out]; exact hlt) (by rw [fitsAt_of HXK.out.1]; unfold fits; rw [headD_of HXK.out.2, decide_eq_false (show ¬ x.epoch = y.epoch from HE3.out), Bool.and_false, Bool.false_and])]
              rfl
          · have d2 : (x.parts != (n : Int)) = true := by rw [bne_iff_ne]; exact h2
            have HE2 := Lib.hid h2
            clear h2
            go_wp2_with (first
              | ((with_reducible show wpList _ _ _ ({ dst := _, op := .load 81 _, type := _, pos := _, after := _, guard := _ } :: _) _ _); refine wpList_load_mid rfl 81 _ rfl b (off + k * 5) rfl cs.toList _ HRG.out Try.underlying81 rfl (by rw [P5l.out]; kernel_rfl) ?_)
              | ((with_reducible show wpList _ _ _ ({ dst := _, op := .store 81 _ _, type := _, pos := _, after := _, guard := _ } :: _) _ _); refine wpList_store_st rfl 81 _ _ rfl wr.heap.size cs rfl rfl _ HZ.out (by rw [P5.out]; kernel_rfl) (by rw [P5.out]; rfl) P1.out ?_; intro w6 hw6 k6; have B6 := Lib.hid (show Below wr.heap.size wr w6 from by rw [hw6]; exact below_row ((Below.refl _ wr).alloc (Nat.le_refl _) _) (Nat.le_refl _) _); have K6 := Lib.hid k6; clear hw6 k6))
            have SD := Lib.hid (show St 81 nb cs w6.drew ∧ w6.drew.rangeAt b off hc.toList from ⟨by rw [HNB.out]; exact K6.out, range_below HR0w.out hbw2 B6.out.drew⟩)
            have HL6 := Lib.hid (show b < w6.drew.heap.size from Nat.lt_of_lt_of_le hbw2 B6.out.size)
            have BD := Lib.hid (B6.out.drew)
            rw [← HNB.out]
            refine wp_region_held (S := fun w' => St 81 nb cs w' ∧ w'.rangeAt b off hc.toList) (by kernel_rfl) ?_
            change wpAnyH _ _ _ _ _ _ _ _ (World.drew _)
            generalize World.drew w6 = WD at SD HL6 BD ⊢
            refine wpAnyH_take (i := 0) (v := .agg cs) rfl (by kernel_rfl) (by kernel_rfl) (by kernel_rfl) (fun _ _ _ h => h) (yld_st (by rfl) 81 (.tmp 6) rfl nb (by simp [Act.eval]) 81 cs (fun w' hS => hS.1) _ Try.underlying81 rfl (by rw [P5.out]; kernel_rfl)) SD.out ?_
            refine wpAnyH_ready (rs := [1]) (by kernel_rfl) (by simp) ?_
            refine AllReadyH.cons rfl (fun K hK => ?_) AllReadyH.nil
            go_simp
            refine (HCk.out _).mono ?_
            rintro a w7 ⟨rfl, b7⟩
            have S7 := Lib.hid (And.intro (St.below SD.out.1 b7) (range_below SD.out.2 HL6.out b7))
            have HL7 := Lib.hid (Nat.lt_of_lt_of_le HL6.out b7.size)
            have B7 := Lib.hid (b7)
            clear b7
            go_simp
            refine hK.out _ _ S7.out (fun S1 => ?_)
            clear hK K S1
            refine wpAnyH_ready (rs := [2]) (by kernel_rfl) (by simp) ?_
            refine AllReadyH.cons rfl (fun K hK => ?_) AllReadyH.nil
            go_simp
            refine hK.out _ _ S7.out (fun S1 => ?_)
            clear hK K S1
            refine wpAnyH_ready (rs := [3]) (by kernel_rfl) (by simp) ?_
            refine AllReadyH.cons rfl (fun K hK => ?_) AllReadyH.nil
            go_simp
            refine hK.out _ _ S7.out (fun S1 => ?_)
            clear hK K S1
            refine wpAnyH_take (i := 4) (v := (.pointer (some ⟨nb, 2, none⟩))) rfl (by kernel_rfl) (by kernel_rfl) (by kernel_rfl) (fun _ _ _ h => h) (Or.inl ⟨by rfl, fun w' hS => ?_⟩) S7.out ?_
            · clear hS; go_simp
            refine wpAnyH_take (i := 5) (v := (.int .i64 x.part)) rfl (by kernel_rfl) (by kernel_rfl) (by kernel_rfl) (fun _ _ _ h => h) (Or.inl ⟨by rfl, fun w' hS => ?_⟩) S7.out ?_
            · have cc := hS.1.cell C2.out; clear hS; go_simp
            refine wpAnyH_take (i := 6) (v := (.int .i64 (k : Int))) rfl (by kernel_rfl) (by kernel_rfl) (by kernel_rfl) (fun _ _ _ h => h) (Or.inl ⟨by rfl, fun w' hS => ?_⟩) S7.out ?_
            · clear hS; go_simp
            refine wpAnyH_take (i := 7) (v := (.bool false)) rfl (by kernel_rfl) (by kernel_rfl) (by kernel_rfl) (fun _ _ _ h => h) (Or.inl ⟨by rfl, fun w' hS => ?_⟩) S7.out ?_
            · clear hS; go_simp
            refine wpAnyH_ready (rs := [8]) (by kernel_rfl) (by simp) ?_
            refine AllReadyH.cons rfl (fun K hK => ?_) AllReadyH.nil
            go_simp
            refine hK.out _ _ S7.out (fun S1 => ?_)
            clear hK K S1
            refine wpAnyH_ready (rs := [9]) (by kernel_rfl) (by simp) ?_
            refine AllReadyH.cons rfl (fun K hK => ?_) AllReadyH.nil
            go_simp
            refine hK.out _ _ S7.out (fun S1 => ?_)
            clear hK K S1
            refine wpAnyH_take (i := 10) (v := (.pointer (some ⟨nb, 3, none⟩))) rfl (by kernel_rfl) (by kernel_rfl) (by kernel_rfl) (fun _ _ _ h => h) (Or.inl ⟨by rfl, fun w' hS => ?_⟩) S7.out ?_
            · clear hS; go_simp
            refine wpAnyH_take (i := 11) (v := (.int .i64 x.parts)) rfl (by kernel_rfl) (by kernel_rfl) (by kernel_rfl) (fun _ _ _ h => h) (Or.inl ⟨by rfl, fun w' hS => ?_⟩) S7.out ?_
            · have cc := hS.1.cell C3.out; clear hS; go_simp
            refine wpAnyH_take (i := 12) (v := (.slice (some ⟨b, off, none⟩) n cap)) rfl (by kernel_rfl) (by kernel_rfl) (by kernel_rfl) (fun _ _ _ h => h) (Or.inl ⟨by rfl, fun w' hS => ?_⟩) S7.out ?_
            · clear hS; go_simp
            refine wpAnyH_take (i := 13) (v := (.int .i64 (n : Int))) rfl (by kernel_rfl) (by kernel_rfl) (by kernel_rfl) (fun _ _ _ h => h) (Or.inl ⟨by rfl, fun w' hS => ?_⟩) S7.out ?_
            · clear hS; go_simp
            refine wpAnyH_take (i := 14) (v := (.bool true)) rfl (by kernel_rfl) (by kernel_rfl) (by kernel_rfl) (fun _ _ _ h => h) (Or.inl ⟨by rfl, fun w' hS => ?_⟩) S7.out ?_
            · clear hS; go_simp
            refine wpAnyH_ready (rs := [15]) (by kernel_rfl) (by simp) ?_
            refine AllReadyH.cons rfl (fun K hK => ?_) AllReadyH.nil
            go_simp
            refine hK.out _ _ S7.out (fun S1 => ?_)
            clear hK K S1
            refine wpAnyH_ready (rs := [16]) (by kernel_rfl) (by simp) ?_
            refine AllReadyH.cons rfl (fun K hK => ?_) AllReadyH.nil
            go_simp
            refine hK.out _ _ S7.out (fun S1 => ?_)
            clear hK K S1
            refine wpAnyH_take (i := 17) (v := undef) rfl (by kernel_rfl) (by kernel_rfl) (by kernel_rfl) (fun _ _ _ h => h) (Or.inr ⟨by rfl, rfl⟩) S7.out ?_
            refine wpAnyH_take (i := 18) (v := undef) rfl (by kernel_rfl) (by kernel_rfl) (by kernel_rfl) (fun _ _ _ h => h) (Or.inr ⟨by rfl, rfl⟩) S7.out ?_
            refine wpAnyH_take (i := 19) (v := undef) rfl (by kernel_rfl) (by kernel_rfl) (by kernel_rfl) (fun _ _ _ h => h) (Or.inr ⟨by rfl, rfl⟩) S7.out ?_
            refine wpAnyH_take (i := 20) (v := undef) rfl (by kernel_rfl) (by kernel_rfl) (by kernel_rfl) (fun _ _ _ h => h) (Or.inr ⟨by rfl, rfl⟩) S7.out ?_
            refine wpAnyH_take (i := 21) (v := undef) rfl (by kernel_rfl) (by kernel_rfl) (by kernel_rfl) (fun _ _ _ h => h) (Or.inr ⟨by rfl, rfl⟩) S7.out ?_
            refine wpAnyH_take (i := 22) (v := undef) rfl (by kernel_rfl) (by kernel_rfl) (by kernel_rfl) (fun _ _ _ h => h) (Or.inr ⟨by rfl, rfl⟩) S7.out ?_
            refine wpAnyH_take (i := 23) (v := undef) rfl (by kernel_rfl) (by kernel_rfl) (by kernel_rfl) (fun _ _ _ h => h) (Or.inr ⟨by rfl, rfl⟩) S7.out ?_
            refine wpAnyH_ready (rs := [24]) (by kernel_rfl) (by simp) ?_
            refine AllReadyH.cons rfl (fun K hK => ?_) AllReadyH.nil
            go_simp
            refine hK.out _ _ S7.out (fun S1 => ?_)
            clear hK K S1
            refine wpAnyH_ready (rs := [25]) (by kernel_rfl) (by simp) ?_
            refine AllReadyH.cons rfl (fun K hK => ?_) AllReadyH.nil
            go_simp
            refine hK.out _ _ S7.out (fun S1 => ?_)
            clear hK K S1
            refine wpAnyH_take (i := 26) (v := undef) rfl (by kernel_rfl) (by kernel_rfl) (by kernel_rfl) (fun _ _ _ h => h) (Or.inr ⟨by rfl, rfl⟩) S7.out ?_
            refine wpAnyH_take (i := 27) (v := undef) rfl (by kernel_rfl) (by kernel_rfl) (by kernel_rfl) (fun _ _ _ h => h) (Or.inr ⟨by rfl, rfl⟩) S7.out ?_
            refine wpAnyH_take (i := 28) (v := undef) rfl (by kernel_rfl) (by kernel_rfl) (by kernel_rfl) (fun _ _ _ h => h) (Or.inr ⟨by rfl, rfl⟩) S7.out ?_
            refine wpAnyH_take (i := 29) (v := undef) rfl (by kernel_rfl) (by kernel_rfl) (by kernel_rfl) (fun _ _ _ h => h) (Or.inr ⟨by rfl, rfl⟩) S7.out ?_
            refine wpAnyH_take (i := 30) (v := undef) rfl (by kernel_rfl) (by kernel_rfl) (by kernel_rfl) (fun _ _ _ h => h) (Or.inr ⟨by rfl, rfl⟩) S7.out ?_
            refine wpAnyH_take (i := 31) (v := undef) rfl (by kernel_rfl) (by kernel_rfl) (by kernel_rfl) (fun _ _ _ h => h) (Or.inr ⟨by rfl, rfl⟩) S7.out ?_
            refine wpAnyH_take (i := 32) (v := undef) rfl (by kernel_rfl) (by kernel_rfl) (by kernel_rfl) (fun _ _ _ h => h) (Or.inr ⟨by rfl, rfl⟩) S7.out ?_
            refine wpAnyH_ready (rs := [33]) (by kernel_rfl) (by simp) ?_
            refine AllReadyH.cons rfl (fun K hK => ?_) AllReadyH.nil
            go_simp
            refine hK.out _ _ S7.out (fun S1 => ?_)
            clear hK K S1
            refine wpAnyH_done (by kernel_rfl) ?_ _
            go_wp2_with fail
            go_ret2
            refine ⟨?_, below_chain (below_chain HB.out BD.out) B7.out⟩
            rw [show res = none from by rw [HRes.out]; exact joined_none xs k (by rw [← HN.out]; exact hlt) (by rw [fitsAt_of HXK.out.1]; unfold fits; rw [decide_eq_false (show ¬ x.parts = (xs.length : Int) from by rw [← HN.out]; exact HE2.out), Bool.and_false, Bool.false_and, Bool.false_and])]
            rfl
        · have d1 : (x.part != (k : Int)) = true := by rw [bne_iff_ne]; exact h1
          have HE1 := Lib.hid h1
          clear h1
          go_wp2_with (first
            | ((with_reducible show wpList _ _ _ ({ dst := _, op := .load 81 _, type := _, pos := _, after := _, guard := _ } :: _) _ _); refine wpList_load_mid rfl 81 _ rfl b (off + k * 5) rfl cs.toList _ HRG.out Try.underlying81 rfl (by rw [P5l.out]; kernel_rfl) ?_)
            | ((with_reducible show wpList _ _ _ ({ dst := _, op := .store 81 _ _, type := _, pos := _, after := _, guard := _ } :: _) _ _); refine wpList_store_st rfl 81 _ _ rfl wr.heap.size cs rfl rfl _ HZ.out (by rw [P5.out]; kernel_rfl) (by rw [P5.out]; rfl) P1.out ?_; intro w6 hw6 k6; have B6 := Lib.hid (show Below wr.heap.size wr w6 from by rw [hw6]; exact below_row ((Below.refl _ wr).alloc (Nat.le_refl _) _) (Nat.le_refl _) _); have K6 := Lib.hid k6; clear hw6 k6))
          have SD := Lib.hid (show St 81 nb cs w6.drew ∧ w6.drew.rangeAt b off hc.toList from ⟨by rw [HNB.out]; exact K6.out, range_below HR0w.out hbw2 B6.out.drew⟩)
          have HL6 := Lib.hid (show b < w6.drew.heap.size from Nat.lt_of_lt_of_le hbw2 B6.out.size)
          have BD := Lib.hid (B6.out.drew)
          rw [← HNB.out]
          refine wp_region_held (S := fun w' => St 81 nb cs w' ∧ w'.rangeAt b off hc.toList) (by kernel_rfl) ?_
          change wpAnyH _ _ _ _ _ _ _ _ (World.drew _)
          generalize World.drew w6 = WD at SD HL6 BD ⊢
          refine wpAnyH_take (i := 0) (v := .agg cs) rfl (by kernel_rfl) (by kernel_rfl) (by kernel_rfl) (fun _ _ _ h => h) (yld_st (by rfl) 81 (.tmp 6) rfl nb (by simp [Act.eval]) 81 cs (fun w' hS => hS.1) _ Try.underlying81 rfl (by rw [P5.out]; kernel_rfl)) SD.out ?_
          refine wpAnyH_ready (rs := [1]) (by kernel_rfl) (by simp) ?_
          refine AllReadyH.cons rfl (fun K hK => ?_) AllReadyH.nil
          go_simp
          refine (HCk.out _).mono ?_
          rintro a w7 ⟨rfl, b7⟩
          have S7 := Lib.hid (And.intro (St.below SD.out.1 b7) (range_below SD.out.2 HL6.out b7))
          have HL7 := Lib.hid (Nat.lt_of_lt_of_le HL6.out b7.size)
          have B7 := Lib.hid (b7)
          clear b7
          go_simp
          refine hK.out _ _ S7.out (fun S1 => ?_)
          clear hK K S1
          refine wpAnyH_ready (rs := [2]) (by kernel_rfl) (by simp) ?_
          refine AllReadyH.cons rfl (fun K hK => ?_) AllReadyH.nil
          go_simp
          refine hK.out _ _ S7.out (fun S1 => ?_)
          clear hK K S1
          refine wpAnyH_ready (rs := [3]) (by kernel_rfl) (by simp) ?_
          refine AllReadyH.cons rfl (fun K hK => ?_) AllReadyH.nil
          go_simp
          refine hK.out _ _ S7.out (fun S1 => ?_)
          clear hK K S1
          refine wpAnyH_take (i := 4) (v := (.pointer (some ⟨nb, 2, none⟩))) rfl (by kernel_rfl) (by kernel_rfl) (by kernel_rfl) (fun _ _ _ h => h) (Or.inl ⟨by rfl, fun w' hS => ?_⟩) S7.out ?_
          · clear hS; go_simp
          refine wpAnyH_take (i := 5) (v := (.int .i64 x.part)) rfl (by kernel_rfl) (by kernel_rfl) (by kernel_rfl) (fun _ _ _ h => h) (Or.inl ⟨by rfl, fun w' hS => ?_⟩) S7.out ?_
          · have cc := hS.1.cell C2.out; clear hS; go_simp
          refine wpAnyH_take (i := 6) (v := (.int .i64 (k : Int))) rfl (by kernel_rfl) (by kernel_rfl) (by kernel_rfl) (fun _ _ _ h => h) (Or.inl ⟨by rfl, fun w' hS => ?_⟩) S7.out ?_
          · clear hS; go_simp
          refine wpAnyH_take (i := 7) (v := (.bool true)) rfl (by kernel_rfl) (by kernel_rfl) (by kernel_rfl) (fun _ _ _ h => h) (Or.inl ⟨by rfl, fun w' hS => ?_⟩) S7.out ?_
          · clear hS; go_simp
          refine wpAnyH_ready (rs := [8]) (by kernel_rfl) (by simp) ?_
          refine AllReadyH.cons rfl (fun K hK => ?_) AllReadyH.nil
          go_simp
          refine hK.out _ _ S7.out (fun S1 => ?_)
          clear hK K S1
          refine wpAnyH_ready (rs := [9]) (by kernel_rfl) (by simp) ?_
          refine AllReadyH.cons rfl (fun K hK => ?_) AllReadyH.nil
          go_simp
          refine hK.out _ _ S7.out (fun S1 => ?_)
          clear hK K S1
          refine wpAnyH_take (i := 10) (v := undef) rfl (by kernel_rfl) (by kernel_rfl) (by kernel_rfl) (fun _ _ _ h => h) (Or.inr ⟨by rfl, rfl⟩) S7.out ?_
          refine wpAnyH_take (i := 11) (v := undef) rfl (by kernel_rfl) (by kernel_rfl) (by kernel_rfl) (fun _ _ _ h => h) (Or.inr ⟨by rfl, rfl⟩) S7.out ?_
          refine wpAnyH_take (i := 12) (v := undef) rfl (by kernel_rfl) (by kernel_rfl) (by kernel_rfl) (fun _ _ _ h => h) (Or.inr ⟨by rfl, rfl⟩) S7.out ?_
          refine wpAnyH_take (i := 13) (v := undef) rfl (by kernel_rfl) (by kernel_rfl) (by kernel_rfl) (fun _ _ _ h => h) (Or.inr ⟨by rfl, rfl⟩) S7.out ?_
          refine wpAnyH_take (i := 14) (v := undef) rfl (by kernel_rfl) (by kernel_rfl) (by kernel_rfl) (fun _ _ _ h => h) (Or.inr ⟨by rfl, rfl⟩) S7.out ?_
          refine wpAnyH_ready (rs := [15]) (by kernel_rfl) (by simp) ?_
          refine AllReadyH.cons rfl (fun K hK => ?_) AllReadyH.nil
          go_simp
          refine hK.out _ _ S7.out (fun S1 => ?_)
          clear hK K S1
          refine wpAnyH_ready (rs := [16]) (by kernel_rfl) (by simp) ?_
          refine AllReadyH.cons rfl (fun K hK => ?_) AllReadyH.nil
          go_simp
          refine hK.out _ _ S7.out (fun S1 => ?_)
          clear hK K S1
          refine wpAnyH_take (i := 17) (v := undef) rfl (by kernel_rfl) (by kernel_rfl) (by kernel_rfl) (fun _ _ _ h => h) (Or.inr ⟨by rfl, rfl⟩) S7.out ?_
          refine wpAnyH_take (i := 18) (v := undef) rfl (by kernel_rfl) (by kernel_rfl) (by kernel_rfl) (fun _ _ _ h => h) (Or.inr ⟨by rfl, rfl⟩) S7.out ?_
          refine wpAnyH_take (i := 19) (v := undef) rfl (by kernel_rfl) (by kernel_rfl) (by kernel_rfl) (fun _ _ _ h => h) (Or.inr ⟨by rfl, rfl⟩) S7.out ?_
          refine wpAnyH_take (i := 20) (v := undef) rfl (by kernel_rfl) (by kernel_rfl) (by kernel_rfl) (fun _ _ _ h => h) (Or.inr ⟨by rfl, rfl⟩) S7.out ?_
          refine wpAnyH_take (i := 21) (v := undef) rfl (by kernel_rfl) (by kernel_rfl) (by kernel_rfl) (fun _ _ _ h => h) (Or.inr ⟨by rfl, rfl⟩) S7.out ?_
          refine wpAnyH_take (i := 22) (v := undef) rfl (by kernel_rfl) (by kernel_rfl) (by kernel_rfl) (fun _ _ _ h => h) (Or.inr ⟨by rfl, rfl⟩) S7.out ?_
          refine wpAnyH_take (i := 23) (v := undef) rfl (by kernel_rfl) (by kernel_rfl) (by kernel_rfl) (fun _ _ _ h => h) (Or.inr ⟨by rfl, rfl⟩) S7.out ?_
          refine wpAnyH_ready (rs := [24]) (by kernel_rfl) (by simp) ?_
          refine AllReadyH.cons rfl (fun K hK => ?_) AllReadyH.nil
          go_simp
          refine hK.out _ _ S7.out (fun S1 => ?_)
          clear hK K S1
          refine wpAnyH_ready (rs := [25]) (by kernel_rfl) (by simp) ?_
          refine AllReadyH.cons rfl (fun K hK => ?_) AllReadyH.nil
          go_simp
          refine hK.out _ _ S7.out (fun S1 => ?_)
          clear hK K S1
          refine wpAnyH_take (i := 26) (v := undef) rfl (by kernel_rfl) (by kernel_rfl) (by kernel_rfl) (fun _ _ _ h => h) (Or.inr ⟨by rfl, rfl⟩) S7.out ?_
          refine wpAnyH_take (i := 27) (v := undef) rfl (by kernel_rfl) (by kernel_rfl) (by kernel_rfl) (fun _ _ _ h => h) (Or.inr ⟨by rfl, rfl⟩) S7.out ?_
          refine wpAnyH_take (i := 28) (v := undef) rfl (by kernel_rfl) (by kernel_rfl) (by kernel_rfl) (fun _ _ _ h => h) (Or.inr ⟨by rfl, rfl⟩) S7.out ?_
          refine wpAnyH_take (i := 29) (v := undef) rfl (by kernel_rfl) (by kernel_rfl) (by kernel_rfl) (fun _ _ _ h => h) (Or.inr ⟨by rfl, rfl⟩) S7.out ?_
          refine wpAnyH_take (i := 30) (v := undef) rfl (by kernel_rfl) (by kernel_rfl) (by kernel_rfl) (fun _ _ _ h => h) (Or.inr ⟨by rfl, rfl⟩) S7.out ?_
          refine wpAnyH_take (i := 31) (v := undef) rfl (by kernel_rfl) (by kernel_rfl) (by kernel_rfl) (fun _ _ _ h => h) (Or.inr ⟨by rfl, rfl⟩) S7.out ?_
          refine wpAnyH_take (i := 32) (v := undef) rfl (by kernel_rfl) (by kernel_rfl) (by kernel_rfl) (fun _ _ _ h => h) (Or.inr ⟨by rfl, rfl⟩) S7.out ?_
          refine wpAnyH_ready (rs := [33]) (by kernel_rfl) (by simp) ?_
          refine AllReadyH.cons rfl (fun K hK => ?_) AllReadyH.nil
          go_simp
          refine hK.out _ _ S7.out (fun S1 => ?_)
          clear hK K S1
          refine wpAnyH_done (by kernel_rfl) ?_ _
          go_wp2_with fail
          go_ret2
          refine ⟨?_, below_chain (below_chain HB.out BD.out) B7.out⟩
          rw [show res = none from by rw [HRes.out]; exact joined_none xs k (by rw [← HN.out]; exact hlt) (by rw [fitsAt_of HXK.out.1]; unfold fits; rw [decide_eq_false (show ¬ x.part = (k : Int) from HE1.out), Bool.and_false, Bool.false_and, Bool.false_and, Bool.false_and])]
          rfl
    · obtain rfl : k = n := by omega
      by_cases hk0 : 0 < k
      · have hg0 : decide ((k : Int) > 0) = true := decide_eq_true (by omega)
        go_wp2_with fail
        go_ret2
        refine ⟨?_, HB.out⟩
        rw [show res = some s from by
          rw [HRes.out, HS.out]
          unfold joined
          rw [if_pos ⟨by rw [← HN.out]; omega, by rw [← HN.out]; exact HF.out⟩, List.take_of_length_le (by rw [← HN.out]; exact Nat.le_refl _)]]
        rfl
      · obtain rfl : k = 0 := by omega
        have hs0 : s = ⟨#[]⟩ := by rw [HS.out, List.take_zero]; rfl
        subst hs0
        go_wp2_with fail
        go_ret2
        refine ⟨?_, HB.out⟩
        rw [show res = none from by
          rw [HRes.out]
          unfold joined
          rw [if_neg (by rw [← HN.out]; omega)]]
        rfl
end Go.Proofs.Ytfipojmgmmjnmaa
