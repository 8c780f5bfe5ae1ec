/- Messages: the program's Check. -/
import Derived.Test.YtimbcombhdgjiaaDoorMt
namespace Go.Proofs.YtimbcombhdgjiaaDoor
open Go.RowKit
set_option linter.unusedSimpArgs false
set_option linter.unusedVariables false

/-- What Check asks, in its own order. -/
theorem okMg_parts (m : Mg) : okMg m = (num32 m.xid 0 && ((((m.body.size : Int) % 4) == 0) && (decide ((4 * (mgHead m).length : Nat) + (m.body.size : Int) ≤ 2048) && (okCall m || okReply m)))) := by
  have a0 : decide (m.body.size % 4 = 0) = (((m.body.size : Int) % 4) == 0) := by
    rw [Bool.eq_iff_iff]; simp; omega
  obtain ⟨xid, ans, again, proc, client, seq, uid, gid, accept, body⟩ := m
  dsimp only at a0 ⊢
  rw [← a0, Bool.eq_iff_iff]
  cases ans
  · rw [okMg_call rfl]
    simp only [mgHead, okCall, okReply, okProc, Bool.false_and, Bool.or_false, Bool.not_false, Bool.true_and, Bool.and_eq_true, num32_iff, decide_eq_true_eq, Bool.false_eq_true, if_false, List.length_cons, List.length_nil, Bool.not_eq_true']
    constructor
    · rintro ⟨h1, h2, h3, h4, h5, h6, h7⟩
      exact ⟨h1, h2, by omega, h4, h5, h6, h7⟩
    · rintro ⟨h1, h2, h3, h4, h5, h6, h7⟩
      exact ⟨h1, h2, by omega, h4, h5, h6, h7⟩
  · rw [okMg_ans rfl]
    simp only [mgHead, okCall, okReply, okProc, Bool.false_and, Bool.false_or, Bool.not_true, Bool.true_and, Bool.and_eq_true, Bool.or_eq_true, num32_iff, decide_eq_true_eq, if_true, List.length_cons, List.length_nil, Bool.not_eq_true']
    constructor
    · rintro ⟨h1, h2, h3, h4, h5, h6, h7, h8, h9, h10⟩
      refine ⟨h1, h2, by omega, h4, ⟨h5, h6, h7, h8⟩, ?_⟩
      by_cases h0 : accept = 0
      · exact .inl h0
      · rcases h10 with h10 | h10
        · exact absurd h10 h0
        · exact .inr ⟨by omega, h9.2, h10.1, h10.2⟩
    · rintro ⟨h1, h2, h3, h4, ⟨h5, h6, h7, h8⟩, h9⟩
      rcases h9 with h9 | ⟨h9, h10, h11, h12⟩
      · exact ⟨h1, h2, by omega, h4, h5, h6, h7, h8, by omega, .inl h9⟩
      · exact ⟨h1, h2, by omega, h4, h5, h6, h7, h8, by omega, .inr ⟨h11, h12⟩⟩

set_option maxRecDepth 100000 in
set_option maxHeartbeats 8000000 in
theorem rcCheck_any (m : Mg) (w : World) (hb : m.body.size ≤ 3000) : Calls Tryd.prog 9 #[.agg m.arr] w fun e w' => e = .returned (.int .i64 (if okMg m then 0 else 14)) ∧ Below w.heap.size w w' := by
  rw [okMg_parts]
  have hl : (mgHead m).length ≤ 14 := by rw [mgHead_len]; split <;> omega
  have HH := fun w => rchead_any m w
  have HX := fun w => rcis32_any m.xid w
  have HV := fun w => rcvalidCall_any m w
  have HR := fun w => rcvalidReply_any m w
  have h3 : m.arr.size = 10 := rfl
  have r0 : m.arr[0]? = some (.int .i64 m.xid) := rfl
  have r9 : m.arr[9]? = some (.string m.body) := rfl
  obtain ⟨n, hn⟩ : ∃ n, n = (mgHead m).length := ⟨_, rfl⟩
  obtain ⟨vs, hvs⟩ : ∃ vs, vs = vals (mgHead m) := ⟨_, rfl⟩
  obtain ⟨xid, hx⟩ : ∃ x, x = m.xid := ⟨_, rfl⟩
  obtain ⟨body, hbd⟩ : ∃ x, x = m.body := ⟨_, rfl⟩
  obtain ⟨row, hrow⟩ : ∃ row, row = m.arr := ⟨_, rfl⟩
  rw [← hrow] at HH HV HR h3 r0 r9 ⊢
  rw [← hx] at HX r0 ⊢
  rw [← hbd] at r9 hb ⊢
  rw [← hn] at HH hl ⊢
  rw [← hvs] at HH
  obtain ⟨q0, hq0⟩ : ∃ b, num32 xid 0 = b := ⟨_, rfl⟩
  rw [hq0] at HX ⊢
  obtain ⟨vc, hvc⟩ : ∃ b, okCall m = b := ⟨_, rfl⟩
  rw [hvc] at HV ⊢
  obtain ⟨vr, hvr⟩ : ∃ b, okReply m = b := ⟨_, rfl⟩
  rw [hvr] at HR ⊢
  clear hn hvs hx hbd hrow hq0 hvc hvr
  have w1 : IntKind.i64.wrap (4 * (n : Int)) = 4 * (n : Int) := by rw [IntKind.wrap_i64]; omega
  have w2 : IntKind.i64.wrap (4 * (n : Int) + (body.size : Int)) = 4 * (n : Int) + (body.size : Int) := by rw [IntKind.wrap_i64]; omega
  obtain ⟨t2, ht2⟩ : ∃ b, (((body.size : Int) % 4) == 0) = b := ⟨_, rfl⟩
  rw [ht2]
  obtain ⟨t3, ht3⟩ : ∃ b, decide (4 * (n : Int) + (body.size : Int) ≤ 2048) = b := ⟨_, rfl⟩
  rw [show ((4 * n : Nat) : Int) = 4 * (n : Int) from by omega, ht3]
  have st := St.new w 25 row
  have TD := Lib.hid (show St 25 w.heap.size row (w.alloc (.cells row 25 (0, 0))).drew from st)
  have BD := Lib.hid (below_one w (.cells row 25 (0, 0))).drew
  replace HH := Lib.hid HH
  replace HX := Lib.hid HX
  replace HV := Lib.hid HV
  replace HR := Lib.hid HR
  have H3 := Lib.hid h3
  have R0 := Lib.hid r0
  have R9 := Lib.hid r9
  clear h3 r0 r9 st hl hb
  go_enter Tryd.func9, Tryd.ntmps9
  go_wp2_with fail
  refine wp_region_held (S := fun w' => St 25 w.heap.size row w') (by kernel_rfl) ?_
  change wpAnyH _ _ _ _ _ _ _ _ (World.drew _)
  generalize (World.drew (w.alloc (.cells row 25 (0, 0)))) = WD at TD BD ⊢
  refine wpAnyH_take (i := 4) (v := .pointer (some ⟨w.heap.size, 9, none⟩)) rfl (by kernel_rfl) (by kernel_rfl) (by kernel_rfl) (fun _ _ _ h => h) (Or.inl ⟨by rfl, fun w' hS => ?_⟩) TD.out ?_
  · clear hS; go_simp
  refine wpAnyH_take (i := 5) (v := .string body) rfl (by kernel_rfl) (by kernel_rfl) (by kernel_rfl) (fun _ _ _ h => h) (Or.inl ⟨by rfl, fun w' hS => ?_⟩) TD.out ?_
  · have cc := hS.cell R9.out; clear hS; go_simp
  refine wpAnyH_take (i := 6) (v := .int .i64 (body.size : Int)) rfl (by kernel_rfl) (by kernel_rfl) (by kernel_rfl) (fun _ _ _ h => h) (Or.inl ⟨by rfl, fun w' hS => ?_⟩) TD.out ?_
  · clear hS; go_simp
  refine wpAnyH_ready (rs := [0]) (by kernel_rfl) (by simp) ?_
  refine AllReadyH.cons rfl (fun K hK => ?_) AllReadyH.nil
  refine step_load_row rfl 25 (.tmp 1) rfl w.heap.size rfl 25 row (0, 0) _ TD.out Tryd.underlying25 rfl (by rw [H3.out]; kernel_rfl) ?_
  go_simp
  refine hK.out _ _ TD.out (fun S1 => ?_)
  clear hK K
  refine wpAnyH_ready (rs := [1]) (by kernel_rfl) (by simp) ?_
  refine AllReadyH.cons rfl (fun K hK => ?_) AllReadyH.nil
  go_simp
  refine (HH.out _).mono ?_
  rintro e w5 ⟨b, hbb, rfl, hst, b1⟩
  have L1 := Lib.hid (BD.out.trans (b1.mono BD.out.size))
  have T1 := Lib.hid (TD.out.below b1)
  go_simp
  refine hK.out _ _ T1.out (fun S1 => ?_)
  clear hK K S1 hst b1
  refine wpAnyH_ready (rs := [2]) (by kernel_rfl) (by simp) ?_
  refine AllReadyH.cons rfl (fun K hK => ?_) AllReadyH.nil
  go_simp
  refine hK.out _ _ T1.out (fun S1 => ?_)
  clear hK K S1
  refine wpAnyH_ready (rs := [3]) (by kernel_rfl) (by simp) ?_
  refine AllReadyH.cons rfl (fun K hK => ?_) AllReadyH.nil
  go_simp
  refine hK.out _ _ T1.out (fun S1 => ?_)
  clear hK K S1
  refine wpAnyH_ready (rs := [7]) (by kernel_rfl) (by simp) ?_
  refine AllReadyH.cons rfl (fun K hK => ?_) AllReadyH.nil
  go_simp
  refine hK.out _ _ T1.out (fun S1 => ?_)
  clear hK K S1
  refine wpAnyH_ready (rs := [8]) (by kernel_rfl) (by simp) ?_
  refine AllReadyH.cons rfl (fun K hK => ?_) AllReadyH.nil
  go_simp
  refine hK.out _ _ T1.out (fun S1 => ?_)
  clear hK K S1
  refine wpAnyH_done (by kernel_rfl) ?_ _
  have x0 := T1.out.cell R0.out
  have x9 := T1.out.cell R9.out
  cases q0
  · try simp only [Bool.false_and, Bool.and_false, Bool.true_and, Bool.and_true, Bool.not_true, Bool.not_false, Bool.or_false, Bool.false_or, Bool.true_or, if_true, Bool.false_eq_true, if_false]
    go_wp2_with (first | (go_at_call 20; go_must (refine (HX.out _).mono ?_); rintro e w9 ⟨rfl, rfl⟩) | (go_at_call 21; go_must (refine (HV.out _).mono ?_); rintro e w6 ⟨rfl, b6⟩; have T2 := Lib.hid (T1.out.below b6); have L2 := Lib.hid (L1.out.trans (b6.mono L1.out.size)); clear b6) | (go_at_call 22; go_must (refine (HR.out _).mono ?_); rintro e w7 ⟨rfl, b7⟩; have L3 := Lib.hid (L2.out.trans (b7.mono L2.out.size)); clear b7) | ((with_reducible show wpList _ _ _ ({ dst := _, op := .load 25 (.tmp 1), type := _, pos := _, after := _, guard := _ } :: _) _ _); refine wpList_load_stg (by rfl) 25 _ rfl w.heap.size rfl 25 row (by first | exact T3.out | exact T2.out | exact T1.out) _ Tryd.underlying25 rfl (by rw [H3.out]; kernel_rfl) ?_))
    go_ret
    first | exact ⟨rfl, L3.out⟩ | exact ⟨rfl, L2.out⟩ | exact ⟨rfl, L1.out⟩
  · cases t2
    · try simp only [Bool.false_and, Bool.and_false, Bool.true_and, Bool.and_true, Bool.not_true, Bool.not_false, Bool.or_false, Bool.false_or, Bool.true_or, if_true, Bool.false_eq_true, if_false]
      go_wp2_with (first | (go_at_call 20; go_must (refine (HX.out _).mono ?_); rintro e w9 ⟨rfl, rfl⟩) | (go_at_call 21; go_must (refine (HV.out _).mono ?_); rintro e w6 ⟨rfl, b6⟩; have T2 := Lib.hid (T1.out.below b6); have L2 := Lib.hid (L1.out.trans (b6.mono L1.out.size)); clear b6) | (go_at_call 22; go_must (refine (HR.out _).mono ?_); rintro e w7 ⟨rfl, b7⟩; have L3 := Lib.hid (L2.out.trans (b7.mono L2.out.size)); clear b7) | ((with_reducible show wpList _ _ _ ({ dst := _, op := .load 25 (.tmp 1), type := _, pos := _, after := _, guard := _ } :: _) _ _); refine wpList_load_stg (by rfl) 25 _ rfl w.heap.size rfl 25 row (by first | exact T3.out | exact T2.out | exact T1.out) _ Tryd.underlying25 rfl (by rw [H3.out]; kernel_rfl) ?_))
      go_ret
      first | exact ⟨rfl, L3.out⟩ | exact ⟨rfl, L2.out⟩ | exact ⟨rfl, L1.out⟩
    · cases t3
      · try simp only [Bool.false_and, Bool.and_false, Bool.true_and, Bool.and_true, Bool.not_true, Bool.not_false, Bool.or_false, Bool.false_or, Bool.true_or, if_true, Bool.false_eq_true, if_false]
        go_wp2_with (first | (go_at_call 20; go_must (refine (HX.out _).mono ?_); rintro e w9 ⟨rfl, rfl⟩) | (go_at_call 21; go_must (refine (HV.out _).mono ?_); rintro e w6 ⟨rfl, b6⟩; have T2 := Lib.hid (T1.out.below b6); have L2 := Lib.hid (L1.out.trans (b6.mono L1.out.size)); clear b6) | (go_at_call 22; go_must (refine (HR.out _).mono ?_); rintro e w7 ⟨rfl, b7⟩; have L3 := Lib.hid (L2.out.trans (b7.mono L2.out.size)); clear b7) | ((with_reducible show wpList _ _ _ ({ dst := _, op := .load 25 (.tmp 1), type := _, pos := _, after := _, guard := _ } :: _) _ _); refine wpList_load_stg (by rfl) 25 _ rfl w.heap.size rfl 25 row (by first | exact T3.out | exact T2.out | exact T1.out) _ Tryd.underlying25 rfl (by rw [H3.out]; kernel_rfl) ?_))
        go_ret
        first | exact ⟨rfl, L3.out⟩ | exact ⟨rfl, L2.out⟩ | exact ⟨rfl, L1.out⟩
      · cases vc
        · cases vr
          · try simp only [Bool.false_and, Bool.and_false, Bool.true_and, Bool.and_true, Bool.not_true, Bool.not_false, Bool.or_false, Bool.false_or, Bool.true_or, if_true, Bool.false_eq_true, if_false]
            go_wp2_with (first | (go_at_call 20; go_must (refine (HX.out _).mono ?_); rintro e w9 ⟨rfl, rfl⟩) | (go_at_call 21; go_must (refine (HV.out _).mono ?_); rintro e w6 ⟨rfl, b6⟩; have T2 := Lib.hid (T1.out.below b6); have L2 := Lib.hid (L1.out.trans (b6.mono L1.out.size)); clear b6) | (go_at_call 22; go_must (refine (HR.out _).mono ?_); rintro e w7 ⟨rfl, b7⟩; have L3 := Lib.hid (L2.out.trans (b7.mono L2.out.size)); clear b7) | ((with_reducible show wpList _ _ _ ({ dst := _, op := .load 25 (.tmp 1), type := _, pos := _, after := _, guard := _ } :: _) _ _); refine wpList_load_stg (by rfl) 25 _ rfl w.heap.size rfl 25 row (by first | exact T3.out | exact T2.out | exact T1.out) _ Tryd.underlying25 rfl (by rw [H3.out]; kernel_rfl) ?_))
            go_ret
            first | exact ⟨rfl, L3.out⟩ | exact ⟨rfl, L2.out⟩ | exact ⟨rfl, L1.out⟩
          · try simp only [Bool.false_and, Bool.and_false, Bool.true_and, Bool.and_true, Bool.not_true, Bool.not_false, Bool.or_false, Bool.false_or, Bool.true_or, if_true, Bool.false_eq_true, if_false]
            go_wp2_with (first | (go_at_call 20; go_must (refine (HX.out _).mono ?_); rintro e w9 ⟨rfl, rfl⟩) | (go_at_call 21; go_must (refine (HV.out _).mono ?_); rintro e w6 ⟨rfl, b6⟩; have T2 := Lib.hid (T1.out.below b6); have L2 := Lib.hid (L1.out.trans (b6.mono L1.out.size)); clear b6) | (go_at_call 22; go_must (refine (HR.out _).mono ?_); rintro e w7 ⟨rfl, b7⟩; have L3 := Lib.hid (L2.out.trans (b7.mono L2.out.size)); clear b7) | ((with_reducible show wpList _ _ _ ({ dst := _, op := .load 25 (.tmp 1), type := _, pos := _, after := _, guard := _ } :: _) _ _); refine wpList_load_stg (by rfl) 25 _ rfl w.heap.size rfl 25 row (by first | exact T3.out | exact T2.out | exact T1.out) _ Tryd.underlying25 rfl (by rw [H3.out]; kernel_rfl) ?_))
            go_ret
            first | exact ⟨rfl, L3.out⟩ | exact ⟨rfl, L2.out⟩ | exact ⟨rfl, L1.out⟩
        · try simp only [Bool.false_and, Bool.and_false, Bool.true_and, Bool.and_true, Bool.not_true, Bool.not_false, Bool.or_false, Bool.false_or, Bool.true_or, if_true, Bool.false_eq_true, if_false]
          go_wp2_with (first | (go_at_call 20; go_must (refine (HX.out _).mono ?_); rintro e w9 ⟨rfl, rfl⟩) | (go_at_call 21; go_must (refine (HV.out _).mono ?_); rintro e w6 ⟨rfl, b6⟩; have T2 := Lib.hid (T1.out.below b6); have L2 := Lib.hid (L1.out.trans (b6.mono L1.out.size)); clear b6) | (go_at_call 22; go_must (refine (HR.out _).mono ?_); rintro e w7 ⟨rfl, b7⟩; have L3 := Lib.hid (L2.out.trans (b7.mono L2.out.size)); clear b7) | ((with_reducible show wpList _ _ _ ({ dst := _, op := .load 25 (.tmp 1), type := _, pos := _, after := _, guard := _ } :: _) _ _); refine wpList_load_stg (by rfl) 25 _ rfl w.heap.size rfl 25 row (by first | exact T3.out | exact T2.out | exact T1.out) _ Tryd.underlying25 rfl (by rw [H3.out]; kernel_rfl) ?_))
          go_ret
          first | exact ⟨rfl, L3.out⟩ | exact ⟨rfl, L2.out⟩ | exact ⟨rfl, L1.out⟩
end Go.Proofs.YtimbcombhdgjiaaDoor
