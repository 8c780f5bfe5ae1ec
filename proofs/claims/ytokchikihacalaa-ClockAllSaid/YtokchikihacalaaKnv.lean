/- The program's clock (keys are numbers): Touch and Drop. -/
import Derived.Test.YtokchikihacalaaKnb
import Derived.Test.YtokchikihacalaaKv
namespace Go.Proofs.Ytokchikihacalaa
open Go.RowKit

section
variable {α : Type} [DecidableEq α]
end
/-- The mark of a key is set. -/
theorem CL0N.mark {B p pm sm : Nat} {bs : List Nat} {l : List (Int × Bool)} {w : World} (h : CL0N B p pm sm bs l w) (s : Int) (hs : (-9223372036854775808 ≤ s ∧ s ≤ 9223372036854775807)) (hin : s ∈ keys l) :
    ∃ w', (Instr.mapUpdate 83 (.map (some sm)) (.int .i64 s) (.agg #[])).run Try.prog w = .ok () w' ∧ CL0N B p pm sm bs (ktouch l s) w' ∧ Frm (fun j => j = sm) w w' := by
  obtain ⟨t1, t2⟩ := touch_count l h.nodup s hin
  obtain ⟨m1, m2, m3, m4⟩ := touch_marks l h.nodup s
  have hf := h.fits
  obtain ⟨w', hrun, hm, hg⟩ := h.marks.put Try.keyedSN Try.underlying83 klit_injN (keySN hs) trivial (by unfold maxLen; omega) (ktouch l s) t1 m3
  have f : Frm (fun j => j = sm) w w' := (Frm.refl _ w).grow1 hg fun k hk => by cases hk; rfl
  have hlen : (ktouch l s).length = l.length := by
    have e1 : (ktouch l s).length = (keys (ktouch l s)).length := by simp [keys]
    have e2 : l.length = (keys l).length := by simp [keys]
    rw [e1, t2, e2]
  exact ⟨w', hrun, ⟨f.st h.st (fun e => h.sm_p e.symm), by rw [t2]; exact h.ring.frm f (fun b hb e => h.sm_bs (by rw [← e]; exact hb)), by rw [t2]; exact h.places.frm f h.pms, hm, m4, by rw [hlen]; exact hf, by rw [t2]; exact h.small, h.pms, h.bp, h.bpm, h.bsm, h.bbs⟩, f⟩
set_option maxRecDepth 100000 in
set_option maxHeartbeats 1000000 in
theorem kTouch_anyN (B p : Nat) (F : Nat → Prop) (l : List (Int × Bool)) (s : Int) (hs : (-9223372036854775808 ≤ s ∧ s ≤ 9223372036854775807)) (w : World) (hB : B ≤ w.heap.size) (hl : l.length ≤ 1073741824) (h : CLN B p F l w) :
    Calls Try.prog 25 #[.pointer (some ⟨p, 0, none⟩), .int .i64 s] w fun e w' => e = .returned (.tuple #[]) ∧ CLidN B p F (ktouch l s) w w' := by
  obtain ⟨pm, sm, bs, h0, hF, hFp, hFm, hFs, hFb⟩ := h
  have HT := Lib.hid (ktakes_atN s hs h0)
  have HH := Lib.hid (kHas_atN s hs h0)
  cases hin : inK s l with
  | true =>
    rw [hin] at HH
    have hmem : s ∈ keys l := (inK_iff s l).1 hin
    have HM := Lib.hid (show ∀ q, ∃ w', (Instr.mapUpdate 83 (.map (some sm)) (.int .i64 s) (.agg #[])).run Try.prog (w.drewN q) = .ok () w' ∧ Hid (CLidN B p F (ktouch l s) w w') from fun q => by
      obtain ⟨w', hrun, h1, f⟩ := (h0.same ((Frm.refl _ w).drewN q)).mark s hs hmem
      exact ⟨w', hrun, Lib.hid (CLidN.mk' hF hB hFp hFm hFs h1 (((Frm.refl _ w).drewN q).next (f.wide fun j e => by rw [e]; exact hFs)) fun b hb => .inl (hFb b hb))⟩)
    have c1 : w.cell? ⟨p, 1, none⟩ = some (.map (some sm)) := h0.st.cell rfl
    clear h0 hF hFp hFm hFs hFb hmem hin hl hB
    go_enter Try.func25, Try.ntmps25
    go_wp2_with (first
      | (go_at_call 45; go_must (with_reducible refine HT.out.mono ?_); rintro e w1 ⟨rfl, rfl⟩)
      | (go_at_call 29; go_must (with_reducible refine HH.out.mono ?_); rintro e w1 ⟨rfl, q, rfl⟩; obtain ⟨w2, hrun, HC⟩ := HM.out q)
      | ((with_reducible show wpList _ _ _ ({ dst := _, op := .mapUpdate _ _ _ _, type := _, pos := _, after := _, guard := _ } :: _) _ _); refine wpList_mapUpdate_run rfl (.tmp 18) (.tmp 19) (.tmp 20) 83 rfl _ _ _ (by simp [Act.eval]) (by simp [Act.eval]) (by simp [Act.eval]) hrun ?_))
    go_end0
    exact ⟨rfl, HC.out⟩
  | false =>
    rw [hin] at HH
    have hmem : s ∉ keys l := fun e => by rw [(inK_iff s l).2 e] at hin; cases hin
    have HA := Lib.hid (show ∀ q, Calls Try.prog 46 #[.pointer (some ⟨p, 0, none⟩), .int .i64 s] (w.drewN q) fun e w' => e = .returned (.tuple #[]) ∧ w'.cell? ⟨p, 1, none⟩ = some (.map (some sm)) ∧ ∃ w2, (Instr.mapUpdate 83 (.map (some sm)) (.int .i64 s) (.agg #[])).run Try.prog w' = .ok () w2 ∧ Hid (CLidN B p F (ktouch l s) w w2) from fun q => by
      refine (kadd_atN s hs (w := w.drewN q) hB hmem hl (h0.same ((Frm.refl _ w).drewN q))).mono fun e w' ⟨he, h1, f⟩ => ⟨he, h1.st.cell rfl, ?_⟩
      obtain ⟨w2, hrun, h2, f2⟩ := h1.mark s hs (by simp [keys])
      rw [touch_added l s hmem] at h2
      have f3 : Frm F w w2 := (((Frm.refl F w).drewN q).next (f.wide fun j e => by
        rcases e with e | e | e
        · rw [e]; exact hFp
        · rw [e]; exact hFm
        · exact hFb j e)).next (f2.wide fun j e => by rw [e]; exact hFs)
      refine ⟨w2, hrun, Lib.hid (CLidN.mk' hF hB hFp hFm hFs h2 f3 fun b hb => ?_)⟩
      rcases List.mem_append.1 hb with h3 | h3
      · exact .inl (hFb b h3)
      · simp at h3; right; omega)
    clear h0 hF hFp hFm hFs hFb hmem hin hl hB
    go_enter Try.func25, Try.ntmps25
    go_wp2_with (first
      | (go_at_call 45; go_must (with_reducible refine HT.out.mono ?_); rintro e w1 ⟨rfl, rfl⟩)
      | (go_at_call 29; go_must (with_reducible refine HH.out.mono ?_); rintro e w1 ⟨rfl, q, rfl⟩)
      | (go_at_call 46; go_must (with_reducible refine (HA.out _).mono ?_); rintro e w1 ⟨rfl, c1, w2, hrun, HC⟩)
      | ((with_reducible show wpList _ _ _ ({ dst := _, op := .mapUpdate _ _ _ _, type := _, pos := _, after := _, guard := _ } :: _) _ _); refine wpList_mapUpdate_run rfl (.tmp 18) (.tmp 19) (.tmp 20) 83 rfl _ _ _ (by simp [Act.eval]) (by simp [Act.eval]) (by simp [Act.eval]) hrun ?_))
    go_end0
    exact ⟨rfl, HC.out⟩
end Go.Proofs.Ytokchikihacalaa
