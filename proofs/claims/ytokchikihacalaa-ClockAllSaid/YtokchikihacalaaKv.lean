/- The program's clock (keys are texts): Touch and Drop. -/
import Derived.Test.YtokchikihacalaaKpb
namespace Go.Proofs.Ytokchikihacalaa
open Go.RowKit

section
variable {α : Type} [DecidableEq α]
theorem touch_count (l : List (α × Bool)) (hn : (keys l).Nodup) (s : α) (h : s ∈ keys l) : (ktouch l s).countP (·.2) = (if mkd l s then l.countP (·.2) else l.countP (·.2) + 1) ∧ keys (ktouch l s) = keys l := by
  rcases plc_cases s l with ⟨_, hs⟩ | ⟨i, b, e, hi, hx⟩
  · exact absurd h hs
  · have ek : ktouch l s = l.set i (s, true) := by unfold ktouch; rw [e, if_neg (by omega), Int.toNat_natCast]
    have hm : mkd l s = b := mkd_at l hn i (s, b) hx
    obtain ⟨_, hx'⟩ := List.getElem?_eq_some_iff.1 hx
    refine ⟨?_, ?_⟩
    · rw [ek, hm, List.countP_set hi, hx']
      cases b with
      | false => simp
      | true =>
        have : 0 < l.countP (·.2) := List.countP_pos_iff.2 ⟨(s, true), List.mem_of_getElem? hx, rfl⟩
        simp
        omega
    · rw [ek]
      unfold keys
      rw [List.map_set]
      have : (l.map (·.1))[i]'(by simpa using hi) = s := by simp [hx']
      rw [← this, List.set_getElem_self]
theorem touch_added (l : List (α × Bool)) (s : α) (hs : s ∉ keys l) : ktouch (l ++ [(s, false)]) s = ktouch l s := by
  have e1 : plc s (l ++ [(s, false)]) = (l.length : Nat) := plc_at s _ l.length (s, false) (by simp) rfl (by
    have : (keys (l ++ [(s, false)])).take l.length = keys l := by
      unfold keys
      rw [List.map_append, List.take_append_of_le_length (by simp), List.take_of_length_le (by simp)]
    rw [this]; exact hs)
  have e2 : plc s l = -1 := plc_none s l hs
  unfold ktouch
  rw [e1, e2, if_neg (by omega), if_pos (by omega), Int.toNat_natCast, List.set_append_right _ _ (by omega)]
  simp
theorem drop_at (l : List (α × Bool)) (hn : (keys l).Nodup) (s : α) (i : Nat) (b : Bool) (h : l[i]? = some (s, b)) :
    keys (kdrop l s) = (keys l).eraseIdx i ∧ (kdrop l s).countP (·.2) = l.countP (·.2) - (if mkd l s then 1 else 0) ∧ ∀ x, mkd (kdrop l s) x = if x = s then false else mkd l x := by
  obtain ⟨hi, e⟩ := List.getElem?_eq_some_iff.1 h
  have hm : mkd l s = b := mkd_at l hn i (s, b) h
  have e2 : l = l.take i ++ (s, b) :: l.drop (i + 1) := by
    have := List.take_append_drop i l
    rw [List.drop_eq_getElem_cons hi, e] at this
    exact this.symm
  have hk : keys l = keys (l.take i) ++ s :: keys (l.drop (i + 1)) := by
    conv => lhs; rw [e2]
    simp [keys]
  have hn2 := hn
  rw [hk] at hn2
  obtain ⟨n1, n2, n3⟩ := List.nodup_append.1 hn2
  have a1 : s ∉ keys (l.take i) := fun hm => n3 s hm s (by simp) rfl
  have a2 : s ∉ keys (l.drop (i + 1)) := (List.nodup_cons.1 n2).1
  have f : ∀ r : List (α × Bool), s ∉ keys r → r.filter (fun x => decide (x.1 ≠ s)) = r := fun r hr => List.filter_eq_self.2 fun x hx => decide_eq_true fun e => hr (List.mem_map.2 ⟨x, hx, e⟩)
  have e3 : kdrop l s = l.take i ++ l.drop (i + 1) := by
    unfold kdrop
    conv => lhs; rw [e2]
    rw [List.filter_append, List.filter_cons, f _ a1, f _ a2, if_neg (by simp)]
  refine ⟨?_, ?_, fun x => ?_⟩
  · rw [e3, List.eraseIdx_eq_take_drop_succ]
    unfold keys
    rw [List.map_append, List.map_take, List.map_drop]
  · rw [e3, hm, List.countP_append]
    conv => rhs; rw [e2]
    rw [List.countP_append, List.countP_cons]
    cases b <;> simp <;> omega
  · by_cases hx : x = s
    · subst hx
      rw [if_pos rfl]
      unfold mkd
      refine decide_eq_false fun hm => ?_
      rw [e3] at hm
      rcases List.mem_append.1 hm with h1 | h1
      · exact a1 (List.mem_map.2 ⟨_, h1, rfl⟩)
      · exact a2 (List.mem_map.2 ⟨_, h1, rfl⟩)
    · rw [if_neg hx]
      unfold mkd kdrop
      rw [decide_eq_decide, List.mem_filter]
      simp [hx]
end
/-- The mark of a key is set. -/
theorem CL0.mark {B p pm sm : Nat} {bs : List Nat} {l : List (ByteArray × Bool)} {w : World} (h : CL0 B p pm sm bs l w) (s : ByteArray) (hs : s.size ≤ 9223372036854775807) (hin : s ∈ keys l) :
    ∃ w', (Instr.mapUpdate 53 (.map (some sm)) (.string s) (.agg #[])).run Try.prog w = .ok () w' ∧ CL0 B p pm sm bs (ktouch l s) w' ∧ Frm (fun j => j = sm) w w' := by
  obtain ⟨t1, t2⟩ := touch_count l h.nodup s hin
  obtain ⟨m1, m2, m3, m4⟩ := touch_marks l h.nodup s
  have hf := h.fits
  obtain ⟨w', hrun, hm, hg⟩ := h.marks.put Try.keyedS Try.underlying53 klit_inj (keyS hs) trivial (by unfold maxLen; omega) (ktouch l s) t1 m3
  have f : Frm (fun j => j = sm) w w' := (Frm.refl _ w).grow1 hg fun k hk => by cases hk; rfl
  have hlen : (ktouch l s).length = l.length := by
    have e1 : (ktouch l s).length = (keys (ktouch l s)).length := by simp [keys]
    have e2 : l.length = (keys l).length := by simp [keys]
    rw [e1, t2, e2]
  exact ⟨w', hrun, ⟨f.st h.st (fun e => h.sm_p e.symm), by rw [t2]; exact h.ring.frm f (fun b hb e => h.sm_bs (by rw [← e]; exact hb)), by rw [t2]; exact h.places.frm f h.pms, hm, m4, by rw [hlen]; exact hf, by rw [t2]; exact h.small, h.pms, h.bp, h.bpm, h.bsm, h.bbs⟩, f⟩
set_option maxRecDepth 100000 in
set_option maxHeartbeats 1000000 in
theorem kTouch_any (B p : Nat) (F : Nat → Prop) (l : List (ByteArray × Bool)) (s : ByteArray) (hs : s.size ≤ 9223372036854775807) (w : World) (hB : B ≤ w.heap.size) (hl : l.length ≤ 1073741824) (h : CL B p F l w) :
    Calls Try.prog 13 #[.pointer (some ⟨p, 0, none⟩), .string s] w fun e w' => e = .returned (.tuple #[]) ∧ CLid B p F (ktouch l s) w w' := by
  obtain ⟨pm, sm, bs, h0, hF, hFp, hFm, hFs, hFb⟩ := h
  have HT := Lib.hid (ktakes_at s hs h0)
  have HH := Lib.hid (kHas_at s hs h0)
  cases hin : inK s l with
  | true =>
    rw [hin] at HH
    have hmem : s ∈ keys l := (inK_iff s l).1 hin
    have HM := Lib.hid (show ∀ q, ∃ w', (Instr.mapUpdate 53 (.map (some sm)) (.string s) (.agg #[])).run Try.prog (w.drewN q) = .ok () w' ∧ Hid (CLid B p F (ktouch l s) w w') from fun q => by
      obtain ⟨w', hrun, h1, f⟩ := (h0.same ((Frm.refl _ w).drewN q)).mark s hs hmem
      exact ⟨w', hrun, Lib.hid (CLid.mk' hF hB hFp hFm hFs h1 (((Frm.refl _ w).drewN q).next (f.wide fun j e => by rw [e]; exact hFs)) fun b hb => .inl (hFb b hb))⟩)
    have c1 : w.cell? ⟨p, 1, none⟩ = some (.map (some sm)) := h0.st.cell rfl
    clear h0 hF hFp hFm hFs hFb hmem hin hl hB
    go_enter Try.func13, Try.ntmps13
    go_wp2_with (first
      | (go_at_call 42; go_must (with_reducible refine HT.out.mono ?_); rintro e w1 ⟨rfl, rfl⟩)
      | (go_at_call 21; go_must (with_reducible refine HH.out.mono ?_); rintro e w1 ⟨rfl, q, rfl⟩; obtain ⟨w2, hrun, HC⟩ := HM.out q)
      | ((with_reducible show wpList _ _ _ ({ dst := _, op := .mapUpdate _ _ _ _, type := _, pos := _, after := _, guard := _ } :: _) _ _); refine wpList_mapUpdate_run rfl (.tmp 18) (.tmp 19) (.tmp 20) 53 rfl _ _ _ (by simp [Act.eval]) (by simp [Act.eval]) (by simp [Act.eval]) hrun ?_))
    go_end0
    exact ⟨rfl, HC.out⟩
  | false =>
    rw [hin] at HH
    have hmem : s ∉ keys l := fun e => by rw [(inK_iff s l).2 e] at hin; cases hin
    have HA := Lib.hid (show ∀ q, Calls Try.prog 43 #[.pointer (some ⟨p, 0, none⟩), .string s] (w.drewN q) fun e w' => e = .returned (.tuple #[]) ∧ w'.cell? ⟨p, 1, none⟩ = some (.map (some sm)) ∧ ∃ w2, (Instr.mapUpdate 53 (.map (some sm)) (.string s) (.agg #[])).run Try.prog w' = .ok () w2 ∧ Hid (CLid B p F (ktouch l s) w w2) from fun q => by
      refine (kadd_at s hs (w := w.drewN q) hB hmem hl (h0.same ((Frm.refl _ w).drewN q))).mono fun e w' ⟨he, h1, f⟩ => ⟨he, h1.st.cell rfl, ?_⟩
      obtain ⟨w2, hrun, h2, f2⟩ := h1.mark s hs (by simp [keys])
      rw [touch_added l s hmem] at h2
      have f3 : Frm F w w2 := (((Frm.refl F w).drewN q).next (f.wide fun j e => by
        rcases e with e | e | e
        · rw [e]; exact hFp
        · rw [e]; exact hFm
        · exact hFb j e)).next (f2.wide fun j e => by rw [e]; exact hFs)
      refine ⟨w2, hrun, Lib.hid (CLid.mk' hF hB hFp hFm hFs h2 f3 fun b hb => ?_)⟩
      rcases List.mem_append.1 hb with h3 | h3
      · exact .inl (hFb b h3)
      · simp at h3; right; omega)
    clear h0 hF hFp hFm hFs hFb hmem hin hl hB
    go_enter Try.func13, Try.ntmps13
    go_wp2_with (first
      | (go_at_call 42; go_must (with_reducible refine HT.out.mono ?_); rintro e w1 ⟨rfl, rfl⟩)
      | (go_at_call 21; go_must (with_reducible refine HH.out.mono ?_); rintro e w1 ⟨rfl, q, rfl⟩)
      | (go_at_call 43; go_must (with_reducible refine (HA.out _).mono ?_); rintro e w1 ⟨rfl, c1, w2, hrun, HC⟩)
      | ((with_reducible show wpList _ _ _ ({ dst := _, op := .mapUpdate _ _ _ _, type := _, pos := _, after := _, guard := _ } :: _) _ _); refine wpList_mapUpdate_run rfl (.tmp 18) (.tmp 19) (.tmp 20) 53 rfl _ _ _ (by simp [Act.eval]) (by simp [Act.eval]) (by simp [Act.eval]) hrun ?_))
    go_end0
    exact ⟨rfl, HC.out⟩
end Go.Proofs.Ytokchikihacalaa
