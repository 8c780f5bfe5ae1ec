/- The program's clock (keys are texts): who has to go. -/
import Derived.Test.YtokchikihacalaaKw
namespace Go.Proofs.Ytokchikihacalaa
open Go.RowKit

theorem step_delete_run {P : Program} {w w' : World} {ops : Array Oper} {o : Oper} {a : Act} {K : Act → World → Prop} {Q : Exit → Act → World → Prop} {E : Prop} (hgd : o.guard = none) (m x : Operand) (t k : TypeId) (hop : o.op = Op.call { callee := Callee.builtin Builtin.delete, args := #[m, x], argTypes := #[t, k] })
    (mv key : Value) (hm : a.eval m = mv) (hx : a.eval x = key) (hrun : (Builtin.delete_ #[t, k] o.type #[mv, key]).run P w = .ok (.tuple #[]) w') (hK : K (a.put o.dst (.tuple #[])) w') : if Region.wanted o (yielded ops a.tmps) = true then Oper.wp P o a w K Q else E := by
  have hw : Region.wanted o (yielded ops a.tmps) = true := by simp [Region.wanted, hgd]
  rw [if_pos hw]
  unfold Oper.wp
  simp [execOp, hop, resolve, invoke, builtin, hm, hx, hrun, Result.andThen]
  exact hK
theorem rot_nodup {α : Type} (l : List (α × Bool)) (j : Nat) (h : (keys l).Nodup) : (keys (rot l j)).Nodup := by
  have e : (keys (rot l j)).Perm (keys l) := by
    unfold keys rot
    rw [List.map_append, List.map_map]
    have e : (l.take j).map ((fun x => x.1) ∘ fun x => (x.1, false)) = (l.take j).map (·.1) := List.map_congr_left fun x _ => rfl
    rw [e, ← List.map_append]
    exact (List.perm_append_comm.trans (by rw [List.take_append_drop])).map _
  exact e.nodup_iff.2 h
section
variable {α : Type} [DecidableEq α]
/-- The first key has gone round, and lost its mark. -/
theorem turn_marks (s : α) (r : List (α × Bool)) (hn : (keys ((s, true) :: r)).Nodup) : (r ++ [(s, false)]).countP (·.2) = ((s, true) :: r).countP (·.2) - (if mkd ((s, true) :: r) s then 1 else 0) ∧ (∀ x, mkd (r ++ [(s, false)]) x = if x = s then false else mkd ((s, true) :: r) x) ∧ keys (r ++ [(s, false)]) = keys r ++ [s] ∧ keys ((s, true) :: r) = s :: keys r := by
  have hsr : s ∉ keys r := (List.nodup_cons.1 hn).1
  have hm : mkd ((s, true) :: r) s = true := decide_eq_true (by simp)
  refine ⟨?_, fun x => ?_, by simp [keys], rfl⟩
  · rw [hm]
    simp
  · by_cases hx : x = s
    · subst hx
      rw [if_pos rfl]
      refine decide_eq_false fun h => ?_
      rcases List.mem_append.1 h with h1 | h1
      · exact hsr (List.mem_map.2 ⟨_, h1, rfl⟩)
      · simp at h1
    · rw [if_neg hx]
      unfold mkd
      rw [decide_eq_decide]
      simp [hx]
end
/-- A clock whose first key is marked: its mark is deleted, and it goes round. -/
theorem CL0.turned {B p pm sm b0 : Nat} {bs : List Nat} {s : ByteArray} {r : List (ByteArray × Bool)} {w : World} (h : CL0 B p pm sm (b0 :: bs) ((s, true) :: r) w) : 
    ∃ w2, (Builtin.delete_ #[53, 9] 0 #[.map (some sm), .string s]).run Try.prog w = .ok (.tuple #[]) w2 ∧ w2.cell? ⟨p, 2, none⟩ = some (.pointer (some ⟨b0, 0, none⟩)) ∧ w2.frozen? ⟨p, 2, none⟩ = false ∧ ∃ n, w2.cell? ⟨b0, 2, none⟩ = some (.pointer (some ⟨n, 0, none⟩)) ∧
      Hid (CL0 B p pm sm (bs ++ [b0]) (r ++ [(s, false)]) (w2.setCell ⟨p, 2, none⟩ (.pointer (some ⟨n, 0, none⟩))) ∧ Frm (fun j => j = p ∨ j = sm) w (w2.setCell ⟨p, 2, none⟩ (.pointer (some ⟨n, 0, none⟩)))) := by
  obtain ⟨m1, m2, m3, m4⟩ := turn_marks s r h.nodup
  have hs : s.size ≤ 9223372036854775807 := h.small s (by simp [keys])
  obtain ⟨w2, r2, sm2, g2⟩ := h.marks.del Try.keyedS Try.underlying53 klit_inj (keyS hs) 0 (r ++ [(s, false)]) m1 m2
  have f2 : Frm (fun j => j = sm) w w2 := (Frm.refl _ w).grow1 g2 fun k hk => by cases hk; rfl
  have st2 := f2.st h.st (fun e => h.sm_p e.symm)
  have rg2 := h.ring.frm f2 (fun b hb e => h.sm_bs (by rw [← e]; exact hb))
  have n2 := rg2.node 0 b0 (.string s) rfl rfl
  refine ⟨w2, r2, St.cell st2 rfl, St.free st2 2, nxt (b0 :: bs) 0, St.cell n2 rfl, Lib.hid ?_⟩
  have f3 : Frm (fun j => j = p) w2 (w2.setCell ⟨p, 2, none⟩ (.pointer (some ⟨nxt (b0 :: bs) 0, 0, none⟩))) := (Frm.refl (fun j => j = p) w2).setCell (p := ⟨p, 2, none⟩) (.inl rfl) _
  have hbp : ∀ b ∈ b0 :: bs, b ≠ p := fun b hb e => h.p_bs (by rw [← e]; exact hb)
  have rg3 := (rg2.frm f3 (fun b hb => hbp b hb)).turn
  have pl3 := ((h.places.frm f2 h.pms).frm f3 h.pm_p).turn
  have e1 : fstV (bs ++ [b0]) = .pointer (some ⟨nxt (b0 :: bs) 0, 0, none⟩) := by
    unfold nxt nI
    cases bs with
    | nil => rfl
    | cons c t => simp [fstV]
  have hkp : (keys (r ++ [(s, false)])).Perm (keys ((s, true) :: r)) := by rw [m3, m4]; exact List.perm_append_comm
  refine ⟨⟨?_, by rw [m3, List.map_append]; exact rg3, by rw [m3]; exact pl3, sm2.frm f3 h.sm_p, hkp.nodup_iff.2 h.nodup, by have := h.fits; simpa using this, fun x hx => h.small x (hkp.mem_iff.1 hx), h.pms, h.bp, h.bpm, h.bsm, fun b hb => h.bbs b (by simpa [or_comm] using hb)⟩, (f2.wide fun j e => .inr e).next (f3.wide fun j e => .inl e)⟩
  rw [e1]
  exact St.set st2 2 _
set_option maxRecDepth 100000 in
theorem kVictim_none {B p pm sm : Nat} {bs : List Nat} {w : World} (h0 : CL0 B p pm sm bs [] w) : Calls Try.prog 18 #[.pointer (some ⟨p, 0, none⟩)] w fun e w' => e = .returned (.tuple #[.string ⟨#[]⟩, .bool false]) ∧ ∃ q, w' = w.drewN q := by
  have HL := Lib.hid (show Calls Try.prog 30 #[.pointer (some ⟨p, 0, none⟩)] w fun e w' => e = .returned (.int .i64 0) ∧ ∃ q, w' = w.drewN q from kLen_at h0)
  clear h0
  go_enter Try.func18, Try.ntmps18
  go_wp2_with (go_at_call 30; go_must (with_reducible refine HL.out.mono ?_); rintro e w1 ⟨rfl, q, rfl⟩)
  go_returns
  exact ⟨rfl, q, rfl⟩
theorem CL0.first {B p pm sm : Nat} {bs : List Nat} {l : List (ByteArray × Bool)} {w : World} (h : CL0 B p pm sm bs l w) (s : ByteArray) (b : Bool) (hx : l[0]? = some (s, b)) : ∃ b0 bs' r, bs = b0 :: bs' ∧ l = (s, b) :: r ∧ w.cell? ⟨p, 2, none⟩ = some (.pointer (some ⟨b0, 0, none⟩)) ∧ w.cell? ⟨b0, 0, none⟩ = some (.string s) ∧ w.cell? ⟨p, 1, none⟩ = some (.map (some sm)) := by
  cases l with
  | nil => simp at hx
  | cons x r =>
    simp at hx
    subst hx
    cases bs with
    | nil => have := h.len; simp at this
    | cons b0 bs' => exact ⟨b0, bs', r, rfl, rfl, h.st.cell rfl, St.cell (h.ring.node 0 b0 (.string s) rfl rfl) rfl, h.st.cell rfl⟩
set_option maxRecDepth 100000 in
set_option maxHeartbeats 2000000 in
theorem kVictim_at (B p pm sm : Nat) (bs0 : List Nat) (l : List (ByteArray × Bool)) (w : World) (hl0 : 0 < l.length) (h0 : CL0 B p pm sm bs0 l w) :
    Calls Try.prog 18 #[.pointer (some ⟨p, 0, none⟩)] w fun e w' => ∃ s b bs, e = .returned (.tuple #[.string s, .bool true]) ∧ (kspin l)[0]? = some (s, b) ∧ CL0 B p pm sm bs (kspin l) w' ∧ Frm (fun j => j = p ∨ j = sm) w w' ∧ ∀ x ∈ bs, x ∈ bs0 := by
  have HLen := Lib.hid (kLen_at h0)
  have d0 : ((l.length : Int) == 0) = false := by rw [beq_eq_false_iff_ne]; omega
  have HS := Lib.hid h0
  have HH := Lib.hid (rot_head l hl0)
  have HRS := Lib.hid (fun j s (hj : j < l.length) (hs : l[j]? = some (s, true)) => And.intro (rot_succ l j s hj hs) (rot_count l j s hj hs))
  have HRF := Lib.hid (fun j (hj : j < l.length) => rot_first l j hj)
  have hle := lead_le l
  have HND := Lib.hid (fun j => rot_nodup l j h0.nodup)
  clear h0
  unfold kspin
  obtain ⟨L, hL⟩ : ∃ L, L = lead l := ⟨_, rfl⟩
  rw [← hL] at HH hle ⊢
  clear hL
  go_enter Try.func18, Try.ntmps18
  go_wp2_with (go_at_call 30; go_must (with_reducible refine HLen.out.mono ?_); rintro e w1 ⟨rfl, q, rfl⟩)
  go_loopw [] (fun wr => ∃ (j : Nat) (bs : List Nat), j ≤ L ∧ CL0 B p pm sm bs (rot l j) wr ∧ Frm (fun j => j = p ∨ j = sm) w wr ∧ ∀ x ∈ bs, x ∈ bs0) (fun wr => mapSize wr sm)
  case atStart => exact ⟨0, bs0, Nat.zero_le _, by rw [rot_zero]; exact HS.out.same ((Frm.refl _ w).drewN q), (Frm.refl _ w).drewN q, fun _ h => h⟩
  case round =>
    obtain ⟨j, bs, hj, h0, hf, hbs⟩ := hrel
    obtain ⟨s, hs⟩ := HH.out j hj
    obtain ⟨b0, bs', r, rfl, hr, c2, k0, c1⟩ := h0.first s _ hs
    have hmk := mkd_at _ (HND.out j) 0 _ hs
    have hsz : s.size ≤ 9223372036854775807 := h0.small s (List.mem_of_getElem? (keys_at hs))
    have HM0 := kMarked_at s hsz h0
    rw [hmk] at HM0
    by_cases hjl : j < L
    · rw [decide_eq_true hjl] at HM0 hr hs
      have HM := Lib.hid HM0
      have hjn : j < l.length := by omega
      have hs' : l[j]? = some (s, true) := by rw [← HRF.out j hjn]; exact hs
      obtain ⟨er, ec⟩ := HRS.out j s hjn hs'
      rw [hr, List.tail_cons] at er
      have HW := Lib.hid (show ∀ W, Below wr.heap.size wr W → W.cell? ⟨p, 1, none⟩ = some (.map (some sm)) ∧ W.cell? ⟨p, 2, none⟩ = some (.pointer (some ⟨b0, 0, none⟩)) ∧ W.cell? ⟨b0, 0, none⟩ = some (.string s) ∧ 
          ∃ w2, (Builtin.delete_ #[53, 9] 0 #[.map (some sm), .string s]).run Try.prog W.drew = .ok (.tuple #[]) w2 ∧ w2.cell? ⟨p, 2, none⟩ = some (.pointer (some ⟨b0, 0, none⟩)) ∧ w2.frozen? ⟨p, 2, none⟩ = false ∧ ∃ n, w2.cell? ⟨b0, 2, none⟩ = some (.pointer (some ⟨n, 0, none⟩)) ∧
            Hid (CL0 B p pm sm (bs' ++ [b0]) (rot l (j + 1)) (w2.setCell ⟨p, 2, none⟩ (.pointer (some ⟨n, 0, none⟩))) ∧ Frm (fun j => j = p ∨ j = sm) w (w2.setCell ⟨p, 2, none⟩ (.pointer (some ⟨n, 0, none⟩))) ∧ (∀ x ∈ bs' ++ [b0], x ∈ bs0) ∧ mapSize (w2.setCell ⟨p, 2, none⟩ (.pointer (some ⟨n, 0, none⟩))) sm < mapSize wr sm) from fun W hW => by
        have fW : Frm (fun _ => False) wr W := Frm.of_below hW
        have hc := h0.same fW
        obtain ⟨_, _, _, e1, _, g2, g0, g1⟩ := hc.first s _ hs
        injection e1 with e1 _
        subst e1
        have hd := hc.same ((Frm.refl (fun _ => False) W).drew)
        rw [hr] at hd
        obtain ⟨w2, x1, x2, x3, n, x4, x5⟩ := hd.turned
        refine ⟨g1, g2, g0, w2, x1, x2, x3, n, x4, Lib.hid ?_⟩
        obtain ⟨y1, y2⟩ := x5.out
        rw [← er] at y1
        refine ⟨y1, (((hf.next (fW.wide fun _ e => e.elim)).drew).next y2), fun x hx => hbs x (by simpa [or_comm] using hx), ?_⟩
        rw [KM.count y1.marks, KM.count h0.marks]
        exact ec)
      clear HM0 h0 hf hbs hs hr c1 hmk hsz er ec hs' HS HH HND HRS HRF
      go_wp2_with (go_at_call 23; go_must (with_reducible refine HM.out.mono ?_); rintro e w1 ⟨rfl, b1⟩; obtain ⟨g1, g2, g0, w2, x1, x2, x3, n, x4, HX⟩ := HW.out _ b1; clear b1 c2 k0)
      go_region_law (refine step_delete_run rfl (.tmp 20) (.tmp 27) 53 9 rfl _ _ (by simp [Act.eval]) (by simp [Act.eval]) x1 ?_)
      all_goals (
        obtain ⟨y1, y2, y3, y4⟩ := HX.out
        have Y1 := Lib.hid y1
        have Y4 := Lib.hid y4
        clear HX y1 y4
        go_wp2
        go_round
        case rel => exact ⟨j + 1, _, by omega, Y1.out, y2, y3⟩
        case measure => exact Y4.out)
    · rw [decide_eq_false hjl] at HM0
      have HM := Lib.hid HM0
      have hjL : j = L := by omega
      subst hjL
      have HE := Lib.hid (show ∀ W, Below wr.heap.size wr W → W.cell? ⟨p, 2, none⟩ = some (.pointer (some ⟨b0, 0, none⟩)) ∧ W.cell? ⟨b0, 0, none⟩ = some (.string s) ∧ Hid (∃ b bs, (rot l j)[0]? = some (s, b) ∧ CL0 B p pm sm bs (rot l j) W ∧ Frm (fun j => j = p ∨ j = sm) w W ∧ ∀ x ∈ bs, x ∈ bs0) from fun W hW => by
        have fW : Frm (fun _ => False) wr W := Frm.of_below hW
        have hc := h0.same fW
        obtain ⟨_, _, _, e1, _, g2, g0, g1⟩ := hc.first s _ hs
        injection e1 with e1 _
        subst e1
        exact ⟨g2, g0, Lib.hid ⟨_, _, hs, hc, hf.next (fW.wide fun _ e => e.elim), hbs⟩⟩)
      clear HM0 h0 hf hbs hs hr c1 hmk hsz HS HH HND HRS HRF
      go_wp2_with (go_at_call 23; go_must (with_reducible refine HM.out.mono ?_); rintro e w1 ⟨rfl, b1⟩; obtain ⟨g2, g0, HX⟩ := HE.out _ b1; clear b1)
      go_ret2
      obtain ⟨b, bs, y1, y2, y3, y4⟩ := HX.out
      exact ⟨s, b, bs, rfl, y1, y2, y3, y4⟩
theorem kVictim_any (B p : Nat) (F : Nat → Prop) (l : List (ByteArray × Bool)) (w : World) (hB : B ≤ w.heap.size) (_hl : l.length ≤ 1073741824) (h : CL B p F l w) :
    Calls Try.prog 18 #[.pointer (some ⟨p, 0, none⟩)] w fun e w' => e = .returned (.tuple #[.string (vic l), .bool (decide (0 < l.length))]) ∧ CLid B p F (kspin l) w w' := by
  obtain ⟨pm, sm, bs, h0, hF, hFp, hFm, hFs, hFb⟩ := h
  by_cases hl0 : l.length = 0
  · have e := List.length_eq_zero_iff.1 hl0
    subst e
    exact (kVictim_none h0).mono fun e w' ⟨he, q, hw⟩ => ⟨he, by subst hw; exact CLid.mk' hF hB hFp hFm hFs (h0.same ((Frm.refl _ w).drewN q)) ((Frm.refl _ w).drewN q) fun j hj => .inl (hFb j hj)⟩
  · refine (kVictim_at B p pm sm bs l w (by omega) h0).mono fun e w' ⟨s, b, bs', he, hsb, h1, f, hk⟩ => ⟨?_, CLid.mk' hF hB hFp hFm hFs h1 (f.wide fun j e => ?_) fun j hj => .inl (hFb j (hk j hj))⟩
    · rw [he, decide_eq_true (by omega)]
      unfold vic
      rw [hsb]
      rfl
    · rcases e with e | e
      · subst e; exact hFp
      · subst e; exact hFs
end Go.Proofs.Ytokchikihacalaa
