/- The program's clock (keys are numbers): who has to go. -/
import Derived.Test.YtokchikihacalaaKnw
import Derived.Test.YtokchikihacalaaKvi
namespace Go.Proofs.Ytokchikihacalaa
open Go.RowKit

section
variable {α : Type} [DecidableEq α]
end
/-- A clock whose first key is marked: its mark is deleted, and it goes round. -/
theorem CL0N.turned {B p pm sm b0 : Nat} {bs : List Nat} {s : Int} {r : List (Int × Bool)} {w : World} (h : CL0N B p pm sm (b0 :: bs) ((s, true) :: r) w) : 
    ∃ w2, (Builtin.delete_ #[83, 3] 0 #[.map (some sm), .int .i64 s]).run Try.prog w = .ok (.tuple #[]) w2 ∧ w2.cell? ⟨p, 2, none⟩ = some (.pointer (some ⟨b0, 0, none⟩)) ∧ w2.frozen? ⟨p, 2, none⟩ = false ∧ ∃ n, w2.cell? ⟨b0, 2, none⟩ = some (.pointer (some ⟨n, 0, none⟩)) ∧
      Hid (CL0N B p pm sm (bs ++ [b0]) (r ++ [(s, false)]) (w2.setCell ⟨p, 2, none⟩ (.pointer (some ⟨n, 0, none⟩))) ∧ Frm (fun j => j = p ∨ j = sm) w (w2.setCell ⟨p, 2, none⟩ (.pointer (some ⟨n, 0, none⟩)))) := by
  obtain ⟨m1, m2, m3, m4⟩ := turn_marks s r h.nodup
  have hs : (-9223372036854775808 ≤ s ∧ s ≤ 9223372036854775807) := h.small s (by simp [keys])
  obtain ⟨w2, r2, sm2, g2⟩ := h.marks.del Try.keyedSN Try.underlying83 klit_injN (keySN hs) 0 (r ++ [(s, false)]) m1 m2
  have f2 : Frm (fun j => j = sm) w w2 := (Frm.refl _ w).grow1 g2 fun k hk => by cases hk; rfl
  have st2 := f2.st h.st (fun e => h.sm_p e.symm)
  have rg2 := h.ring.frm f2 (fun b hb e => h.sm_bs (by rw [← e]; exact hb))
  have n2 := rg2.node 0 b0 (.int .i64 s) rfl rfl
  refine ⟨w2, r2, St.cell st2 rfl, St.free st2 2, nxt (b0 :: bs) 0, St.cell n2 rfl, Lib.hid ?_⟩
  have f3 : Frm (fun j => j = p) w2 (w2.setCell ⟨p, 2, none⟩ (.pointer (some ⟨nxt (b0 :: bs) 0, 0, none⟩))) := (Frm.refl (fun j => j = p) w2).setCell (p := ⟨p, 2, none⟩) (.inl rfl) _
  have hbp : ∀ b ∈ b0 :: bs, b ≠ p := fun b hb e => h.p_bs (by rw [← e]; exact hb)
  have rg3 := (rg2.frm f3 (fun b hb => hbp b hb)).turn
  have pl3 := ((h.places.frm f2 h.pms).frm f3 h.pm_p).turn
  have e1 : fstV (bs ++ [b0]) = .pointer (some ⟨nxt (b0 :: bs) 0, 0, none⟩) := by
    unfold nxt nI
    cases bs with
    | nil => rfl
    | cons c t => simp [fstV]
  have hkp : (keys (r ++ [(s, false)])).Perm (keys ((s, true) :: r)) := by rw [m3, m4]; exact List.perm_append_comm
  refine ⟨⟨?_, by rw [m3, List.map_append]; exact rg3, by rw [m3]; exact pl3, sm2.frm f3 h.sm_p, hkp.nodup_iff.2 h.nodup, by have := h.fits; simpa using this, fun x hx => h.small x (hkp.mem_iff.1 hx), h.pms, h.bp, h.bpm, h.bsm, fun b hb => h.bbs b (by simpa [or_comm] using hb)⟩, (f2.wide fun j e => .inr e).next (f3.wide fun j e => .inl e)⟩
  rw [e1]
  exact St.set st2 2 _
set_option maxRecDepth 100000 in
theorem kVictim_noneN {B p pm sm : Nat} {bs : List Nat} {w : World} (h0 : CL0N B p pm sm bs [] w) : Calls Try.prog 27 #[.pointer (some ⟨p, 0, none⟩)] w fun e w' => e = .returned (.tuple #[.int .i64 0, .bool false]) ∧ ∃ q, w' = w.drewN q := by
  have HL := Lib.hid (show Calls Try.prog 26 #[.pointer (some ⟨p, 0, none⟩)] w fun e w' => e = .returned (.int .i64 0) ∧ ∃ q, w' = w.drewN q from kLen_atN h0)
  clear h0
  go_enter Try.func27, Try.ntmps27
  go_wp2_with (go_at_call 26; go_must (with_reducible refine HL.out.mono ?_); rintro e w1 ⟨rfl, q, rfl⟩)
  go_returns
  exact ⟨rfl, q, rfl⟩
theorem CL0N.first {B p pm sm : Nat} {bs : List Nat} {l : List (Int × Bool)} {w : World} (h : CL0N B p pm sm bs l w) (s : Int) (b : Bool) (hx : l[0]? = some (s, b)) : ∃ b0 bs' r, bs = b0 :: bs' ∧ l = (s, b) :: r ∧ w.cell? ⟨p, 2, none⟩ = some (.pointer (some ⟨b0, 0, none⟩)) ∧ w.cell? ⟨b0, 0, none⟩ = some (.int .i64 s) ∧ w.cell? ⟨p, 1, none⟩ = some (.map (some sm)) := by
  cases l with
  | nil => simp at hx
  | cons x r =>
    simp at hx
    subst hx
    cases bs with
    | nil => have := h.len; simp at this
    | cons b0 bs' => exact ⟨b0, bs', r, rfl, rfl, h.st.cell rfl, St.cell (h.ring.node 0 b0 (.int .i64 s) rfl rfl) rfl, h.st.cell rfl⟩
set_option maxRecDepth 100000 in
set_option maxHeartbeats 2000000 in
theorem kVictim_atN (B p pm sm : Nat) (bs0 : List Nat) (l : List (Int × Bool)) (w : World) (hl0 : 0 < l.length) (h0 : CL0N B p pm sm bs0 l w) :
    Calls Try.prog 27 #[.pointer (some ⟨p, 0, none⟩)] w fun e w' => ∃ s b bs, e = .returned (.tuple #[.int .i64 s, .bool true]) ∧ (kspin l)[0]? = some (s, b) ∧ CL0N B p pm sm bs (kspin l) w' ∧ Frm (fun j => j = p ∨ j = sm) w w' ∧ ∀ x ∈ bs, x ∈ bs0 := by
  have HLen := Lib.hid (kLen_atN h0)
  have d0 : ((l.length : Int) == 0) = false := by rw [beq_eq_false_iff_ne]; omega
  have HS := Lib.hid h0
  have HH := Lib.hid (rot_head l hl0)
  have HRS := Lib.hid (fun j s (hj : j < l.length) (hs : l[j]? = some (s, true)) => And.intro (rot_succ l j s hj hs) (rot_count l j s hj hs))
  have HRF := Lib.hid (fun j (hj : j < l.length) => rot_first l j hj)
  have hle := lead_le l
  have HND := Lib.hid (fun j => rot_nodup l j h0.nodup)
  clear h0
  unfold kspin
  obtain ⟨L, hL⟩ : ∃ L, L = lead l := ⟨_, rfl⟩
  rw [← hL] at HH hle ⊢
  clear hL
  go_enter Try.func27, Try.ntmps27
  go_wp2_with (go_at_call 26; go_must (with_reducible refine HLen.out.mono ?_); rintro e w1 ⟨rfl, q, rfl⟩)
  go_loopw [] (fun wr => ∃ (j : Nat) (bs : List Nat), j ≤ L ∧ CL0N B p pm sm bs (rot l j) wr ∧ Frm (fun j => j = p ∨ j = sm) w wr ∧ ∀ x ∈ bs, x ∈ bs0) (fun wr => mapSize wr sm)
  case atStart => exact ⟨0, bs0, Nat.zero_le _, by rw [rot_zero]; exact HS.out.same ((Frm.refl _ w).drewN q), (Frm.refl _ w).drewN q, fun _ h => h⟩
  case round =>
    obtain ⟨j, bs, hj, h0, hf, hbs⟩ := hrel
    obtain ⟨s, hs⟩ := HH.out j hj
    obtain ⟨b0, bs', r, rfl, hr, c2, k0, c1⟩ := h0.first s _ hs
    have hmk := mkd_at _ (HND.out j) 0 _ hs
    have hsz : (-9223372036854775808 ≤ s ∧ s ≤ 9223372036854775807) := h0.small s (List.mem_of_getElem? (keys_at hs))
    have HM0 := kMarked_atN s hsz h0
    rw [hmk] at HM0
    by_cases hjl : j < L
    · rw [decide_eq_true hjl] at HM0 hr hs
      have HM := Lib.hid HM0
      have hjn : j < l.length := by omega
      have hs' : l[j]? = some (s, true) := by rw [← HRF.out j hjn]; exact hs
      obtain ⟨er, ec⟩ := HRS.out j s hjn hs'
      rw [hr, List.tail_cons] at er
      have HW := Lib.hid (show ∀ W, Below wr.heap.size wr W → W.cell? ⟨p, 1, none⟩ = some (.map (some sm)) ∧ W.cell? ⟨p, 2, none⟩ = some (.pointer (some ⟨b0, 0, none⟩)) ∧ W.cell? ⟨b0, 0, none⟩ = some (.int .i64 s) ∧ 
          ∃ w2, (Builtin.delete_ #[83, 3] 0 #[.map (some sm), .int .i64 s]).run Try.prog W.drew = .ok (.tuple #[]) w2 ∧ w2.cell? ⟨p, 2, none⟩ = some (.pointer (some ⟨b0, 0, none⟩)) ∧ w2.frozen? ⟨p, 2, none⟩ = false ∧ ∃ n, w2.cell? ⟨b0, 2, none⟩ = some (.pointer (some ⟨n, 0, none⟩)) ∧
            Hid (CL0N B p pm sm (bs' ++ [b0]) (rot l (j + 1)) (w2.setCell ⟨p, 2, none⟩ (.pointer (some ⟨n, 0, none⟩))) ∧ Frm (fun j => j = p ∨ j = sm) w (w2.setCell ⟨p, 2, none⟩ (.pointer (some ⟨n, 0, none⟩))) ∧ (∀ x ∈ bs' ++ [b0], x ∈ bs0) ∧ mapSize (w2.setCell ⟨p, 2, none⟩ (.pointer (some ⟨n, 0, none⟩))) sm < mapSize wr sm) from fun W hW => by
        have fW : Frm (fun _ => False) wr W := Frm.of_below hW
        have hc := h0.same fW
        obtain ⟨_, _, _, e1, _, g2, g0, g1⟩ := hc.first s _ hs
        injection e1 with e1 _
        subst e1
        have hd := hc.same ((Frm.refl (fun _ => False) W).drew)
        rw [hr] at hd
        obtain ⟨w2, x1, x2, x3, n, x4, x5⟩ := hd.turned
        refine ⟨g1, g2, g0, w2, x1, x2, x3, n, x4, Lib.hid ?_⟩
        obtain ⟨y1, y2⟩ := x5.out
        rw [← er] at y1
        refine ⟨y1, (((hf.next (fW.wide fun _ e => e.elim)).drew).next y2), fun x hx => hbs x (by simpa [or_comm] using hx), ?_⟩
        rw [KM.count y1.marks, KM.count h0.marks]
        exact ec)
      clear HM0 h0 hf hbs hs hr c1 hmk hsz er ec hs' HS HH HND HRS HRF
      go_wp2_with (go_at_call 47; go_must (with_reducible refine HM.out.mono ?_); rintro e w1 ⟨rfl, b1⟩; obtain ⟨g1, g2, g0, w2, x1, x2, x3, n, x4, HX⟩ := HW.out _ b1; clear b1 c2 k0)
      go_region_law (refine step_delete_run rfl (.tmp 20) (.tmp 27) 83 3 rfl _ _ (by simp [Act.eval]) (by simp [Act.eval]) x1 ?_)
      all_goals (
        obtain ⟨y1, y2, y3, y4⟩ := HX.out
        have Y1 := Lib.hid y1
        have Y4 := Lib.hid y4
        clear HX y1 y4
        go_wp2
        go_round
        case rel => exact ⟨j + 1, _, by omega, Y1.out, y2, y3⟩
        case measure => exact Y4.out)
    · rw [decide_eq_false hjl] at HM0
      have HM := Lib.hid HM0
      have hjL : j = L := by omega
      subst hjL
      have HE := Lib.hid (show ∀ W, Below wr.heap.size wr W → W.cell? ⟨p, 2, none⟩ = some (.pointer (some ⟨b0, 0, none⟩)) ∧ W.cell? ⟨b0, 0, none⟩ = some (.int .i64 s) ∧ Hid (∃ b bs, (rot l j)[0]? = some (s, b) ∧ CL0N B p pm sm bs (rot l j) W ∧ Frm (fun j => j = p ∨ j = sm) w W ∧ ∀ x ∈ bs, x ∈ bs0) from fun W hW => by
        have fW : Frm (fun _ => False) wr W := Frm.of_below hW
        have hc := h0.same fW
        obtain ⟨_, _, _, e1, _, g2, g0, g1⟩ := hc.first s _ hs
        injection e1 with e1 _
        subst e1
        exact ⟨g2, g0, Lib.hid ⟨_, _, hs, hc, hf.next (fW.wide fun _ e => e.elim), hbs⟩⟩)
      clear HM0 h0 hf hbs hs hr c1 hmk hsz HS HH HND HRS HRF
      go_wp2_with (go_at_call 47; go_must (with_reducible refine HM.out.mono ?_); rintro e w1 ⟨rfl, b1⟩; obtain ⟨g2, g0, HX⟩ := HE.out _ b1; clear b1)
      go_ret2
      obtain ⟨b, bs, y1, y2, y3, y4⟩ := HX.out
      exact ⟨s, b, bs, rfl, y1, y2, y3, y4⟩
theorem kVictim_anyN (B p : Nat) (F : Nat → Prop) (l : List (Int × Bool)) (w : World) (hB : B ≤ w.heap.size) (_hl : l.length ≤ 1073741824) (h : CLN B p F l w) :
    Calls Try.prog 27 #[.pointer (some ⟨p, 0, none⟩)] w fun e w' => e = .returned (.tuple #[.int .i64 (vicN l), .bool (decide (0 < l.length))]) ∧ CLidN B p F (kspin l) w w' := by
  obtain ⟨pm, sm, bs, h0, hF, hFp, hFm, hFs, hFb⟩ := h
  by_cases hl0 : l.length = 0
  · have e := List.length_eq_zero_iff.1 hl0
    subst e
    exact (kVictim_noneN h0).mono fun e w' ⟨he, q, hw⟩ => ⟨he, by subst hw; exact CLidN.mk' hF hB hFp hFm hFs (h0.same ((Frm.refl _ w).drewN q)) ((Frm.refl _ w).drewN q) fun j hj => .inl (hFb j hj)⟩
  · refine (kVictim_atN B p pm sm bs l w (by omega) h0).mono fun e w' ⟨s, b, bs', he, hsb, h1, f, hk⟩ => ⟨?_, CLidN.mk' hF hB hFp hFm hFs h1 (f.wide fun j e => ?_) fun j hj => .inl (hFb j (hk j hj))⟩
    · rw [he, decide_eq_true (by omega)]
      unfold vicN
      rw [hsb]
      rfl
    · rcases e with e | e
      · subst e; exact hFp
      · subst e; exact hFs
theorem kHas_anyN (B p : Nat) (F : Nat → Prop) (l : List (Int × Bool)) (s : Int) (hs : (-9223372036854775808 ≤ s ∧ s ≤ 9223372036854775807)) (w : World) (h : CLN B p F l w) :
    Calls Try.prog 29 #[.pointer (some ⟨p, 0, none⟩), .int .i64 s] w fun e w' => e = .returned (.bool (inK s l)) ∧ ∃ q, w' = w.drewN q := by
  obtain ⟨pm, sm, bs, h0, _⟩ := h
  exact kHas_atN s hs h0
theorem kLen_anyN (B p : Nat) (F : Nat → Prop) (l : List (Int × Bool)) (w : World) (h : CLN B p F l w) :
    Calls Try.prog 26 #[.pointer (some ⟨p, 0, none⟩)] w fun e w' => e = .returned (.int .i64 (l.length : Int)) ∧ ∃ q, w' = w.drewN q := by
  obtain ⟨pm, sm, bs, h0, _⟩ := h
  exact kLen_atN h0
end Go.Proofs.Ytokchikihacalaa
