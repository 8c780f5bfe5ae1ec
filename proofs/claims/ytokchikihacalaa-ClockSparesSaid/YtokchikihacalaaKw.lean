/- The program's clock (keys are texts): Drop, Keys. -/
import Derived.Test.YtokchikihacalaaKv
import Derived.Test.YtokchikihacalaaRo
namespace Go.Proofs.Ytokchikihacalaa
open Go.RowKit

theorem kdrop_out {α : Type} [DecidableEq α] (l : List (α × Bool)) (s : α) (h : inK s l = false) : kdrop l s = l := by
  unfold kdrop
  exact List.filter_eq_self.2 fun x hx => decide_eq_true fun e => by
    have : s ∈ keys l := List.mem_map.2 ⟨x, hx, e⟩
    rw [(inK_iff s l).2 this] at h; cases h
theorem kdrop_len {α : Type} [DecidableEq α] (l : List (α × Bool)) (s : α) : (kdrop l s).length ≤ l.length := by
  unfold kdrop; exact List.length_filter_le _ _
theorem keys_drop_mem {α : Type} [DecidableEq α] (l : List (α × Bool)) (s x : α) (h : x ∈ keys (kdrop l s)) : x ∈ keys l := by
  obtain ⟨y, hy, rfl⟩ := List.mem_map.1 h
  unfold kdrop at hy
  exact List.mem_map.2 ⟨y, (List.mem_filter.1 hy).1, rfl⟩
/-- The clock, when a place is out and its key deleted of both maps. -/
theorem CL0.gone {B p pm sm : Nat} {bs : List Nat} {l : List (ByteArray × Bool)} {w : World} (h : CL0 B p pm sm bs l w) (s : ByteArray) (hs : s.size ≤ 9223372036854775807) (i : Nat) (b : Bool) (hx : l[i]? = some (s, b)) {w1 : World} (k : Krem p pm sm bs l i w w1) :
    w1.cell? ⟨p, 0, none⟩ = some (.map (some pm)) ∧ ∃ w2, (Builtin.delete_ #[52, 9] 0 #[.map (some pm), .string s]).run Try.prog w1 = .ok (.tuple #[]) w2 ∧ w2.cell? ⟨p, 1, none⟩ = some (.map (some sm)) ∧
      ∃ w3, (Builtin.delete_ #[53, 9] 0 #[.map (some sm), .string s]).run Try.prog w2 = .ok (.tuple #[]) w3 ∧ Hid (CL0 B p pm sm (bs.eraseIdx i) (kdrop l s) w3 ∧ Frm (fun j => j = p ∨ j = pm ∨ j = sm ∨ j ∈ bs) w w3) := by
  obtain ⟨d1, d2, d3⟩ := drop_at l h.nodup s i b hx
  have hp1 : ∀ m, (m = pm ∨ m = sm) → ¬ (m = p ∨ m ∈ bs) := fun m hm e => by
    rcases hm with rfl | rfl <;> rcases e with e | e
    · exact h.pm_p e
    · exact h.pm_bs e
    · exact h.sm_p e
    · exact h.sm_bs e
  have pm1 := h.places.frm k.frm (hp1 pm (.inl rfl))
  have sm1 := h.marks.frm k.frm (hp1 sm (.inr rfl))
  obtain ⟨w2, r2, pm2, g2⟩ := pm1.del Try.keyedS Try.underlying52 klit_inj (keyS hs) 0 h.nodup i (keys_at hx)
  have f2 : Frm (fun j => j = pm) w1 w2 := (Frm.refl _ w1).grow1 g2 fun k hk => by cases hk; rfl
  have sm2 := sm1.frm f2 (fun e => h.pms e.symm)
  obtain ⟨w3, r3, sm3, g3⟩ := sm2.del Try.keyedS Try.underlying53 klit_inj (keyS hs) 0 (kdrop l s) d2 d3
  have f3 : Frm (fun j => j = sm) w2 w3 := (Frm.refl _ w2).grow1 g3 fun k hk => by cases hk; rfl
  have st2 := f2.st k.st (fun e => h.pm_p e.symm)
  have st3 := f3.st st2 (fun e => h.sm_p e.symm)
  have hsub : ∀ x ∈ bs.eraseIdx i, x ∈ bs := fun x hx => List.mem_of_mem_eraseIdx hx
  have r3' := (k.ring.frm f2 (fun x hx e => h.pm_bs (by rw [← e]; exact hsub x hx))).frm f3 (fun x hx e => h.sm_bs (by rw [← e]; exact hsub x hx))
  have hv : ((keys l).map Value.string).eraseIdx i = ((keys l).eraseIdx i).map Value.string := by
    rw [List.eraseIdx_eq_take_drop_succ, List.eraseIdx_eq_take_drop_succ, List.map_append, List.map_take, List.map_drop]
  rw [hv] at r3'
  refine ⟨St.cell k.st rfl, w2, r2, St.cell st2 rfl, w3, r3, Lib.hid ⟨⟨st3, by rw [d1]; exact r3', by rw [d1]; exact pm2.frm f3 h.pms, sm3, by rw [d1]; exact h.nodup.sublist (List.eraseIdx_sublist _ _), by have := kdrop_len l s; have := h.fits; omega, fun x hx => h.small x (keys_drop_mem l s x hx), h.pms, h.bp, h.bpm, h.bsm, fun x hx => h.bbs x (hsub x hx)⟩, ?_⟩⟩
  exact ((k.frm.wide fun j e => by rcases e with e | e; exact .inl e; exact .inr (.inr (.inr e))).next (f2.wide fun j e => .inr (.inl e))).next (f3.wide fun j e => .inr (.inr (.inl e)))
set_option maxRecDepth 100000 in
set_option maxHeartbeats 1000000 in
theorem kDrop_any (B p : Nat) (F : Nat → Prop) (l : List (ByteArray × Bool)) (s : ByteArray) (hs : s.size ≤ 9223372036854775807) (w : World) (hB : B ≤ w.heap.size) (_hl : l.length ≤ 1073741824) (h : CL B p F l w) :
    Calls Try.prog 15 #[.pointer (some ⟨p, 0, none⟩), .string s] w fun e w' => e = .returned (.bool (inK s l)) ∧ CLid B p F (kdrop l s) w w' := by
  obtain ⟨pm, sm, bs, h0, hF, hFp, hFm, hFs, hFb⟩ := h
  have HH := Lib.hid (kHas_at s hs h0)
  cases hin : inK s l with
  | false =>
    rw [hin] at HH
    have HD := Lib.hid (show ∀ q, CLid B p F (kdrop l s) w (w.drewN q) from fun q => by
      rw [kdrop_out l s hin]
      exact CLid.mk' hF hB hFp hFm hFs (h0.same ((Frm.refl _ w).drewN q)) ((Frm.refl _ w).drewN q) fun b hb => .inl (hFb b hb))
    clear h0 hF hFp hFm hFs hFb hin hB
    go_enter Try.func15, Try.ntmps15
    go_wp2_with (go_at_call 21; go_must (with_reducible refine HH.out.mono ?_); rintro e w1 ⟨rfl, q, rfl⟩)
    go_returns
    exact ⟨rfl, HD.out q⟩
  | true =>
    rw [hin] at HH
    rcases plc_cases s l with ⟨_, hn⟩ | ⟨i, b, _, hi, hx⟩
    · exact absurd ((inK_iff s l).1 hin) hn
    have hib : i < bs.length := by rw [h0.len]; exact hi
    obtain ⟨q0, hq0⟩ : ∃ q0, bs[i]? = some q0 := ⟨_, List.getElem?_eq_getElem hib⟩
    have HLk := Lib.hid (show ∀ q, (Instr.lookup 52 (.map (some pm)) (.string s) false).run Try.prog (w.drewN q) = .ok (.pointer (some ⟨q0, 0, none⟩)) (w.drewN q) from fun q =>
      (h0.same ((Frm.refl _ w).drewN q)).places.look Try.keyedS Try.underlying52 (Try.zeroP _) (keyS hs) i q0 (keys_at hx) hq0)
    have HR := Lib.hid (show ∀ q, Calls Try.prog 44 #[.pointer (some ⟨p, 0, none⟩), .pointer (some ⟨q0, 0, none⟩)] (w.drewN q) fun e w' => e = .returned (.tuple #[]) ∧ w'.cell? ⟨p, 0, none⟩ = some (.map (some pm)) ∧ ∃ w2, (Builtin.delete_ #[52, 9] 0 #[.map (some pm), .string s]).run Try.prog w' = .ok (.tuple #[]) w2 ∧ w2.cell? ⟨p, 1, none⟩ = some (.map (some sm)) ∧
        ∃ w3, (Builtin.delete_ #[53, 9] 0 #[.map (some sm), .string s]).run Try.prog w2 = .ok (.tuple #[]) w3 ∧ Hid (CLid B p F (kdrop l s) w w3) from fun q => by
      have hq := h0.same ((Frm.refl (fun _ => False) w).drewN q)
      refine (kremove_at i q0 hq hq0).mono fun e w' ⟨he, k⟩ => ⟨he, ?_⟩
      obtain ⟨g1, w2, g2, g3, w3, g4, g5⟩ := hq.gone s hs i b hx k
      refine ⟨g1, w2, g2, g3, w3, g4, Lib.hid (CLid.mk' hF hB hFp hFm hFs g5.out.1 (((Frm.refl F w).drewN q).next (g5.out.2.wide fun j e => ?_)) fun b hb => .inl (hFb b (List.mem_of_mem_eraseIdx hb)))⟩
      rcases e with e | e | e | e
      · rw [e]; exact hFp
      · rw [e]; exact hFm
      · rw [e]; exact hFs
      · exact hFb j e)
    have c0 : w.cell? ⟨p, 0, none⟩ = some (.map (some pm)) := h0.st.cell rfl
    clear h0 hF hFp hFm hFs hFb hin hB hi hx hib hq0
    go_enter Try.func15, Try.ntmps15
    go_wp2_with (first
      | (go_at_call 21; go_must (with_reducible refine HH.out.mono ?_); rintro e w1 ⟨rfl, q, rfl⟩; have hlk := HLk.out q)
      | (go_at_call 44; go_must (with_reducible refine (HR.out _).mono ?_); rintro e w1 ⟨rfl, g1, w2, g2, g3, w3, g4, HC⟩)
      | (at_delete; refine wpList_delete_run rfl (.tmp 20) (.tmp 21) 52 9 rfl _ _ (by simp [Act.eval]) (by simp [Act.eval]) g2 ?_)
      | (at_delete; refine wpList_delete_run rfl (.tmp 25) (.tmp 26) 53 9 rfl _ _ (by simp [Act.eval]) (by simp [Act.eval]) g4 ?_))
    go_returns
    exact ⟨rfl, HC.out⟩
end Go.Proofs.Ytokchikihacalaa
