/- The reference's disk: Write. -/
import Derived.Test.YtfipojmgmmjnmaaDd
import Derived.Deep.AppendLies
import Derived.Deep.RegionLaw
import Derived.Deep.DeepMust
namespace Go.Proofs.Ytfipojmgmmjnmaa
open Go.RowKit

theorem RD0.frm {B p : Nat} {kv wv : Value} {D : DS} {w w' : World} (h : RD0 B p kv wv D w) {F : Nat → Prop} (f : Frm F w w') (hp : ¬ F p) (hk : ∀ j, kv.ownBlock = some j → ¬ F j) (hw : ∀ j, wv.ownBlock = some j → ¬ F j) : RD0 B p kv wv D w' :=
  ⟨f.st h.st hp, h.ok, f.own h.kr hk, f.own h.wr hw, h.kp, h.wp, h.kw, h.bp⟩
theorem RD0.drew {B p : Nat} {kv wv : Value} {D : DS} {w : World} (h : RD0 B p kv wv D w) : RD0 B p kv wv D w.drew := ⟨h.st, h.ok, h.kr, h.wr, h.kp, h.wp, h.kw, h.bp⟩
theorem dkburn_off (B p : Nat) (kv wv : Value) (D : DS) (w : World) (h0 : D.fuse = 0) (h : RD0 B p kv wv D w) :
    Calls Try.prog 58 #[.pointer (some ⟨p, 0, none⟩)] w fun e w' => e = .returned (.bool true) ∧ RD0 B p kv wv D.burnt w' ∧ Frm (fun j => j = p) w w' ∧ w'.heap.size = w.heap.size := by
  refine (dkburn_zero p kv wv D w h0 h.st).mono ?_
  rintro e w' ⟨rfl, rfl⟩
  have e2 : D.burnt = { D with dead := true } := by unfold DS.burnt; rw [if_pos h0]
  rw [e2]
  exact ⟨rfl, h.dead true, (Frm.refl (fun j => j = p) _).setCell (p := ⟨p, _, none⟩) (.inl rfl) _, by simp [World.setCell]⟩
theorem dkburn_on (B p : Nat) (kv wv : Value) (D : DS) (w : World) (h0 : D.fuse ≠ 0) (h : RD0 B p kv wv D w) :
    Calls Try.prog 58 #[.pointer (some ⟨p, 0, none⟩)] w fun e w' => e = .returned (.bool false) ∧ RD0 B p kv wv D.burnt w' ∧ Frm (fun j => j = p) w w' ∧ w'.heap.size = w.heap.size := by
  by_cases h1 : 0 < D.fuse
  · refine (dkburn_pos p kv wv D w h1 h.ok.hi h.st).mono ?_
    rintro e w' ⟨rfl, rfl⟩
    have e2 : D.burnt = { D with fuse := D.fuse - 1 } := by unfold DS.burnt; rw [if_neg h0, if_pos h1]
    rw [e2]
    have := h.ok.hi
    exact ⟨rfl, h.fuse _ (by omega) (by omega), (Frm.refl (fun j => j = p) _).setCell (p := ⟨p, _, none⟩) (.inl rfl) _, by simp [World.setCell]⟩
  · refine (dkburn_neg p kv wv D w (by omega) h.st).mono ?_
    rintro e w' ⟨rfl, rfl⟩
    have e2 : D.burnt = D := by unfold DS.burnt; rw [if_neg h0, if_neg h1]
    rw [e2]
    exact ⟨rfl, h, Frm.refl _ _, rfl⟩
theorem Try.infoWrite : (Try.prog.info? 51).map (fun i => (i.zero, i.size, i.bytes)) = some (some (.agg #[.int .i64 0, .string ⟨#[]⟩]), 2, 24) := by kernel_rfl

/-- A write is appended to those that wait. -/
theorem RD0.pushed {B p : Nat} {kv wv : Value} {D : DS} {w w2 : World} (h : RD0 B p kv wv D w) (j : Nat) (s : ByteArray) (hj : j < D.kept.length) (hs : s.size = 128) {g cap : Nat}
    (h1 : w2.ownsRow B 51 2 (.slice (some ⟨g, 0, none⟩) (D.wait.length + 1) cap) (D.wait.length + 1) (wcells D.wait ++ [.int .i64 (j : Int), .string s])) {X : Obj} (hg : (w.alloc X).drew.grownBy w2 wv.ownBlock) (hat : wv.ownBlock = some g ∨ g = w.heap.size + 1) :
    RD0 B p kv (.slice (some ⟨g, 0, none⟩) (D.wait.length + 1) cap) { D with wait := D.wait ++ [(j, s)] } (w2.setCell ⟨p, 1, none⟩ (.slice (some ⟨g, 0, none⟩) (D.wait.length + 1) cap)) := by
  have hpl := h.st.lt
  have f0 : Frm (fun j => wv.ownBlock = some j) w w2 := (((Frm.refl _ w).alloc X).drew).grown hg (fun k hk => .inl hk)
  have hst : St 43 p (dcells kv wv D) w2 := f0.st h.st h.wp
  have hkr := f0.own h.kr fun k hk => h.kw k hk
  have hgp : g ≠ p := by
    rcases hat with e | e
    · intro e2; subst e2; exact h.wp e
    · omega
  refine ⟨hst.set 1 _, ⟨h.ok.len, ?_, h.ok.full, ?_, h.ok.lo, h.ok.hi⟩, ownsRow_setCell_other hkr h.kp _, ?_, h.kp, by simp [Value.ownBlock]; exact hgp, ?_, h.bp⟩
  · intro x hx
    rcases List.mem_append.1 hx with hx | hx
    · exact h.ok.inn x hx
    · simp at hx; subst hx; exact hj
  · intro x hx
    rcases List.mem_append.1 hx with hx | hx
    · exact h.ok.fulw x hx
    · simp at hx; subst hx; exact hs
  · have e : wcells (D.wait ++ [(j, s)]) = wcells D.wait ++ [.int .i64 (j : Int), .string s] := by rw [wcells_append]; rfl
    rw [show ({ D with wait := D.wait ++ [(j, s)] } : DS).wait = D.wait ++ [(j, s)] from rfl, e, List.length_append]
    exact ownsRow_setCell_other h1 (by simp [Value.ownBlock]; exact hgp) _
  · intro k hk
    simp only [Value.ownBlock, ne_eq, Option.some.injEq]
    rcases hat with e | e
    · intro e2; subst e2; exact h.kw _ hk e
    · have := (h.kr.lt k hk).2; omega

set_option maxRecDepth 100000 in
set_option maxHeartbeats 1000000 in
theorem dkWrite_do (B p : Nat) (kv wv : Value) (D : DS) (j : Nat) (s : ByteArray) (w : World) (hd : D.dead = false) (hj : j < D.kept.length) (hs : s.size ≤ 128) (h0 : D.fuse ≠ 0) (hl : D.wait.length ≤ 1073741824) (hc : D.wr ≤ 1073741824) (hB : B ≤ w.heap.size) (h : RD0 B p kv wv D w) :
    Calls Try.prog 36 #[.pointer (some ⟨p, 0, none⟩), .int .i64 j, .string s] w fun e w' => e = .returned (.int .i64 0) ∧
      ∃ wv', RD0 B p kv wv' { D.burnt with wait := D.wait ++ [(j, blank s)], wr := D.wr + 1 } w' ∧ Frm (fun j => j = p ∨ wv.ownBlock = some j) w w' ∧ (∀ k, wv'.ownBlock = some k → wv.ownBlock = some k ∨ w.heap.size ≤ k) := by
  obtain ⟨i0, hi, hz0, hz1, hz2⟩ := info_parts Try.infoWrite
  obtain ⟨E, hE⟩ : ∃ E, E = D.burnt := ⟨_, rfl⟩
  have ew : E.wait = D.wait := by rw [hE]; unfold DS.burnt; split <;> (try split) <;> rfl
  have er : E.wr = D.wr := by rw [hE]; unfold DS.burnt; split <;> (try split) <;> rfl
  have ek : E.kept = D.kept := by rw [hE]; unfold DS.burnt; split <;> (try split) <;> rfl
  have HBu := Lib.hid (fun W hW => dkburn_on B p kv wv D W h0 hW)
  rw [← hE] at HBu ⊢
  obtain ⟨n, hn⟩ : ∃ n, n = D.kept.length := ⟨_, rfl⟩
  obtain ⟨m, hm⟩ : ∃ m, m = D.wait.length := ⟨_, rfl⟩
  have c3 : w.cell? ⟨p, 3, none⟩ = some (.bool false) := by rw [← hd]; exact h.st.cell rfl
  obtain ⟨ao, ck, hkv⟩ := own_slice h.kr
  have c0 : w.cell? ⟨p, 0, none⟩ = some (.slice ao n ck) := by rw [hn, ← hkv]; exact h.st.cell rfl
  have i0' : decide ((j : Int) < 0) = false := decide_eq_false (by omega)
  have i1 : decide (n ≤ j) = false := decide_eq_false (by omega)
  have i2 : decide ((s.size : Int) > 128) = false := decide_eq_false (by omega)
  have HBl := Lib.hid (fun W => dkBlank_any s W (by omega))
  obtain ⟨bs, hbs⟩ : ∃ bs, bs = blank s := ⟨_, rfl⟩
  have hb8 : bs.size = 128 := by rw [hbs]; exact blank_size s hs
  rw [← hbs] at HBl ⊢
  have HH := Lib.hid h
  have HX := Lib.hid (And.intro hE (And.intro ew (And.intro er (And.intro ek (And.intro hbs (And.intro hn (And.intro hm hkv)))))))
  have HY := Lib.hid (And.intro hj (And.intro hb8 (And.intro hl (And.intro hc hB))))
  clear h hE ew er ek hbs hn hm hkv hd h0 hj hs hl hb8 hc hB
  go_enter Try.func36, Try.ntmps36
  go_wp2_with fail
  go_must (refine (HBu.out _ HH.out).mono ?_)
  rintro e w1 ⟨rfl, h1, f1, s1⟩
  have c4 : w1.cell? ⟨p, 4, none⟩ = some (.int .i64 (D.wr : Int)) := by rw [← HX.out.2.2.1]; exact h1.st.cell rfl
  have q4 := h1.st.free 4
  have H1 := Lib.hid h1
  have F1 := Lib.hid f1
  have S1 := Lib.hid s1
  have hwr : D.wr ≤ 1073741824 := HY.out.2.2.2.1
  clear h1 f1 s1
  go_wp2_with fail
  have h2 := H1.out.wrs (D.wr + 1)
  have e2 : ((D.wr + 1 : Nat) : Int) = (D.wr : Int) + 1 := by omega
  rw [e2] at h2
  have f2 : Frm (fun j => j = p) w (w1.setCell ⟨p, 4, none⟩ (.int .i64 ((D.wr : Int) + 1))) := F1.out.next ((Frm.refl (fun j => j = p) _).setCell (p := ⟨p, _, none⟩) (.inl rfl) _)
  have s2 : (w1.setCell ⟨p, 4, none⟩ (.int .i64 ((D.wr : Int) + 1))).heap.size = w.heap.size := by rw [← S1.out]; simp [World.setCell]
  obtain ⟨G, hG⟩ : ∃ G : DS, G = { E with wr := D.wr + 1 } := ⟨_, rfl⟩
  rw [← hG] at h2
  clear c4 q4 c3 c0 H1 F1 S1 e2
  generalize (w1.setCell ⟨p, 4, none⟩ (.int .i64 ((D.wr : Int) + 1))) = W at h2 f2 s2 ⊢
  have g1 : W.cell? ⟨p, 1, none⟩ = some wv := h2.st.cell rfl
  have q1 := h2.st.free 1
  have hw := h2.wr
  have HP := Lib.hid h2
  have HF := Lib.hid f2
  have HS := Lib.hid s2
  clear h2 f2 s2
  have hpl : p < W.heap.size := HP.out.st.lt
  have hml : G.wait.length ≤ 1073741824 := by rw [hG]; show E.wait.length ≤ _; rw [HX.out.2.1]; exact HY.out.2.2.1
  have hBW : B ≤ W.heap.size := by rw [HS.out]; exact HY.out.2.2.2.2
  have HG := Lib.hid hG
  clear hG
  go_region_law (first | (refine step_append_lies _ rfl (.tmp 38) (.tmp 43) 41 rfl B 51 i0 (.agg #[.int .i64 0, .string ⟨#[]⟩]) 2 24 Try.underlying41 hi hz0 hz1 hz2 rfl (by decide) wv _ _ (by simp [Act.eval]) ((hw.alloc _).drew) ⟨W.heap.size, 0, none⟩ 1 1 [.int .i64 (j : Int), .string bs] (by simp [Act.eval]) rfl (World.news_of_block (w := (W.alloc _).drew) (heap_alloc_new W _)) (by intro u hu; simp at hu; rcases hu with rfl | rfl <;> rfl) (by decide) (by unfold maxLen; omega) (by omega) (by simp; omega) _ (by simp; rfl) ?_; intro g cap w2 h1 hg hat hl2; have hst2 := (((Frm.refl (fun j => wv.ownBlock = some j) W).alloc _).drew.grown hg (fun k hk => .inl hk)).st HP.out.st HP.out.wp; have hc2 := St.cell (j := 1) hst2 rfl; have hf2 := St.free hst2 1) | (go_simp; go_at_call 23; refine (HBl.out _).mono ?_; rintro e w' ⟨rfl, rfl⟩))
  all_goals
    have hps := HP.out.pushed j bs (by rw [HG.out]; show j < E.kept.length; rw [HX.out.2.2.2.1]; exact HY.out.1) HY.out.2.1 h1 hg hat
    have hfr : Frm (fun j => j = p ∨ wv.ownBlock = some j) w (w2.setCell ⟨p, 1, none⟩ (.slice (some ⟨g, 0, none⟩) (G.wait.length + 1) cap)) := by
      refine Frm.next (HF.out.wide fun j hj => .inl hj) ?_
      exact (((Frm.refl (fun j => j = p ∨ wv.ownBlock = some j) W).alloc _).drew.grown hg (fun k hk => .inl (.inr hk))).setCell (p := ⟨p, _, none⟩) (.inl (.inl rfl)) _
    have HPS := Lib.hid hps
    have HFR := Lib.hid hfr
    have HAT := Lib.hid hat
    clear h1 hg hat hl2 hst2 hc2 hf2 hw q1 g1 hps hfr
    go_wp2_with fail
    go_ret
    refine ⟨rfl, .slice (some ⟨g, 0, none⟩) (G.wait.length + 1) cap, ?_, HFR.out, ?_⟩
    · have eG : ({ G with wait := G.wait ++ [(j, bs)] } : DS) = { E with wait := D.wait ++ [(j, bs)], wr := D.wr + 1 } := by rw [HG.out]; simp only [HX.out.2.1]
      rw [← eG]
      exact HPS.out
    · intro k hk
      simp only [Value.ownBlock, Option.some.injEq] at hk
      subst hk
      rcases HAT.out with h | h
      · exact .inl h
      · right; rw [h, ← HS.out]; omega
end Go.Proofs.Ytfipojmgmmjnmaa
