/- The reference's disk: a step. -/
import Derived.Test.YtfipojmgmmjnmaaDj
namespace Go.Proofs.Ytfipojmgmmjnmaa
open Go.RowKit

/-- A step. -/
structure Sp where
  kind : Int
  i : Int
  s : ByteArray
  keep : List Int
def DS.step (D : DS) (x : Sp) : (ByteArray × Int) × DS :=
  if x.kind = 1 then ((⟨#[]⟩, (D.write x.i x.s).1), (D.write x.i x.s).2)
  else if x.kind = 2 then ((⟨#[]⟩, D.barrier.1), D.barrier.2)
  else if x.kind = 3 then ((⟨#[]⟩, (D.arm x.i).1), (D.arm x.i).2)
  else if x.kind = 4 then ((⟨#[]⟩, 0), D.crash x.keep)
  else (D.read x.i, D)
/-- A step's cells; kv: the slice of what is kept. -/
def spcells (x : Sp) (kv : Value) : Array Value := #[.int .i64 x.kind, .int .i64 x.i, .string x.s, kv]

theorem dkCrash_any (B p : Nat) (F : Nat → Prop) (v : Value) (D : DS) (keep : List Int) (w : World) (hB : B ≤ w.heap.size) (hv : Ints (fun b => ¬ F b) v keep w) (h : RD B p F D w) :
    Calls Try.prog 39 #[.pointer (some ⟨p, 0, none⟩), v] w fun e w' => e = .returned (.tuple #[]) ∧ RDid B p F (D.crash keep) w w' := by
  obtain ⟨kv, wv, h0, hF, h1, h2, h3⟩ := h
  obtain ⟨ao, cap, b, off, e1, e2, e3, e4⟩ := hv
  exact (dkCrash_do B p kv wv v D keep w ⟨ao, cap, b, off, e1, e2, fun hl => ⟨(e3 hl).1, (e3 hl).2.1, fun e => (e3 hl).2.2 (by rw [e]; exact h1), fun e => (e3 hl).2.2 (h2 b e)⟩, e4⟩ h0).mono fun e w' ⟨he, hr, hf⟩ =>
    ⟨he, RDid.mk' hB hF h1 hr (hf.wide fun j hj => by rcases hj with rfl | hj; exact h1; exact h2 j hj) (fun j hj => .inl (h2 j hj)) (fun j hj => by simp [Value.ownBlock] at hj)⟩
theorem Ints.frm {ok : Nat → Prop} {F : Nat → Prop} {v : Value} {xs : List Int} {a b : World} (h : Ints ok v xs a) (f : Frm F a b) (hf : ∀ j, ok j → ¬ F j) : Ints ok v xs b := by
  obtain ⟨ao, cap, bb, off, e1, e2, e3, e4⟩ := h
  refine ⟨ao, cap, bb, off, e1, e2, fun hl => ⟨(e3 hl).1, Nat.lt_of_lt_of_le (e3 hl).2.1 f.size, (e3 hl).2.2⟩, fun i x hx => ?_⟩
  have hl : 0 < xs.length := by have := (List.getElem?_eq_some_iff.1 hx).1; omega
  exact (f.cell (q := ⟨bb, off + i, none⟩) (e3 hl).2.1 (hf bb (e3 hl).2.2)).trans (e4 i x hx)
theorem Ints.imp {ok ok' : Nat → Prop} {v : Value} {xs : List Int} {a : World} (h : Ints ok v xs a) (hf : ∀ j, ok j → ok' j) : Ints ok' v xs a := by
  obtain ⟨ao, cap, bb, off, e1, e2, e3, e4⟩ := h
  exact ⟨ao, cap, bb, off, e1, e2, fun hl => ⟨(e3 hl).1, (e3 hl).2.1, hf _ (e3 hl).2.2⟩, e4⟩
/-- Behind a box that was made ahead. -/
theorem RDid.boxed {B p : Nat} {F : Nat → Prop} {D : DS} {w w' : World} {o : Obj} (hB : B ≤ w.heap.size) (h : RDid B p F D (w.alloc o) w') : RDid B p F D w w' := by
  obtain ⟨⟨kv, wv, h0, hF, h1, h2, h3⟩, f⟩ := h
  have hg : ∀ j, Grow F (w.alloc o) w' j → Grow F w w' j := fun j hj => by
    rcases hj with hj | hj
    · exact .inl hj
    · simp at hj; exact .inr ⟨by omega, hj.2⟩
  refine ⟨⟨kv, wv, h0, fun j hj => ?_, hg _ h1, fun j hj => hg _ (h2 j hj), fun j hj => hg _ (h3 j hj)⟩, ((Frm.refl F w).alloc o).next f⟩
  rcases hj with hj | hj
  · exact hF j (.inl hj)
  · omega
theorem RD.alloc {B p : Nat} {F : Nat → Prop} {D : DS} {w : World} (h : RD B p F D w) (o : Obj) : RD B p F D (w.alloc o) := h.keep (G := fun _ => False) ((Frm.refl _ w).alloc o) fun _ _ e => e
theorem RDid.drewN {B p : Nat} {F : Nat → Prop} {D : DS} {w w' : World} (h : RDid B p F D w w') (q : Nat) : RDid B p F D w (w'.drewN q) := by
  obtain ⟨⟨kv, wv, h0, hF, h1, h2, h3⟩, f⟩ := h
  exact ⟨⟨kv, wv, ⟨h0.st, h0.ok, h0.kr, h0.wr, h0.kp, h0.wp, h0.kw, h0.bp⟩, hF, h1, h2, h3⟩, f.drewN q⟩

set_option maxRecDepth 100000 in
set_option maxHeartbeats 1000000 in
theorem dkDo_any (B p : Nat) (F : Nat → Prop) (v : Value) (D : DS) (x : Sp) (w : World) (hB : B ≤ w.heap.size) (hx : x.i ≤ 9223372036854775807) (hl : D.wait.length ≤ 1073741824) (hc : D.wr ≤ 1073741824) (hb : D.br ≤ 1073741824) (hv : Ints (fun b => ¬ F b) v x.keep w) (h : RD B p F D w) :
    Calls Try.prog 15 #[.pointer (some ⟨p, 0, none⟩), .agg (spcells x v)] w fun e w' => e = .returned (.tuple #[.string (D.step x).1.1, .int .i64 (D.step x).1.2]) ∧ RDid B p F (D.step x).2 w w' := by
  obtain ⟨kind, i, s, keep⟩ := x
  obtain ⟨cs, hcs⟩ : ∃ cs, cs = spcells ⟨kind, i, s, keep⟩ v := ⟨_, rfl⟩
  have T0 := St.new w 36 (spcells ⟨kind, i, s, keep⟩ v)
  rw [← hcs] at T0 ⊢
  have b0 : (w.alloc (.cells cs 36 (0, 0))).cell? ⟨w.heap.size, 0, none⟩ = some (.int .i64 kind) := T0.cell (by rw [hcs]; rfl)
  have b1 : (w.alloc (.cells cs 36 (0, 0))).cell? ⟨w.heap.size, 1, none⟩ = some (.int .i64 i) := T0.cell (by rw [hcs]; rfl)
  have b2 : (w.alloc (.cells cs 36 (0, 0))).cell? ⟨w.heap.size, 2, none⟩ = some (.string s) := T0.cell (by rw [hcs]; rfl)
  have b3 : (w.alloc (.cells cs 36 (0, 0))).cell? ⟨w.heap.size, 3, none⟩ = some v := T0.cell (by rw [hcs]; rfl)
  have hR := h.alloc (.cells cs 36 (0, 0))
  have hV := hv.frm ((Frm.refl F w).alloc (.cells cs 36 (0, 0))) (fun _ e => e)
  have hB2 : B ≤ (w.alloc (.cells cs 36 (0, 0))).heap.size := by simp; omega
  have HB := Lib.hid hB
  have HV := Lib.hid (And.intro hR (And.intro hV hB2))
  have HL := Lib.hid (And.intro hx (And.intro hl (And.intro hc hb)))
  clear T0 hcs hR hV hB2 hB h hv hx hl hc hb
  by_cases k1 : kind = 1
  · subst k1
    have e : D.step ⟨1, i, s, keep⟩ = ((⟨#[]⟩, (D.write i s).1), (D.write i s).2) := by unfold DS.step; rw [if_pos rfl]
    rw [e]
    clear e
    have HC := Lib.hid (dkWrite_any B p F D i s _ HV.out.2.2 HL.out.2.1 HL.out.2.2.1 HV.out.1)
    go_enter Try.func15, Try.ntmps15
    go_wp2_with (go_at_call 36; go_must (refine HC.out.mono ?_); rintro e w1 ⟨rfl, h1⟩; have H1 := Lib.hid h1; clear h1)
    go_ret2
    exact ⟨rfl, RDid.boxed HB.out H1.out⟩
  · have d1 : (kind == 1) = false := by rw [beq_eq_false_iff_ne]; exact k1
    by_cases k2 : kind = 2
    · subst k2
      have e : D.step ⟨2, i, s, keep⟩ = ((⟨#[]⟩, D.barrier.1), D.barrier.2) := by unfold DS.step; rw [if_neg k1, if_pos rfl]
      rw [e]
      clear e d1 k1
      have HC := Lib.hid (dkBarrier_any B p F D _ HV.out.2.2 HL.out.2.2.2 HV.out.1)
      go_enter Try.func15, Try.ntmps15
      go_wp2_with (go_at_call 37; go_must (refine HC.out.mono ?_); rintro e w1 ⟨rfl, h1⟩; have H1 := Lib.hid h1; clear h1)
      go_ret2
      exact ⟨rfl, RDid.boxed HB.out H1.out⟩
    · have d2 : (kind == 2) = false := by rw [beq_eq_false_iff_ne]; exact k2
      by_cases k3 : kind = 3
      · subst k3
        have e : D.step ⟨3, i, s, keep⟩ = ((⟨#[]⟩, (D.arm i).1), (D.arm i).2) := by unfold DS.step; rw [if_neg k1, if_neg k2, if_pos rfl]
        rw [e]
        clear e d1 k1 d2 k2
        have HC := Lib.hid ((dkArm_any B p F D i _ HL.out.1 HV.out.1).mono (R' := fun e w' => e = .returned (.int .i64 (D.arm i).1) ∧ RDid B p F (D.arm i).2 (w.alloc (.cells cs 36 (0, 0))) w') fun e w' ⟨he, hr, hf⟩ => ⟨he, by
          obtain ⟨kv, wv, g0, gF, g1, g2, g3⟩ := hr
          obtain ⟨_, _, _, gG, _⟩ := HV.out.1
          exact RDid.mk' HV.out.2.2 (fun j hj => gG j hj) g1 g0 hf (fun j hj => .inl (g2 j hj)) (fun j hj => .inl (g3 j hj))⟩)
        go_enter Try.func15, Try.ntmps15
        go_wp2_with (go_at_call 38; go_must (refine HC.out.mono ?_); rintro e w1 ⟨rfl, h1⟩; have H1 := Lib.hid h1; clear h1)
        go_ret2
        exact ⟨rfl, RDid.boxed HB.out H1.out⟩
      · have d3 : (kind == 3) = false := by rw [beq_eq_false_iff_ne]; exact k3
        by_cases k4 : kind = 4
        · subst k4
          have e : D.step ⟨4, i, s, keep⟩ = ((⟨#[]⟩, 0), D.crash keep) := by unfold DS.step; rw [if_neg k1, if_neg k2, if_neg k3, if_pos rfl]
          rw [e]
          clear e d1 k1 d2 k2 d3 k3
          have HC := Lib.hid (dkCrash_any B p F v D keep _ HV.out.2.2 HV.out.2.1 HV.out.1)
          go_enter Try.func15, Try.ntmps15
          go_wp2_with (go_at_call 39; go_must (refine HC.out.mono ?_); rintro e w1 ⟨rfl, h1⟩; have H1 := Lib.hid h1; clear h1)
          go_ret2
          exact ⟨rfl, RDid.boxed HB.out H1.out⟩
        · have d4 : (kind == 4) = false := by rw [beq_eq_false_iff_ne]; exact k4
          have e : D.step ⟨kind, i, s, keep⟩ = (D.read i, D) := by unfold DS.step; rw [if_neg k1, if_neg k2, if_neg k3, if_neg k4]
          rw [e]
          clear e k1 k2 k3 k4
          have HC := Lib.hid (dkRead_any B p F D i _ HV.out.1)
          have HS := Lib.hid (RDid.same HV.out.1)
          go_enter Try.func15, Try.ntmps15
          go_wp2_with (go_at_call 40; go_must (refine HC.out.mono ?_); rintro e w1 ⟨rfl, q, rfl⟩)
          go_ret2
          exact ⟨rfl, RDid.boxed HB.out (HS.out.drewN q)⟩
end Go.Proofs.Ytfipojmgmmjnmaa
