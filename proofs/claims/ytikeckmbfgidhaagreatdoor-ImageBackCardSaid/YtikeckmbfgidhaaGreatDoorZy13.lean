/- Several texts in one: Pdf Pdg Pdh Pdi. -/
import Derived.Lib.LazyBuf
import Derived.Great.FillDense
import Derived.Great.BuildSlice
import Derived.Deep.RegionHeld3
import Derived.Test.YtikeckmbfgidhaaGreatDoorZy10
import Derived.Test.YtikeckmbfgidhaaGreatDoorZy12
/- The program's disk: what Write does, its plain part. -/
namespace Go.Proofs.YtikeckmbfgidhaaGreatDoor
open Go.RowKit

theorem PD0.below {B p : Nat} {kv wv lv : Value} {is : Bool} {N : Int} {D : DS} {w w' : World} (h : PD0 B p kv wv lv is N D w) (b : Below w.heap.size w w') : PD0 B p kv wv lv is N D w' := by
  have f : Frm (fun _ => False) w w' := Frm.of_below b
  exact ⟨f.st h.st (fun e => e), h.fz, h.ok, h.pos, f.own h.kr fun _ _ e => e, f.own h.wr fun _ _ e => e, f.own h.lr fun _ _ e => e, h.kp, h.wp, h.lp, h.kw, h.kl, h.wl, h.bp⟩
theorem St.setMany {T : TypeId} {k : Nat} : ∀ (vs : List Value) (o : Nat) (cs : List Value) (w : World), St T k cs.toArray w → St T k (setMany cs o vs).toArray (w.setCells k o vs)
  | [], _, _, _, h => h
  | v :: r, o, cs, w, h => by
    have h2 := h.set o v
    rw [show cs.toArray.setIfInBounds o v = (cs.set o v).toArray from by simp] at h2
    exact St.setMany r (o + 1) (cs.set o v) _ h2
theorem tb_append (a b : ByteArray) : tb (a ++ b) = tb a ++ tb b := by
  unfold tb
  rw [ByteArray.data_append, Array.toList_append, bc_append]
theorem noughts_add (a b : Nat) : noughts (a + b) = noughts a ++ noughts b := by
  apply ByteArray.ext
  simp [noughts, Array.replicate_append_replicate]
/-- A write that is being made: noughts, and where it goes. -/
def prow (j : Int) : List Value := tb (noughts 128) ++ [Value.int .i64 j]
theorem prow_one (j : Int) : (prow j).toArray.all (·.oneCell') = true := by
  refine all_oneCell_toArray fun v hv => ?_
  rcases List.mem_append.1 hv with hv | hv
  · exact tb_one _ v hv
  · simp at hv; subst hv; rfl
theorem prow_size (j : Int) : (prow j).toArray.size = 129 := by simp [prow, tb_length, noughts_size]
theorem prow_copied (j : Nat) (s : ByteArray) (h : s.size ≤ 128) : setMany (prow j) 0 (tb s) = pend (j, blank s) := by
  unfold prow pend blank
  have e : noughts 128 = noughts s.size ++ noughts (128 - s.size) := by rw [← noughts_add]; congr 1; omega
  rw [e, tb_append, tb_append, List.append_assoc, List.append_assoc]
  exact setMany_mid (tb s) (tb (noughts s.size)) [] _ (by rw [tb_length, tb_length, noughts_size])
theorem built_pend (j : Int) : Tryz.prog.built 76 [(1, .int .i64 j)] = some (prow j).toArray := by kernel_rfl
theorem pzero_size : Tryz.zeroCells76.size = 129 := by kernel_rfl
theorem infoPending : (Tryz.prog.info? 76).map (fun i => (i.zero, i.size, i.bytes)) = some (some (.agg Tryz.zeroCells76), 129, 136) := by kernel_rfl
theorem run_lit_pend (W : World) (cs : Array Value) (hc : cs.size = 129) : (Instr.buildSlice 39 1 #[(0, .agg cs)]).run Tryz.prog W = .ok (.slice (some ⟨W.heap.size, 0, none⟩) 1 1) (W.alloc (.cells cs 76)) := by
  obtain ⟨i0, hi, hz0, hz1, hz2⟩ := info_parts infoPending
  refine run_buildSlice W 39 76 1 _ cs i0 _ Tryz.underlying39 hi hz0 (by rw [hz1]; decide) (by rw [hz1]; decide) ?_
  rw [hz1]
  have h := Great.fill_whole (s := 129) (by decide) [Value.agg cs] ((Array.range (1 * 129)).map ((Value.agg Tryz.zeroCells76).cells[· % (Value.agg Tryz.zeroCells76).cells.size]!)) (by intro v hv; simp at hv; subst hv; exact hc) (by simp)
  simp only [List.flatMap_cons, List.flatMap_nil, List.append_nil] at h
  exact h
theorem wpList_copy_str {P : Program} {ops : Array Oper} {rest : List Oper} {o : Oper} {a : Act} {w : World} {Q : Exit → Act → World → Prop} (hgd : o.guard = none) (d s : Operand) (dT sT : TypeId)
    (ho : o.op = .call { callee := .builtin .copy, args := #[d, s], argTypes := #[dT, sT] }) (elem : TypeId) (hu : P.underlying dT = some (.slice elem)) (hz : ∀ w, (Go.sizeOf elem).run P w = .ok 1 w)
    (b off dLen dCap : Nat) (hd : a.eval d = .slice (some ⟨b, off, none⟩) dLen dCap) (t : ByteArray) (hs : a.eval s = .string t) (hle : t.size ≤ dLen) (ht : w.there b off t.size)
    (h : wpList P ops Q rest (a.put o.dst (goInt t.size)) (w.setCells b off (tb t))) : wpList P ops Q (o :: rest) a w := by
  refine wpList_plain hgd fun K hK => ?_
  have hrun := run_copy_string (P := P) w dT sT o.type elem b off dLen dCap t hu hz hle (fun j hj => (ht j hj).1) (fun j hj => (ht j hj).2)
  unfold Oper.wp
  simp [execOp, ho, resolve, invoke, builtin, hd, hs, hrun, Result.andThen]
  exact hK _ _ h
theorem size_u8 : ∀ w, (Go.sizeOf 5).run Tryz.prog w = .ok 1 w := fun _ => by kernel_rfl
theorem St.there {T : TypeId} {k : Nat} {cs : Array Value} {w : World} (h : St T k cs w) (o n : Nat) (hn : o + n ≤ cs.size) : w.there k o n := fun j hj => by
  refine ⟨?_, h.free _⟩
  rw [h.cell (j := o + j) (v := cs[o + j]'(by omega)) (by simp [Array.getElem?_eq_getElem (show o + j < cs.size by omega)])]
  rfl
/-- A write has been appended to those that wait, and the row of last writes tells it. -/
theorem PD0.pushed {B p : Nat} {kv wv lv : Value} {is : Bool} {N : Int} {D : DS} {w : World} (h : PD0 B p kv wv lv is N D w) (j : Nat) (s : ByteArray) (hj : j < D.kept.length) (hs : s.size = 128) {g cap gl cl : Nat} {w2 : World} (hl : lv = .slice (some ⟨gl, 0, none⟩) D.kept.length cl)
    (h1 : w2.ownsRow B 76 129 (.slice (some ⟨g, 0, none⟩) (D.wait.length + 1) cap) (D.wait.length + 1) (qcells D.wait ++ pend (j, s))) {X : Obj} (hg : (w.drew.alloc X).grownBy w2 wv.ownBlock) (hat : wv.ownBlock = some g ∨ g = w.heap.size + 1) :
    PD0 B p kv (.slice (some ⟨g, 0, none⟩) (D.wait.length + 1) cap) lv is N { D with wait := D.wait ++ [(j, s)] } ((w2.setCell ⟨p, 1, none⟩ (.slice (some ⟨g, 0, none⟩) (D.wait.length + 1) cap)).setCell ⟨gl, j, none⟩ (.int .i64 ((D.wait.length + 1 : Nat) : Int))) ∧
      Frm (fun k => k = p ∨ wv.ownBlock = some k ∨ lv.ownBlock = some k) w ((w2.setCell ⟨p, 1, none⟩ (.slice (some ⟨g, 0, none⟩) (D.wait.length + 1) cap)).setCell ⟨gl, j, none⟩ (.int .i64 ((D.wait.length + 1 : Nat) : Int))) := by
  have hpl := h.st.lt
  have hgl : lv.ownBlock = some gl := by rw [hl]; rfl
  have hgll := (h.lr.lt gl hgl).2
  have f0 : Frm (fun k => wv.ownBlock = some k) w w2 := (((Frm.refl _ w).drew).alloc X).grown hg (fun k hk => .inl hk)
  have hst : St 48 p (pcs kv wv lv is N D) w2 := f0.st h.st h.wp
  have hkr := f0.own h.kr fun k hk => h.kw k hk
  have hlr := f0.own h.lr fun k hk e => h.wl k e hk
  have hgp : g ≠ p := by
    rcases hat with e | e
    · intro e2; subst e2; exact h.wp e
    · omega
  have hggl : g ≠ gl := by
    rcases hat with e | e
    · intro e2; subst e2; exact h.wl g e hgl
    · omega
  have hplp : gl ≠ p := fun e => h.lp (by rw [hgl, e])
  have hkgl : kv.ownBlock ≠ some gl := fun e => h.kl gl e hgl
  refine ⟨⟨(hst.set 1 _).other gl j _ hplp, h.fz, ⟨h.ok.len, ?_, h.ok.full, ?_, h.ok.lo, h.ok.hi⟩, h.pos, ownsRow_setCell_other (ownsRow_setCell_other hkr h.kp _) hkgl _, ?_, ?_, h.kp, by simp [Value.ownBlock]; exact hgp, h.lp, ?_, h.kl, ?_, h.bp⟩, ?_⟩
  · intro x hx
    rcases List.mem_append.1 hx with hx | hx
    · exact h.ok.inn x hx
    · simp at hx; subst hx; exact hj
  · intro x hx
    rcases List.mem_append.1 hx with hx | hx
    · exact h.ok.fulw x hx
    · simp at hx; subst hx; exact hs
  · rw [show ({ D with wait := D.wait ++ [(j, s)] } : DS).wait = D.wait ++ [(j, s)] from rfl, qcells_snoc, List.length_append]
    exact ownsRow_setCell_other (ownsRow_setCell_other h1 (by simp [Value.ownBlock]; exact hgp) _) (by simp [Value.ownBlock]; exact hggl) _
  · rw [show ({ D with wait := D.wait ++ [(j, s)] } : DS).wait = D.wait ++ [(j, s)] from rfl, lcells_snoc]
    have h4 := ownsRow_setCell_other (a := ⟨p, 1, none⟩) hlr h.lp (.slice (some ⟨g, 0, none⟩) (D.wait.length + 1) cap)
    rw [hl] at h4 ⊢
    exact (h4.stored j _).1
  · intro k hk
    simp only [Value.ownBlock, ne_eq, Option.some.injEq]
    rcases hat with e | e
    · intro e2; subst e2; exact h.kw _ hk e
    · have := (h.kr.lt k hk).2; omega
  · intro k hk
    simp only [Value.ownBlock, Option.some.injEq] at hk
    subst hk
    rw [hgl]
    simpa using fun e : gl = g => hggl e.symm
  · refine ((f0.wide fun k hk => .inr (.inl hk)).setCell (p := ⟨p, 1, none⟩) (.inl (.inl rfl)) _).setCell (p := ⟨gl, j, none⟩) (.inl (.inr (.inr hgl))) _
theorem yieldsIf_load_st {P : Program} {ops : Array Oper} {S : World → Prop} {op : Oper} {a : Act} (hw : Region.wanted op (yielded ops a.tmps) = true) (ty : TypeId) (x : Operand) (ho : op.op = .load ty x)
    (k : Nat) (hx : a.eval x = .pointer (some ⟨k, 0, none⟩)) (T : TypeId) (cs : Array Value) (hS : ∀ w, S w → St T k cs w) (d : TypeDesc)
    (hu : P.underlying ty = some d) (hd : (match d with | .struct _ | .array _ _ => true | _ => false) = true) (hi : (P.info? ty).map (·.size) = some cs.size) : YieldsIf P ops S op (.agg cs) a :=
  .inl ⟨hw, fun w hw' => by
    unfold execOp
    simp only [ho, hx, Instr.loadAt, Instr.sureAddr, Sem.run_bind, Sem.run_pure, Result.andThen_ok, run_loadVar_row w k T ty cs (0, 0) d (hS w hw') hu hd hi]⟩
theorem step_lit {P : Program} {ops : Array Oper} {o : Oper} {a : Act} {w w' : World} {K : Act → World → Prop} {Q : Exit → Act → World → Prop} {E : Prop} (hg : o.guard = none) (t : TypeId) (len : Nat) (parts : Array (Nat × Operand)) (ho : o.op = .buildSlice t len parts)
    (vs : Array (Nat × Value)) (v : Value) (hv : parts.toList.map (fun p => (p.1, a.eval p.2)) = vs.toList) (hrun : (Instr.buildSlice t len vs).run P w = .ok v w') (hK : K (a.put o.dst v) w') :
    if Region.wanted o (yielded ops a.tmps) = true then Oper.wp P o a w K Q else E := by
  have hw : Region.wanted o (yielded ops a.tmps) = true := by simp [Region.wanted, hg]
  rw [if_pos hw]
  have e2 : (parts.map fun (i, x) => (i, a.eval x)) = vs := by
    apply Array.toList_inj.1
    rw [← hv, Array.toList_map]
  unfold Oper.wp execOp
  simp only [ho, Sem.run_bind, e2, hrun, Result.andThen_ok]
  exact hK
end Go.Proofs.YtikeckmbfgidhaaGreatDoor

/- The program's disk: Write. -/
namespace Go.Proofs.YtikeckmbfgidhaaGreatDoor
open Go.RowKit

theorem burnt_parts (D : DS) : D.burnt.wait = D.wait ∧ D.burnt.wr = D.wr ∧ D.burnt.kept = D.kept ∧ D.burnt.br = D.br := by unfold DS.burnt; split <;> (try split) <;> exact ⟨rfl, rfl, rfl, rfl⟩
theorem frm_below {G : Nat → Prop} {a b c : World} (f : Frm G a b) (g : Below b.heap.size b c) : Frm G a c := f.next (Frm.of_below g)

set_option maxRecDepth 100000 in
set_option maxHeartbeats 1000000 in
theorem dWrite_do (B p : Nat) (kv wv lv : Value) (is : Bool) (N : Int) (D : DS) (j : Nat) (s : ByteArray) (w : World) (hd : D.dead = false) (hj : j < D.kept.length) (hs : s.size ≤ 128) (h0 : D.fuse ≠ 0) (hl : D.wait.length ≤ 1073741824) (hc : D.wr ≤ 1073741824) (hB : B ≤ w.heap.size) (h : PD0 B p kv wv lv is N D w) :
    Calls Tryz.prog 19 #[.pointer (some ⟨p, 0, none⟩), .int .i64 j, .string s] w fun e w' => e = .returned (.int .i64 0) ∧
      ∃ wv', PDk B p kv wv' lv { D.burnt with wait := D.wait ++ [(j, blank s)], wr := D.wr + 1 } w' ∧ Frm (fun k => k = p ∨ wv.ownBlock = some k ∨ lv.ownBlock = some k) w w' ∧ (∀ k, wv'.ownBlock = some k → wv.ownBlock = some k ∨ w.heap.size ≤ k) := by
  obtain ⟨i0, hi, hz0, hz1, hz2⟩ := info_parts infoPending
  have HWL := Lib.hid (fun (i : Nat) (hi : wv.ownBlock = some i) => (h.wr.lt i hi).2)
  have HR := Lib.hid (drefusal_at h)
  have HI := Lib.hid (dhas_at (j : Int) h)
  have hin : D.inside j = true := decide_eq_true ⟨by omega, by omega⟩
  rw [hd] at HR
  rw [hin] at HI
  have HBu := Lib.hid (show ∀ q, Calls Tryz.prog 25 #[.pointer (some ⟨p, 0, none⟩)] (w.drewN q) _ from fun q => dburn_on B p kv wv lv is N D (w.drewN q) h0 ⟨h.st, h.fz, h.ok, h.pos, h.kr, h.wr, h.lr, h.kp, h.wp, h.lp, h.kw, h.kl, h.wl, h.bp⟩)
  obtain ⟨E, hE⟩ : ∃ E, E = D.burnt := ⟨_, rfl⟩
  obtain ⟨ew, er, ek, eb⟩ := burnt_parts D
  rw [← hE] at ew er ek eb HBu ⊢
  have i2 : decide ((s.size : Int) > 128) = false := decide_eq_false (by omega)
  have HP := Lib.hid (built_pend (j : Int))
  have H1 := Lib.hid (prow_size (j : Int))
  have H2 := Lib.hid (prow_one (j : Int))
  have HC := Lib.hid (prow_copied j s hs)
  obtain ⟨row, hrow⟩ : ∃ r, r = prow (j : Int) := ⟨_, rfl⟩
  rw [← hrow] at HP H1 H2 HC
  have HX := Lib.hid (And.intro hE (And.intro ew (And.intro er (And.intro ek eb))))
  have HY := Lib.hid (And.intro hj (And.intro hs (And.intro hl (And.intro hc hB))))
  have HL := Lib.hid hs
  clear h hE ew er ek eb hd h0 hj hs hl hc hB hin hrow
  go_enter Tryz.func19, Tryz.ntmps19
  go_wp2_with (first
    | (go_at_call 24; go_must (refine HR.out.mono ?_); rintro e w1 ⟨rfl, rfl⟩)
    | (go_at_call 38; go_must (refine HI.out.mono ?_); rintro e w1 ⟨rfl, q, rfl⟩)
    | (go_at_call 25; go_must (refine (HBu.out q).mono ?_); rintro e w2 ⟨rfl, h2⟩; have P2 := Lib.hid h2; clear h2; have HZ := Lib.hid (St.new w2 76 Tryz.zeroCells76))
    | ((with_reducible show wpList _ _ _ ({ dst := _, op := .build 76 _, type := _, pos := _, after := _, guard := _ } :: _) _ _); refine wpList_build_as rfl 76 _ rfl row.toArray HP.out ?_)
    | ((with_reducible show wpList _ _ _ ({ dst := _, op := .store 76 _ _, type := _, pos := _, after := _, guard := _ } :: _) _ _); refine wpList_store_st rfl 76 _ _ rfl w2.heap.size row.toArray rfl rfl _ HZ.out (by rw [H1.out]; kernel_rfl) (by rw [H1.out]; exact pzero_size) H2.out ?_; intro w6 hw6 k6; have K6 := Lib.hid k6; have W6 := Lib.hid hw6; clear hw6 k6)
    | ((with_reducible show wpList _ _ _ ({ dst := _, op := .call { callee := .builtin .copy, args := _, argTypes := _ }, type := _, pos := _, after := _, guard := _ } :: _) _ _); refine wpList_copy_str rfl (.tmp 27) (.tmp 28) 54 9 rfl 5 Tryz.underlying54 size_u8 w2.heap.size 0 128 128 rfl s rfl HL.out (K6.out.there 0 _ (by rw [H1.out]; have := HL.out; omega)) ?_))
  obtain ⟨is1, N1, hZ⟩ : PDk B p kv wv lv E w2 := P2.out.1
  have b26 : Below w2.heap.size w2 w6 := by rw [W6.out]; exact below_row ((Below.refl _ w2).alloc (Nat.le_refl _) _) (Nat.le_refl _) _
  have hb7 : Below w2.heap.size w2 (w6.setCells w2.heap.size 0 (tb s)) := below_setCells (Nat.le_refl _) (tb s) 0 _ b26
  have h7 := hZ.below hb7
  have k7 : St 76 w2.heap.size (pend (j, blank s)).toArray (w6.setCells w2.heap.size 0 (tb s)) := by
    have := St.setMany (tb s) 0 row w6 K6.out
    rwa [HC.out] at this
  have f7 : Frm (fun k => k = p) w (w6.setCells w2.heap.size 0 (tb s)) := frm_below (show Frm (fun k => k = p) w w2 from ⟨P2.out.2.1.os, P2.out.2.1.tape, P2.out.2.1.output, P2.out.2.1.size, P2.out.2.1.block⟩) hb7
  have e7 : w2.heap.size = w.heap.size := P2.out.2.2
  generalize (w6.setCells w2.heap.size 0 (tb s)) = W at h7 k7 f7 ⊢
  generalize w2.heap.size = k at k7 e7 ⊢
  obtain ⟨cs, hcs⟩ : ∃ cs, cs = pend (j, blank s) := ⟨_, rfl⟩
  have hc9 : cs.toArray.size = 129 := by
    rw [hcs]
    simpa using pend_length (j, blank s) (blank_size s HL.out)
  rw [← hcs] at k7
  have g1 : W.cell? ⟨p, 1, none⟩ = some wv := h7.st.cell rfl
  have hw7 := h7.wr
  have hpl := h7.st.lt
  have hklt := k7.lt
  have hkp : k ≠ p := by
    intro e
    have a1 := h7.st
    have a2 := k7
    unfold St at a1 a2
    rw [e, a1] at a2
    injection a2 with a2
    injection a2 with _ a2
    exact absurd a2 (by decide)
  have H7 := Lib.hid h7
  have F7 := Lib.hid f7
  have E7 := Lib.hid e7
  have CS := Lib.hid hcs
  have C9 := Lib.hid hc9
  clear HZ P2 W6 K6 HP H1 H2 HC b26 hb7 hZ h7 f7 hcs hc9 HR HI HBu
--REGION
  have hwk : wv.ownBlock ≠ some k := fun e => by have := HWL.out _ e; omega
  refine wp_region_held (S := fun w' => St 76 k cs.toArray w') (by kernel_rfl) ?_
  change wpAnyH _ _ _ _ _ _ _ _ (World.drew _)
  have SD := Lib.hid (show St 76 k cs.toArray W.drew from k7)
  have DW := Lib.hid (show W.drew.ownsRow B 76 129 wv E.wait.length (qcells E.wait) from hw7)
  have gD : W.drew.cell? ⟨p, 1, none⟩ = some wv := g1
  have TD := Lib.hid (show St 48 p (pcs kv wv lv is1 N1 E) W.drew from H7.out.st)
  obtain ⟨WD, hWD⟩ : ∃ WD, WD = W.drew := ⟨_, rfl⟩
  rw [← hWD] at SD DW gD TD ⊢
  have hWs : WD.heap.size = W.heap.size := by rw [hWD]; rfl
  have HWD := Lib.hid hWD
  have hl6 : E.wait.length ≤ 1073741824 := by rw [HX.out.2.1]; exact HY.out.2.2.1
  have hBW : B ≤ WD.heap.size := by have := H7.out.bp; omega
  have gA : (WD.alloc (.cells cs.toArray 76 (0, 0))).cell? ⟨p, 1, none⟩ = some wv := cell_alloc gD _
  have SA := Lib.hid (show St 76 k cs.toArray (WD.alloc (.cells cs.toArray 76 (0, 0))) from SD.out.alloc _)
  clear hWD g1 k7 hw7 e7
  refine wpAnyH_take (i := 5) (v := .agg cs.toArray) rfl (by kernel_rfl) (by kernel_rfl) (by kernel_rfl) (fun _ _ _ h => h) (yieldsIf_load_st (by rfl) 76 (.tmp 8) rfl k rfl 76 cs.toArray (fun w' hS => hS) _ Tryz.underlying76 rfl (by rw [C9.out]; kernel_rfl)) SD.out ?_
  refine wpAnyH_take (i := 0) (v := (.pointer (some ⟨p, 0, none⟩))) rfl (by kernel_rfl) (by kernel_rfl) (by kernel_rfl) (fun _ _ _ h => h) (Or.inl ⟨by rfl, fun w' hS => ?_⟩) SD.out ?_
  · clear hS; go_simp
  refine wpAnyH_take (i := 1) (v := (.pointer (some ⟨p, 0, none⟩))) rfl (by kernel_rfl) (by kernel_rfl) (by kernel_rfl) (fun _ _ _ h => h) (Or.inl ⟨by rfl, fun w' hS => ?_⟩) SD.out ?_
  · clear hS; go_simp
  refine wpAnyH_take (i := 2) (v := (.pointer (some ⟨p, 0, none⟩))) rfl (by kernel_rfl) (by kernel_rfl) (by kernel_rfl) (fun _ _ _ h => h) (Or.inl ⟨by rfl, fun w' hS => ?_⟩) SD.out ?_
  · clear hS; go_simp
  refine wpAnyH_take (i := 3) (v := (.pointer (some ⟨p, 1, none⟩))) rfl (by kernel_rfl) (by kernel_rfl) (by kernel_rfl) (fun _ _ _ h => h) (Or.inl ⟨by rfl, fun w' hS => ?_⟩) SD.out ?_
  · clear hS; go_simp
  refine wpAnyH_ready (rs := [4, 6]) (by kernel_rfl) (by simp) ?_
  refine AllReadyH.cons rfl (fun K hK => ?_) ?_
  · go_simp
    refine hK.out _ _ SD.out (fun S1 => ?_)
    clear hK K S1
    refine wpAnyH_ready (rs := [6]) (by kernel_rfl) (by simp) ?_
    refine AllReadyH.cons rfl (fun K hK => ?_) AllReadyH.nil
    refine step_lit rfl 39 1 _ rfl #[(0, .agg cs.toArray)] _ (by simp [Act.eval]) (run_lit_pend WD cs.toArray C9.out) ?_
    go_simp
    refine hK.out _ _ SA.out (fun S1 => ?_)
    clear hK K S1
    refine wpAnyH_ready (rs := [7]) (by kernel_rfl) (by simp) ?_
    refine AllReadyH.cons rfl (fun K hK => ?_) AllReadyH.nil
    refine step_append_lies _ rfl (.tmp 34) (.tmp 36) 39 rfl B 76 i0 (.agg Tryz.zeroCells76) 129 136 Tryz.underlying39 hi hz0 hz1 hz2 pzero_size (by decide) wv _ _ (by simp [Act.eval]) (DW.out.alloc _) ⟨WD.heap.size, 0, none⟩ 1 1 cs (by simp [Act.eval]) (by simpa using C9.out) (World.news_of_block (w := WD.alloc _) (heap_alloc_new WD _)) (by intro u hu; rw [CS.out] at hu; exact pend_one _ u hu) (by decide) (by unfold maxLen; omega) (by omega) (by simp; omega) _ (by simp; rfl) ?_
    intro g cap w8 h8 hg8 hat8 hl8
    go_simp
    have f8 : Frm (fun j => wv.ownBlock = some j) WD w8 := ((Frm.refl _ WD).alloc _).grown hg8 (fun k hk => .inl hk)
    have hst8 : St 48 p (pcs kv wv lv is1 N1 E) w8 := f8.st TD.out H7.out.wp
    have SE := Lib.hid (show St 76 k cs.toArray w8 from f8.st SD.out hwk)
    have g8 : w8.cell? ⟨p, 1, none⟩ = some wv := hst8.cell rfl
    have q8 : w8.frozen? ⟨p, 1, none⟩ = false := hst8.free 1
    have H8 := Lib.hid h8
    have G8 := Lib.hid hg8
    have A8 := Lib.hid hat8
    have F8 := Lib.hid f8
    have T8 := Lib.hid hst8
    clear h8 hg8 hat8 hl8 f8 hst8 gA gD
    refine hK.out _ _ SE.out (fun S1 => ?_)
    clear hK K S1
    refine wpAnyH_take (i := 8) (v := (.pointer (some ⟨p, 0, none⟩))) rfl (by kernel_rfl) (by kernel_rfl) (by kernel_rfl) (fun _ _ _ h => h) (Or.inl ⟨by rfl, fun w' hS => ?_⟩) SE.out ?_
    · clear hS; go_simp
    refine wpAnyH_take (i := 9) (v := (.pointer (some ⟨p, 1, none⟩))) rfl (by kernel_rfl) (by kernel_rfl) (by kernel_rfl) (fun _ _ _ h => h) (Or.inl ⟨by rfl, fun w' hS => ?_⟩) SE.out ?_
    · clear hS; go_simp
    refine wpAnyH_ready (rs := [10]) (by kernel_rfl) (by simp) ?_
    refine AllReadyH.cons rfl (fun K hK => ?_) AllReadyH.nil
    go_simp
    have SF := Lib.hid (show St 76 k cs.toArray (w8.setCell ⟨p, 1, none⟩ (.slice (some ⟨g, 0, none⟩) (E.wait.length + 1) cap)) from SE.out.other p 1 _ (fun e => hkp e.symm))
    refine hK.out _ _ SF.out (fun S1 => ?_)
    clear hK K S1
    refine wpAnyH_done (by kernel_rfl) ?_ _
    obtain ⟨gl, cl, hlv, _, _, hlc⟩ := own_some H7.out.lr (by have := H7.out.pos; omega)
    have hnE : j < E.kept.length := by rw [HX.out.2.2.2.1]; exact HY.out.1
    have hps := H7.out.pushed (g := g) (cap := cap) (gl := gl) (cl := cl) (w2 := w8) (X := .cells cs.toArray 76 (0, 0)) j (blank s) hnE (blank_size s HL.out) hlv (by rw [← CS.out]; exact H8.out) (by rw [← HWD.out]; exact G8.out) (by rcases A8.out with h | h; exact .inl h; exact .inr (by have h2 : g = WD.heap.size + 1 := (by simpa using h); omega))
    have lr8 : w8.ownsRow B 3 1 lv E.kept.length (lcells E.kept.length E.wait) := F8.out.own (show WD.ownsRow B 3 1 lv E.kept.length (lcells E.kept.length E.wait) from by rw [HWD.out]; exact H7.out.lr) (fun i hi e => H7.out.wl i e hi)
    have lr9 := ownsRow_setCell_other (a := ⟨p, 1, none⟩) lr8 H7.out.lp (.slice (some ⟨g, 0, none⟩) (E.wait.length + 1) cap)
    rw [hlv] at lr9
    have T9 : St 48 p _ (w8.setCell ⟨p, 1, none⟩ (.slice (some ⟨g, 0, none⟩) (E.wait.length + 1) cap)) := T8.out.set 1 _
    have c1 : (w8.setCell ⟨p, 1, none⟩ (.slice (some ⟨g, 0, none⟩) (E.wait.length + 1) cap)).cell? ⟨p, 1, none⟩ = some (.slice (some ⟨g, 0, none⟩) (E.wait.length + 1) cap) := T9.cell rfl
    have c2 : (w8.setCell ⟨p, 1, none⟩ (.slice (some ⟨g, 0, none⟩) (E.wait.length + 1) cap)).cell? ⟨p, 2, none⟩ = some (.slice (some ⟨gl, 0, none⟩) E.kept.length cl) := by rw [← hlv]; exact T9.cell rfl
    have c9 := lr9.cellAt j (by omega)
    rw [lcells_at _ _ j hnE] at c9
    have q9 := lr9.frozenAt j
    have hkl9 : E.kept.length ≤ 9223372036854775807 := own_len lr8
    generalize (w8.setCell ⟨p, 1, none⟩ (.slice (some ⟨g, 0, none⟩) (E.wait.length + 1) cap)) = W9 at hps c1 c2 c9 q9 ⊢
    obtain ⟨nn, hnn⟩ : ∃ nn, nn = E.kept.length := ⟨_, rfl⟩
    obtain ⟨mm, hmm⟩ : ∃ mm, mm = E.wait.length := ⟨_, rfl⟩
    rw [← hnn] at c2 hnE hkl9
    rw [← hmm] at c1 hl6
    have HPS := Lib.hid hps
    have MM := Lib.hid hmm
    have LV := Lib.hid hlv
    clear hps hmm hnn lr8 lr9 T9 hlv hlc g8 q8 SA SD DW TD SE SF H8 G8 T8 F8 CS C9
    go_wp2_with fail
    go_region
    have hP := HPS.out.1
    have hF := (F7.out.wide (G := fun k => k = p ∨ wv.ownBlock = some k ∨ lv.ownBlock = some k) fun i hi => .inl hi).next HPS.out.2
    rw [← MM.out, show ((mm + 1 : Nat) : Int) = (mm : Int) + 1 from by omega] at hP hF
    have hP2 := hP.below (w' := (W9.setCell ⟨gl, j, none⟩ (.int .i64 ((mm : Int) + 1))).drew) (Below.refl _ _).drew
    have hF2 := hF.drew
    clear hP hF HPS
    generalize (W9.setCell ⟨gl, j, none⟩ (.int .i64 ((mm : Int) + 1))).drew = W10 at hP2 hF2 ⊢
    have c6 : W10.cell? ⟨p, 6, none⟩ = some (.int .i64 (E.wr : Int)) := hP2.st.cell rfl
    have q6 := hP2.st.free 6
    have hwr : E.wr ≤ 1073741824 := by rw [HX.out.2.2.1]; exact HY.out.2.2.2.1
    have H10 := Lib.hid hP2
    have F10 := Lib.hid hF2
    clear hP2 hF2
    go_wp2_with (go_at_call 28; go_must (refine (i64_one ⟨p, 6, none⟩ (E.wr : Int) _ (by omega) (by omega) c6 q6).mono ?_); rintro e w11 ⟨rfl, rfl⟩)
    go_ret
    refine ⟨rfl, .slice (some ⟨g, 0, none⟩) (mm + 1) cap, ⟨is1, N1, ?_⟩, F10.out.setCell (p := ⟨p, 6, none⟩) (.inl (.inl rfl)) _, ?_⟩
    · have h := H10.out.wrs (E.wr + 1)
      have e2 : ((E.wr + 1 : Nat) : Int) = (E.wr : Int) + 1 := by omega
      rw [e2] at h
      have eG : ({ { E with wait := E.wait ++ [(j, blank s)] } with wr := E.wr + 1 } : DS) = { E with wait := D.wait ++ [(j, blank s)], wr := D.wr + 1 } := by simp only [HX.out.2.1, HX.out.2.2.1]
      rw [← eG]
      exact h
    · intro i hi
      simp only [Value.ownBlock, Option.some.injEq] at hi
      subst hi
      rcases A8.out with h | h
      · exact .inl h
      · right
        have h2 : g = WD.heap.size + 1 := by simpa using h
        have := F7.out.size
        omega
  refine AllReadyH.cons rfl (fun K hK => ?_) AllReadyH.nil
  refine step_lit rfl 39 1 _ rfl #[(0, .agg cs.toArray)] _ (by simp [Act.eval, Act.put]) (run_lit_pend WD cs.toArray C9.out) ?_
  go_simp
  refine hK.out _ _ SA.out (fun S1 => ?_)
  clear hK K S1
  refine wpAnyH_ready (rs := [4]) (by kernel_rfl) (by simp) ?_
  refine AllReadyH.cons rfl (fun K hK => ?_) AllReadyH.nil
  go_simp
  refine hK.out _ _ SA.out (fun S1 => ?_)
  clear hK K S1
  refine wpAnyH_ready (rs := [7]) (by kernel_rfl) (by simp) ?_
  refine AllReadyH.cons rfl (fun K hK => ?_) AllReadyH.nil
  refine step_append_lies _ rfl (.tmp 34) (.tmp 36) 39 rfl B 76 i0 (.agg Tryz.zeroCells76) 129 136 Tryz.underlying39 hi hz0 hz1 hz2 pzero_size (by decide) wv _ _ (by simp [Act.eval]) (DW.out.alloc _) ⟨WD.heap.size, 0, none⟩ 1 1 cs (by simp [Act.eval]) (by simpa using C9.out) (World.news_of_block (w := WD.alloc _) (heap_alloc_new WD _)) (by intro u hu; rw [CS.out] at hu; exact pend_one _ u hu) (by decide) (by unfold maxLen; omega) (by omega) (by simp; omega) _ (by simp; rfl) ?_
  intro g cap w8 h8 hg8 hat8 hl8
  go_simp
  have f8 : Frm (fun j => wv.ownBlock = some j) WD w8 := ((Frm.refl _ WD).alloc _).grown hg8 (fun k hk => .inl hk)
  have hst8 : St 48 p (pcs kv wv lv is1 N1 E) w8 := f8.st TD.out H7.out.wp
  have SE := Lib.hid (show St 76 k cs.toArray w8 from f8.st SD.out hwk)
  have g8 : w8.cell? ⟨p, 1, none⟩ = some wv := hst8.cell rfl
  have q8 : w8.frozen? ⟨p, 1, none⟩ = false := hst8.free 1
  have H8 := Lib.hid h8
  have G8 := Lib.hid hg8
  have A8 := Lib.hid hat8
  have F8 := Lib.hid f8
  have T8 := Lib.hid hst8
  clear h8 hg8 hat8 hl8 f8 hst8 gA gD
  refine hK.out _ _ SE.out (fun S1 => ?_)
  clear hK K S1
  refine wpAnyH_take (i := 8) (v := (.pointer (some ⟨p, 0, none⟩))) rfl (by kernel_rfl) (by kernel_rfl) (by kernel_rfl) (fun _ _ _ h => h) (Or.inl ⟨by rfl, fun w' hS => ?_⟩) SE.out ?_
  · clear hS; go_simp
  refine wpAnyH_take (i := 9) (v := (.pointer (some ⟨p, 1, none⟩))) rfl (by kernel_rfl) (by kernel_rfl) (by kernel_rfl) (fun _ _ _ h => h) (Or.inl ⟨by rfl, fun w' hS => ?_⟩) SE.out ?_
  · clear hS; go_simp
  refine wpAnyH_ready (rs := [10]) (by kernel_rfl) (by simp) ?_
  refine AllReadyH.cons rfl (fun K hK => ?_) AllReadyH.nil
  go_simp
  have SF := Lib.hid (show St 76 k cs.toArray (w8.setCell ⟨p, 1, none⟩ (.slice (some ⟨g, 0, none⟩) (E.wait.length + 1) cap)) from SE.out.other p 1 _ (fun e => hkp e.symm))
  refine hK.out _ _ SF.out (fun S1 => ?_)
  clear hK K S1
  refine wpAnyH_done (by kernel_rfl) ?_ _
  obtain ⟨gl, cl, hlv, _, _, hlc⟩ := own_some H7.out.lr (by have := H7.out.pos; omega)
  have hnE : j < E.kept.length := by rw [HX.out.2.2.2.1]; exact HY.out.1
  have hps := H7.out.pushed (g := g) (cap := cap) (gl := gl) (cl := cl) (w2 := w8) (X := .cells cs.toArray 76 (0, 0)) j (blank s) hnE (blank_size s HL.out) hlv (by rw [← CS.out]; exact H8.out) (by rw [← HWD.out]; exact G8.out) (by rcases A8.out with h | h; exact .inl h; exact .inr (by have h2 : g = WD.heap.size + 1 := (by simpa using h); omega))
  have lr8 : w8.ownsRow B 3 1 lv E.kept.length (lcells E.kept.length E.wait) := F8.out.own (show WD.ownsRow B 3 1 lv E.kept.length (lcells E.kept.length E.wait) from by rw [HWD.out]; exact H7.out.lr) (fun i hi e => H7.out.wl i e hi)
  have lr9 := ownsRow_setCell_other (a := ⟨p, 1, none⟩) lr8 H7.out.lp (.slice (some ⟨g, 0, none⟩) (E.wait.length + 1) cap)
  rw [hlv] at lr9
  have T9 : St 48 p _ (w8.setCell ⟨p, 1, none⟩ (.slice (some ⟨g, 0, none⟩) (E.wait.length + 1) cap)) := T8.out.set 1 _
  have c1 : (w8.setCell ⟨p, 1, none⟩ (.slice (some ⟨g, 0, none⟩) (E.wait.length + 1) cap)).cell? ⟨p, 1, none⟩ = some (.slice (some ⟨g, 0, none⟩) (E.wait.length + 1) cap) := T9.cell rfl
  have c2 : (w8.setCell ⟨p, 1, none⟩ (.slice (some ⟨g, 0, none⟩) (E.wait.length + 1) cap)).cell? ⟨p, 2, none⟩ = some (.slice (some ⟨gl, 0, none⟩) E.kept.length cl) := by rw [← hlv]; exact T9.cell rfl
  have c9 := lr9.cellAt j (by omega)
  rw [lcells_at _ _ j hnE] at c9
  have q9 := lr9.frozenAt j
  have hkl9 : E.kept.length ≤ 9223372036854775807 := own_len lr8
  generalize (w8.setCell ⟨p, 1, none⟩ (.slice (some ⟨g, 0, none⟩) (E.wait.length + 1) cap)) = W9 at hps c1 c2 c9 q9 ⊢
  obtain ⟨nn, hnn⟩ : ∃ nn, nn = E.kept.length := ⟨_, rfl⟩
  obtain ⟨mm, hmm⟩ : ∃ mm, mm = E.wait.length := ⟨_, rfl⟩
  rw [← hnn] at c2 hnE hkl9
  rw [← hmm] at c1 hl6
  have HPS := Lib.hid hps
  have MM := Lib.hid hmm
  have LV := Lib.hid hlv
  clear hps hmm hnn lr8 lr9 T9 hlv hlc g8 q8 SA SD DW TD SE SF H8 G8 T8 F8 CS C9
  go_wp2_with fail
  go_region
  have hP := HPS.out.1
  have hF := (F7.out.wide (G := fun k => k = p ∨ wv.ownBlock = some k ∨ lv.ownBlock = some k) fun i hi => .inl hi).next HPS.out.2
  rw [← MM.out, show ((mm + 1 : Nat) : Int) = (mm : Int) + 1 from by omega] at hP hF
  have hP2 := hP.below (w' := (W9.setCell ⟨gl, j, none⟩ (.int .i64 ((mm : Int) + 1))).drew) (Below.refl _ _).drew
  have hF2 := hF.drew
  clear hP hF HPS
  generalize (W9.setCell ⟨gl, j, none⟩ (.int .i64 ((mm : Int) + 1))).drew = W10 at hP2 hF2 ⊢
  have c6 : W10.cell? ⟨p, 6, none⟩ = some (.int .i64 (E.wr : Int)) := hP2.st.cell rfl
  have q6 := hP2.st.free 6
  have hwr : E.wr ≤ 1073741824 := by rw [HX.out.2.2.1]; exact HY.out.2.2.2.1
  have H10 := Lib.hid hP2
  have F10 := Lib.hid hF2
  clear hP2 hF2
  go_wp2_with (go_at_call 28; go_must (refine (i64_one ⟨p, 6, none⟩ (E.wr : Int) _ (by omega) (by omega) c6 q6).mono ?_); rintro e w11 ⟨rfl, rfl⟩)
  go_ret
  refine ⟨rfl, .slice (some ⟨g, 0, none⟩) (mm + 1) cap, ⟨is1, N1, ?_⟩, F10.out.setCell (p := ⟨p, 6, none⟩) (.inl (.inl rfl)) _, ?_⟩
  · have h := H10.out.wrs (E.wr + 1)
    have e2 : ((E.wr + 1 : Nat) : Int) = (E.wr : Int) + 1 := by omega
    rw [e2] at h
    have eG : ({ { E with wait := E.wait ++ [(j, blank s)] } with wr := E.wr + 1 } : DS) = { E with wait := D.wait ++ [(j, blank s)], wr := D.wr + 1 } := by simp only [HX.out.2.1, HX.out.2.2.1]
    rw [← eG]
    exact h
  · intro i hi
    simp only [Value.ownBlock, Option.some.injEq] at hi
    subst hi
    rcases A8.out with h | h
    · exact .inl h
    · right
      have h2 : g = WD.heap.size + 1 := by simpa using h
      have := F7.out.size
      omega
end Go.Proofs.YtikeckmbfgidhaaGreatDoor

/- The program's disk: Write, whatever comes; Read, Arm, and what is asked of it, over what lies in memory. -/
namespace Go.Proofs.YtikeckmbfgidhaaGreatDoor
open Go.RowKit

theorem PD0.drewN {B p : Nat} {kv wv lv : Value} {is : Bool} {N : Int} {D : DS} {w : World} (h : PD0 B p kv wv lv is N D w) (q : Nat) : PD0 B p kv wv lv is N D (w.drewN q) := ⟨h.st, h.fz, h.ok, h.pos, h.kr, h.wr, h.lr, h.kp, h.wp, h.lp, h.kw, h.kl, h.wl, h.bp⟩
set_option maxRecDepth 100000 in
theorem dWrite_dead {B p : Nat} {kv wv lv : Value} {is : Bool} {N : Int} {D : DS} {w : World} (i : Int) (s : ByteArray) (hd : D.dead = true) (h : PD0 B p kv wv lv is N D w) : Calls Tryz.prog 19 #[.pointer (some ⟨p, 0, none⟩), .int .i64 i, .string s] w fun e w' => e = .returned (.int .i64 30) ∧ w = w' := by
  have HR := Lib.hid (drefusal_at h)
  rw [hd] at HR
  clear h hd
  go_enter Tryz.func19, Tryz.ntmps19
  go_wp2_with (go_at_call 24; go_must (refine HR.out.mono ?_); rintro e w1 ⟨rfl, rfl⟩)
  go_ret
  exact ⟨rfl, rfl⟩
set_option maxRecDepth 100000 in
theorem dWrite_out {B p : Nat} {kv wv lv : Value} {is : Bool} {N : Int} {D : DS} {w : World} (i : Int) (s : ByteArray) (hd : D.dead = false) (hi : D.inside i = false) (h : PD0 B p kv wv lv is N D w) : Calls Tryz.prog 19 #[.pointer (some ⟨p, 0, none⟩), .int .i64 i, .string s] w fun e w' => e = .returned (.int .i64 3) ∧ Below w.heap.size w w' := by
  have HR := Lib.hid (drefusal_at h)
  have HI := Lib.hid (dhas_at i h)
  rw [hd] at HR
  rw [hi] at HI
  clear h hd hi
  go_enter Tryz.func19, Tryz.ntmps19
  go_wp2_with (first | (go_at_call 24; go_must (refine HR.out.mono ?_); rintro e w1 ⟨rfl, rfl⟩) | (go_at_call 38; go_must (refine HI.out.mono ?_); rintro e w1 ⟨rfl, q, rfl⟩))
  go_ret
  exact ⟨rfl, rfl, rfl, rfl, Nat.le_refl _, fun _ _ => rfl⟩
set_option maxRecDepth 100000 in
theorem dWrite_long {B p : Nat} {kv wv lv : Value} {is : Bool} {N : Int} {D : DS} {w : World} (i : Int) (s : ByteArray) (hd : D.dead = false) (hi : D.inside i = true) (hs : 128 < s.size) (h : PD0 B p kv wv lv is N D w) : Calls Tryz.prog 19 #[.pointer (some ⟨p, 0, none⟩), .int .i64 i, .string s] w fun e w' => e = .returned (.int .i64 4) ∧ Below w.heap.size w w' := by
  have HR := Lib.hid (drefusal_at h)
  have HI := Lib.hid (dhas_at i h)
  rw [hd] at HR
  rw [hi] at HI
  have d3 : decide ((s.size : Int) > 128) = true := decide_eq_true (by omega)
  clear h hd hi hs
  go_enter Tryz.func19, Tryz.ntmps19
  go_wp2_with (first | (go_at_call 24; go_must (refine HR.out.mono ?_); rintro e w1 ⟨rfl, rfl⟩) | (go_at_call 38; go_must (refine HI.out.mono ?_); rintro e w1 ⟨rfl, q, rfl⟩))
  go_ret
  exact ⟨rfl, rfl, rfl, rfl, Nat.le_refl _, fun _ _ => rfl⟩
set_option maxRecDepth 100000 in
theorem dWrite_off {B p : Nat} {kv wv lv : Value} {is : Bool} {N : Int} {D : DS} {w : World} (i : Int) (s : ByteArray) (hd : D.dead = false) (hi : D.inside i = true) (hs : s.size ≤ 128) (h0 : D.fuse = 0) (h : PD0 B p kv wv lv is N D w) :
    Calls Tryz.prog 19 #[.pointer (some ⟨p, 0, none⟩), .int .i64 i, .string s] w fun e w' => e = .returned (.int .i64 30) ∧ PD0 B p kv wv lv is N D.burnt w' ∧ Frm (fun j => j = p) w w' := by
  have HR := Lib.hid (drefusal_at h)
  have HI := Lib.hid (dhas_at i h)
  rw [hd] at HR
  rw [hi] at HI
  have d3 : decide ((s.size : Int) > 128) = false := decide_eq_false (by omega)
  have HB := Lib.hid (show ∀ q, Calls Tryz.prog 25 #[.pointer (some ⟨p, 0, none⟩)] (w.drewN q) _ from fun q => dburn_off B p kv wv lv is N D (w.drewN q) h0 (h.drewN q))
  clear h hd hi hs
  go_enter Tryz.func19, Tryz.ntmps19
  go_wp2_with (first | (go_at_call 24; go_must (refine HR.out.mono ?_); rintro e w1 ⟨rfl, rfl⟩) | (go_at_call 38; go_must (refine HI.out.mono ?_); rintro e w1 ⟨rfl, q, rfl⟩) | (go_at_call 25; go_must (refine (HB.out q).mono ?_); rintro e w2 ⟨rfl, h2⟩; have H2 := Lib.hid h2; clear h2))
  go_ret
  exact ⟨rfl, H2.out.1, H2.out.2.os, H2.out.2.tape, H2.out.2.output, H2.out.2.size, H2.out.2.block⟩

theorem PD.of_below {B p : Nat} {F : Nat → Prop} {D : DS} {w w' : World} (hB : B ≤ w.heap.size) (h : PD B p F D w) (b : Below w.heap.size w w') : PDid B p F D w w' := by
  obtain ⟨kv, wv, lv, is, N, h0, hF, h1, h2, h3, h4⟩ := h
  exact PDid.mk' hB hF h1 (h0.below b) (Frm.of_below b) (fun j hj => .inl (h2 j hj)) (fun j hj => .inl (h3 j hj)) (fun j hj => .inl (h4 j hj))
theorem dSize_any (B p : Nat) (F : Nat → Prop) (D : DS) (w : World) (h : PD B p F D w) : Calls Tryz.prog 32 #[.pointer (some ⟨p, 0, none⟩)] w fun e w' => e = .returned (.int .i64 (D.kept.length : Int)) ∧ w = w' := by
  obtain ⟨kv, wv, lv, is, N, h0, _⟩ := h
  exact dSize_at h0
theorem dWaiting_any (B p : Nat) (F : Nat → Prop) (D : DS) (w : World) (h : PD B p F D w) : Calls Tryz.prog 12 #[.pointer (some ⟨p, 0, none⟩)] w fun e w' => e = .returned (.int .i64 (D.wait.length : Int)) ∧ w = w' := by
  obtain ⟨kv, wv, lv, is, N, h0, _⟩ := h
  exact dWaiting_at h0
theorem dRead_any (B p : Nat) (F : Nat → Prop) (D : DS) (i : Int) (w : World) (h : PD B p F D w) : Calls Tryz.prog 20 #[.pointer (some ⟨p, 0, none⟩), .int .i64 i] w fun e w' => e = .returned (.tuple #[.string (D.read i).1, .int .i64 (D.read i).2]) ∧ Below w.heap.size w w' := by
  obtain ⟨kv, wv, lv, is, N, h0, _⟩ := h
  cases hd : D.dead with
  | true =>
    have e : D.read i = (⟨#[]⟩, 30) := by unfold DS.read; rw [if_pos hd]
    rw [e]
    exact (dRead_dead i hd h0).mono fun e w' ⟨he, hw⟩ => by subst hw; exact ⟨he, Below.refl _ _⟩
  | false =>
    cases hi : D.inside i with
    | false =>
      have e : D.read i = (⟨#[]⟩, 3) := by unfold DS.read; rw [hd, hi]; rfl
      rw [e]
      exact dRead_out i hd hi h0
    | true =>
      have hio : 0 ≤ i ∧ i < D.kept.length := of_decide_eq_true hi
      obtain ⟨j, hj⟩ : ∃ j : Nat, i = j := ⟨i.toNat, by omega⟩
      subst hj
      have e : D.read j = (lastOf j (D.kept.getD j ⟨#[]⟩) D.wait, 0) := by unfold DS.read; rw [hd, hi]; rfl
      rw [e]
      exact dRead_in j hd (by omega) h0
theorem dArm_any (B p : Nat) (F : Nat → Prop) (D : DS) (n : Int) (w : World) (hB : B ≤ w.heap.size) (hn : n ≤ 9223372036854775807) (h : PD B p F D w) :
    Calls Tryz.prog 11 #[.pointer (some ⟨p, 0, none⟩), .int .i64 n] w fun e w' => e = .returned (.int .i64 (D.arm n).1) ∧ PDid B p F (D.arm n).2 w w' := by
  have hR := h
  obtain ⟨kv, wv, lv, is, N, h0, hF, h1, h2, h3, h4⟩ := h
  cases hd : D.dead with
  | true =>
    have e : D.arm n = (30, D) := by unfold DS.arm; rw [if_pos hd]
    rw [e]
    exact (dArm_dead B p kv wv lv is N D n w hd h0).mono fun e w' ⟨he, hw⟩ => by subst hw; exact ⟨he, PDid.same hR⟩
  | false =>
    have e : (D.arm n).1 = 0 := by unfold DS.arm; rw [hd]; rfl
    rw [e]
    exact (dArm_at B p kv wv lv is N D n w hd hn h0).mono fun e w' ⟨he, ⟨is', N', hr⟩, hf⟩ => ⟨he, PDid.mk' hB hF h1 hr (hf.wide fun j hj => by subst hj; exact h1) (fun j hj => .inl (h2 j hj)) (fun j hj => .inl (h3 j hj)) (fun j hj => .inl (h4 j hj))⟩
theorem dWrite_any (B p : Nat) (F : Nat → Prop) (D : DS) (i : Int) (s : ByteArray) (w : World) (hB : B ≤ w.heap.size) (hl : D.wait.length ≤ 1073741824) (hc : D.wr ≤ 1073741824) (h : PD B p F D w) :
    Calls Tryz.prog 19 #[.pointer (some ⟨p, 0, none⟩), .int .i64 i, .string s] w fun e w' => e = .returned (.int .i64 (D.write i s).1) ∧ PDid B p F (D.write i s).2 w w' := by
  have hR := h
  obtain ⟨kv, wv, lv, is, N, h0, hF, h1, h2, h3, h4⟩ := h
  cases hd : D.dead with
  | true =>
    have e : D.write i s = (30, D) := by unfold DS.write; rw [if_pos hd]
    rw [e]
    exact (dWrite_dead i s hd h0).mono fun e w' ⟨he, hw⟩ => by subst hw; exact ⟨he, PDid.same hR⟩
  | false =>
    cases hi : D.inside i with
    | false =>
      have e : D.write i s = (3, D) := by unfold DS.write; rw [if_neg (by rw [hd]; simp), if_pos hi]
      rw [e]
      exact (dWrite_out i s hd hi h0).mono fun e w' ⟨he, hw⟩ => ⟨he, hR.of_below hB hw⟩
    | true =>
      have hio : 0 ≤ i ∧ i < D.kept.length := of_decide_eq_true hi
      obtain ⟨j, hj⟩ : ∃ j : Nat, i = j := ⟨i.toNat, by omega⟩
      subst hj
      by_cases hs : 128 < s.size
      · have e : D.write j s = (4, D) := by unfold DS.write; rw [if_neg (by rw [hd]; simp), if_neg (by rw [hi]; simp), if_pos hs]
        rw [e]
        exact (dWrite_long j s hd hi hs h0).mono fun e w' ⟨he, hw⟩ => ⟨he, hR.of_below hB hw⟩
      · by_cases h00 : D.fuse = 0
        · have e : D.write j s = (30, D.burnt) := by unfold DS.write; rw [if_neg (by rw [hd]; simp), if_neg (by rw [hi]; simp), if_neg hs, if_pos h00]
          rw [e]
          exact (dWrite_off j s hd hi (by omega) h00 h0).mono fun e w' ⟨he, hr, hf⟩ => ⟨he, PDid.mk' hB hF h1 hr (hf.wide fun j hj => by subst hj; exact h1) (fun j hj => .inl (h2 j hj)) (fun j hj => .inl (h3 j hj)) (fun j hj => .inl (h4 j hj))⟩
        · have e : D.write j s = (0, { D.burnt with wait := D.wait ++ [(j, blank s)], wr := D.wr + 1 }) := by unfold DS.write; rw [if_neg (by rw [hd]; simp), if_neg (by rw [hi]; simp), if_neg hs, if_neg h00]; rfl
          rw [e]
          exact (dWrite_do B p kv wv lv is N D j s w hd (by omega) (by omega) h00 hl hc hB h0).mono fun e w' ⟨he, wv', ⟨is', N', hr⟩, hf, hw⟩ => ⟨he, PDid.mk' hB hF h1 hr (hf.wide fun j hj => by rcases hj with rfl | hj | hj; exact h1; exact h3 j hj; exact h4 j hj) (fun j hj => .inl (h2 j hj)) (fun j hj => (hw j hj).imp (h3 j) id) (fun j hj => .inl (h4 j hj))⟩
end Go.Proofs.YtikeckmbfgidhaaGreatDoor

/- The program's disk: what settles the writes that wait. -/
namespace Go.Proofs.YtikeckmbfgidhaaGreatDoor
open Go.RowKit

/-- Those at the places that are named. -/
def picked (f : Nat → Bool) (n : Nat) : List (Nat × ByteArray) → List (Nat × ByteArray)
  | [] => []
  | x :: l => if f n then x :: picked f (n + 1) l else picked f (n + 1) l
theorem picked_snoc (f : Nat → Bool) (x : Nat × ByteArray) : ∀ (l : List (Nat × ByteArray)) (n : Nat), picked f n (l ++ [x]) = picked f n l ++ (if f (n + l.length) then [x] else [])
  | [], n => by simp only [List.nil_append, picked, List.length_nil, Nat.add_zero]
  | y :: l, n => by
    have e : n + 1 + l.length = n + (y :: l).length := by simp; omega
    simp only [List.cons_append, picked, picked_snoc f x l (n + 1), e]
    split <;> simp
theorem picked_at (f : Nat → Bool) (l : List (Nat × ByteArray)) (k : Nat) (x : Nat × ByteArray) (h : l[k]? = some x) : picked f 0 (l.take (k + 1)) = picked f 0 (l.take k) ++ (if f k then [x] else []) := by
  obtain ⟨hk, rfl⟩ := List.getElem?_eq_some_iff.1 h
  rw [List.take_succ_eq_append_getElem hk, picked_snoc]
  have : (l.take k).length = k := by rw [List.length_take]; omega
  rw [this, Nat.zero_add]
theorem picked_all : ∀ (l : List (Nat × ByteArray)) (n : Nat), picked (fun _ => true) n l = l
  | [], _ => rfl
  | x :: l, n => by simp only [picked, if_true, picked_all l (n + 1)]
theorem picked_chosen (keep : List Int) : ∀ (l : List (Nat × ByteArray)) (n : Nat), picked (fun k => decide ((k : Int) ∈ keep)) n l = chosen keep l n
  | [], _ => rfl
  | x :: l, n => by simp only [picked, chosen, picked_chosen keep l (n + 1), decide_eq_true_eq]
/-- What a disk keeps once some of the writes have been asked. -/
def keptTo (f : Nat → Bool) (D : DS) (k : Nat) : List ByteArray := keepAll D.kept (picked f 0 (D.wait.take k))
theorem keptTo_length (f : Nat → Bool) (D : DS) (k : Nat) : (keptTo f D k).length = D.kept.length := keepAll_length _ _
theorem keptTo_next (f : Nat → Bool) (D : DS) (k : Nat) (x : Nat × ByteArray) (h : D.wait[k]? = some x) : keptTo f D (k + 1) = if f k then (keptTo f D k).set x.1 x.2 else keptTo f D k := by
  unfold keptTo
  rw [picked_at f D.wait k x h]
  split
  · exact keepAll_snoc _ _ _
  · rw [List.append_nil]
theorem keepAll_full (K : List ByteArray) (hK : ∀ x ∈ K, x.size = 128) : ∀ (l : List (Nat × ByteArray)), (∀ x ∈ l, x.2.size = 128) → ∀ x ∈ keepAll K l, x.size = 128 := by
  intro l hl
  induction l using snoc_ind with
  | h0 => exact hK
  | h1 l y ih =>
    rw [keepAll_snoc]
    intro x hx
    rcases List.mem_or_eq_of_mem_set hx with hx | rfl
    · exact ih (fun z hz => hl z (List.mem_append_left _ hz)) x hx
    · exact hl y (List.mem_append_right _ (List.mem_singleton.2 rfl))
theorem picked_mem (f : Nat → Bool) : ∀ (l : List (Nat × ByteArray)) (n : Nat) (x : Nat × ByteArray), x ∈ picked f n l → x ∈ l
  | [], _, _, h => h
  | y :: l, n, x, h => by
    unfold picked at h
    split at h
    · rcases List.mem_cons.1 h with h | h
      · exact List.mem_cons.2 (.inl h)
      · exact List.mem_cons.2 (.inr (picked_mem f l (n + 1) x h))
    · exact List.mem_cons.2 (.inr (picked_mem f l (n + 1) x h))
theorem keptTo_full {D : DS} (h : D.ok D.kept.length) (f : Nat → Bool) (k : Nat) : ∀ x ∈ keptTo f D k, x.size = 128 := keepAll_full _ h.full _ fun x hx => h.fulw x (List.mem_of_mem_take (picked_mem f _ 0 x hx))
/-- Amid the settling: k of the writes have been asked. -/
structure PM (B p : Nat) (kv wv lv : Value) (is : Bool) (N : Int) (D : DS) (f : Nat → Bool) (k : Nat) (w : World) : Prop where
  st : St 48 p (pcs kv wv lv is N D) w
  kr : w.ownsRow B 74 128 kv D.kept.length (scells (keptTo f D k))
  wr : w.ownsRow B 76 129 wv D.wait.length (qcells D.wait)
  lr : w.ownsRow B 3 1 lv D.kept.length (zcells D.kept.length D.wait k)
theorem PM.below {B p : Nat} {kv wv lv : Value} {is : Bool} {N : Int} {D : DS} {f : Nat → Bool} {k : Nat} {w w' : World} (h : PM B p kv wv lv is N D f k w) (b : Below w.heap.size w w') : PM B p kv wv lv is N D f k w' := by
  have g : Frm (fun _ => False) w w' := Frm.of_below b
  exact ⟨g.st h.st (fun e => e), g.own h.kr fun _ _ e => e, g.own h.wr fun _ _ e => e, g.own h.lr fun _ _ e => e⟩
/-- Which blocks are whose. -/
structure Apart3 (B p : Nat) (kv wv lv : Value) : Prop where
  kp : kv.ownBlock ≠ some p
  wp : wv.ownBlock ≠ some p
  lp : lv.ownBlock ≠ some p
  kw : ∀ j, kv.ownBlock = some j → wv.ownBlock ≠ some j
  kl : ∀ j, kv.ownBlock = some j → lv.ownBlock ≠ some j
  wl : ∀ j, wv.ownBlock = some j → lv.ownBlock ≠ some j
  bp : B ≤ p
theorem PM.start {B p : Nat} {kv wv lv : Value} {is : Bool} {N : Int} {D : DS} {f : Nat → Bool} {w : World} (h : PD0 B p kv wv lv is N D w) : PM B p kv wv lv is N D f 0 w :=
  ⟨h.st, h.kr, h.wr, by rw [zcells_zero]; exact h.lr⟩
theorem PM.done {B p : Nat} {kv wv lv : Value} {is : Bool} {N : Int} {D : DS} {f : Nat → Bool} {w : World} (h : PM B p kv wv lv is N D f D.wait.length w) (a : Apart3 B p kv wv lv) (hz : Fz is N D.fuse) (ho : D.ok D.kept.length) (hp : 1 ≤ D.kept.length ∧ D.kept.length ≤ 65536) :
    PD0 B p kv (.slice none 0 0) lv is N { D with kept := keepAll D.kept (picked f 0 D.wait), wait := [] } (w.setCell ⟨p, 1, none⟩ (.slice none 0 0)) := by
  have e : keptTo f D D.wait.length = keepAll D.kept (picked f 0 D.wait) := by unfold keptTo; rw [List.take_length]
  have hl := keptTo_length f D D.wait.length
  have hf := keptTo_full ho f D.wait.length
  have hk := h.kr
  have hlr := h.lr
  rw [zcells_all] at hlr
  rw [e] at hl hf hk
  rw [← hl] at hk hlr
  exact ⟨h.st.set 1 _, hz, ⟨rfl, by simp, hf, by simp, ho.lo, ho.hi⟩, by show 1 ≤ (keepAll D.kept (picked f 0 D.wait)).length ∧ (keepAll D.kept (picked f 0 D.wait)).length ≤ 65536; omega, ownsRow_setCell_other hk a.kp _, World.ownsRow_nil _ _ _ _, ownsRow_setCell_other hlr a.lp _, a.kp, by simp [Value.ownBlock], a.lp, by simp [Value.ownBlock], a.kl, by simp [Value.ownBlock], a.bp⟩
/-- One more has been asked, and was kept. -/
theorem PM.yes {B p g cap gl cl : Nat} {kv wv lv : Value} {is : Bool} {N : Int} {D : DS} {f : Nat → Bool} {k : Nat} {w : World} (h : PM B p kv wv lv is N D f k w) (a : Apart3 B p kv wv lv) (ho : D.ok D.kept.length) (x : Nat × ByteArray) (hx : D.wait[k]? = some x) (hfk : f k = true)
    (hk : kv = .slice (some ⟨g, 0, none⟩) D.kept.length cap) (hl : lv = .slice (some ⟨gl, 0, none⟩) D.kept.length cl) :
    PM B p kv wv lv is N D f (k + 1) ((w.setCells g (x.1 * 128) (tb x.2)).setCell ⟨gl, x.1, none⟩ (.int .i64 0)) := by
  have hxm : x ∈ D.wait := List.mem_of_getElem? hx
  have hkg : kv.ownBlock = some g := by rw [hk]; rfl
  have hlg : lv.ownBlock = some gl := by rw [hl]; rfl
  have hgp : g ≠ p := fun e => a.kp (by rw [hkg, e])
  have hlp : gl ≠ p := fun e => a.lp (by rw [hlg, e])
  refine ⟨(h.st.setCells_other hgp.symm _ _).other gl _ _ hlp, ?_, ownsRow_setCell_other (own_setCells_other h.wr (fun e => a.kw g hkg e) _ _) (fun e => a.wl gl e hlg) _, ?_⟩
  · rw [keptTo_next f D k x hx, if_pos hfk]
    have e : scells ((keptTo f D k).set x.1 x.2) = setMany (scells (keptTo f D k)) (x.1 * 128) (tb x.2) :=
      flat_set tb 128 (keptTo f D k) (fun y hy => by rw [tb_length, keptTo_full ho f k y hy]) x.1 x.2 (by rw [keptTo_length]; exact ho.inn x hxm) (by rw [tb_length, ho.fulw x hxm])
    have h1 := h.kr
    rw [hk] at h1
    have h2 := own_setMany (tb x.2) (x.1 * 128) w _ h1
    rw [← e, ← hk] at h2
    exact ownsRow_setCell_other h2 (fun e => a.kl gl e hlg) _
  · rw [zcells_next _ _ k x hx]
    have h1 := own_setCells_other h.lr (fun e => a.kl g hkg e) (x.1 * 128) (tb x.2)
    rw [hl] at h1 ⊢
    exact (h1.stored x.1 _).1
/-- One more has been asked, and was not kept. -/
theorem PM.no {B p gl cl : Nat} {kv wv lv : Value} {is : Bool} {N : Int} {D : DS} {f : Nat → Bool} {k : Nat} {w : World} (h : PM B p kv wv lv is N D f k w) (a : Apart3 B p kv wv lv) (x : Nat × ByteArray) (hx : D.wait[k]? = some x) (hfk : f k = false)
    (hl : lv = .slice (some ⟨gl, 0, none⟩) D.kept.length cl) : PM B p kv wv lv is N D f (k + 1) (w.setCell ⟨gl, x.1, none⟩ (.int .i64 0)) := by
  have hlg : lv.ownBlock = some gl := by rw [hl]; rfl
  have hlp : gl ≠ p := fun e => a.lp (by rw [hlg, e])
  refine ⟨h.st.other gl _ _ hlp, ?_, ownsRow_setCell_other h.wr (fun e => a.wl gl e hlg) _, ?_⟩
  · rw [keptTo_next f D k x hx, if_neg (by rw [hfk]; simp)]
    exact ownsRow_setCell_other h.kr (fun e => a.kl gl e hlg) _
  · rw [zcells_next _ _ k x hx]
    have h1 := h.lr
    rw [hl] at h1 ⊢
    exact (h1.stored x.1 _).1
theorem pend_range {T : TypeId} {nb : Nat} {x : Nat × ByteArray} {w : World} (h : St T nb (pend x).toArray w) : w.rangeAt nb 0 (tb x.2) ∧ True := by
  refine ⟨fun j v hv => h.cell (j := 0 + j) ?_, trivial⟩
  rw [Nat.zero_add]
  show (tb x.2 ++ _).toArray[j]? = _
  rw [List.getElem?_toArray, List.getElem?_append_left (List.getElem?_eq_some_iff.1 hv).1]
  exact hv
theorem pend_last {T : TypeId} {nb : Nat} (x : Nat × ByteArray) (hx : x.2.size = 128) {w : World} (h : St T nb (pend x).toArray w) : w.cell? ⟨nb, 128, none⟩ = some (.int .i64 (x.1 : Int)) := by
  refine h.cell (j := 128) ?_
  show (tb x.2 ++ _).toArray[128]? = _
  rw [List.getElem?_toArray, List.getElem?_append_right (by rw [tb_length, hx]; exact Nat.le_refl _), tb_length, hx]
  rfl
theorem step_store_mid {P : Program} {ops : Array Oper} {op : Oper} {a : Act} {w : World} {K : Act → World → Prop} {Q : Exit → Act → World → Prop} {E : Prop} (hw : Region.wanted op (yielded ops a.tmps) = true) (ty : TypeId) (x y : Operand) (ho : op.op = .store ty x y)
    (b o : Nat) (cells : Array Value) (hx : a.eval x = .pointer (some ⟨b, o, none⟩)) (hy : a.eval y = .agg cells)
    (ht : w.there b o cells.size) (hi : (P.info? ty).map (·.size) = some cells.size) (h1 : cells.all (·.oneCell') = true)
    (h : K (a.put op.dst undef) (w.setCells b o cells.toList)) : if Region.wanted op (yielded ops a.tmps) = true then Oper.wp P op a w K Q else E := by
  rw [if_pos hw]
  exact wp_store_mid ty x y ho b o cells hx hy ht hi h1 h

set_option maxRecDepth 100000 in
set_option maxHeartbeats 1000000 in
theorem dsettle_all (B p : Nat) (kv wv lv : Value) (is : Bool) (N : Int) (D : DS) (f : Nat → Bool) (w : World) (h : PD0 B p kv wv lv is N D w)
    (hf : ∀ (k : Nat) (W : World), k < D.wait.length → Frm (fun j => kv.ownBlock = some j ∨ lv.ownBlock = some j) w W → Calls Tryz.prog 27 #[.int .i64 k] W fun e w' => e = .returned (.bool (f k)) ∧ W = w') :
    Calls Tryz.prog 26 #[.pointer (some ⟨p, 0, none⟩), .func (.func 27) #[] #[]] w fun e w' => e = .returned (.tuple #[]) ∧
      PD0 B p kv (.slice none 0 0) lv is N { D with kept := keepAll D.kept (picked f 0 D.wait), wait := [] } w' ∧ Frm (fun j => j = p ∨ kv.ownBlock = some j ∨ lv.ownBlock = some j) w w' := by
  have HA := Lib.hid (⟨h.kp, h.wp, h.lp, h.kw, h.kl, h.wl, h.bp⟩ : Apart3 B p kv wv lv)
  have HD := Lib.hid (And.intro h.fz (And.intro h.ok h.pos))
  obtain ⟨m, hm⟩ : ∃ m, m = D.wait.length := ⟨_, rfl⟩
  obtain ⟨n, hn⟩ : ∃ n, n = D.kept.length := ⟨_, rfl⟩
  have hml : m ≤ 9223372036854775807 := by rw [hm]; exact own_len h.wr
  have hnl : n ≤ 9223372036854775807 := by rw [hn]; exact own_len h.kr
  obtain ⟨ao, cw, hwv⟩ := own_slice h.wr
  rw [← hm] at hwv
  obtain ⟨g, cap, hkv, _, _, _⟩ := own_some h.kr (by have := h.pos; omega)
  obtain ⟨gl, cl, hlv, _, _, _⟩ := own_some h.lr (by have := h.pos; omega)
  have hgp : g ≠ p := fun e => h.kp (by rw [hkv]; simp [Value.ownBlock, e])
  have hpl := h.st.lt
  have hgs : g < w.heap.size := (h.kr.lt g (by rw [hkv]; rfl)).2
  have c1 : w.cell? ⟨p, 1, none⟩ = some (.slice ao m cw) := by rw [← hwv]; exact h.st.cell rfl
  have HS := Lib.hid (PM.start (f := f) h)
  rw [← hm] at hf
  have HF := Lib.hid hf
  have HWV := Lib.hid hwv
  have HM := Lib.hid hm
  have HN := Lib.hid hn
  have HKV := Lib.hid hkv
  have HLV := Lib.hid hlv
  clear h hf hwv hm hn hkv hlv
  go_enter Tryz.func26, Tryz.ntmps26
  go_wp2_with fail
  go_loopw [11] (fun c wr => ∃ k : Nat, k ≤ m ∧ c = .int .i64 k ∧ PM B p kv wv lv is N D f k wr ∧ Frm (fun j => kv.ownBlock = some j ∨ lv.ownBlock = some j) w wr) (fun c _ => m - (intOf c).toNat)
  case atStart => exact ⟨0, Nat.zero_le _, rfl, HS.out, Frm.refl _ _⟩
  case round =>
    obtain ⟨k, hk, rfl, hr, hfr⟩ := hrel
    have HR := Lib.hid hr
    have HFR := Lib.hid hfr
    have hws := hfr.size
    clear hfr
    by_cases hlt : k < m
    · obtain ⟨x, hx⟩ : ∃ x, D.wait[k]? = some x := ⟨_, List.getElem?_eq_getElem (by rw [← HM.out]; exact hlt)⟩
      have hxm : x ∈ D.wait := List.mem_of_getElem? hx
      have hx1 : x.1 < n := by rw [HN.out]; exact HD.out.2.1.inn x hxm
      have hx8 : x.2.size = 128 := HD.out.2.1.fulw x hxm
      obtain ⟨g2, cap2, hwv2, hg2, _, _⟩ := own_some hr.wr (by rw [← HM.out]; omega)
      have eao : ao = some ⟨g2, 0, none⟩ := by have e := HWV.out.symm.trans hwv2; injection e
      have hrg : wr.rangeAt g2 (k * 129) (pend x) := by
        have hq := hr.wr
        rw [hwv2] at hq
        exact own_range hq (k * 129) (pend x) (flat_at pend 129 D.wait (fun y hy => pend_length y (HD.out.2.1.fulw y hy)) k x hx)
      subst eao
      have HRG := Lib.hid hrg
      have HX := Lib.hid hx
      have P9 := Lib.hid (show (pend x).toArray.size = 129 from by simpa using pend_length x hx8)
      have P1 := Lib.hid (all_oneCell_toArray (pend_one x))
      have C8 := Lib.hid (show (tb x.2).length = 128 from by rw [tb_length, hx8])
      obtain ⟨nb, hnb⟩ : ∃ nb, nb = wr.heap.size := ⟨_, rfl⟩
      have HZ := Lib.hid (St.new wr 76 Tryz.zeroCells76)
      have HCf := Lib.hid (fun W hW => HF.out k W hlt hW)
      have hgn : g ≠ nb := by omega
      clear hx hxm hwv2 hg2 hrg hr
      obtain ⟨fk, hfk⟩ : ∃ fk, fk = f k := ⟨_, rfl⟩
      rw [← hfk] at HCf
      have HFK := Lib.hid hfk
      clear hfk
      have HNB := Lib.hid hnb
      cases fk with
      | true =>
        go_wp2_with (first
          | ((with_reducible show wpList _ _ _ ({ dst := _, op := .load 76 _, type := _, pos := _, after := _, guard := _ } :: _) _ _); refine wpList_load_mid rfl 76 _ rfl g2 (k * 129) rfl (pend x) _ HRG.out Tryz.underlying76 rfl (by rw [show (pend x).length = 129 from by simpa using P9.out]; kernel_rfl) ?_)
          | ((with_reducible show wpList _ _ _ ({ dst := _, op := .store 76 _ _, type := _, pos := _, after := _, guard := _ } :: _) _ _); refine wpList_store_st rfl 76 _ _ rfl wr.heap.size (pend x).toArray rfl rfl _ HZ.out (by rw [P9.out]; kernel_rfl) (by rw [P9.out]; exact pzero_size) P1.out ?_; intro w6 hw6 k6; have B6 := Lib.hid (show Below wr.heap.size wr w6 from by rw [hw6]; exact below_row ((Below.refl _ wr).alloc (Nat.le_refl _) _) (Nat.le_refl _) _); have K6 := Lib.hid k6; clear hw6 k6)
          | (go_at_call 27; go_must (refine (HCf.out _ (frm_below HFR.out B6.out)).mono ?_); rintro e w7 ⟨rfl, rfl⟩))
        have hP6 := HR.out.below B6.out
        have SD := Lib.hid (show (w6.drew).cell? ⟨p, 0, none⟩ = some (.slice (some ⟨g, 0, none⟩) n cap) ∧ St 76 nb (pend x).toArray w6.drew from ⟨by rw [HN.out, ← HKV.out]; exact hP6.st.cell rfl, by rw [HNB.out]; exact K6.out⟩)
        have hth : (w6.drew).there g (x.1 * 128) 128 := by
          have hq := hP6.kr
          rw [HKV.out] at hq
          exact own_there (w := w6.drew) hq (x.1 * 128) 128 (by rw [← HN.out]; omega)
        have h7 := Lib.hid (PM.yes (cap := cap) (cl := cl) (hP6.below (Below.refl _ w6).drew) HA.out HD.out.2.1 x HX.out HFK.out.symm HKV.out HLV.out)
        have hf6 := frm_below HFR.out B6.out
        have HF6 := Lib.hid hf6
        have HP6 := Lib.hid hP6
        have lrz := own_setCells_other (show w6.drew.ownsRow B 3 1 lv D.kept.length (zcells D.kept.length D.wait k) from hP6.lr) (g := g) (fun e => HA.out.kl g (by rw [HKV.out]; rfl) e) (x.1 * 128) (tb x.2)
        have stz := (show St 48 p (pcs kv wv lv is N D) w6.drew from hP6.st).setCells_other hgp.symm (x.1 * 128) (tb x.2)
        rw [HLV.out] at lrz
        have c9 := lrz.cellAt x.1 (by rw [← HN.out]; omega)
        rw [List.getElem?_eq_getElem (by rw [zcells_length, ← HN.out]; exact hx1)] at c9
        have q9 := lrz.frozenAt x.1
        have cz : (w6.drew.setCells g (x.1 * 128) (tb x.2)).cell? ⟨p, 2, none⟩ = some (.slice (some ⟨gl, 0, none⟩) n cl) := by rw [HN.out, ← HLV.out]; exact stz.cell rfl
        have hx0 : (0 : Int) ≤ (x.1 : Int) := by omega
        have hx2 : (x.1 : Int) < (n : Int) := by omega
        have FR7 := Lib.hid (((Frm.setCells (F := fun j => kv.ownBlock = some j ∨ lv.ownBlock = some j) (g := g) (.inl (.inl (by rw [HKV.out]; rfl))) (tb x.2) (x.1 * 128) _ hf6.drew).setCell (p := ⟨gl, x.1, none⟩) (.inl (.inr (by rw [HLV.out]; rfl))) (.int .i64 0)).drew)
        clear hf6 hP6 lrz stz hnb
        rw [← HNB.out]
        refine wp_region_held (S := fun w' => w'.cell? ⟨p, 0, none⟩ = some (.slice (some ⟨g, 0, none⟩) n cap) ∧ St 76 nb (pend x).toArray w') (by kernel_rfl) ?_
        change wpAnyH _ _ _ _ _ _ _ _ (World.drew _)
        generalize World.drew w6 = WD at SD hth h7 c9 q9 cz FR7 ⊢
        refine wpAnyH_take (i := 6) (v := (.pointer (some ⟨nb, 0, none⟩))) rfl (by kernel_rfl) (by kernel_rfl) (by kernel_rfl) (fun _ _ _ h => h) (Or.inl ⟨by rfl, fun w' hS => ?_⟩) SD.out ?_
        · clear hS; go_simp
        refine wpAnyH_take (i := 7) (v := .agg (tb x.2).toArray) rfl (by kernel_rfl) (by kernel_rfl) (by kernel_rfl) (fun _ _ _ h => h) (yieldsIf_load_mid (by rfl) 74 (.tmp 25) rfl nb 0 (by simp [Act.eval, Act.put]) (tb x.2) _ (fun w' hS => (pend_range hS.2).1) Tryz.underlying74 rfl (by rw [C8.out]; kernel_rfl)) SD.out ?_
        refine wpAnyH_take (i := 4) (v := (.pointer (some ⟨nb, 128, none⟩))) rfl (by kernel_rfl) (by kernel_rfl) (by kernel_rfl) (fun _ _ _ h => h) (Or.inl ⟨by rfl, fun w' hS => ?_⟩) SD.out ?_
        · clear hS; go_simp
        refine wpAnyH_take (i := 5) (v := (.int .i64 (x.1 : Int))) rfl (by kernel_rfl) (by kernel_rfl) (by kernel_rfl) (fun _ _ _ h => h) (Or.inl ⟨by rfl, fun w' hS => ?_⟩) SD.out ?_
        · have c5 := pend_last x hx8 hS.2; clear hS; go_simp
        refine wpAnyH_take (i := 0) (v := (.pointer (some ⟨p, 0, none⟩))) rfl (by kernel_rfl) (by kernel_rfl) (by kernel_rfl) (fun _ _ _ h => h) (Or.inl ⟨by rfl, fun w' hS => ?_⟩) SD.out ?_
        · clear hS; go_simp
        refine wpAnyH_take (i := 1) (v := (.pointer (some ⟨p, 0, none⟩))) rfl (by kernel_rfl) (by kernel_rfl) (by kernel_rfl) (fun _ _ _ h => h) (Or.inl ⟨by rfl, fun w' hS => ?_⟩) SD.out ?_
        · clear hS; go_simp
        refine wpAnyH_take (i := 2) (v := (.pointer (some ⟨p, 0, none⟩))) rfl (by kernel_rfl) (by kernel_rfl) (by kernel_rfl) (fun _ _ _ h => h) (Or.inl ⟨by rfl, fun w' hS => ?_⟩) SD.out ?_
        · clear hS; go_simp
        refine wpAnyH_take (i := 3) (v := (.slice (some ⟨g, 0, none⟩) n cap)) rfl (by kernel_rfl) (by kernel_rfl) (by kernel_rfl) (fun _ _ _ h => h) (Or.inl ⟨by rfl, fun w' hS => ?_⟩) SD.out ?_
        · have c5 := hS.1; clear hS; go_simp
        refine wpAnyH_ready (rs := [8]) (by kernel_rfl) (by simp) ?_
        refine AllReadyH.cons rfl (fun K hK => ?_) AllReadyH.nil
        go_simp
        refine hK.out _ _ SD.out (fun S1 => ?_)
        clear hK K S1
        refine wpAnyH_ready (rs := [9]) (by kernel_rfl) (by simp) ?_
        refine AllReadyH.cons rfl (fun K hK => ?_) AllReadyH.nil
        refine step_store_mid (by rfl) 74 (.tmp 27) (.tmp 26) rfl g (x.1 * 128) (tb x.2).toArray (by simp [Act.eval]) (by simp [Act.eval]) (by rw [show (tb x.2).toArray.size = 128 from by simpa using C8.out]; exact hth) (by rw [show (tb x.2).toArray.size = 128 from by simpa using C8.out]; kernel_rfl) (tb_ones x.2) ?_
        have SE := Lib.hid (show (WD.setCells g (x.1 * 128) (tb x.2)).cell? ⟨p, 0, none⟩ = some (.slice (some ⟨g, 0, none⟩) n cap) ∧ St 76 nb (pend x).toArray (WD.setCells g (x.1 * 128) (tb x.2)) from ⟨(World.cell?_setCells_out g (tb x.2) (x.1 * 128) WD ⟨p, 0, none⟩ (fun e _ => absurd e.symm hgp)).trans SD.out.1, SD.out.2.setCells_other hgn.symm _ _⟩)
        go_simp
        refine hK.out _ _ SE.out (fun S1 => ?_)
        clear hK K S1
        refine wpAnyH_done (by kernel_rfl) ?_ _
        have c5 := pend_last x hx8 SE.out.2
        have h8 := Lib.hid (h7.out.below (Below.refl _ _).drew)
        clear h7 SD SE hth
        generalize (WD.setCells g (x.1 * 128) (tb x.2)) = W7 at h8 c9 q9 cz c5 FR7 ⊢
        go_wp2_with fail
        go_region
        all_goals
          go_wp2_with fail
          go_roundw
          case rel => exact ⟨k + 1, by omega, by go_num, h8.out, FR7.out⟩
          case measure => simp [intOf]; omega
      | false =>
        go_wp2_with (first
          | ((with_reducible show wpList _ _ _ ({ dst := _, op := .load 76 _, type := _, pos := _, after := _, guard := _ } :: _) _ _); refine wpList_load_mid rfl 76 _ rfl g2 (k * 129) rfl (pend x) _ HRG.out Tryz.underlying76 rfl (by rw [show (pend x).length = 129 from by simpa using P9.out]; kernel_rfl) ?_)
          | ((with_reducible show wpList _ _ _ ({ dst := _, op := .store 76 _ _, type := _, pos := _, after := _, guard := _ } :: _) _ _); refine wpList_store_st rfl 76 _ _ rfl wr.heap.size (pend x).toArray rfl rfl _ HZ.out (by rw [P9.out]; kernel_rfl) (by rw [P9.out]; exact pzero_size) P1.out ?_; intro w6 hw6 k6; have B6 := Lib.hid (show Below wr.heap.size wr w6 from by rw [hw6]; exact below_row ((Below.refl _ wr).alloc (Nat.le_refl _) _) (Nat.le_refl _) _); have K6 := Lib.hid k6; clear hw6 k6)
          | (go_at_call 27; go_must (refine (HCf.out _ (frm_below HFR.out B6.out)).mono ?_); rintro e w7 ⟨rfl, rfl⟩))
        have hP6 := HR.out.below B6.out
        have hf6 := frm_below HFR.out B6.out
        have lrz := hP6.lr
        rw [HLV.out] at lrz
        have c9 := lrz.cellAt x.1 (by rw [← HN.out]; omega)
        rw [List.getElem?_eq_getElem (by rw [zcells_length, ← HN.out]; exact hx1)] at c9
        have q9 := lrz.frozenAt x.1
        have cz : w6.cell? ⟨p, 2, none⟩ = some (.slice (some ⟨gl, 0, none⟩) n cl) := by rw [HN.out, ← HLV.out]; exact hP6.st.cell rfl
        have c5 := pend_last x hx8 K6.out
        have h8 := Lib.hid ((PM.no (cl := cl) hP6 HA.out x HX.out HFK.out.symm HLV.out).below (Below.refl _ _).drew)
        have FR7 := Lib.hid ((hf6.setCell (p := ⟨gl, x.1, none⟩) (.inl (.inr (by rw [HLV.out]; rfl))) (.int .i64 0)).drew)
        have hx0 : (0 : Int) ≤ (x.1 : Int) := by omega
        have hx2 : (x.1 : Int) < (n : Int) := by omega
        clear hf6 hP6 lrz
        go_region
        all_goals
          go_wp2_with fail
          go_roundw
          case rel => exact ⟨k + 1, by omega, by go_num, h8.out, FR7.out⟩
          case measure => simp [intOf]; omega
    · obtain rfl : k = m := by omega
      have c1 : wr.cell? ⟨p, 1, none⟩ = some wv := hr.st.cell rfl
      have q1 := hr.st.free 1
      clear hr
      go_wp2_with fail
      go_end0
      rw [HM.out] at HR
      exact ⟨rfl, HR.out.done HA.out HD.out.1 HD.out.2.1 HD.out.2.2, (HFR.out.wide fun j hj => .inr hj).setCell (p := ⟨p, 1, none⟩) (.inl (.inl rfl)) _⟩
set_option maxRecDepth 100000 in
set_option maxHeartbeats 1000000 in
theorem dsettle_some (B p : Nat) (q : Nat) (kv wv lv : Value) (is : Bool) (N : Int) (D : DS) (f : Nat → Bool) (w : World) (h : PD0 B p kv wv lv is N D w)
    (hf : ∀ (k : Nat) (W : World), k < D.wait.length → Frm (fun j => kv.ownBlock = some j ∨ lv.ownBlock = some j) w W → Calls Tryz.prog 30 #[.int .i64 k, .pointer (some ⟨q, 0, none⟩)] W fun e w' => e = .returned (.bool (f k)) ∧ W = w') :
    Calls Tryz.prog 26 #[.pointer (some ⟨p, 0, none⟩), .func (.func 30) #[] #[.pointer (some ⟨q, 0, none⟩)]] w fun e w' => e = .returned (.tuple #[]) ∧
      PD0 B p kv (.slice none 0 0) lv is N { D with kept := keepAll D.kept (picked f 0 D.wait), wait := [] } w' ∧ Frm (fun j => j = p ∨ kv.ownBlock = some j ∨ lv.ownBlock = some j) w w' := by
  have HA := Lib.hid (⟨h.kp, h.wp, h.lp, h.kw, h.kl, h.wl, h.bp⟩ : Apart3 B p kv wv lv)
  have HD := Lib.hid (And.intro h.fz (And.intro h.ok h.pos))
  obtain ⟨m, hm⟩ : ∃ m, m = D.wait.length := ⟨_, rfl⟩
  obtain ⟨n, hn⟩ : ∃ n, n = D.kept.length := ⟨_, rfl⟩
  have hml : m ≤ 9223372036854775807 := by rw [hm]; exact own_len h.wr
  have hnl : n ≤ 9223372036854775807 := by rw [hn]; exact own_len h.kr
  obtain ⟨ao, cw, hwv⟩ := own_slice h.wr
  rw [← hm] at hwv
  obtain ⟨g, cap, hkv, _, _, _⟩ := own_some h.kr (by have := h.pos; omega)
  obtain ⟨gl, cl, hlv, _, _, _⟩ := own_some h.lr (by have := h.pos; omega)
  have hgp : g ≠ p := fun e => h.kp (by rw [hkv]; simp [Value.ownBlock, e])
  have hpl := h.st.lt
  have hgs : g < w.heap.size := (h.kr.lt g (by rw [hkv]; rfl)).2
  have c1 : w.cell? ⟨p, 1, none⟩ = some (.slice ao m cw) := by rw [← hwv]; exact h.st.cell rfl
  have HS := Lib.hid (PM.start (f := f) h)
  rw [← hm] at hf
  have HF := Lib.hid hf
  have HWV := Lib.hid hwv
  have HM := Lib.hid hm
  have HN := Lib.hid hn
  have HKV := Lib.hid hkv
  have HLV := Lib.hid hlv
  clear h hf hwv hm hn hkv hlv
  go_enter Tryz.func26, Tryz.ntmps26
  go_wp2_with fail
  go_loopw [11] (fun c wr => ∃ k : Nat, k ≤ m ∧ c = .int .i64 k ∧ PM B p kv wv lv is N D f k wr ∧ Frm (fun j => kv.ownBlock = some j ∨ lv.ownBlock = some j) w wr) (fun c _ => m - (intOf c).toNat)
  case atStart => exact ⟨0, Nat.zero_le _, rfl, HS.out, Frm.refl _ _⟩
  case round =>
    obtain ⟨k, hk, rfl, hr, hfr⟩ := hrel
    have HR := Lib.hid hr
    have HFR := Lib.hid hfr
    have hws := hfr.size
    clear hfr
    by_cases hlt : k < m
    · obtain ⟨x, hx⟩ : ∃ x, D.wait[k]? = some x := ⟨_, List.getElem?_eq_getElem (by rw [← HM.out]; exact hlt)⟩
      have hxm : x ∈ D.wait := List.mem_of_getElem? hx
      have hx1 : x.1 < n := by rw [HN.out]; exact HD.out.2.1.inn x hxm
      have hx8 : x.2.size = 128 := HD.out.2.1.fulw x hxm
      obtain ⟨g2, cap2, hwv2, hg2, _, _⟩ := own_some hr.wr (by rw [← HM.out]; omega)
      have eao : ao = some ⟨g2, 0, none⟩ := by have e := HWV.out.symm.trans hwv2; injection e
      have hrg : wr.rangeAt g2 (k * 129) (pend x) := by
        have hq := hr.wr
        rw [hwv2] at hq
        exact own_range hq (k * 129) (pend x) (flat_at pend 129 D.wait (fun y hy => pend_length y (HD.out.2.1.fulw y hy)) k x hx)
      subst eao
      have HRG := Lib.hid hrg
      have HX := Lib.hid hx
      have P9 := Lib.hid (show (pend x).toArray.size = 129 from by simpa using pend_length x hx8)
      have P1 := Lib.hid (all_oneCell_toArray (pend_one x))
      have C8 := Lib.hid (show (tb x.2).length = 128 from by rw [tb_length, hx8])
      obtain ⟨nb, hnb⟩ : ∃ nb, nb = wr.heap.size := ⟨_, rfl⟩
      have HZ := Lib.hid (St.new wr 76 Tryz.zeroCells76)
      have HCf := Lib.hid (fun W hW => HF.out k W hlt hW)
      have hgn : g ≠ nb := by omega
      clear hx hxm hwv2 hg2 hrg hr
      obtain ⟨fk, hfk⟩ : ∃ fk, fk = f k := ⟨_, rfl⟩
      rw [← hfk] at HCf
      have HFK := Lib.hid hfk
      clear hfk
      have HNB := Lib.hid hnb
      cases fk with
      | true =>
        go_wp2_with (first
          | ((with_reducible show wpList _ _ _ ({ dst := _, op := .load 76 _, type := _, pos := _, after := _, guard := _ } :: _) _ _); refine wpList_load_mid rfl 76 _ rfl g2 (k * 129) rfl (pend x) _ HRG.out Tryz.underlying76 rfl (by rw [show (pend x).length = 129 from by simpa using P9.out]; kernel_rfl) ?_)
          | ((with_reducible show wpList _ _ _ ({ dst := _, op := .store 76 _ _, type := _, pos := _, after := _, guard := _ } :: _) _ _); refine wpList_store_st rfl 76 _ _ rfl wr.heap.size (pend x).toArray rfl rfl _ HZ.out (by rw [P9.out]; kernel_rfl) (by rw [P9.out]; exact pzero_size) P1.out ?_; intro w6 hw6 k6; have B6 := Lib.hid (show Below wr.heap.size wr w6 from by rw [hw6]; exact below_row ((Below.refl _ wr).alloc (Nat.le_refl _) _) (Nat.le_refl _) _); have K6 := Lib.hid k6; clear hw6 k6)
          | (go_at_call 30; go_must (refine (HCf.out _ (frm_below HFR.out B6.out)).mono ?_); rintro e w7 ⟨rfl, rfl⟩))
        have hP6 := HR.out.below B6.out
        have SD := Lib.hid (show (w6.drew).cell? ⟨p, 0, none⟩ = some (.slice (some ⟨g, 0, none⟩) n cap) ∧ St 76 nb (pend x).toArray w6.drew from ⟨by rw [HN.out, ← HKV.out]; exact hP6.st.cell rfl, by rw [HNB.out]; exact K6.out⟩)
        have hth : (w6.drew).there g (x.1 * 128) 128 := by
          have hq := hP6.kr
          rw [HKV.out] at hq
          exact own_there (w := w6.drew) hq (x.1 * 128) 128 (by rw [← HN.out]; omega)
        have h7 := Lib.hid (PM.yes (cap := cap) (cl := cl) (hP6.below (Below.refl _ w6).drew) HA.out HD.out.2.1 x HX.out HFK.out.symm HKV.out HLV.out)
        have hf6 := frm_below HFR.out B6.out
        have HF6 := Lib.hid hf6
        have HP6 := Lib.hid hP6
        have lrz := own_setCells_other (show w6.drew.ownsRow B 3 1 lv D.kept.length (zcells D.kept.length D.wait k) from hP6.lr) (g := g) (fun e => HA.out.kl g (by rw [HKV.out]; rfl) e) (x.1 * 128) (tb x.2)
        have stz := (show St 48 p (pcs kv wv lv is N D) w6.drew from hP6.st).setCells_other hgp.symm (x.1 * 128) (tb x.2)
        rw [HLV.out] at lrz
        have c9 := lrz.cellAt x.1 (by rw [← HN.out]; omega)
        rw [List.getElem?_eq_getElem (by rw [zcells_length, ← HN.out]; exact hx1)] at c9
        have q9 := lrz.frozenAt x.1
        have cz : (w6.drew.setCells g (x.1 * 128) (tb x.2)).cell? ⟨p, 2, none⟩ = some (.slice (some ⟨gl, 0, none⟩) n cl) := by rw [HN.out, ← HLV.out]; exact stz.cell rfl
        have hx0 : (0 : Int) ≤ (x.1 : Int) := by omega
        have hx2 : (x.1 : Int) < (n : Int) := by omega
        have FR7 := Lib.hid (((Frm.setCells (F := fun j => kv.ownBlock = some j ∨ lv.ownBlock = some j) (g := g) (.inl (.inl (by rw [HKV.out]; rfl))) (tb x.2) (x.1 * 128) _ hf6.drew).setCell (p := ⟨gl, x.1, none⟩) (.inl (.inr (by rw [HLV.out]; rfl))) (.int .i64 0)).drew)
        clear hf6 hP6 lrz stz hnb
        rw [← HNB.out]
        refine wp_region_held (S := fun w' => w'.cell? ⟨p, 0, none⟩ = some (.slice (some ⟨g, 0, none⟩) n cap) ∧ St 76 nb (pend x).toArray w') (by kernel_rfl) ?_
        change wpAnyH _ _ _ _ _ _ _ _ (World.drew _)
        generalize World.drew w6 = WD at SD hth h7 c9 q9 cz FR7 ⊢
        refine wpAnyH_take (i := 6) (v := (.pointer (some ⟨nb, 0, none⟩))) rfl (by kernel_rfl) (by kernel_rfl) (by kernel_rfl) (fun _ _ _ h => h) (Or.inl ⟨by rfl, fun w' hS => ?_⟩) SD.out ?_
        · clear hS; go_simp
        refine wpAnyH_take (i := 7) (v := .agg (tb x.2).toArray) rfl (by kernel_rfl) (by kernel_rfl) (by kernel_rfl) (fun _ _ _ h => h) (yieldsIf_load_mid (by rfl) 74 (.tmp 25) rfl nb 0 (by simp [Act.eval, Act.put]) (tb x.2) _ (fun w' hS => (pend_range hS.2).1) Tryz.underlying74 rfl (by rw [C8.out]; kernel_rfl)) SD.out ?_
        refine wpAnyH_take (i := 4) (v := (.pointer (some ⟨nb, 128, none⟩))) rfl (by kernel_rfl) (by kernel_rfl) (by kernel_rfl) (fun _ _ _ h => h) (Or.inl ⟨by rfl, fun w' hS => ?_⟩) SD.out ?_
        · clear hS; go_simp
        refine wpAnyH_take (i := 5) (v := (.int .i64 (x.1 : Int))) rfl (by kernel_rfl) (by kernel_rfl) (by kernel_rfl) (fun _ _ _ h => h) (Or.inl ⟨by rfl, fun w' hS => ?_⟩) SD.out ?_
        · have c5 := pend_last x hx8 hS.2; clear hS; go_simp
        refine wpAnyH_take (i := 0) (v := (.pointer (some ⟨p, 0, none⟩))) rfl (by kernel_rfl) (by kernel_rfl) (by kernel_rfl) (fun _ _ _ h => h) (Or.inl ⟨by rfl, fun w' hS => ?_⟩) SD.out ?_
        · clear hS; go_simp
        refine wpAnyH_take (i := 1) (v := (.pointer (some ⟨p, 0, none⟩))) rfl (by kernel_rfl) (by kernel_rfl) (by kernel_rfl) (fun _ _ _ h => h) (Or.inl ⟨by rfl, fun w' hS => ?_⟩) SD.out ?_
        · clear hS; go_simp
        refine wpAnyH_take (i := 2) (v := (.pointer (some ⟨p, 0, none⟩))) rfl (by kernel_rfl) (by kernel_rfl) (by kernel_rfl) (fun _ _ _ h => h) (Or.inl ⟨by rfl, fun w' hS => ?_⟩) SD.out ?_
        · clear hS; go_simp
        refine wpAnyH_take (i := 3) (v := (.slice (some ⟨g, 0, none⟩) n cap)) rfl (by kernel_rfl) (by kernel_rfl) (by kernel_rfl) (fun _ _ _ h => h) (Or.inl ⟨by rfl, fun w' hS => ?_⟩) SD.out ?_
        · have c5 := hS.1; clear hS; go_simp
        refine wpAnyH_ready (rs := [8]) (by kernel_rfl) (by simp) ?_
        refine AllReadyH.cons rfl (fun K hK => ?_) AllReadyH.nil
        go_simp
        refine hK.out _ _ SD.out (fun S1 => ?_)
        clear hK K S1
        refine wpAnyH_ready (rs := [9]) (by kernel_rfl) (by simp) ?_
        refine AllReadyH.cons rfl (fun K hK => ?_) AllReadyH.nil
        refine step_store_mid (by rfl) 74 (.tmp 27) (.tmp 26) rfl g (x.1 * 128) (tb x.2).toArray (by simp [Act.eval]) (by simp [Act.eval]) (by rw [show (tb x.2).toArray.size = 128 from by simpa using C8.out]; exact hth) (by rw [show (tb x.2).toArray.size = 128 from by simpa using C8.out]; kernel_rfl) (tb_ones x.2) ?_
        have SE := Lib.hid (show (WD.setCells g (x.1 * 128) (tb x.2)).cell? ⟨p, 0, none⟩ = some (.slice (some ⟨g, 0, none⟩) n cap) ∧ St 76 nb (pend x).toArray (WD.setCells g (x.1 * 128) (tb x.2)) from ⟨(World.cell?_setCells_out g (tb x.2) (x.1 * 128) WD ⟨p, 0, none⟩ (fun e _ => absurd e.symm hgp)).trans SD.out.1, SD.out.2.setCells_other hgn.symm _ _⟩)
        go_simp
        refine hK.out _ _ SE.out (fun S1 => ?_)
        clear hK K S1
        refine wpAnyH_done (by kernel_rfl) ?_ _
        have c5 := pend_last x hx8 SE.out.2
        have h8 := Lib.hid (h7.out.below (Below.refl _ _).drew)
        clear h7 SD SE hth
        generalize (WD.setCells g (x.1 * 128) (tb x.2)) = W7 at h8 c9 q9 cz c5 FR7 ⊢
        go_wp2_with fail
        go_region
        all_goals
          go_wp2_with fail
          go_roundw
          case rel => exact ⟨k + 1, by omega, by go_num, h8.out, FR7.out⟩
          case measure => simp [intOf]; omega
      | false =>
        go_wp2_with (first
          | ((with_reducible show wpList _ _ _ ({ dst := _, op := .load 76 _, type := _, pos := _, after := _, guard := _ } :: _) _ _); refine wpList_load_mid rfl 76 _ rfl g2 (k * 129) rfl (pend x) _ HRG.out Tryz.underlying76 rfl (by rw [show (pend x).length = 129 from by simpa using P9.out]; kernel_rfl) ?_)
          | ((with_reducible show wpList _ _ _ ({ dst := _, op := .store 76 _ _, type := _, pos := _, after := _, guard := _ } :: _) _ _); refine wpList_store_st rfl 76 _ _ rfl wr.heap.size (pend x).toArray rfl rfl _ HZ.out (by rw [P9.out]; kernel_rfl) (by rw [P9.out]; exact pzero_size) P1.out ?_; intro w6 hw6 k6; have B6 := Lib.hid (show Below wr.heap.size wr w6 from by rw [hw6]; exact below_row ((Below.refl _ wr).alloc (Nat.le_refl _) _) (Nat.le_refl _) _); have K6 := Lib.hid k6; clear hw6 k6)
          | (go_at_call 30; go_must (refine (HCf.out _ (frm_below HFR.out B6.out)).mono ?_); rintro e w7 ⟨rfl, rfl⟩))
        have hP6 := HR.out.below B6.out
        have hf6 := frm_below HFR.out B6.out
        have lrz := hP6.lr
        rw [HLV.out] at lrz
        have c9 := lrz.cellAt x.1 (by rw [← HN.out]; omega)
        rw [List.getElem?_eq_getElem (by rw [zcells_length, ← HN.out]; exact hx1)] at c9
        have q9 := lrz.frozenAt x.1
        have cz : w6.cell? ⟨p, 2, none⟩ = some (.slice (some ⟨gl, 0, none⟩) n cl) := by rw [HN.out, ← HLV.out]; exact hP6.st.cell rfl
        have c5 := pend_last x hx8 K6.out
        have h8 := Lib.hid ((PM.no (cl := cl) hP6 HA.out x HX.out HFK.out.symm HLV.out).below (Below.refl _ _).drew)
        have FR7 := Lib.hid ((hf6.setCell (p := ⟨gl, x.1, none⟩) (.inl (.inr (by rw [HLV.out]; rfl))) (.int .i64 0)).drew)
        have hx0 : (0 : Int) ≤ (x.1 : Int) := by omega
        have hx2 : (x.1 : Int) < (n : Int) := by omega
        clear hf6 hP6 lrz
        go_region
        all_goals
          go_wp2_with fail
          go_roundw
          case rel => exact ⟨k + 1, by omega, by go_num, h8.out, FR7.out⟩
          case measure => simp [intOf]; omega
    · obtain rfl : k = m := by omega
      have c1 : wr.cell? ⟨p, 1, none⟩ = some wv := hr.st.cell rfl
      have q1 := hr.st.free 1
      clear hr
      go_wp2_with fail
      go_end0
      rw [HM.out] at HR
      exact ⟨rfl, HR.out.done HA.out HD.out.1 HD.out.2.1 HD.out.2.2, (HFR.out.wide fun j hj => .inr hj).setCell (p := ⟨p, 1, none⟩) (.inl (.inl rfl)) _⟩
end Go.Proofs.YtikeckmbfgidhaaGreatDoor
