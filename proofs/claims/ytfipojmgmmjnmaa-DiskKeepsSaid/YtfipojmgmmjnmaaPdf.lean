/- The program's disk: what Write does, its plain part. -/
import Derived.Test.YtfipojmgmmjnmaaPde
import Derived.Lib.LazyBuf
import Derived.Great.FillDense
import Derived.Great.BuildSlice
import Derived.Deep.RegionHeld3
namespace Go.Proofs.Ytfipojmgmmjnmaa
open Go.RowKit

theorem PD0.below {B p : Nat} {kv wv lv : Value} {is : Bool} {N : Int} {D : DS} {w w' : World} (h : PD0 B p kv wv lv is N D w) (b : Below w.heap.size w w') : PD0 B p kv wv lv is N D w' := by
  have f : Frm (fun _ => False) w w' := Frm.of_below b
  exact ⟨f.st h.st (fun e => e), h.fz, h.ok, h.pos, f.own h.kr fun _ _ e => e, f.own h.wr fun _ _ e => e, f.own h.lr fun _ _ e => e, h.kp, h.wp, h.lp, h.kw, h.kl, h.wl, h.bp⟩
theorem St.setMany {T : TypeId} {k : Nat} : ∀ (vs : List Value) (o : Nat) (cs : List Value) (w : World), St T k cs.toArray w → St T k (setMany cs o vs).toArray (w.setCells k o vs)
  | [], _, _, _, h => h
  | v :: r, o, cs, w, h => by
    have h2 := h.set o v
    rw [show cs.toArray.setIfInBounds o v = (cs.set o v).toArray from by simp] at h2
    exact St.setMany r (o + 1) (cs.set o v) _ h2
theorem tb_append (a b : ByteArray) : tb (a ++ b) = tb a ++ tb b := by
  unfold tb
  rw [ByteArray.data_append, Array.toList_append, bc_append]
theorem noughts_add (a b : Nat) : noughts (a + b) = noughts a ++ noughts b := by
  apply ByteArray.ext
  simp [noughts, Array.replicate_append_replicate]
/-- A write that is being made: noughts, and where it goes. -/
def prow (j : Int) : List Value := tb (noughts 128) ++ [Value.int .i64 j]
theorem prow_one (j : Int) : (prow j).toArray.all (·.oneCell') = true := by
  refine all_oneCell_toArray fun v hv => ?_
  rcases List.mem_append.1 hv with hv | hv
  · exact tb_one _ v hv
  · simp at hv; subst hv; rfl
theorem prow_size (j : Int) : (prow j).toArray.size = 129 := by simp [prow, tb_length, noughts_size]
theorem prow_copied (j : Nat) (s : ByteArray) (h : s.size ≤ 128) : setMany (prow j) 0 (tb s) = pend (j, blank s) := by
  unfold prow pend blank
  have e : noughts 128 = noughts s.size ++ noughts (128 - s.size) := by rw [← noughts_add]; congr 1; omega
  rw [e, tb_append, tb_append, List.append_assoc, List.append_assoc]
  exact setMany_mid (tb s) (tb (noughts s.size)) [] _ (by rw [tb_length, tb_length, noughts_size])
theorem built_pend (j : Int) : Try.prog.built 93 [(1, .int .i64 j)] = some (prow j).toArray := by kernel_rfl
theorem pzero_size : Try.zeroCells93.size = 129 := by kernel_rfl
theorem infoPending : (Try.prog.info? 93).map (fun i => (i.zero, i.size, i.bytes)) = some (some (.agg Try.zeroCells93), 129, 136) := by kernel_rfl
theorem run_lit_pend (W : World) (cs : Array Value) (hc : cs.size = 129) : (Instr.buildSlice 56 1 #[(0, .agg cs)]).run Try.prog W = .ok (.slice (some ⟨W.heap.size, 0, none⟩) 1 1) (W.alloc (.cells cs 93)) := by
  obtain ⟨i0, hi, hz0, hz1, hz2⟩ := info_parts infoPending
  refine run_buildSlice W 56 93 1 _ cs i0 _ Try.underlying56 hi hz0 (by rw [hz1]; decide) (by rw [hz1]; decide) ?_
  rw [hz1]
  have h := Great.fill_whole (s := 129) (by decide) [Value.agg cs] ((Array.range (1 * 129)).map ((Value.agg Try.zeroCells93).cells[· % (Value.agg Try.zeroCells93).cells.size]!)) (by intro v hv; simp at hv; subst hv; exact hc) (by simp)
  simp only [List.flatMap_cons, List.flatMap_nil, List.append_nil] at h
  exact h
theorem wpList_copy_str {P : Program} {ops : Array Oper} {rest : List Oper} {o : Oper} {a : Act} {w : World} {Q : Exit → Act → World → Prop} (hgd : o.guard = none) (d s : Operand) (dT sT : TypeId)
    (ho : o.op = .call { callee := .builtin .copy, args := #[d, s], argTypes := #[dT, sT] }) (elem : TypeId) (hu : P.underlying dT = some (.slice elem)) (hz : ∀ w, (Go.sizeOf elem).run P w = .ok 1 w)
    (b off dLen dCap : Nat) (hd : a.eval d = .slice (some ⟨b, off, none⟩) dLen dCap) (t : ByteArray) (hs : a.eval s = .string t) (hle : t.size ≤ dLen) (ht : w.there b off t.size)
    (h : wpList P ops Q rest (a.put o.dst (goInt t.size)) (w.setCells b off (tb t))) : wpList P ops Q (o :: rest) a w := by
  refine wpList_plain hgd fun K hK => ?_
  have hrun := run_copy_string (P := P) w dT sT o.type elem b off dLen dCap t hu hz hle (fun j hj => (ht j hj).1) (fun j hj => (ht j hj).2)
  unfold Oper.wp
  simp [execOp, ho, resolve, invoke, builtin, hd, hs, hrun, Result.andThen]
  exact hK _ _ h
theorem size_u8 : ∀ w, (Go.sizeOf 5).run Try.prog w = .ok 1 w := fun _ => by kernel_rfl
theorem St.there {T : TypeId} {k : Nat} {cs : Array Value} {w : World} (h : St T k cs w) (o n : Nat) (hn : o + n ≤ cs.size) : w.there k o n := fun j hj => by
  refine ⟨?_, h.free _⟩
  rw [h.cell (j := o + j) (v := cs[o + j]'(by omega)) (by simp [Array.getElem?_eq_getElem (show o + j < cs.size by omega)])]
  rfl
/-- A write has been appended to those that wait, and the row of last writes tells it. -/
theorem PD0.pushed {B p : Nat} {kv wv lv : Value} {is : Bool} {N : Int} {D : DS} {w : World} (h : PD0 B p kv wv lv is N D w) (j : Nat) (s : ByteArray) (hj : j < D.kept.length) (hs : s.size = 128) {g cap gl cl : Nat} {w2 : World} (hl : lv = .slice (some ⟨gl, 0, none⟩) D.kept.length cl)
    (h1 : w2.ownsRow B 93 129 (.slice (some ⟨g, 0, none⟩) (D.wait.length + 1) cap) (D.wait.length + 1) (qcells D.wait ++ pend (j, s))) {X : Obj} (hg : (w.drew.alloc X).grownBy w2 wv.ownBlock) (hat : wv.ownBlock = some g ∨ g = w.heap.size + 1) :
    PD0 B p kv (.slice (some ⟨g, 0, none⟩) (D.wait.length + 1) cap) lv is N { D with wait := D.wait ++ [(j, s)] } ((w2.setCell ⟨p, 1, none⟩ (.slice (some ⟨g, 0, none⟩) (D.wait.length + 1) cap)).setCell ⟨gl, j, none⟩ (.int .i64 ((D.wait.length + 1 : Nat) : Int))) ∧
      Frm (fun k => k = p ∨ wv.ownBlock = some k ∨ lv.ownBlock = some k) w ((w2.setCell ⟨p, 1, none⟩ (.slice (some ⟨g, 0, none⟩) (D.wait.length + 1) cap)).setCell ⟨gl, j, none⟩ (.int .i64 ((D.wait.length + 1 : Nat) : Int))) := by
  have hpl := h.st.lt
  have hgl : lv.ownBlock = some gl := by rw [hl]; rfl
  have hgll := (h.lr.lt gl hgl).2
  have f0 : Frm (fun k => wv.ownBlock = some k) w w2 := (((Frm.refl _ w).drew).alloc X).grown hg (fun k hk => .inl hk)
  have hst : St 65 p (pcs kv wv lv is N D) w2 := f0.st h.st h.wp
  have hkr := f0.own h.kr fun k hk => h.kw k hk
  have hlr := f0.own h.lr fun k hk e => h.wl k e hk
  have hgp : g ≠ p := by
    rcases hat with e | e
    · intro e2; subst e2; exact h.wp e
    · omega
  have hggl : g ≠ gl := by
    rcases hat with e | e
    · intro e2; subst e2; exact h.wl g e hgl
    · omega
  have hplp : gl ≠ p := fun e => h.lp (by rw [hgl, e])
  have hkgl : kv.ownBlock ≠ some gl := fun e => h.kl gl e hgl
  refine ⟨⟨(hst.set 1 _).other gl j _ hplp, h.fz, ⟨h.ok.len, ?_, h.ok.full, ?_, h.ok.lo, h.ok.hi⟩, h.pos, ownsRow_setCell_other (ownsRow_setCell_other hkr h.kp _) hkgl _, ?_, ?_, h.kp, by simp [Value.ownBlock]; exact hgp, h.lp, ?_, h.kl, ?_, h.bp⟩, ?_⟩
  · intro x hx
    rcases List.mem_append.1 hx with hx | hx
    · exact h.ok.inn x hx
    · simp at hx; subst hx; exact hj
  · intro x hx
    rcases List.mem_append.1 hx with hx | hx
    · exact h.ok.fulw x hx
    · simp at hx; subst hx; exact hs
  · rw [show ({ D with wait := D.wait ++ [(j, s)] } : DS).wait = D.wait ++ [(j, s)] from rfl, qcells_snoc, List.length_append]
    exact ownsRow_setCell_other (ownsRow_setCell_other h1 (by simp [Value.ownBlock]; exact hgp) _) (by simp [Value.ownBlock]; exact hggl) _
  · rw [show ({ D with wait := D.wait ++ [(j, s)] } : DS).wait = D.wait ++ [(j, s)] from rfl, lcells_snoc]
    have h4 := ownsRow_setCell_other (a := ⟨p, 1, none⟩) hlr h.lp (.slice (some ⟨g, 0, none⟩) (D.wait.length + 1) cap)
    rw [hl] at h4 ⊢
    exact (h4.stored j _).1
  · intro k hk
    simp only [Value.ownBlock, ne_eq, Option.some.injEq]
    rcases hat with e | e
    · intro e2; subst e2; exact h.kw _ hk e
    · have := (h.kr.lt k hk).2; omega
  · intro k hk
    simp only [Value.ownBlock, Option.some.injEq] at hk
    subst hk
    rw [hgl]
    simpa using fun e : gl = g => hggl e.symm
  · refine ((f0.wide fun k hk => .inr (.inl hk)).setCell (p := ⟨p, 1, none⟩) (.inl (.inl rfl)) _).setCell (p := ⟨gl, j, none⟩) (.inl (.inr (.inr hgl))) _
theorem yieldsIf_load_st {P : Program} {ops : Array Oper} {S : World → Prop} {op : Oper} {a : Act} (hw : Region.wanted op (yielded ops a.tmps) = true) (ty : TypeId) (x : Operand) (ho : op.op = .load ty x)
    (k : Nat) (hx : a.eval x = .pointer (some ⟨k, 0, none⟩)) (T : TypeId) (cs : Array Value) (hS : ∀ w, S w → St T k cs w) (d : TypeDesc)
    (hu : P.underlying ty = some d) (hd : (match d with | .struct _ | .array _ _ => true | _ => false) = true) (hi : (P.info? ty).map (·.size) = some cs.size) : YieldsIf P ops S op (.agg cs) a :=
  .inl ⟨hw, fun w hw' => by
    unfold execOp
    simp only [ho, hx, Instr.loadAt, Instr.sureAddr, Sem.run_bind, Sem.run_pure, Result.andThen_ok, run_loadVar_row w k T ty cs (0, 0) d (hS w hw') hu hd hi]⟩
theorem step_lit {P : Program} {ops : Array Oper} {o : Oper} {a : Act} {w w' : World} {K : Act → World → Prop} {Q : Exit → Act → World → Prop} {E : Prop} (hg : o.guard = none) (t : TypeId) (len : Nat) (parts : Array (Nat × Operand)) (ho : o.op = .buildSlice t len parts)
    (vs : Array (Nat × Value)) (v : Value) (hv : parts.toList.map (fun p => (p.1, a.eval p.2)) = vs.toList) (hrun : (Instr.buildSlice t len vs).run P w = .ok v w') (hK : K (a.put o.dst v) w') :
    if Region.wanted o (yielded ops a.tmps) = true then Oper.wp P o a w K Q else E := by
  have hw : Region.wanted o (yielded ops a.tmps) = true := by simp [Region.wanted, hg]
  rw [if_pos hw]
  have e2 : (parts.map fun (i, x) => (i, a.eval x)) = vs := by
    apply Array.toList_inj.1
    rw [← hv, Array.toList_map]
  unfold Oper.wp execOp
  simp only [ho, Sem.run_bind, e2, hrun, Result.andThen_ok]
  exact hK
end Go.Proofs.Ytfipojmgmmjnmaa
