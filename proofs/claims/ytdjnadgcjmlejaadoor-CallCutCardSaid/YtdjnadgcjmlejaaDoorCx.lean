/- Calls: the reference's Check. -/
import Derived.Test.YtdjnadgcjmlejaaDoorCu
import Derived.Test.YtdjnadgcjmlejaaDoorCg
import Derived.Test.YtdjnadgcjmlejaaDoorCm
import Derived.Test.YtdjnadgcjmlejaaDoorAa
import Derived.Deep.QuietTactic
import Derived.BigQuiet
import Derived.Deep.Cut
import Derived.Deep.CutBlock
namespace Go.Proofs.YtdjnadgcjmlejaaDoor
open Go.RowKit Go.Joins

theorem has_at (p : Int) (l : Lt) (w : World) : Calls Tryd.prog 46 #[.string (fstr p), .int .u8 l.b.toNat] w fun e w' => e = .returned (.bool (decide (l ∈ flds p))) ∧ w' = w := by
  refine (cfhas_any (fstr p) l.b w (by rw [fstr_size]; have := flds_len p; omega)).mono ?_
  rintro e w' ⟨rfl, rfl⟩
  rw [fstr_has]
  exact ⟨rfl, rfl⟩
theorem text_at (c : Cl) (l : Lt) (s : ByteArray) (m : Nat) (h1 : okL l c = decide (s.size ≤ m)) (h2 : eqL l c (Cl.new 0) ↔ s = ⟨#[]⟩) (w : World) :
    Calls Tryd.prog 45 #[.bool (decide (l ∈ flds c.proc)), .string s, .int .i64 m] w fun e w' => e = .returned (.bool (oneB l c)) ∧ w' = w := by
  refine (cftext_any _ s m w).mono ?_
  rintro e w' ⟨rfl, rfl⟩
  refine ⟨?_, rfl⟩
  unfold oneB
  by_cases h : l ∈ flds c.proc
  · simp only [h, decide_true, if_true]
    rw [h1]
    congr 2
    exact decide_eq_decide.2 (by omega)
  · simp only [h, decide_false, Bool.false_eq_true, if_false]
    congr 2
    exact decide_eq_decide.2 h2.symm
theorem num_at (c : Cl) (l : Lt) (n m : Int) (h1 : okL l c = okIn n m) (h2 : eqL l c (Cl.new 0) ↔ n = 0) (w : World) :
    Calls Tryd.prog 47 #[.bool (decide (l ∈ flds c.proc)), .int .i64 n, .int .i64 m] w fun e w' => e = .returned (.bool (oneB l c)) ∧ w' = w := by
  refine (cfnum_any _ n m w).mono ?_
  rintro e w' ⟨rfl, rfl⟩
  refine ⟨?_, rfl⟩
  unfold oneB
  by_cases h : l ∈ flds c.proc
  · simp only [h, decide_true, if_true]
    rw [h1]
  · simp only [h, decide_false, Bool.false_eq_true, if_false]
    congr 2
    exact decide_eq_decide.2 h2.symm

def vsS (c : Cl) : List Value := c.set.vs
def vsG (c : Cl) : List Value := c.guard.vs
def zvS : Array Value := Ps.zero.vs.toArray
def zvG : Array Value := Po.zero.vs.toArray
theorem rangeS (c : Cl) {cs : Array Value} (hk : cs = c.arr) {k : Nat} {W : World} (h : St 30 k cs W) : W.rangeAt k 9 (vsS c) := by
  have e : (c.arr.extract 9 (9 + 10)).toList = vsS c := by kernel_rfl
  rw [← e, ← hk]
  exact World.rangeAt_of_block h 9 10
theorem rangeG (c : Cl) {cs : Array Value} (hk : cs = c.arr) {k : Nat} {W : World} (h : St 30 k cs W) : W.rangeAt k 19 (vsG c) := by
  have e : (c.arr.extract 19 (19 + 2)).toList = vsG c := by kernel_rfl
  rw [← e, ← hk]
  exact World.rangeAt_of_block h 19 2
theorem askS (c : Cl) (w : World) : Calls Tryd.prog 48 #[.agg (vsS c).toArray] w fun e w' => e = .returned (.bool (okPs c.set)) ∧ Below w.heap.size w w' := afSet_any c.set w
theorem askG (c : Cl) (w : World) : Calls Tryd.prog 49 #[.agg (vsG c).toArray, .int .i64 9223372036854775807] w fun e w' => e = .returned (.bool (okPo c.guard most64)) ∧ Below w.heap.size w w' := afOption_any c.guard.is c.guard.n most64 w
theorem builtS : Tryd.prog.built 28 [] = some zvS := by kernel_rfl
theorem builtG : Tryd.prog.built 26 [] = some zvG := by kernel_rfl
set_option maxRecDepth 100000 in
theorem eq0S (c : Cl) (w : World) : (binOp .eql 28 (.agg (vsS c).toArray) (.agg zvS)).run Tryd.prog w = .ok (.bool (decide (c.set = Ps.zero))) w := by
  rw [run_eql_struct, show (10000 : Nat) = 9997 + 3 from rfl]
  have := eq_set c.set Ps.zero 9997 w
  rw [show (Op.equalIn (9997 + 3) 28 (.agg (vsS c).toArray) (.agg zvS)).run Tryd.prog w = .ok (decide (c.set = Ps.zero)) w from this]
  rfl
set_option maxRecDepth 100000 in
theorem eq0G (c : Cl) (w : World) : (binOp .eql 26 (.agg (vsG c).toArray) (.agg zvG)).run Tryd.prog w = .ok (.bool (decide (c.guard = Po.zero))) w := by
  rw [run_eql_struct, show (10000 : Nat) = 9998 + 2 from rfl]
  have := eq_opt c.guard Po.zero 9998 w
  rw [show (Op.equalIn (9998 + 2) 26 (.agg (vsG c).toArray) (.agg zvG)).run Tryd.prog w = .ok (decide (c.guard = Po.zero)) w from this]
  rfl
theorem oneS (c : Cl) : oneB .s c = (okPs c.set && (decide (.s ∈ flds c.proc) || decide (c.set = Ps.zero))) := by
  unfold oneB
  by_cases h : Lt.s ∈ flds c.proc
  · simp [h, okL]
  · by_cases hz : c.set = Ps.zero
    · have h2 : eqL .s c (Cl.new 0) := hz
      simp only [h, if_false, decide_false, Bool.false_or, hz, decide_true, Bool.and_true, h2]
      decide
    · have h2 : ¬ eqL .s c (Cl.new 0) := hz
      simp only [h, if_false, decide_false, Bool.false_or, hz, Bool.and_false, h2]
theorem oneG (c : Cl) : oneB .g c = (okPo c.guard most64 && (decide (.g ∈ flds c.proc) || decide (c.guard = Po.zero))) := by
  unfold oneB
  by_cases h : Lt.g ∈ flds c.proc
  · simp [h, okL]
  · by_cases hz : c.guard = Po.zero
    · have h2 : eqL .g c (Cl.new 0) := hz
      simp only [h, if_false, decide_false, Bool.false_or, hz, decide_true, Bool.and_true, h2]
      decide
    · have h2 : ¬ eqL .g c (Cl.new 0) := hz
      simp only [h, if_false, decide_false, Bool.false_or, hz, Bool.and_false, h2]
theorem wpList_load_stg {P : Program} {ops : Array Oper} {rest : List Oper} {o : Oper} {a : Act} {w : World} {Q : Exit → Act → World → Prop} (hw : Region.wanted o (yielded ops a.tmps) = true) (ty : TypeId) (x : Operand) (ho : o.op = .load ty x)
    (k : Nat) (hx : a.eval x = .pointer (some ⟨k, 0, none⟩)) (T : TypeId) (cs : Array Value) (hst : St T k cs w) (d : TypeDesc)
    (hu : P.underlying ty = some d) (hd : (match d with | .struct _ | .array _ _ => true | _ => false) = true) (hi : (P.info? ty).map (·.size) = some cs.size)
    (h : wpList P ops Q rest (a.put o.dst (.agg cs)) w) : wpList P ops Q (o :: rest) a w :=
  wpList_step fun K hK => by rw [if_pos hw]; exact wp_load_row ty x ho k hx T cs (0, 0) d hst hu hd hi (hK _ _ h)
theorem wpList_load_midg {P : Program} {ops : Array Oper} {rest : List Oper} {o : Oper} {a : Act} {w : World} {Q : Exit → Act → World → Prop} (hw : Region.wanted o (yielded ops a.tmps) = true) (ty : TypeId) (x : Operand) (ho : o.op = .load ty x)
    (b n : Nat) (hx : a.eval x = .pointer (some ⟨b, n, none⟩)) (cs : List Value) (hc : w.rangeAt b n cs) (d : TypeDesc)
    (hu : P.underlying ty = some d) (hd : d.isRow = true) (hi : (P.info? ty).map (·.size) = some cs.length)
    (h : wpList P ops Q rest (a.put o.dst (.agg cs.toArray)) w) : wpList P ops Q (o :: rest) a w :=
  wpList_step fun K hK => by rw [if_pos hw]; exact wp_load_mid ty x ho b n hx cs d hc hu hd hi (hK _ _ h)
theorem wpList_build_asg {P : Program} {ops : Array Oper} {rest : List Oper} {o : Oper} {a : Act} {w : World} {Q : Exit → Act → World → Prop} (hw : Region.wanted o (yielded ops a.tmps) = true) (t : TypeId) (parts : Array (Nat × Operand)) (ho : o.op = .build t parts)
    (row : Array Value) (hf : P.built t (parts.toList.map fun p => (p.1, a.eval p.2)) = some row)
    (h : wpList P ops Q rest (a.put o.dst (.agg row)) w) : wpList P ops Q (o :: rest) a w := by
  have e2 : (parts.map fun (i, x) => (i, a.eval x)).toList = parts.toList.map fun p => (p.1, a.eval p.2) := by rw [Array.toList_map]
  refine wpList_step fun K hK => ?_
  rw [if_pos hw]
  refine wp_build t parts ho (by rw [e2, hf]; rfl) (hK _ _ ?_)
  rw [e2, hf]
  exact h

set_option maxRecDepth 100000 in
set_option maxHeartbeats 16000000 in
theorem cfCheck_any (c : Cl) (w : World) : Calls Tryd.prog 22 #[.agg c.arr] w fun e w' => e = .returned (.bool (okB c)) ∧ Below w.heap.size w w' := by
  have HF := Lib.hid (fun W => cfFields_any c.proc W)
  have hall : okB c = ((oneB .f c && (oneB .F c && (oneB .n c && (oneB .N c && (oneB .t c && oneB .d c))))) && ((oneB .o c && (oneB .c c && (oneB .h c && (oneB .k c && oneB .v c)))) && (oneB .s c && oneB .g c))) := by
    unfold okB allL
    simp only [List.all_cons, List.all_nil, Bool.and_true, Bool.and_assoc]
  rw [hall]
  clear hall
  have st0 := Lib.hid (St.new w 30 c.arr)
  have c0 : (w.alloc (.cells c.arr 30 (0, 0))).cell? ⟨w.heap.size, 0, none⟩ = some (.int .i64 c.proc) := st0.out.cell rfl
  have h_f := fun W => has_at c.proc .f W
  have t_f := fun W => text_at c .f c.fh 64 rfl Iff.rfl W
  have h_F := fun W => has_at c.proc .F W
  have t_F := fun W => text_at c .F c.fh2 64 rfl Iff.rfl W
  have h_n := fun W => has_at c.proc .n W
  have t_n := fun W => text_at c .n c.name 255 rfl Iff.rfl W
  have h_N := fun W => has_at c.proc .N W
  have t_N := fun W => text_at c .N c.name2 255 rfl Iff.rfl W
  have h_t := fun W => has_at c.proc .t W
  have t_t := fun W => text_at c .t c.text 255 rfl Iff.rfl W
  have h_d := fun W => has_at c.proc .d W
  have t_d := fun W => text_at c .d c.data 256 rfl Iff.rfl W
  have h_o := fun W => has_at c.proc .o W
  have t_o := fun W => num_at c .o c.offset 9223372036854775807 rfl Iff.rfl W
  have h_c := fun W => has_at c.proc .c W
  have t_c := fun W => num_at c .c c.count 4294967295 rfl Iff.rfl W
  have h_h := fun W => has_at c.proc .h W
  have t_h := fun W => num_at c .h c.how 4294967295 rfl Iff.rfl W
  have h_k := fun W => has_at c.proc .k W
  have t_k := fun W => num_at c .k c.cookie 9223372036854775807 rfl Iff.rfl W
  have h_v := fun W => has_at c.proc .v W
  have t_v := fun W => num_at c .v c.verf 9223372036854775807 rfl Iff.rfl W
  have h_s := fun W => has_at c.proc .s W
  have h_g := fun W => has_at c.proc .g W
  obtain ⟨b_f, hb⟩ : ∃ b, b = decide (Lt.f ∈ flds c.proc) := ⟨_, rfl⟩
  rw [← hb] at h_f t_f
  clear hb
  obtain ⟨q_f, hq⟩ : ∃ b, b = oneB .f c := ⟨_, rfl⟩
  rw [← hq] at t_f ⊢
  clear hq
  obtain ⟨b_F, hb⟩ : ∃ b, b = decide (Lt.F ∈ flds c.proc) := ⟨_, rfl⟩
  rw [← hb] at h_F t_F
  clear hb
  obtain ⟨q_F, hq⟩ : ∃ b, b = oneB .F c := ⟨_, rfl⟩
  rw [← hq] at t_F ⊢
  clear hq
  obtain ⟨b_n, hb⟩ : ∃ b, b = decide (Lt.n ∈ flds c.proc) := ⟨_, rfl⟩
  rw [← hb] at h_n t_n
  clear hb
  obtain ⟨q_n, hq⟩ : ∃ b, b = oneB .n c := ⟨_, rfl⟩
  rw [← hq] at t_n ⊢
  clear hq
  obtain ⟨b_N, hb⟩ : ∃ b, b = decide (Lt.N ∈ flds c.proc) := ⟨_, rfl⟩
  rw [← hb] at h_N t_N
  clear hb
  obtain ⟨q_N, hq⟩ : ∃ b, b = oneB .N c := ⟨_, rfl⟩
  rw [← hq] at t_N ⊢
  clear hq
  obtain ⟨b_t, hb⟩ : ∃ b, b = decide (Lt.t ∈ flds c.proc) := ⟨_, rfl⟩
  rw [← hb] at h_t t_t
  clear hb
  obtain ⟨q_t, hq⟩ : ∃ b, b = oneB .t c := ⟨_, rfl⟩
  rw [← hq] at t_t ⊢
  clear hq
  obtain ⟨b_d, hb⟩ : ∃ b, b = decide (Lt.d ∈ flds c.proc) := ⟨_, rfl⟩
  rw [← hb] at h_d t_d
  clear hb
  obtain ⟨q_d, hq⟩ : ∃ b, b = oneB .d c := ⟨_, rfl⟩
  rw [← hq] at t_d ⊢
  clear hq
  obtain ⟨b_o, hb⟩ : ∃ b, b = decide (Lt.o ∈ flds c.proc) := ⟨_, rfl⟩
  rw [← hb] at h_o t_o
  clear hb
  obtain ⟨q_o, hq⟩ : ∃ b, b = oneB .o c := ⟨_, rfl⟩
  rw [← hq] at t_o ⊢
  clear hq
  obtain ⟨b_c, hb⟩ : ∃ b, b = decide (Lt.c ∈ flds c.proc) := ⟨_, rfl⟩
  rw [← hb] at h_c t_c
  clear hb
  obtain ⟨q_c, hq⟩ : ∃ b, b = oneB .c c := ⟨_, rfl⟩
  rw [← hq] at t_c ⊢
  clear hq
  obtain ⟨b_h, hb⟩ : ∃ b, b = decide (Lt.h ∈ flds c.proc) := ⟨_, rfl⟩
  rw [← hb] at h_h t_h
  clear hb
  obtain ⟨q_h, hq⟩ : ∃ b, b = oneB .h c := ⟨_, rfl⟩
  rw [← hq] at t_h ⊢
  clear hq
  obtain ⟨b_k, hb⟩ : ∃ b, b = decide (Lt.k ∈ flds c.proc) := ⟨_, rfl⟩
  rw [← hb] at h_k t_k
  clear hb
  obtain ⟨q_k, hq⟩ : ∃ b, b = oneB .k c := ⟨_, rfl⟩
  rw [← hq] at t_k ⊢
  clear hq
  obtain ⟨b_v, hb⟩ : ∃ b, b = decide (Lt.v ∈ flds c.proc) := ⟨_, rfl⟩
  rw [← hb] at h_v t_v
  clear hb
  obtain ⟨q_v, hq⟩ : ∃ b, b = oneB .v c := ⟨_, rfl⟩
  rw [← hq] at t_v ⊢
  clear hq
  obtain ⟨b_s, hb_s⟩ : ∃ b, b = decide (Lt.s ∈ flds c.proc) := ⟨_, rfl⟩
  rw [← hb_s] at h_s
  obtain ⟨b_g, hb_g⟩ : ∃ b, b = decide (Lt.g ∈ flds c.proc) := ⟨_, rfl⟩
  rw [← hb_g] at h_g
  have H_f := Lib.hid (show ∀ W, Calls Tryd.prog 46 #[.string (fstr c.proc), .int .u8 102] W fun e w' => e = .returned (.bool b_f) ∧ w' = W from h_f)
  have H_F := Lib.hid (show ∀ W, Calls Tryd.prog 46 #[.string (fstr c.proc), .int .u8 70] W fun e w' => e = .returned (.bool b_F) ∧ w' = W from h_F)
  have H_n := Lib.hid (show ∀ W, Calls Tryd.prog 46 #[.string (fstr c.proc), .int .u8 110] W fun e w' => e = .returned (.bool b_n) ∧ w' = W from h_n)
  have H_N := Lib.hid (show ∀ W, Calls Tryd.prog 46 #[.string (fstr c.proc), .int .u8 78] W fun e w' => e = .returned (.bool b_N) ∧ w' = W from h_N)
  have H_t := Lib.hid (show ∀ W, Calls Tryd.prog 46 #[.string (fstr c.proc), .int .u8 116] W fun e w' => e = .returned (.bool b_t) ∧ w' = W from h_t)
  have H_d := Lib.hid (show ∀ W, Calls Tryd.prog 46 #[.string (fstr c.proc), .int .u8 100] W fun e w' => e = .returned (.bool b_d) ∧ w' = W from h_d)
  have H_o := Lib.hid (show ∀ W, Calls Tryd.prog 46 #[.string (fstr c.proc), .int .u8 111] W fun e w' => e = .returned (.bool b_o) ∧ w' = W from h_o)
  have H_c := Lib.hid (show ∀ W, Calls Tryd.prog 46 #[.string (fstr c.proc), .int .u8 99] W fun e w' => e = .returned (.bool b_c) ∧ w' = W from h_c)
  have H_h := Lib.hid (show ∀ W, Calls Tryd.prog 46 #[.string (fstr c.proc), .int .u8 104] W fun e w' => e = .returned (.bool b_h) ∧ w' = W from h_h)
  have H_k := Lib.hid (show ∀ W, Calls Tryd.prog 46 #[.string (fstr c.proc), .int .u8 107] W fun e w' => e = .returned (.bool b_k) ∧ w' = W from h_k)
  have H_v := Lib.hid (show ∀ W, Calls Tryd.prog 46 #[.string (fstr c.proc), .int .u8 118] W fun e w' => e = .returned (.bool b_v) ∧ w' = W from h_v)
  have H_s := Lib.hid (show ∀ W, Calls Tryd.prog 46 #[.string (fstr c.proc), .int .u8 115] W fun e w' => e = .returned (.bool b_s) ∧ w' = W from h_s)
  have H_g := Lib.hid (show ∀ W, Calls Tryd.prog 46 #[.string (fstr c.proc), .int .u8 103] W fun e w' => e = .returned (.bool b_g) ∧ w' = W from h_g)
  have T_f := Lib.hid t_f
  have T_F := Lib.hid t_F
  have T_n := Lib.hid t_n
  have T_N := Lib.hid t_N
  have T_t := Lib.hid t_t
  have T_d := Lib.hid t_d
  have T_o := Lib.hid t_o
  have T_c := Lib.hid t_c
  have T_h := Lib.hid t_h
  have T_k := Lib.hid t_k
  have T_v := Lib.hid t_v
  clear h_f t_f h_F t_F h_n t_n h_N t_N h_t t_t h_d t_d h_o t_o h_c t_c h_h t_h h_k t_k h_v t_v h_s h_g
  obtain ⟨fs, hfe⟩ : ∃ fs, fs = fstr c.proc := ⟨_, rfl⟩
  rw [← hfe] at HF
  replace HF := Lib.hid HF.out
  have hcell : ∀ W : World, St 30 w.heap.size c.arr W → St 30 w.heap.size c.arr W := fun _ h => h
  obtain ⟨cs, hcs⟩ : ∃ cs, cs = c.arr := ⟨_, rfl⟩
  rw [← hcs] at st0 c0 ⊢
  have HCS := Lib.hid hcs
  clear hcell hcs
  rw [← hfe] at H_f
  rw [← hfe] at H_F
  rw [← hfe] at H_n
  rw [← hfe] at H_N
  rw [← hfe] at H_t
  rw [← hfe] at H_d
  rw [← hfe] at H_o
  rw [← hfe] at H_c
  rw [← hfe] at H_h
  rw [← hfe] at H_k
  rw [← hfe] at H_v
  rw [← hfe] at H_s
  rw [← hfe] at H_g
  clear hfe
  obtain ⟨TT, hTT⟩ : ∃ b, b = (q_f && (q_F && (q_n && (q_N && (q_t && (q_d)))))) := ⟨_, rfl⟩
  obtain ⟨NN, hNN⟩ : ∃ b, b = (q_o && (q_c && (q_h && (q_k && (q_v))))) := ⟨_, rfl⟩
  obtain ⟨SS, hSS⟩ : ∃ b, b = oneB .s c := ⟨_, rfl⟩
  obtain ⟨GG, hGG⟩ : ∃ b, b = oneB .g c := ⟨_, rfl⟩
  rw [← hTT, ← hNN, ← hSS, ← hGG]
  rw [oneS, ← hb_s] at hSS
  rw [oneG, ← hb_g] at hGG
  have HSSS := Lib.hid hSS
  have HSSG := Lib.hid hGG
  clear hSS hGG hb_s hb_g
  have HTT := Lib.hid hTT
  have HNN := Lib.hid hNN
  clear hTT hNN
  go_enter Tryd.func22, Tryd.ntmps22
  go_upto_region 4 with (go_at_call 8; go_must (refine (HF.out _).mono ?_); rintro e w1 ⟨rfl, b1⟩)
  have S1 := Lib.hid (st0.out.below b1)
  have L1 := Lib.hid ((below_alloc1 w _).trans (b1.mono (by simp)))
  clear b1 c0
  go_cut [6] from 13 (fun t W => t = .bool TT ∧ St 30 w.heap.size cs W ∧ Below w.heap.size w W)
  case first =>
    have d1 : w1.cell? ⟨w.heap.size, 1, none⟩ = some (.string c.fh) := (HCS.out ▸ S1.out).cell rfl
    have d3 : w1.cell? ⟨w.heap.size, 3, none⟩ = some (.string c.fh2) := (HCS.out ▸ S1.out).cell rfl
    have d2 : w1.cell? ⟨w.heap.size, 2, none⟩ = some (.string c.name) := (HCS.out ▸ S1.out).cell rfl
    have d4 : w1.cell? ⟨w.heap.size, 4, none⟩ = some (.string c.name2) := (HCS.out ▸ S1.out).cell rfl
    have d23 : w1.cell? ⟨w.heap.size, 23, none⟩ = some (.string c.text) := (HCS.out ▸ S1.out).cell rfl
    have d8 : w1.cell? ⟨w.heap.size, 8, none⟩ = some (.string c.data) := (HCS.out ▸ S1.out).cell rfl
    cases q_f
    · go_quiet ((first | (go_at_call 46; first | with_reducible exact Calls.quiet_of_same (H_f.out _) | with_reducible exact Calls.quiet_of_same (H_F.out _) | with_reducible exact Calls.quiet_of_same (H_n.out _) | with_reducible exact Calls.quiet_of_same (H_N.out _) | with_reducible exact Calls.quiet_of_same (H_t.out _) | with_reducible exact Calls.quiet_of_same (H_d.out _)) | (go_at_call 45; first | with_reducible exact Calls.quiet_of_same (T_f.out _) | with_reducible exact Calls.quiet_of_same (T_F.out _) | with_reducible exact Calls.quiet_of_same (T_n.out _) | with_reducible exact Calls.quiet_of_same (T_N.out _) | with_reducible exact Calls.quiet_of_same (T_t.out _) | with_reducible exact Calls.quiet_of_same (T_d.out _))))
      go_wp2_with fail
      go_meet
      case rel => exact ⟨by rw [HTT.out]; rfl, S1.out, ⟨L1.out.os, L1.out.tape, L1.out.output, L1.out.size, L1.out.block⟩⟩
    cases q_F
    · go_quiet ((first | (go_at_call 46; first | with_reducible exact Calls.quiet_of_same (H_f.out _) | with_reducible exact Calls.quiet_of_same (H_F.out _) | with_reducible exact Calls.quiet_of_same (H_n.out _) | with_reducible exact Calls.quiet_of_same (H_N.out _) | with_reducible exact Calls.quiet_of_same (H_t.out _) | with_reducible exact Calls.quiet_of_same (H_d.out _)) | (go_at_call 45; first | with_reducible exact Calls.quiet_of_same (T_f.out _) | with_reducible exact Calls.quiet_of_same (T_F.out _) | with_reducible exact Calls.quiet_of_same (T_n.out _) | with_reducible exact Calls.quiet_of_same (T_N.out _) | with_reducible exact Calls.quiet_of_same (T_t.out _) | with_reducible exact Calls.quiet_of_same (T_d.out _))))
      go_wp2_with fail
      go_meet
      case rel => exact ⟨by rw [HTT.out]; rfl, S1.out, ⟨L1.out.os, L1.out.tape, L1.out.output, L1.out.size, L1.out.block⟩⟩
    cases q_n
    · go_quiet ((first | (go_at_call 46; first | with_reducible exact Calls.quiet_of_same (H_f.out _) | with_reducible exact Calls.quiet_of_same (H_F.out _) | with_reducible exact Calls.quiet_of_same (H_n.out _) | with_reducible exact Calls.quiet_of_same (H_N.out _) | with_reducible exact Calls.quiet_of_same (H_t.out _) | with_reducible exact Calls.quiet_of_same (H_d.out _)) | (go_at_call 45; first | with_reducible exact Calls.quiet_of_same (T_f.out _) | with_reducible exact Calls.quiet_of_same (T_F.out _) | with_reducible exact Calls.quiet_of_same (T_n.out _) | with_reducible exact Calls.quiet_of_same (T_N.out _) | with_reducible exact Calls.quiet_of_same (T_t.out _) | with_reducible exact Calls.quiet_of_same (T_d.out _))))
      go_wp2_with fail
      go_meet
      case rel => exact ⟨by rw [HTT.out]; rfl, S1.out, ⟨L1.out.os, L1.out.tape, L1.out.output, L1.out.size, L1.out.block⟩⟩
    cases q_N
    · go_quiet ((first | (go_at_call 46; first | with_reducible exact Calls.quiet_of_same (H_f.out _) | with_reducible exact Calls.quiet_of_same (H_F.out _) | with_reducible exact Calls.quiet_of_same (H_n.out _) | with_reducible exact Calls.quiet_of_same (H_N.out _) | with_reducible exact Calls.quiet_of_same (H_t.out _) | with_reducible exact Calls.quiet_of_same (H_d.out _)) | (go_at_call 45; first | with_reducible exact Calls.quiet_of_same (T_f.out _) | with_reducible exact Calls.quiet_of_same (T_F.out _) | with_reducible exact Calls.quiet_of_same (T_n.out _) | with_reducible exact Calls.quiet_of_same (T_N.out _) | with_reducible exact Calls.quiet_of_same (T_t.out _) | with_reducible exact Calls.quiet_of_same (T_d.out _))))
      go_wp2_with fail
      go_meet
      case rel => exact ⟨by rw [HTT.out]; rfl, S1.out, ⟨L1.out.os, L1.out.tape, L1.out.output, L1.out.size, L1.out.block⟩⟩
    cases q_t
    · go_quiet ((first | (go_at_call 46; first | with_reducible exact Calls.quiet_of_same (H_f.out _) | with_reducible exact Calls.quiet_of_same (H_F.out _) | with_reducible exact Calls.quiet_of_same (H_n.out _) | with_reducible exact Calls.quiet_of_same (H_N.out _) | with_reducible exact Calls.quiet_of_same (H_t.out _) | with_reducible exact Calls.quiet_of_same (H_d.out _)) | (go_at_call 45; first | with_reducible exact Calls.quiet_of_same (T_f.out _) | with_reducible exact Calls.quiet_of_same (T_F.out _) | with_reducible exact Calls.quiet_of_same (T_n.out _) | with_reducible exact Calls.quiet_of_same (T_N.out _) | with_reducible exact Calls.quiet_of_same (T_t.out _) | with_reducible exact Calls.quiet_of_same (T_d.out _))))
      go_wp2_with fail
      go_meet
      case rel => exact ⟨by rw [HTT.out]; rfl, S1.out, ⟨L1.out.os, L1.out.tape, L1.out.output, L1.out.size, L1.out.block⟩⟩
    cases q_d
    · go_quiet ((first | (go_at_call 46; first | with_reducible exact Calls.quiet_of_same (H_f.out _) | with_reducible exact Calls.quiet_of_same (H_F.out _) | with_reducible exact Calls.quiet_of_same (H_n.out _) | with_reducible exact Calls.quiet_of_same (H_N.out _) | with_reducible exact Calls.quiet_of_same (H_t.out _) | with_reducible exact Calls.quiet_of_same (H_d.out _)) | (go_at_call 45; first | with_reducible exact Calls.quiet_of_same (T_f.out _) | with_reducible exact Calls.quiet_of_same (T_F.out _) | with_reducible exact Calls.quiet_of_same (T_n.out _) | with_reducible exact Calls.quiet_of_same (T_N.out _) | with_reducible exact Calls.quiet_of_same (T_t.out _) | with_reducible exact Calls.quiet_of_same (T_d.out _))))
      go_wp2_with fail
      go_meet
      case rel => exact ⟨by rw [HTT.out]; rfl, S1.out, ⟨L1.out.os, L1.out.tape, L1.out.output, L1.out.size, L1.out.block⟩⟩
    go_quiet ((first | (go_at_call 46; first | with_reducible exact Calls.quiet_of_same (H_f.out _) | with_reducible exact Calls.quiet_of_same (H_F.out _) | with_reducible exact Calls.quiet_of_same (H_n.out _) | with_reducible exact Calls.quiet_of_same (H_N.out _) | with_reducible exact Calls.quiet_of_same (H_t.out _) | with_reducible exact Calls.quiet_of_same (H_d.out _)) | (go_at_call 45; first | with_reducible exact Calls.quiet_of_same (T_f.out _) | with_reducible exact Calls.quiet_of_same (T_F.out _) | with_reducible exact Calls.quiet_of_same (T_n.out _) | with_reducible exact Calls.quiet_of_same (T_N.out _) | with_reducible exact Calls.quiet_of_same (T_t.out _) | with_reducible exact Calls.quiet_of_same (T_d.out _))))
    go_wp2_with fail
    go_meet
    case rel => exact ⟨by rw [HTT.out]; rfl, S1.out, ⟨L1.out.os, L1.out.tape, L1.out.output, L1.out.size, L1.out.block⟩⟩
  case rest =>
    obtain ⟨rfl, s2, l2⟩ := hcut
    have S2 := Lib.hid s2
    have L2 := Lib.hid l2
    clear s2 l2 S1 L1 H_f T_f H_F T_F H_n T_n H_N T_N H_t T_t H_d T_d
    go_upto_region 5 with fail
    go_cut [7] from 53 (fun t W => t = .bool NN ∧ St 30 w.heap.size cs W ∧ Below w.heap.size w W)
    case first =>
      have d5 : wc.cell? ⟨w.heap.size, 5, none⟩ = some (.int .i64 c.offset) := (HCS.out ▸ S2.out).cell rfl
      have d6 : wc.cell? ⟨w.heap.size, 6, none⟩ = some (.int .i64 c.count) := (HCS.out ▸ S2.out).cell rfl
      have d7 : wc.cell? ⟨w.heap.size, 7, none⟩ = some (.int .i64 c.how) := (HCS.out ▸ S2.out).cell rfl
      have d21 : wc.cell? ⟨w.heap.size, 21, none⟩ = some (.int .i64 c.cookie) := (HCS.out ▸ S2.out).cell rfl
      have d22 : wc.cell? ⟨w.heap.size, 22, none⟩ = some (.int .i64 c.verf) := (HCS.out ▸ S2.out).cell rfl
      cases q_o
      · go_quiet ((first | (go_at_call 46; first | with_reducible exact Calls.quiet_of_same (H_o.out _) | with_reducible exact Calls.quiet_of_same (H_c.out _) | with_reducible exact Calls.quiet_of_same (H_h.out _) | with_reducible exact Calls.quiet_of_same (H_k.out _) | with_reducible exact Calls.quiet_of_same (H_v.out _)) | (go_at_call 47; first | with_reducible exact Calls.quiet_of_same (T_o.out _) | with_reducible exact Calls.quiet_of_same (T_c.out _) | with_reducible exact Calls.quiet_of_same (T_h.out _) | with_reducible exact Calls.quiet_of_same (T_k.out _) | with_reducible exact Calls.quiet_of_same (T_v.out _))))
        go_wp2_with fail
        go_meet
        case rel => exact ⟨by rw [HNN.out]; rfl, S2.out, ⟨L2.out.os, L2.out.tape, L2.out.output, L2.out.size, L2.out.block⟩⟩
      cases q_c
      · go_quiet ((first | (go_at_call 46; first | with_reducible exact Calls.quiet_of_same (H_o.out _) | with_reducible exact Calls.quiet_of_same (H_c.out _) | with_reducible exact Calls.quiet_of_same (H_h.out _) | with_reducible exact Calls.quiet_of_same (H_k.out _) | with_reducible exact Calls.quiet_of_same (H_v.out _)) | (go_at_call 47; first | with_reducible exact Calls.quiet_of_same (T_o.out _) | with_reducible exact Calls.quiet_of_same (T_c.out _) | with_reducible exact Calls.quiet_of_same (T_h.out _) | with_reducible exact Calls.quiet_of_same (T_k.out _) | with_reducible exact Calls.quiet_of_same (T_v.out _))))
        go_wp2_with fail
        go_meet
        case rel => exact ⟨by rw [HNN.out]; rfl, S2.out, ⟨L2.out.os, L2.out.tape, L2.out.output, L2.out.size, L2.out.block⟩⟩
      cases q_h
      · go_quiet ((first | (go_at_call 46; first | with_reducible exact Calls.quiet_of_same (H_o.out _) | with_reducible exact Calls.quiet_of_same (H_c.out _) | with_reducible exact Calls.quiet_of_same (H_h.out _) | with_reducible exact Calls.quiet_of_same (H_k.out _) | with_reducible exact Calls.quiet_of_same (H_v.out _)) | (go_at_call 47; first | with_reducible exact Calls.quiet_of_same (T_o.out _) | with_reducible exact Calls.quiet_of_same (T_c.out _) | with_reducible exact Calls.quiet_of_same (T_h.out _) | with_reducible exact Calls.quiet_of_same (T_k.out _) | with_reducible exact Calls.quiet_of_same (T_v.out _))))
        go_wp2_with fail
        go_meet
        case rel => exact ⟨by rw [HNN.out]; rfl, S2.out, ⟨L2.out.os, L2.out.tape, L2.out.output, L2.out.size, L2.out.block⟩⟩
      cases q_k
      · go_quiet ((first | (go_at_call 46; first | with_reducible exact Calls.quiet_of_same (H_o.out _) | with_reducible exact Calls.quiet_of_same (H_c.out _) | with_reducible exact Calls.quiet_of_same (H_h.out _) | with_reducible exact Calls.quiet_of_same (H_k.out _) | with_reducible exact Calls.quiet_of_same (H_v.out _)) | (go_at_call 47; first | with_reducible exact Calls.quiet_of_same (T_o.out _) | with_reducible exact Calls.quiet_of_same (T_c.out _) | with_reducible exact Calls.quiet_of_same (T_h.out _) | with_reducible exact Calls.quiet_of_same (T_k.out _) | with_reducible exact Calls.quiet_of_same (T_v.out _))))
        go_wp2_with fail
        go_meet
        case rel => exact ⟨by rw [HNN.out]; rfl, S2.out, ⟨L2.out.os, L2.out.tape, L2.out.output, L2.out.size, L2.out.block⟩⟩
      cases q_v
      · go_quiet ((first | (go_at_call 46; first | with_reducible exact Calls.quiet_of_same (H_o.out _) | with_reducible exact Calls.quiet_of_same (H_c.out _) | with_reducible exact Calls.quiet_of_same (H_h.out _) | with_reducible exact Calls.quiet_of_same (H_k.out _) | with_reducible exact Calls.quiet_of_same (H_v.out _)) | (go_at_call 47; first | with_reducible exact Calls.quiet_of_same (T_o.out _) | with_reducible exact Calls.quiet_of_same (T_c.out _) | with_reducible exact Calls.quiet_of_same (T_h.out _) | with_reducible exact Calls.quiet_of_same (T_k.out _) | with_reducible exact Calls.quiet_of_same (T_v.out _))))
        go_wp2_with fail
        go_meet
        case rel => exact ⟨by rw [HNN.out]; rfl, S2.out, ⟨L2.out.os, L2.out.tape, L2.out.output, L2.out.size, L2.out.block⟩⟩
      go_quiet ((first | (go_at_call 46; first | with_reducible exact Calls.quiet_of_same (H_o.out _) | with_reducible exact Calls.quiet_of_same (H_c.out _) | with_reducible exact Calls.quiet_of_same (H_h.out _) | with_reducible exact Calls.quiet_of_same (H_k.out _) | with_reducible exact Calls.quiet_of_same (H_v.out _)) | (go_at_call 47; first | with_reducible exact Calls.quiet_of_same (T_o.out _) | with_reducible exact Calls.quiet_of_same (T_c.out _) | with_reducible exact Calls.quiet_of_same (T_h.out _) | with_reducible exact Calls.quiet_of_same (T_k.out _) | with_reducible exact Calls.quiet_of_same (T_v.out _))))
      go_wp2_with fail
      go_meet
      case rel => exact ⟨by rw [HNN.out]; rfl, S2.out, ⟨L2.out.os, L2.out.tape, L2.out.output, L2.out.size, L2.out.block⟩⟩
    case rest =>
      obtain ⟨rfl, s3, l3⟩ := hcut
      have S3 := Lib.hid s3
      have L3 := Lib.hid l3
      clear s3 l3 S2 L2 H_o T_o H_c T_c H_h T_h H_k T_k H_v T_v
      go_upto_region 6 with fail
      go_cut [8] from 91 (fun t W => t = .bool SS ∧ St 30 w.heap.size cs W ∧ Below w.heap.size w W)
      case first =>
        have HR := Lib.hid (fun W (h : St 30 w.heap.size cs W) => rangeS c (hk := HCS.out) h)
        have HA := Lib.hid (fun W => askS c W)
        have HB := Lib.hid builtS
        have hne := fun W => eq0S c W
        have hsz : (vsS c).length = 10 := rfl
        obtain ⟨vs, hvs⟩ : ∃ v, v = vsS c := ⟨_, rfl⟩
        obtain ⟨zv, hzv⟩ : ∃ v, v = zvS := ⟨_, rfl⟩
        have hqg : ∀ (W : World) (x y : Operand), (eqGuard .eql 28 x y (.agg vs.toArray) (.agg zv)).run Tryd.prog W = .ok () W := fun W x y => run_eqGuard_agg W .eql 28 x y _ _ (by kernel_rfl)
        rw [← hvs] at HR HA hne hsz
        rw [← hzv] at HB hne
        have HSZ := Lib.hid hsz
        clear hvs hzv hsz
        obtain ⟨zz, hzz⟩ : ∃ b, b = decide (c.set = Ps.zero) := ⟨_, rfl⟩
        rw [← hzz] at hne HSSS
        obtain ⟨kk, hkk⟩ : ∃ b, b = okPs c.set := ⟨_, rfl⟩
        rw [← hkk] at HA HSSS
        clear hzz hkk
        replace HA := Lib.hid HA.out
        cases kk
        · go_wp2_with (first
          | ((with_reducible show wpList _ _ _ ({ dst := _, op := .load _ (.tmp 91), type := _, pos := _, after := _, guard := _ } :: _) _ _); refine wpList_load_midg (by kernel_rfl) 28 _ rfl w.heap.size 9 rfl vs (HR.out _ (by first | exact S9.out | exact S3.out)) _ Tryd.underlying28 rfl (by rw [HSZ.out]; kernel_rfl) ?_)
          | ((with_reducible show wpList _ _ _ ({ dst := _, op := .load _ (.tmp 98), type := _, pos := _, after := _, guard := _ } :: _) _ _); refine wpList_load_midg (by kernel_rfl) 28 _ rfl w.heap.size 9 rfl vs (HR.out _ (by first | exact S9.out | exact S3.out)) _ Tryd.underlying28 rfl (by rw [HSZ.out]; kernel_rfl) ?_)
          | ((with_reducible show wpList _ _ _ ({ dst := _, op := .build 28 _, type := _, pos := _, after := _, guard := _ } :: _) _ _); refine wpList_build_asg (by kernel_rfl) 28 _ rfl zv HB.out ?_)
          | (go_at_call 48; go_must (refine (HA.out _).mono ?_); rintro e w1 ⟨rfl, b1⟩; have S9 := Lib.hid (S3.out.below b1); have L9 := Lib.hid (L3.out.trans (b1.mono L3.out.size)); clear b1)
          | (go_at_call 46; go_must (refine (H_s.out _).mono ?_); rintro e w2 ⟨rfl, rfl⟩))
          go_meet
          case rel => exact ⟨by rw [HSSS.out]; rfl, S9.out, L9.out⟩
        · cases b_s
          · go_wp2_with (first
          | ((with_reducible show wpList _ _ _ ({ dst := _, op := .load _ (.tmp 91), type := _, pos := _, after := _, guard := _ } :: _) _ _); refine wpList_load_midg (by kernel_rfl) 28 _ rfl w.heap.size 9 rfl vs (HR.out _ (by first | exact S9.out | exact S3.out)) _ Tryd.underlying28 rfl (by rw [HSZ.out]; kernel_rfl) ?_)
          | ((with_reducible show wpList _ _ _ ({ dst := _, op := .load _ (.tmp 98), type := _, pos := _, after := _, guard := _ } :: _) _ _); refine wpList_load_midg (by kernel_rfl) 28 _ rfl w.heap.size 9 rfl vs (HR.out _ (by first | exact S9.out | exact S3.out)) _ Tryd.underlying28 rfl (by rw [HSZ.out]; kernel_rfl) ?_)
          | ((with_reducible show wpList _ _ _ ({ dst := _, op := .build 28 _, type := _, pos := _, after := _, guard := _ } :: _) _ _); refine wpList_build_asg (by kernel_rfl) 28 _ rfl zv HB.out ?_)
          | (go_at_call 48; go_must (refine (HA.out _).mono ?_); rintro e w1 ⟨rfl, b1⟩; have S9 := Lib.hid (S3.out.below b1); have L9 := Lib.hid (L3.out.trans (b1.mono L3.out.size)); clear b1)
          | (go_at_call 46; go_must (refine (H_s.out _).mono ?_); rintro e w2 ⟨rfl, rfl⟩))
            go_meet
            case rel => exact ⟨by rw [HSSS.out]; rfl, S9.out, L9.out⟩
          · go_wp2_with (first
          | ((with_reducible show wpList _ _ _ ({ dst := _, op := .load _ (.tmp 91), type := _, pos := _, after := _, guard := _ } :: _) _ _); refine wpList_load_midg (by kernel_rfl) 28 _ rfl w.heap.size 9 rfl vs (HR.out _ (by first | exact S9.out | exact S3.out)) _ Tryd.underlying28 rfl (by rw [HSZ.out]; kernel_rfl) ?_)
          | ((with_reducible show wpList _ _ _ ({ dst := _, op := .load _ (.tmp 98), type := _, pos := _, after := _, guard := _ } :: _) _ _); refine wpList_load_midg (by kernel_rfl) 28 _ rfl w.heap.size 9 rfl vs (HR.out _ (by first | exact S9.out | exact S3.out)) _ Tryd.underlying28 rfl (by rw [HSZ.out]; kernel_rfl) ?_)
          | ((with_reducible show wpList _ _ _ ({ dst := _, op := .build 28 _, type := _, pos := _, after := _, guard := _ } :: _) _ _); refine wpList_build_asg (by kernel_rfl) 28 _ rfl zv HB.out ?_)
          | (go_at_call 48; go_must (refine (HA.out _).mono ?_); rintro e w1 ⟨rfl, b1⟩; have S9 := Lib.hid (S3.out.below b1); have L9 := Lib.hid (L3.out.trans (b1.mono L3.out.size)); clear b1)
          | (go_at_call 46; go_must (refine (H_s.out _).mono ?_); rintro e w2 ⟨rfl, rfl⟩))
            go_meet
            case rel => exact ⟨by rw [HSSS.out]; rfl, S9.out, L9.out⟩
      case rest =>
      obtain ⟨rfl, s4, l4⟩ := hcut
      have S4 := Lib.hid s4
      have L4 := Lib.hid l4
      clear s4 l4 S3 L3
      go_upto_region 7 with fail
      go_cut [9] from 104 (fun t W => t = .bool GG ∧ St 30 w.heap.size cs W ∧ Below w.heap.size w W)
      case first =>
        have HR := Lib.hid (fun W (h : St 30 w.heap.size cs W) => rangeG c (hk := HCS.out) h)
        have HA := Lib.hid (fun W => askG c W)
        have HB := Lib.hid builtG
        have hne := fun W => eq0G c W
        have hsz : (vsG c).length = 2 := rfl
        obtain ⟨vs, hvs⟩ : ∃ v, v = vsG c := ⟨_, rfl⟩
        obtain ⟨zv, hzv⟩ : ∃ v, v = zvG := ⟨_, rfl⟩
        have hqg : ∀ (W : World) (x y : Operand), (eqGuard .eql 26 x y (.agg vs.toArray) (.agg zv)).run Tryd.prog W = .ok () W := fun W x y => run_eqGuard_agg W .eql 26 x y _ _ (by kernel_rfl)
        rw [← hvs] at HR HA hne hsz
        rw [← hzv] at HB hne
        have HSZ := Lib.hid hsz
        clear hvs hzv hsz
        obtain ⟨zz, hzz⟩ : ∃ b, b = decide (c.guard = Po.zero) := ⟨_, rfl⟩
        rw [← hzz] at hne HSSG
        obtain ⟨kk, hkk⟩ : ∃ b, b = okPo c.guard most64 := ⟨_, rfl⟩
        rw [← hkk] at HA HSSG
        clear hzz hkk
        replace HA := Lib.hid HA.out
        cases kk
        · go_wp2_with (first
          | ((with_reducible show wpList _ _ _ ({ dst := _, op := .load _ (.tmp 104), type := _, pos := _, after := _, guard := _ } :: _) _ _); refine wpList_load_midg (by kernel_rfl) 26 _ rfl w.heap.size 19 rfl vs (HR.out _ (by first | exact S9.out | exact S4.out)) _ Tryd.underlying26 rfl (by rw [HSZ.out]; kernel_rfl) ?_)
          | ((with_reducible show wpList _ _ _ ({ dst := _, op := .load _ (.tmp 112), type := _, pos := _, after := _, guard := _ } :: _) _ _); refine wpList_load_midg (by kernel_rfl) 26 _ rfl w.heap.size 19 rfl vs (HR.out _ (by first | exact S9.out | exact S4.out)) _ Tryd.underlying26 rfl (by rw [HSZ.out]; kernel_rfl) ?_)
          | ((with_reducible show wpList _ _ _ ({ dst := _, op := .build 26 _, type := _, pos := _, after := _, guard := _ } :: _) _ _); refine wpList_build_asg (by kernel_rfl) 26 _ rfl zv HB.out ?_)
          | (go_at_call 49; go_must (refine (HA.out _).mono ?_); rintro e w1 ⟨rfl, b1⟩; have S9 := Lib.hid (S4.out.below b1); have L9 := Lib.hid (L4.out.trans (b1.mono L4.out.size)); clear b1)
          | (go_at_call 46; go_must (refine (H_g.out _).mono ?_); rintro e w2 ⟨rfl, rfl⟩))
          go_meet
          case rel => exact ⟨by rw [HSSG.out]; rfl, S9.out, L9.out⟩
        · cases b_g
          · go_wp2_with (first
          | ((with_reducible show wpList _ _ _ ({ dst := _, op := .load _ (.tmp 104), type := _, pos := _, after := _, guard := _ } :: _) _ _); refine wpList_load_midg (by kernel_rfl) 26 _ rfl w.heap.size 19 rfl vs (HR.out _ (by first | exact S9.out | exact S4.out)) _ Tryd.underlying26 rfl (by rw [HSZ.out]; kernel_rfl) ?_)
          | ((with_reducible show wpList _ _ _ ({ dst := _, op := .load _ (.tmp 112), type := _, pos := _, after := _, guard := _ } :: _) _ _); refine wpList_load_midg (by kernel_rfl) 26 _ rfl w.heap.size 19 rfl vs (HR.out _ (by first | exact S9.out | exact S4.out)) _ Tryd.underlying26 rfl (by rw [HSZ.out]; kernel_rfl) ?_)
          | ((with_reducible show wpList _ _ _ ({ dst := _, op := .build 26 _, type := _, pos := _, after := _, guard := _ } :: _) _ _); refine wpList_build_asg (by kernel_rfl) 26 _ rfl zv HB.out ?_)
          | (go_at_call 49; go_must (refine (HA.out _).mono ?_); rintro e w1 ⟨rfl, b1⟩; have S9 := Lib.hid (S4.out.below b1); have L9 := Lib.hid (L4.out.trans (b1.mono L4.out.size)); clear b1)
          | (go_at_call 46; go_must (refine (H_g.out _).mono ?_); rintro e w2 ⟨rfl, rfl⟩))
            go_meet
            case rel => exact ⟨by rw [HSSG.out]; rfl, S9.out, L9.out⟩
          · go_wp2_with (first
          | ((with_reducible show wpList _ _ _ ({ dst := _, op := .load _ (.tmp 104), type := _, pos := _, after := _, guard := _ } :: _) _ _); refine wpList_load_midg (by kernel_rfl) 26 _ rfl w.heap.size 19 rfl vs (HR.out _ (by first | exact S9.out | exact S4.out)) _ Tryd.underlying26 rfl (by rw [HSZ.out]; kernel_rfl) ?_)
          | ((with_reducible show wpList _ _ _ ({ dst := _, op := .load _ (.tmp 112), type := _, pos := _, after := _, guard := _ } :: _) _ _); refine wpList_load_midg (by kernel_rfl) 26 _ rfl w.heap.size 19 rfl vs (HR.out _ (by first | exact S9.out | exact S4.out)) _ Tryd.underlying26 rfl (by rw [HSZ.out]; kernel_rfl) ?_)
          | ((with_reducible show wpList _ _ _ ({ dst := _, op := .build 26 _, type := _, pos := _, after := _, guard := _ } :: _) _ _); refine wpList_build_asg (by kernel_rfl) 26 _ rfl zv HB.out ?_)
          | (go_at_call 49; go_must (refine (HA.out _).mono ?_); rintro e w1 ⟨rfl, b1⟩; have S9 := Lib.hid (S4.out.below b1); have L9 := Lib.hid (L4.out.trans (b1.mono L4.out.size)); clear b1)
          | (go_at_call 46; go_must (refine (H_g.out _).mono ?_); rintro e w2 ⟨rfl, rfl⟩))
            go_meet
            case rel => exact ⟨by rw [HSSG.out]; rfl, S9.out, L9.out⟩
      case rest =>
      obtain ⟨rfl, s5, l5⟩ := hcut
      have L5 := Lib.hid l5
      clear s5 l5 S4 L4 HTT HNN HSSS HSSG H_s H_g HF
      cases TT <;> cases NN <;> cases SS <;> cases GG <;> (go_wp2_with fail; go_ret; exact ⟨rfl, L5.out⟩)
end Go.Proofs.YtdjnadgcjmlejaaDoor
