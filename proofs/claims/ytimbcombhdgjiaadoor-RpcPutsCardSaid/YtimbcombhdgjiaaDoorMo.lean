/- Messages: held against each other; as arguments, opened to their fields. -/
import Derived.Test.YtimbcombhdgjiaaDoorMa
import Derived.Test.YtimbcombhdgjiaaDoorEq
import Derived.Test.YtimbcombhdgjiaaDoorOa
namespace Go.Proofs.YtimbcombhdgjiaaDoor
open Go.Joins Go.ChangeShapes Go.WideShapes Go.RowKit Go.Deep

set_option maxRecDepth 100000 in
theorem eq_cred (a b : Pc) (d : Nat) (w : World) : (Op.equalIn (d + 2) 23 (.agg #[.int .i64 a.client, .int .i64 a.seq, .int .i64 a.uid, .int .i64 a.gid]) (.agg #[.int .i64 b.client, .int .i64 b.seq, .int .i64 b.uid, .int .i64 b.gid])).run Tryd.prog w = .ok (decide (a.client = b.client ∧ a.seq = b.seq ∧ a.uid = b.uid ∧ a.gid = b.gid)) w := by
  have hS : Tryd.prog.underlying 23 = some (.struct (Tryd.prog.fieldsOf 23)) := by kernel_rfl
  have hp : Tryd.prog.stoodInHeld 23 = false := by kernel_rfl
  rw [run_equalIn_struct w (d + 1) 23 _ _ hS hp]
  simp only [Program.fieldsOf, Tryd.underlying23]
  refine (eqFields_cons (by rfl) (by kernel_rfl) (by kernel_rfl) (eq_int a.client b.client d w) (eqFields_cons (by rfl) (by kernel_rfl) (by kernel_rfl) (eq_int a.seq b.seq d w) (eqFields_cons (by rfl) (by kernel_rfl) (by kernel_rfl) (eq_int a.uid b.uid d w) (eqFields_cons (by rfl) (by kernel_rfl) (by kernel_rfl) (eq_int a.gid b.gid d w) (eqFields_nil))))).trans ?_
  congr 1
  rw [Bool.eq_iff_iff]
  simp
set_option maxRecDepth 100000 in
theorem eq_msg (a b : Mg) (d : Nat) (w : World) : (Op.equalIn (d + 3) 25 (.agg a.arr) (.agg b.arr)).run Tryd.prog w = .ok (decide (a = b)) w := by
  have hS : Tryd.prog.underlying 25 = some (.struct (Tryd.prog.fieldsOf 25)) := by kernel_rfl
  have hp : Tryd.prog.stoodInHeld 25 = false := by kernel_rfl
  rw [run_equalIn_struct w (d + 2) 25 _ _ hS hp]
  simp only [Program.fieldsOf, Tryd.underlying25]
  refine (eqFields_cons (by rfl) (by kernel_rfl) (by kernel_rfl) (eq_int a.xid b.xid (d + 1) w) (eqFields_cons (by rfl) (by kernel_rfl) (by kernel_rfl) (eq_bool a.ans b.ans (d + 1) w) (eqFields_cons (by rfl) (by kernel_rfl) (by kernel_rfl) (eq_bool a.again b.again (d + 1) w) (eqFields_cons (by rfl) (by kernel_rfl) (by kernel_rfl) (eq_int a.proc b.proc (d + 1) w) (eqFields_cons (by rfl) (by kernel_rfl) (by kernel_rfl) (eq_cred ⟨a.client, a.seq, a.uid, a.gid⟩ ⟨b.client, b.seq, b.uid, b.gid⟩ d w) (eqFields_cons (by rfl) (by kernel_rfl) (by kernel_rfl) (eq_int a.accept b.accept (d + 1) w) (eqFields_cons (by rfl) (by kernel_rfl) (by kernel_rfl) (eq_str a.body b.body (d + 1) w) (eqFields_nil)))))))).trans ?_
  congr 1
  obtain ⟨a0, a1, a2, a3, a4, a5, a6, a7, a8, a9⟩ := a
  obtain ⟨b0, b1, b2, b3, b4, b5, b6, b7, b8, b9⟩ := b
  rw [Bool.eq_iff_iff]
  simp only [Bool.and_eq_true, decide_eq_true_eq, Mg.mk.injEq, and_true]
  exact ⟨fun ⟨h0, h1, h2, h3, ⟨h4, h5, h6, h7⟩, h8, h9⟩ => ⟨h0, h1, h2, h3, h4, h5, h6, h7, h8, h9⟩, fun ⟨h0, h1, h2, h3, h4, h5, h6, h7, h8, h9⟩ => ⟨h0, h1, h2, h3, ⟨h4, h5, h6, h7⟩, h8, h9⟩⟩
set_option maxRecDepth 100000 in
theorem run_eq_msg (a b : Mg) (w : World) : (binOp .eql 25 (.agg a.arr) (.agg b.arr)).run Tryd.prog w = .ok (.bool (decide (a = b))) w := by
  rw [run_eql_struct, show (10000 : Nat) = 9997 + 3 from rfl, eq_msg a b 9997 w]
  rfl
set_option maxRecDepth 100000 in
theorem run_ne_msg (a b : Mg) (w : World) : (binOp .neq 25 (.agg a.arr) (.agg b.arr)).run Tryd.prog w = .ok (.bool (!decide (a = b))) w := by
  rw [run_neq_struct, show (10000 : Nat) = 9997 + 3 from rfl, eq_msg a b 9997 w]
  rfl
theorem Mg.arr_one (m : Mg) : m.arr.all (·.oneCell') = true := by kernel_rfl

/-- Its numbers are of 64 bits, its body no longer than any. -/
structure Mg.num (m : Mg) : Prop where
  xid : i64 m.xid
  proc : i64 m.proc
  client : i64 m.client
  seq : i64 m.seq
  uid : i64 m.uid
  gid : i64 m.gid
  accept : i64 m.accept
  body : m.body.size ≤ maxLen
def Mg.vs (m : Mg) : List Value := m.arr.toList
section
variable {H : Type} {enc : TypeId × Value → H} {w : World} {base b0 : Nat} {spare : Nat → Bool} {held : Bool} {r : Reach}
def Mg.data (m : Mg) : DataW H := .agg [.lit (.int .i64 m.xid), .lit (.bool m.ans), .lit (.bool m.again), .lit (.int .i64 m.proc), .agg [.lit (.int .i64 m.client), .lit (.int .i64 m.seq), .lit (.int .i64 m.uid), .lit (.int .i64 m.gid)], .lit (.int .i64 m.accept), .lit (.string m.body.data.toList)]
set_option maxRecDepth 100000 in
theorem trod_mg {t ti tb ts tc : TypeId} {P : Program} {fs : Array Field} {fuel : Nat} {cs : List Value} {x : DataW H × List MemPlace} (hs : P.underlying t = some (.struct fs)) (hn : fs.size = 7)
    (f0 : isField fs 0 0 ti = true) (f1 : isField fs 1 1 tb = true) (f2 : isField fs 2 2 tb = true) (f3 : isField fs 3 3 ti = true) (f4 : isField fs 4 4 tc = true) (f5 : isField fs 5 8 ti = true) (f6 : isField fs 6 9 ts = true)
    (ci : P.cellsOf ti = 1) (cb : P.cellsOf tb = 1) (cs' : P.cellsOf ts = 1) (cc : P.cellsOf tc = 4) (hC : P.cellsOf t = 10)
    (hi : P.underlying ti = some (.int .i64)) (hb : P.underlying tb = some .bool) (hst : P.underlying ts = some .string)
    (E : ∀ {fuel : Nat} {cs : List Value} {x : DataW H × List MemPlace}, DataW.trod enc P w base spare held fuel tc cs = some x → ∃ c : Pc, cs = c.vs ∧ x = (c.data, []) ∧ c.num)
    (h : DataW.trod enc P w base spare held fuel t cs = some x) : ∃ m : Mg, cs = m.vs ∧ x = (m.data, []) ∧ m.num := by
  obtain ⟨xs, n, _, hx, hl, hlen, hg⟩ := DataW.trod_struct hs h
  rw [hC] at hl
  rw [hn] at hlen
  have h0 := trod_at f0 ci hg
  have h1 := trod_at f1 cb hg
  have h2 := trod_at f2 cb hg
  have h3 := trod_at f3 ci hg
  have h4 := trod_at f4 cc hg
  have h5 := trod_at f5 ci hg
  have h6 := trod_at f6 cs' hg
  match xs, hlen, cs, hl with
  | [y0, y1, y2, y3, y4, y5, y6], _, [c0, c1, c2, c3, c4, c5, c6, c7, c8, c9], _ =>
    obtain ⟨v0, a0, b0, n0⟩ := DataW.trod_int hi (h0.trans rfl)
    obtain ⟨v1, a1, b1⟩ := DataW.trod_bool hb (h1.trans rfl)
    obtain ⟨v2, a2, b2⟩ := DataW.trod_bool hb (h2.trans rfl)
    obtain ⟨v3, a3, b3, n3⟩ := DataW.trod_int hi (h3.trans rfl)
    obtain ⟨v4, a4, b4, n4⟩ := E (h4.trans rfl)
    obtain ⟨v5, a5, b5, n5⟩ := DataW.trod_int hi (h5.trans rfl)
    obtain ⟨v6, a6, b6, n6⟩ := DataW.trod_string hst (h6.trans rfl)
    obtain ⟨k0, k1, k2, k3⟩ := v4
    simp only [List.drop_zero, List.take_succ_cons, List.take_zero, List.drop_succ_cons, List.cons.injEq, and_true, Pc.vs] at a0 a1 a2 a3 a4 a5 a6
    refine ⟨⟨v0, v1, v2, v3, k0, k1, k2, k3, v5, v6⟩, ?_, ?_, ⟨i64_of n0, i64_of n3, n4.1, n4.2.1, n4.2.2.1, n4.2.2.2, i64_of n5, n6⟩⟩
    · simp only [Mg.vs, Mg.arr]
      simp only [List.cons.injEq, and_true]
      simp_all
    · rw [hx]
      simp only [List.map_cons, List.map_nil, List.flatMap_cons, List.flatMap_nil, b0, b1, b2, b3, b4, b5, b6]
      rfl
set_option maxRecDepth 100000 in
theorem open_msg {v : Value} {d : DataW H} {p : List MemPlace} (hv : Value.okWide Tryd.prog w r b0 25 v) (h : DataW.Trod enc Tryd.prog w base spare held 25 v d p) : ∃ m : Mg, v = .agg m.arr ∧ d = m.data ∧ p = [] ∧ m.num := by
  obtain ⟨m, h1, h2⟩ := open_by Tryd.underlying25 (fun h => trod_mg Tryd.underlying25 (by rfl) (ti := 3) (tb := 4) (ts := 9) (tc := 23) (by kernel_rfl) (by kernel_rfl) (by kernel_rfl) (by kernel_rfl) (by kernel_rfl) (by kernel_rfl) (by kernel_rfl) (by kernel_rfl) (by kernel_rfl) (by kernel_rfl) (by kernel_rfl) (by kernel_rfl) Tryd.underlying3 Tryd.underlying4 Tryd.underlying9
    (fun h => trod_pc Tryd.underlying23 (ti := 3) (by kernel_rfl) Tryd.underlying3 (by kernel_rfl) (by kernel_rfl) h) h) hv h
  exact ⟨m, by rw [h1]; rfl, h2⟩
end
end Go.Proofs.YtimbcombhdgjiaaDoor
