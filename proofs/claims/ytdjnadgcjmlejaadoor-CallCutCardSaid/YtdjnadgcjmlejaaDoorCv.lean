/- A call as an argument: opened to its fields. -/
import Derived.Test.YtdjnadgcjmlejaaDoorCa
import Derived.Test.YtdjnadgcjmlejaaDoorOb
namespace Go.Proofs.YtdjnadgcjmlejaaDoor
open Go.Joins Go.ChangeShapes Go.WideShapes Go.RowKit Go.Deep

def Cl.vs (c : Cl) : List Value := c.arr.toList
/-- Its numbers are of 64 bits, its strings no longer than any. -/
structure Cl.num (c : Cl) : Prop where
  proc : i64 c.proc
  fh : c.fh.size ≤ maxLen
  name : c.name.size ≤ maxLen
  fh2 : c.fh2.size ≤ maxLen
  name2 : c.name2.size ≤ maxLen
  offset : i64 c.offset
  count : i64 c.count
  how : i64 c.how
  data : c.data.size ≤ maxLen
  set : c.set.num
  guard : c.guard.num
  cookie : i64 c.cookie
  verf : i64 c.verf
  text : c.text.size ≤ maxLen
section
variable {H : Type} {enc : TypeId × Value → H} {w : World} {base b0 : Nat} {spare : Nat → Bool} {held : Bool} {r : Reach}
def Cl.data' (c : Cl) : DataW H := .agg [.lit (.int .i64 c.proc), .lit (.string c.fh.data.toList), .lit (.string c.name.data.toList), .lit (.string c.fh2.data.toList), .lit (.string c.name2.data.toList), .lit (.int .i64 c.offset), .lit (.int .i64 c.count), .lit (.int .i64 c.how), .lit (.string c.data.data.toList), c.set.data, c.guard.data, .lit (.int .i64 c.cookie), .lit (.int .i64 c.verf), .lit (.string c.text.data.toList)]
theorem trod_set {fuel : Nat} {cs : List Value} {x : DataW H × List MemPlace} (h : DataW.trod enc Tryd.prog w base spare held fuel 28 cs = some x) : ∃ s : Ps, cs = s.vs ∧ x = (s.data, []) ∧ s.num :=
  trod_ps Tryd.underlying28 (by rfl) (to := 26) (by kernel_rfl) (by kernel_rfl) (by kernel_rfl) (by kernel_rfl) (by kernel_rfl) (by kernel_rfl) (by kernel_rfl) trod_opt h

set_option maxRecDepth 100000 in
theorem trod_cl {t ti ts te to : TypeId} {P : Program} {fs : Array Field} {fuel : Nat} {cs : List Value} {x : DataW H × List MemPlace} (hs : P.underlying t = some (.struct fs)) (hn : fs.size = 14)
    (f0 : isField fs 0 0 ti = true) (f1 : isField fs 1 1 ts = true) (f2 : isField fs 2 2 ts = true) (f3 : isField fs 3 3 ts = true) (f4 : isField fs 4 4 ts = true) (f5 : isField fs 5 5 ti = true) (f6 : isField fs 6 6 ti = true) (f7 : isField fs 7 7 ti = true) (f8 : isField fs 8 8 ts = true) (f9 : isField fs 9 9 te = true) (f10 : isField fs 10 19 to = true) (f11 : isField fs 11 21 ti = true) (f12 : isField fs 12 22 ti = true) (f13 : isField fs 13 23 ts = true)
    (ci : P.cellsOf ti = 1) (cc : P.cellsOf ts = 1) (ce : P.cellsOf te = 10) (co : P.cellsOf to = 2) (hC : P.cellsOf t = 24)
    (hi : P.underlying ti = some (.int .i64)) (hst : P.underlying ts = some .string)
    (E : ∀ {fuel : Nat} {cs : List Value} {x : DataW H × List MemPlace}, DataW.trod enc P w base spare held fuel te cs = some x → ∃ s : Ps, cs = s.vs ∧ x = (s.data, []) ∧ s.num)
    (O : ∀ {fuel : Nat} {cs : List Value} {x : DataW H × List MemPlace}, DataW.trod enc P w base spare held fuel to cs = some x → ∃ o : Po, cs = o.vs ∧ x = (o.data, []) ∧ o.num)
    (h : DataW.trod enc P w base spare held fuel t cs = some x) : ∃ c : Cl, cs = c.vs ∧ x = (c.data', []) ∧ c.num := by
  obtain ⟨xs, n, _, hx, hl, hlen, hg⟩ := DataW.trod_struct hs h
  rw [hC] at hl
  rw [hn] at hlen
  have h0 := trod_at f0 ci hg
  have h1 := trod_at f1 cc hg
  have h2 := trod_at f2 cc hg
  have h3 := trod_at f3 cc hg
  have h4 := trod_at f4 cc hg
  have h5 := trod_at f5 ci hg
  have h6 := trod_at f6 ci hg
  have h7 := trod_at f7 ci hg
  have h8 := trod_at f8 cc hg
  have h9 := trod_at f9 ce hg
  have h10 := trod_at f10 co hg
  have h11 := trod_at f11 ci hg
  have h12 := trod_at f12 ci hg
  have h13 := trod_at f13 cc hg
  match xs, hlen, cs, hl with
  | [y0, y1, y2, y3, y4, y5, y6, y7, y8, y9, y10, y11, y12, y13], _, [c0, c1, c2, c3, c4, c5, c6, c7, c8, c9, c10, c11, c12, c13, c14, c15, c16, c17, c18, c19, c20, c21, c22, c23], _ =>
    obtain ⟨v0, a0, b0, n0⟩ := DataW.trod_int hi (h0.trans rfl)
    obtain ⟨v1, a1, b1, n1⟩ := DataW.trod_string hst (h1.trans rfl)
    obtain ⟨v2, a2, b2, n2⟩ := DataW.trod_string hst (h2.trans rfl)
    obtain ⟨v3, a3, b3, n3⟩ := DataW.trod_string hst (h3.trans rfl)
    obtain ⟨v4, a4, b4, n4⟩ := DataW.trod_string hst (h4.trans rfl)
    obtain ⟨v5, a5, b5, n5⟩ := DataW.trod_int hi (h5.trans rfl)
    obtain ⟨v6, a6, b6, n6⟩ := DataW.trod_int hi (h6.trans rfl)
    obtain ⟨v7, a7, b7, n7⟩ := DataW.trod_int hi (h7.trans rfl)
    obtain ⟨v8, a8, b8, n8⟩ := DataW.trod_string hst (h8.trans rfl)
    obtain ⟨v9, a9, b9, n9⟩ := E (h9.trans rfl)
    obtain ⟨v10, a10, b10, n10⟩ := O (h10.trans rfl)
    obtain ⟨v11, a11, b11, n11⟩ := DataW.trod_int hi (h11.trans rfl)
    obtain ⟨v12, a12, b12, n12⟩ := DataW.trod_int hi (h12.trans rfl)
    obtain ⟨v13, a13, b13, n13⟩ := DataW.trod_string hst (h13.trans rfl)
    simp only [List.drop_zero, List.take_succ_cons, List.take_zero, List.drop_succ_cons, List.cons.injEq, and_true, Ps.vs, Po.vs, List.cons_append, List.nil_append] at a0 a1 a2 a3 a4 a5 a6 a7 a8 a9 a10 a11 a12 a13
    refine ⟨⟨v0, v1, v2, v3, v4, v5, v6, v7, v8, v9, v10, v11, v12, v13⟩, ?_, ?_, ⟨i64_of n0, n1, n2, n3, n4, i64_of n5, i64_of n6, i64_of n7, n8, n9, n10, i64_of n11, i64_of n12, n13⟩⟩
    · simp only [Cl.vs, Cl.arr]
      simp only [List.cons.injEq, and_true]
      simp_all
    · rw [hx]
      simp only [List.map_cons, List.map_nil, List.flatMap_cons, List.flatMap_nil, b0, b1, b2, b3, b4, b5, b6, b7, b8, b9, b10, b11, b12, b13]
      rfl

set_option maxRecDepth 100000 in
theorem open_call {v : Value} {d : DataW H} {p : List MemPlace} (hv : Value.okWide Tryd.prog w r b0 30 v) (h : DataW.Trod enc Tryd.prog w base spare held 30 v d p) : ∃ c : Cl, v = .agg c.arr ∧ d = c.data' ∧ p = [] ∧ c.num := by
  obtain ⟨c, h1, h2⟩ := open_by Tryd.underlying30 (fun h => trod_cl Tryd.underlying30 (by rfl) (ti := 3) (ts := 9) (te := 28) (to := 26) (by kernel_rfl) (by kernel_rfl) (by kernel_rfl) (by kernel_rfl) (by kernel_rfl) (by kernel_rfl) (by kernel_rfl) (by kernel_rfl) (by kernel_rfl) (by kernel_rfl) (by kernel_rfl) (by kernel_rfl) (by kernel_rfl) (by kernel_rfl) (by kernel_rfl) (by kernel_rfl) (by kernel_rfl) (by kernel_rfl) (by kernel_rfl) Tryd.underlying3 Tryd.underlying9 trod_set trod_opt h) hv h
  exact ⟨c, by rw [h1]; rfl, h2⟩
end
end Go.Proofs.YtdjnadgcjmlejaaDoor
