/- Attributes, options, changes and users as arguments: opened to their numbers, of whatever program; no function is named here. -/
import Derived.Lib.SmallJoins
import Derived.Test.YtfobknppdjiniaaAp
namespace Go.Proofs.Ytfobknppdjiniaa
open Go.Joins Go.ChangeShapes Go.WideShapes Go.RowKit Go.Deep

/-- A number of 64 bits. -/
def i64 (n : Int) : Prop := -9223372036854775808 ≤ n ∧ n ≤ 9223372036854775807
theorem i64_of {n : Int} (h : (Lit.int .i64 n).wf = true) : i64 n := by
  simpa [i64, Lit.wf, IntKind.min, IntKind.max, IntKind.signed, IntKind.bits] using h
def Pa.num (a : Pa) : Prop := i64 a.ty ∧ i64 a.mode ∧ i64 a.nlink ∧ i64 a.uid ∧ i64 a.gid ∧ i64 a.size ∧ i64 a.id ∧ i64 a.gen ∧ i64 a.change ∧ i64 a.time
def Po.num (o : Po) : Prop := i64 o.n
def Ps.num (s : Ps) : Prop := s.mode.num ∧ s.uid.num ∧ s.gid.num ∧ s.size.num ∧ s.time.num
structure Pc where
  client : Int
  seq : Int
  uid : Int
  gid : Int
def Pc.vs (c : Pc) : List Value := [.int .i64 c.client, .int .i64 c.seq, .int .i64 c.uid, .int .i64 c.gid]
def Pc.num (c : Pc) : Prop := i64 c.client ∧ i64 c.seq ∧ i64 c.uid ∧ i64 c.gid

/-- Is a field at this place, of this type? -/
def isField (fs : Array Field) (i off : Nat) (t : TypeId) : Bool :=
  match fs[i]? with
  | some f => f.offset == off && f.type == t
  | none => false
theorem isField_of {fs : Array Field} {i off : Nat} {t : TypeId} (h : isField fs i off t = true) : ∃ f, fs[i]? = some f ∧ f.offset = off ∧ f.type = t := by
  unfold isField at h
  split at h
  · rename_i f hf
    simp only [Bool.and_eq_true, beq_iff_eq] at h
    exact ⟨f, hf, h.1, h.2⟩
  · exact absurd h (by simp)
def ints (fs : Array Field) (t : TypeId) (k : Nat) : Bool := fs.size == k && (List.range k).all fun i => isField fs i i t

section
variable {H : Type} {enc : TypeId × Value → H} {P : Program} {w : World} {base : Nat} {spare : Nat → Bool} {held : Bool}

theorem trod_at {ti : TypeId} {fs : Array Field} {n : Nat} {cs : List Value} {xs : List (DataW H × List MemPlace)} {i off k : Nat} (hF : isField fs i off ti = true) (hc : P.cellsOf ti = k)
    (hg : ∀ (i : Nat) (f : Field), fs[i]? = some f → DataW.trod enc P w base spare held n f.type ((cs.drop f.offset).take (P.cellsOf f.type)) = xs[i]?) :
    DataW.trod enc P w base spare held n ti ((cs.drop off).take k) = xs[i]? := by
  obtain ⟨f, hf, ho, ht⟩ := isField_of hF
  have := hg i f hf
  rwa [ho, ht, hc] at this
/-- A row of numbers. -/
theorem trod_ints {t ti : TypeId} {fs : Array Field} {fuel k : Nat} {cs : List Value} {x : DataW H × List MemPlace} (hs : P.underlying t = some (.struct fs)) (hr : ints fs ti k = true) (hi : P.underlying ti = some (.int .i64)) (hc1 : P.cellsOf ti = 1)
    (hC : P.cellsOf t = k) (h : DataW.trod enc P w base spare held fuel t cs = some x) :
    ∃ ns : List Int, ns.length = k ∧ cs = ns.map (Value.int .i64 ·) ∧ x = (.agg (ns.map fun n => .lit (.int .i64 n)), []) ∧ ∀ n ∈ ns, i64 n := by
  obtain ⟨xs, n, _, hx, hl, hlen, hg⟩ := DataW.trod_struct hs h
  simp only [ints, Bool.and_eq_true, beq_iff_eq, List.all_eq_true, List.mem_range] at hr
  obtain ⟨hk, hr⟩ := hr
  rw [hC] at hl
  rw [hk] at hlen
  have key : ∀ (i : Nat), i < k → ∃ m : Int, cs[i]? = some (.int .i64 m) ∧ xs[i]? = some (.lit (.int .i64 m), []) ∧ i64 m := by
    intro i hik
    have h1 := trod_at (hr i hik) hc1 hg
    have hxi : xs[i]? = some (xs[i]'(by omega)) := List.getElem?_eq_getElem (by omega)
    rw [hxi] at h1
    obtain ⟨m, e1, e2, e3⟩ := DataW.trod_int hi h1
    refine ⟨m, ?_, by rw [hxi, e2], i64_of e3⟩
    have e4 : ((cs.drop i).take 1)[0]? = some (.int .i64 m) := by rw [e1]; rfl
    simpa using e4
  let f : Value → Int := fun v => match v with | .int _ n => n | _ => 0
  refine ⟨cs.map f, by simp [hl], ?_, ?_, ?_⟩
  · apply List.ext_getElem?
    intro i
    by_cases hik : i < k
    · obtain ⟨m, e1, _, _⟩ := key i hik
      simp only [List.map_map, List.getElem?_map, e1, Option.map_some, Function.comp, f]
    · simp only [List.map_map, List.getElem?_map]
      rw [List.getElem?_eq_none (by omega)]
      rfl
  · rw [hx]
    have ex : xs = cs.map fun v => (.lit (.int .i64 (f v)), []) := by
      apply List.ext_getElem?
      intro i
      by_cases hik : i < k
      · obtain ⟨m, e1, e2, _⟩ := key i hik
        simp only [List.getElem?_map, e1, e2, Option.map_some, f]
      · simp only [List.getElem?_map]
        rw [List.getElem?_eq_none (by omega), List.getElem?_eq_none (by omega)]
        rfl
    rw [ex]
    simp only [List.map_map, Prod.mk.injEq, List.flatMap_map]
    exact ⟨rfl, by simp⟩
  · intro m hm
    obtain ⟨v, hv, rfl⟩ := List.mem_map.1 hm
    obtain ⟨i, hi2⟩ := List.mem_iff_getElem?.1 hv
    have hik : i < k := by
      rcases Nat.lt_or_ge i k with h | h
      · exact h
      · rw [List.getElem?_eq_none (by omega)] at hi2; exact absurd hi2 (by simp)
    obtain ⟨m, e1, _, e3⟩ := key i hik
    rw [hi2] at e1
    injection e1 with e1
    rw [e1]
    exact e3
def Pa.data (a : Pa) : DataW H := .agg [.lit (.int .i64 a.ty), .lit (.int .i64 a.mode), .lit (.int .i64 a.nlink), .lit (.int .i64 a.uid), .lit (.int .i64 a.gid), .lit (.int .i64 a.size), .lit (.int .i64 a.id), .lit (.int .i64 a.gen), .lit (.int .i64 a.change), .lit (.int .i64 a.time)]
def Pc.data (c : Pc) : DataW H := .agg [.lit (.int .i64 c.client), .lit (.int .i64 c.seq), .lit (.int .i64 c.uid), .lit (.int .i64 c.gid)]
def Po.data (o : Po) : DataW H := .agg [.lit (.bool o.is), .lit (.int .i64 o.n)]
def Pp.data (p : Pp) : DataW H := .agg [.lit (.bool p.is), p.attr.data]
def Pw.data (c : Pw) : DataW H := .agg [c.before.data, c.after.data]
def Ps.data (s : Ps) : DataW H := .agg [s.mode.data, s.uid.data, s.gid.data, s.size.data, s.time.data]
def Pp.num (p : Pp) : Prop := p.attr.num
def Pw.num (c : Pw) : Prop := c.before.num ∧ c.after.num

theorem trod_pa {t ti : TypeId} {fs : Array Field} {fuel : Nat} {cs : List Value} {x : DataW H × List MemPlace} (hs : P.underlying t = some (.struct fs)) (hr : ints fs ti 10 = true) (hi : P.underlying ti = some (.int .i64)) (hc1 : P.cellsOf ti = 1)
    (hC : P.cellsOf t = 10) (h : DataW.trod enc P w base spare held fuel t cs = some x) : ∃ a : Pa, cs = a.vs ∧ x = (a.data, []) ∧ a.num := by
  obtain ⟨ns, hl, h1, h2, h3⟩ := trod_ints hs hr hi hc1 hC h
  match ns, hl with
  | [n0, n1, n2, n3, n4, n5, n6, n7, n8, n9], _ =>
    refine ⟨⟨n0, n1, n2, n3, n4, n5, n6, n7, n8, n9⟩, by rw [h1]; rfl, by rw [h2]; rfl, ?_⟩
    simp only [List.forall_mem_cons] at h3
    exact ⟨h3.1, h3.2.1, h3.2.2.1, h3.2.2.2.1, h3.2.2.2.2.1, h3.2.2.2.2.2.1, h3.2.2.2.2.2.2.1, h3.2.2.2.2.2.2.2.1, h3.2.2.2.2.2.2.2.2.1, h3.2.2.2.2.2.2.2.2.2.1⟩
theorem trod_pc {t ti : TypeId} {fs : Array Field} {fuel : Nat} {cs : List Value} {x : DataW H × List MemPlace} (hs : P.underlying t = some (.struct fs)) (hr : ints fs ti 4 = true) (hi : P.underlying ti = some (.int .i64)) (hc1 : P.cellsOf ti = 1)
    (hC : P.cellsOf t = 4) (h : DataW.trod enc P w base spare held fuel t cs = some x) : ∃ c : Pc, cs = c.vs ∧ x = (c.data, []) ∧ c.num := by
  obtain ⟨ns, hl, h1, h2, h3⟩ := trod_ints hs hr hi hc1 hC h
  match ns, hl with
  | [n0, n1, n2, n3], _ =>
    refine ⟨⟨n0, n1, n2, n3⟩, by rw [h1]; rfl, by rw [h2]; rfl, ?_⟩
    simp only [List.forall_mem_cons] at h3
    exact ⟨h3.1, h3.2.1, h3.2.2.1, h3.2.2.2.1⟩
theorem len_of {k : Nat} {cs : List Value} (h : cs.length = k) (f : List Value) (off n : Nat) (e : (cs.drop off).take n = f) (hb : off + n = k) : cs.drop off = f := by
  rw [← e, List.take_of_length_le]
  simp; omega
theorem trod_po {t ti tb : TypeId} {fs : Array Field} {fuel : Nat} {cs : List Value} {x : DataW H × List MemPlace} (hs : P.underlying t = some (.struct fs)) (hn : fs.size = 2) (f0 : isField fs 0 0 tb = true) (f1 : isField fs 1 1 ti = true)
    (hb : P.underlying tb = some .bool) (hi : P.underlying ti = some (.int .i64)) (cb : P.cellsOf tb = 1) (ci : P.cellsOf ti = 1) (hC : P.cellsOf t = 2) (h : DataW.trod enc P w base spare held fuel t cs = some x) :
    ∃ o : Po, cs = o.vs ∧ x = (o.data, []) ∧ o.num := by
  obtain ⟨xs, n, _, hx, hl, hlen, hg⟩ := DataW.trod_struct hs h
  rw [hC] at hl
  rw [hn] at hlen
  have h0 := trod_at f0 cb hg
  have h1 := trod_at f1 ci hg
  match xs, hlen, cs, hl with
  | [y0, y1], _, [c0, c1], _ =>
    obtain ⟨b, e1, e2⟩ := DataW.trod_bool hb (h0.trans rfl)
    obtain ⟨m, e3, e4, e5⟩ := DataW.trod_int hi (h1.trans rfl)
    simp only [List.drop_zero, List.take_succ_cons, List.take_zero, List.drop_succ_cons, List.cons.injEq, and_true] at e1 e3
    refine ⟨⟨b, m⟩, by rw [e1, e3]; rfl, by rw [hx, e2, e4]; rfl, i64_of e5⟩
theorem trod_pp {t ta tb : TypeId} {fs : Array Field} {fuel : Nat} {cs : List Value} {x : DataW H × List MemPlace} (hs : P.underlying t = some (.struct fs)) (hn : fs.size = 2) (f0 : isField fs 0 0 tb = true) (f1 : isField fs 1 1 ta = true)
    (hb : P.underlying tb = some .bool) (cb : P.cellsOf tb = 1) (ca : P.cellsOf ta = 10) (hC : P.cellsOf t = 11)
    (A : ∀ {fuel : Nat} {cs : List Value} {x : DataW H × List MemPlace}, DataW.trod enc P w base spare held fuel ta cs = some x → ∃ a : Pa, cs = a.vs ∧ x = (a.data, []) ∧ a.num)
    (h : DataW.trod enc P w base spare held fuel t cs = some x) : ∃ p : Pp, cs = p.vs ∧ x = (p.data, []) ∧ p.num := by
  obtain ⟨xs, n, _, hx, hl, hlen, hg⟩ := DataW.trod_struct hs h
  rw [hC] at hl
  rw [hn] at hlen
  have h0 := trod_at f0 cb hg
  have h1 := trod_at f1 ca hg
  match xs, hlen, cs, hl with
  | [y0, y1], _, c0 :: cs, hl =>
    obtain ⟨b, e1, e2⟩ := DataW.trod_bool hb (h0.trans rfl)
    obtain ⟨a, e3, e4, e5⟩ := A (h1.trans rfl)
    have e3' := len_of (k := 11) hl _ 1 10 e3 rfl
    simp only [List.drop_zero, List.take_succ_cons, List.take_zero, List.drop_succ_cons, List.cons.injEq, and_true] at e1 e3'
    refine ⟨⟨b, a⟩, by rw [e1, e3']; rfl, by rw [hx, e2, e4]; rfl, e5⟩
theorem trod_pw {t to tp : TypeId} {fs : Array Field} {fuel : Nat} {cs : List Value} {x : DataW H × List MemPlace} (hs : P.underlying t = some (.struct fs)) (hn : fs.size = 2) (f0 : isField fs 0 0 to = true) (f1 : isField fs 1 2 tp = true)
    (co : P.cellsOf to = 2) (cp : P.cellsOf tp = 11) (hC : P.cellsOf t = 13)
    (O : ∀ {fuel : Nat} {cs : List Value} {x : DataW H × List MemPlace}, DataW.trod enc P w base spare held fuel to cs = some x → ∃ o : Po, cs = o.vs ∧ x = (o.data, []) ∧ o.num)
    (A : ∀ {fuel : Nat} {cs : List Value} {x : DataW H × List MemPlace}, DataW.trod enc P w base spare held fuel tp cs = some x → ∃ p : Pp, cs = p.vs ∧ x = (p.data, []) ∧ p.num)
    (h : DataW.trod enc P w base spare held fuel t cs = some x) : ∃ c : Pw, cs = c.vs ∧ x = (c.data, []) ∧ c.num := by
  obtain ⟨xs, n, _, hx, hl, hlen, hg⟩ := DataW.trod_struct hs h
  rw [hC] at hl
  rw [hn] at hlen
  have h0 := trod_at f0 co hg
  have h1 := trod_at f1 cp hg
  match xs, hlen with
  | [y0, y1], _ =>
    obtain ⟨o, e1, e2, e2n⟩ := O (h0.trans rfl)
    obtain ⟨p, e3, e4, e5⟩ := A (h1.trans rfl)
    have e3' := len_of (k := 13) hl _ 2 11 e3 rfl
    refine ⟨⟨o, p⟩, ?_, by rw [hx, e2, e4]; rfl, e2n, e5⟩
    rw [← List.take_append_drop 2 cs, e3', ← List.drop_zero (l := cs), e1]; rfl
theorem trod_ps {t to : TypeId} {fs : Array Field} {fuel : Nat} {cs : List Value} {x : DataW H × List MemPlace} (hs : P.underlying t = some (.struct fs)) (hn : fs.size = 5) (f0 : isField fs 0 0 to = true) (f1 : isField fs 1 2 to = true)
    (f2 : isField fs 2 4 to = true) (f3 : isField fs 3 6 to = true) (f4 : isField fs 4 8 to = true) (co : P.cellsOf to = 2) (hC : P.cellsOf t = 10)
    (O : ∀ {fuel : Nat} {cs : List Value} {x : DataW H × List MemPlace}, DataW.trod enc P w base spare held fuel to cs = some x → ∃ o : Po, cs = o.vs ∧ x = (o.data, []) ∧ o.num)
    (h : DataW.trod enc P w base spare held fuel t cs = some x) : ∃ s : Ps, cs = s.vs ∧ x = (s.data, []) ∧ s.num := by
  obtain ⟨xs, n, _, hx, hl, hlen, hg⟩ := DataW.trod_struct hs h
  rw [hC] at hl
  rw [hn] at hlen
  have h0 := trod_at f0 co hg
  have h1 := trod_at f1 co hg
  have h2 := trod_at f2 co hg
  have h3 := trod_at f3 co hg
  have h4 := trod_at f4 co hg
  match xs, hlen, cs, hl with
  | [y0, y1, y2, y3, y4], _, [c0, c1, c2, c3, c4, c5, c6, c7, c8, c9], _ =>
    obtain ⟨o0, a0, b0, n0⟩ := O (h0.trans rfl)
    obtain ⟨o1, a1, b1, n1⟩ := O (h1.trans rfl)
    obtain ⟨o2, a2, b2, n2⟩ := O (h2.trans rfl)
    obtain ⟨o3, a3, b3, n3⟩ := O (h3.trans rfl)
    obtain ⟨o4, a4, b4, n4⟩ := O (h4.trans rfl)
    refine ⟨⟨o0, o1, o2, o3, o4⟩, ?_, by rw [hx, b0, b1, b2, b3, b4]; rfl, n0, n1, n2, n3, n4⟩
    show [c0, c1, c2, c3, c4, c5, c6, c7, c8, c9] = o0.vs ++ o1.vs ++ o2.vs ++ o3.vs ++ o4.vs
    rw [← a0, ← a1, ← a2, ← a3, ← a4]; rfl
/-- A value of a struct, with what it reads as. -/
theorem open_by {r : Reach} {b0 : Nat} {t : TypeId} {fs : Array Field} {v : Value} {d : DataW H} {p : List MemPlace} {α : Type} {vs : α → List Value} {data : α → DataW H} {num : α → Prop} (hs : P.underlying t = some (.struct fs))
    (A : ∀ {fuel : Nat} {cs : List Value} {x : DataW H × List MemPlace}, DataW.trod enc P w base spare held fuel t cs = some x → ∃ a : α, cs = vs a ∧ x = (data a, []) ∧ num a)
    (hv : Value.okWide P w r b0 t v) (h : DataW.Trod enc P w base spare held t v d p) : ∃ a : α, v = .agg (vs a).toArray ∧ d = data a ∧ p = [] ∧ num a := by
  obtain ⟨cs, rfl, hsz⟩ := okWide_struct hs hv
  obtain ⟨fuel, hf⟩ := h
  obtain ⟨a, e1, e2, e3⟩ := A hf
  simp only [Prod.mk.injEq] at e2
  refine ⟨a, ?_, e2.1, e2.2, e3⟩
  simp only [Value.cells] at e1
  rw [← e1]
end
end Go.Proofs.Ytfobknppdjiniaa
