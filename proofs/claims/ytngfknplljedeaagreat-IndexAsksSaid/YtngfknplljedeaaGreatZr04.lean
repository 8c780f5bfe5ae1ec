/- Lemmas for the laws of index. -/
import Derived.Lib.SmallJoins
import Derived.Test.YtngfknplljedeaaGreatZr03
namespace Go.Proofs.YtngfknplljedeaaGreat
open Go.Joins Go.ChangeShapes Go.WideShapes Go.RowKit Go.Deep
def i64 (n : Int) : Prop := -9223372036854775808 ≤ n ∧ n ≤ 9223372036854775807
theorem i64_of {n : Int} (h : (Lit.int .i64 n).wf = true) : i64 n := by
 simpa [i64, Lit.wf, IntKind.min, IntKind.max, IntKind.signed, IntKind.bits] using h
def Pa.num (a : Pa) : Prop := i64 a.ty ∧ i64 a.mode ∧ i64 a.nlink ∧ i64 a.uid ∧ i64 a.gid ∧ i64 a.size ∧ i64 a.id ∧ i64 a.gen ∧ i64 a.change ∧ i64 a.time
structure Pc where
 client : Int
 seq : Int
 uid : Int
 gid : Int
def Pc.vs (c : Pc) : List Value := [.int .i64 c.client, .int .i64 c.seq, .int .i64 c.uid, .int .i64 c.gid]
def isField (fs : Array Field) (i off : Nat) (t : TypeId) : Bool :=
 match fs[i]? with
 | some f => f.offset == off && f.type == t
 | none => false
theorem isField_of {fs : Array Field} {i off : Nat} {t : TypeId} (h : isField fs i off t = true) : ∃ f, fs[i]? = some f ∧ f.offset = off ∧ f.type = t := by
 unfold isField at h
 split at h
 · rename_i f hf
   simp only [Bool.and_eq_true, beq_iff_eq] at h
   exact ⟨f, hf, h.1, h.2⟩
 · exact absurd h (by simp)
def ints (fs : Array Field) (t : TypeId) (k : Nat) : Bool := fs.size == k && (List.range k).all fun i => isField fs i i t
end Go.Proofs.YtngfknplljedeaaGreat
namespace Go.Proofs.YtngfknplljedeaaGreat
open Go.Joins Go.ChangeShapes Go.WideShapes Go.RowKit Go.Deep
section
variable {H : Type} {enc : TypeId × Value → H} {P : Program} {w : World} {base : Nat} {spare : Nat → Bool} {held : Bool}
theorem trod_at {ti : TypeId} {fs : Array Field} {n : Nat} {cs : List Value} {xs : List (DataW H × List MemPlace)} {i off k : Nat} (hF : isField fs i off ti = true) (hc : P.cellsOf ti = k)
 (hg : ∀ (i : Nat) (f : Field), fs[i]? = some f → DataW.trod enc P w base spare held n f.type ((cs.drop f.offset).take (P.cellsOf f.type)) = xs[i]?) :
 DataW.trod enc P w base spare held n ti ((cs.drop off).take k) = xs[i]? := by
 obtain ⟨f, hf, ho, ht⟩ := isField_of hF
 have := hg i f hf
 rwa [ho, ht, hc] at this
theorem trod_ints {t ti : TypeId} {fs : Array Field} {fuel k : Nat} {cs : List Value} {x : DataW H × List MemPlace} (hs : P.underlying t = some (.struct fs)) (hr : ints fs ti k = true) (hi : P.underlying ti = some (.int .i64)) (hc1 : P.cellsOf ti = 1)
 (hC : P.cellsOf t = k) (h : DataW.trod enc P w base spare held fuel t cs = some x) :
 ∃ ns : List Int, ns.length = k ∧ cs = ns.map (Value.int .i64 ·) ∧ x = (.agg (ns.map fun n => .lit (.int .i64 n)), []) ∧ ∀ n ∈ ns, i64 n := by
 obtain ⟨xs, n, _, hx, hl, hlen, hg⟩ := DataW.trod_struct hs h
 simp only [ints, Bool.and_eq_true, beq_iff_eq, List.all_eq_true, List.mem_range] at hr
 obtain ⟨hk, hr⟩ := hr
 rw [hC] at hl
 rw [hk] at hlen
 have key : ∀ (i : Nat), i < k → ∃ m : Int, cs[i]? = some (.int .i64 m) ∧ xs[i]? = some (.lit (.int .i64 m), []) ∧ i64 m := by
  intro i hik
  have h1 := trod_at (hr i hik) hc1 hg
  have hxi : xs[i]? = some (xs[i]'(by omega)) := List.getElem?_eq_getElem (by omega)
  rw [hxi] at h1
  obtain ⟨m, e1, e2, e3⟩ := DataW.trod_int hi h1
  refine ⟨m, ?_, by rw [hxi, e2], i64_of e3⟩
  have e4 : ((cs.drop i).take 1)[0]? = some (.int .i64 m) := by rw [e1]; rfl
  simpa using e4
 let f : Value → Int := fun v => match v with | .int _ n => n | _ => 0
 refine ⟨cs.map f, by simp [hl], ?_, ?_, ?_⟩
 · apply List.ext_getElem?
   intro i
   by_cases hik : i < k
   · obtain ⟨m, e1, _, _⟩ := key i hik
     simp only [List.map_map, List.getElem?_map, e1, Option.map_some, Function.comp, f]
   · simp only [List.map_map, List.getElem?_map]
     rw [List.getElem?_eq_none (by omega)]
     rfl
 · rw [hx]
   have ex : xs = cs.map fun v => (.lit (.int .i64 (f v)), []) := by
    apply List.ext_getElem?
    intro i
    by_cases hik : i < k
    · obtain ⟨m, e1, e2, _⟩ := key i hik
      simp only [List.getElem?_map, e1, e2, Option.map_some, f]
    · simp only [List.getElem?_map]
      rw [List.getElem?_eq_none (by omega), List.getElem?_eq_none (by omega)]
      rfl
   rw [ex]
   simp only [List.map_map, Prod.mk.injEq, List.flatMap_map]
   exact ⟨rfl, by simp⟩
 · intro m hm
   obtain ⟨v, hv, rfl⟩ := List.mem_map.1 hm
   obtain ⟨i, hi2⟩ := List.mem_iff_getElem?.1 hv
   have hik : i < k := by
    rcases Nat.lt_or_ge i k with h | h
    · exact h
    · rw [List.getElem?_eq_none (by omega)] at hi2; exact absurd hi2 (by simp)
   obtain ⟨m, e1, _, e3⟩ := key i hik
   rw [hi2] at e1
   injection e1 with e1
   rw [e1]
   exact e3
def Pa.data (a : Pa) : DataW H := .agg [.lit (.int .i64 a.ty), .lit (.int .i64 a.mode), .lit (.int .i64 a.nlink), .lit (.int .i64 a.uid), .lit (.int .i64 a.gid), .lit (.int .i64 a.size), .lit (.int .i64 a.id), .lit (.int .i64 a.gen), .lit (.int .i64 a.change), .lit (.int .i64 a.time)]
theorem trod_pa {t ti : TypeId} {fs : Array Field} {fuel : Nat} {cs : List Value} {x : DataW H × List MemPlace} (hs : P.underlying t = some (.struct fs)) (hr : ints fs ti 10 = true) (hi : P.underlying ti = some (.int .i64)) (hc1 : P.cellsOf ti = 1)
 (hC : P.cellsOf t = 10) (h : DataW.trod enc P w base spare held fuel t cs = some x) : ∃ a : Pa, cs = a.vs ∧ x = (a.data, []) ∧ a.num := by
 obtain ⟨ns, hl, h1, h2, h3⟩ := trod_ints hs hr hi hc1 hC h
 match ns, hl with
 | [n0, n1, n2, n3, n4, n5, n6, n7, n8, n9], _ =>
  refine ⟨⟨n0, n1, n2, n3, n4, n5, n6, n7, n8, n9⟩, by rw [h1]; rfl, by rw [h2]; rfl, ?_⟩
  simp only [List.forall_mem_cons] at h3
  exact ⟨h3.1, h3.2.1, h3.2.2.1, h3.2.2.2.1, h3.2.2.2.2.1, h3.2.2.2.2.2.1, h3.2.2.2.2.2.2.1, h3.2.2.2.2.2.2.2.1, h3.2.2.2.2.2.2.2.2.1, h3.2.2.2.2.2.2.2.2.2.1⟩
end
end Go.Proofs.YtngfknplljedeaaGreat
