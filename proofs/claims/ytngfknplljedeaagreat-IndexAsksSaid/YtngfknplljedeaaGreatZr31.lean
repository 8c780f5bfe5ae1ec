/- Lemmas for the laws of index. -/
import Derived.Laws.CopyOwn
import Derived.Lib.AppendZerosOnto
import Derived.Test.YtngfknplljedeaaGreatZr18
namespace Go.Proofs.YtngfknplljedeaaGreat
open Go.RowKit
section
variable {α : Type} {T : TypeId} {f : α → List Value} {k g : Nat} {w : World}
def Row (T : TypeId) (f : α → List Value) (g : Nat) (L : List α) (rest : List Value) (w : World) : Prop := St T g (L.flatMap f ++ rest).toArray w
theorem Row.at' (hf : ∀ x, (f x).length = k) {L : List α} {rest : List Value} (h : Row T f g L rest w) {i : Nat} {x : α} (hi : L[i]? = some x) : w.rangeAt g (i * k) (f x) := by
 intro j u hu
 have hj : j < k := by have := (List.getElem?_eq_some_iff.1 hu).1; rwa [hf] at this
 have hl := (List.getElem?_eq_some_iff.1 hi).1
 have hlt : i * k + j < L.length * k := by
  have : (i + 1) * k ≤ L.length * k := Nat.mul_le_mul_right k hl
  rw [Nat.succ_mul] at this
  omega
 refine St.cell h ?_
 rw [List.getElem?_toArray, List.getElem?_append_left (by rw [flat_length hf]; exact hlt), flat_at hf L i x hi j hj]
 exact hu
theorem Row.there (hf : ∀ x, (f x).length = k) {L : List α} {rest : List Value} (h : Row T f g L rest w) {i : Nat} (hi : i < L.length) : w.there g (i * k) k := by
 intro j hj
 refine ⟨?_, St.free h _⟩
 have := h.at' hf (List.getElem?_eq_getElem hi) j ((f L[i])[j]'(by rw [hf]; exact hj)) (List.getElem?_eq_getElem _)
 rw [this]
 rfl
theorem splice_nil {β : Type} (L : List β) (o : Nat) : splice L o [] = L := by simp [splice]
theorem splice_cons {β : Type} (L : List β) (o : Nat) (v : β) (r : List β) (h : o < L.length) : splice (L.set o v) (o + 1) r = splice L o (v :: r) := by
 unfold splice
 have e1 : (L.set o v).take (o + 1) = L.take o ++ [v] := by
  rw [take_one _ o v (by rw [List.getElem?_set_self h]), List.take_set_of_le (Nat.le_refl _)]
 rw [e1, List.drop_set_of_lt (by omega), List.length_cons, show o + 1 + r.length = o + (r.length + 1) from by omega]
 simp
theorem St.cells : ∀ (vs : List Value) (o : Nat) (cs : List Value) (w : World), St T g cs.toArray w → o + vs.length ≤ cs.length → St T g (splice cs o vs).toArray (w.setCells g o vs)
 | [], o, cs, w, h, _ => by rw [splice_nil]; exact h
 | v :: r, o, cs, w, h, hl => by
  have hl' : o + (r.length + 1) ≤ cs.length := by simpa using hl
  rw [World.setCells, ← splice_cons cs o v r (by omega)]
  refine St.cells r (o + 1) (cs.set o v) _ ?_ (by simp; omega)
  have := h.set o v
  rwa [List.setIfInBounds_toArray] at this
theorem Frm.cells' {F : Nat → Prop} {a : World} (hg : F g ∨ a.heap.size ≤ g) : ∀ (vs : List Value) (o : Nat) (b : World), Frm F a b → Frm F a (b.setCells g o vs)
 | [], _, _, h => h
 | v :: r, o, b, h => by
  rw [World.setCells]
  exact Frm.cells' hg r (o + 1) _ (h.setCell (p := ⟨g, o, none⟩) hg v)
theorem splice_append {β : Type} (L R : List β) (o : Nat) (cs : List β) (h : o + cs.length ≤ L.length) : splice (L ++ R) o cs = splice L o cs ++ R := by
 unfold splice
 rw [List.take_append_of_le_length (by omega), List.drop_append_of_le_length h]
 simp
theorem splice_at {β : Type} (A B C cs : List β) (h : B.length = cs.length) : splice (A ++ (B ++ C)) A.length cs = A ++ (cs ++ C) := by
 unfold splice
 rw [List.take_left, ← List.append_assoc A B C, List.drop_append_of_le_length (by simp; omega), show (A ++ B).drop (A.length + cs.length) = [] from List.drop_eq_nil_of_le (by simp; omega)]
 rfl
theorem flat_set (hf : ∀ x, (f x).length = k) (L : List α) (i : Nat) (x : α) (hi : i < L.length) : (L.set i x).flatMap f = splice (L.flatMap f) (i * k) (f x) := by
 have e : L = L.take i ++ (L[i] :: L.drop (i + 1)) := by rw [← List.drop_eq_getElem_cons hi, List.take_append_drop]
 have e2 : L.set i x = L.take i ++ (x :: L.drop (i + 1)) := by rw [List.set_eq_take_append_cons_drop, if_pos hi]
 have hl : ((L.take i).flatMap f).length = i * k := by rw [flat_length hf, List.length_take]; congr 1; omega
 rw [e2]
 conv => rhs; rw [e]
 rw [List.flatMap_append, List.flatMap_append, List.flatMap_cons, List.flatMap_cons, ← hl, splice_at _ _ _ _ (by rw [hf, hf])]
theorem Row.set (hf : ∀ x, (f x).length = k) {L : List α} {rest : List Value} (h : Row T f g L rest w) {i : Nat} (x : α) (hi : i < L.length) : Row T f g (L.set i x) rest (w.setCells g (i * k) (f x)) := by
 have hb : i * k + (f x).length ≤ (L.flatMap f).length := by
  rw [hf, flat_length hf]
  have : (i + 1) * k ≤ L.length * k := Nat.mul_le_mul_right k hi
  rw [Nat.succ_mul] at this
  omega
 have := St.cells (f x) (i * k) _ w h (by rw [List.length_append]; omega)
 rw [splice_append _ _ _ _ hb, ← flat_set hf L i x hi] at this
 exact this
theorem Row.frm {F : Nat → Prop} {w' : World} {L : List α} {rest : List Value} (h : Row T f g L rest w) (hF : Frm F w w') (hn : ¬ F g) : Row T f g L rest w' := hF.st h hn
theorem Row.below {w' : World} {L : List α} {rest : List Value} (h : Row T f g L rest w) (hb : Below w.heap.size w w') : Row T f g L rest w' := St.below h hb
theorem Row.own (hf : ∀ x, (f x).length = k) {L : List α} {rest : List Value} {B cap : Nat} (h : Row T f g L rest w) (hB : B ≤ g) (hc : L.length * k + rest.length = cap * k) (hl : L.length ≤ cap) (hm : cap ≤ maxLen) : OwnAt T k f B (.slice (some ⟨g, 0, none⟩) L.length cap) L w :=
 ⟨flat_length hf L, .inr ⟨g, cap, _, rfl, hB, h, hl, hm, by simp only [List.size_toArray, List.length_append]; rw [flat_length hf]; exact hc, by rw [← flat_length hf]; exact List.take_left⟩⟩
theorem OwnAt.open {xs : List α} {B : Nat} {v : Value} (h : OwnAt T k f B v xs w) : (v = .slice none 0 0 ∧ xs = []) ∨ ∃ g cap rest, v = .slice (some ⟨g, 0, none⟩) xs.length cap ∧ B ≤ g ∧ xs.length ≤ cap ∧ cap ≤ maxLen ∧ xs.length * k + rest.length = cap * k ∧ Row T f g xs rest w := by
 rcases h.2 with ⟨hv, h0⟩ | ⟨g, cap, cur, hv, hB, hg, hl, hm, hs, ht⟩
 · exact .inl ⟨hv, List.length_eq_zero_iff.1 h0⟩
 · refine .inr ⟨g, cap, cur.toList.drop (xs.length * k), hv, hB, hl, hm, ?_, ?_⟩
   · have e : cur.toList.length = cap * k := by rw [← hs]; simp
     rw [List.length_drop, e]
     have := Nat.mul_le_mul_right k hl
     omega
   · unfold Row
     rw [← ht, List.take_append_drop]
     exact hg
theorem Row.rows (hf : ∀ x, (f x).length = k) {L : List α} {rest : List Value} {cap : Nat} (h : Row T f g L rest w) (hl : L.length ≤ 9223372036854775807 ∧ L.length ≤ cap) : RowsAt w.heap.size k f (.slice (some ⟨g, 0, none⟩) L.length cap) L w :=
 ⟨some ⟨g, 0, none⟩, cap, g, 0, rfl, hl, fun _ => ⟨rfl, St.lt h⟩, fun i x hi => by rw [Nat.zero_add]; exact h.at' hf hi⟩
end
end Go.Proofs.YtngfknplljedeaaGreat
namespace Go.Proofs.YtngfknplljedeaaGreat
open Go.RowKit
section
variable {P : Program}
theorem run_copy_k (w : World) (dT sT ty elem : TypeId) (b o dLen dCap : Nat) (a : Addr) (sLen sCap k : Nat) (cs : List Value)
 (hu : P.underlying dT = some (.slice elem)) (hs : (P.info? elem).map (·.size) = some k) (hn : cs.length = Nat.min sLen dLen * k)
 (hsrc : ∀ j v, cs[j]? = some v → w.cell? (a.add j) = some v) (hc : w.there b o cs.length) (h1 : ∀ v ∈ cs, v.oneCell' = true) :
 (Builtin.copy_ #[dT, sT] ty #[.slice (some ⟨b, o, none⟩) dLen dCap, .slice (some a) sLen sCap]).run P w = .ok (goInt (Nat.min sLen dLen)) (w.setCells b o cs) := by
 have hl := run_loadCells_list (P := P) w a cs hsrc
 have hst := run_storeCells_cells (P := P) b o cs 0 w (fun j hj => by simpa using (hc j hj).1) (fun j hj => by simpa using (hc j hj).2) h1
 cases hq : P.info? elem with
 | none => simp [hq] at hs
 | some i =>
  have hi : i.size = k := by simpa [hq] using hs
  simp [Builtin.copy_, run_underlying hu, Builtin.lenOf, Builtin.firstCells, sizeOf, typeInfo, hq, hi, ← hn, hl, hst]
theorem zeroCells_size (z : Array Value) (n : Nat) : (Builtin.zeroCells z n).size = n * z.size := by simp [Builtin.zeroCells]
theorem zeroCells_one (z : Array Value) (n : Nat) (h1 : ∀ u ∈ z, u.oneCell' = true) : ∀ u ∈ (Builtin.zeroCells z n).toList, u.oneCell' = true := by
 intro u hu
 simp only [Builtin.zeroCells] at hu
 simp at hu
 obtain ⟨i, _, rfl⟩ := hu
 by_cases h : i % z.size < z.size
 · simp only [h, getElem!_pos]
   exact h1 _ (Array.getElem_mem _)
 · simp only [h, getElem!_neg, not_false_eq_true]
   rfl
theorem run_clear_k (w : World) (t e ty : TypeId) (z : Value) (k : Nat) (ht : P.underlying t = some (.slice e)) (hv : ∀ w, (zeroValue e).run P w = .ok z w) (hz : z.cells.size = k) (h1 : ∀ u ∈ z.cells, u.oneCell' = true) (b o n c : Nat) (hn : 0 < n)
 (hc : w.there b o (n * k)) :
 (Builtin.clear_ #[t] ty #[.slice (some ⟨b, o, none⟩) n c]).run P w = .ok (.tuple #[]) (w.setCells b o (Builtin.zeroCells z.cells n).toList) := by
 have hsz := zeroCells_size z.cells n
 rw [hz] at hsz
 have hst := run_storeCells_cells (P := P) b o (Builtin.zeroCells z.cells n).toList 0 w (fun j hj => by simpa using (hc j (by rw [← hsz]; simpa using hj)).1) (fun j hj => by simpa using (hc j (by rw [← hsz]; simpa using hj)).2) (zeroCells_one _ _ h1)
 simp only [Nat.add_zero] at hst
 obtain ⟨m, rfl⟩ : ∃ m, n = m + 1 := ⟨n - 1, by omega⟩
 simp [Builtin.clear_, run_underlying ht, hv, hst]
end
end Go.Proofs.YtngfknplljedeaaGreat
namespace Go.Proofs.YtngfknplljedeaaGreat
open Go.RowKit
section
variable {α : Type}
def PredW (P : Program) (g : Nat) (lb : Array Value) (f : α → List Value) (p : α → Bool) (F : Nat → Prop) (w : World) : Prop :=
 ∀ (W : World) (x : α), Frm F w W → Calls P g (#[.agg (f x).toArray] ++ lb) W fun e w' => e = .returned (.bool (p x)) ∧ Below W.heap.size W w'
theorem PredW.later {P : Program} {g : Nat} {lb : Array Value} {f : α → List Value} {p : α → Bool} {F G : Nat → Prop} {w w' : World} (h : PredW P g lb f p F w) (hF : Frm F w w') (hG : ∀ j, G j → F j ∨ (w.heap.size ≤ j ∧ j < w'.heap.size)) : PredW P g lb f p G w' :=
 fun W x hW => h W x (hF.trans (hW.wide hG))
end
end Go.Proofs.YtngfknplljedeaaGreat
