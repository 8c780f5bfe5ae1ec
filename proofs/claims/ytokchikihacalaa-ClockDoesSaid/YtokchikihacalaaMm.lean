/- Marks in a map of one's own: of each key whether it is marked. No function of the program is named here. -/
import Derived.Test.YtokchikihacalaaKa
import Derived.Test.YtokchikihacalaaDa
import Derived.Maps.OwnSet
import Derived.Maps.OwnOps
namespace Go.Proofs.Ytokchikihacalaa
open Go.RowKit Go.Maps

theorem plainElem_bool_inv {H : Type} {P : Program} {e : TypeId} (he : P.underlying e = some .bool) {v : Value} {d : DataW H} {ps : List MemPlace} (h : plainElem P e v = some (d, ps)) : ∃ x, v = .bool x ∧ d = .lit (.bool x) := by
  unfold plainElem at h
  rw [he] at h
  cases v <;> simp at h
  exact ⟨_, rfl, h.1.symm⟩
section
variable {α : Type} [DecidableEq α]
/-- Block m is a map that has just these keys, and tells of each whether it is marked. -/
def Marks (P : Program) (kt et : TypeId) (lit : α → Lit) (m : Nat) (l : List (α × Bool)) (w : World) : Prop :=
  ∃ D : DataW Nat, w.ownsMap P kt (plainElem P et) m l.length D ∧ ∀ s, has D (lit s) = inK s l ∧ D.atKey (lit s) (.lit (.bool false)) = .lit (.bool (mkd l s))
variable {P : Program} {kt et t : TypeId} {lit : α → Lit} {m : Nat} {l : List (α × Bool)} {w : World}
theorem Marks.lt (h : Marks P kt et lit m l w) : m < w.heap.size := by
  obtain ⟨D, h, _⟩ := h
  exact h.lt
theorem Marks.frm {G : Nat → Prop} {w' : World} (h : Marks P kt et lit m l w) (f : Frm G w w') (hm : ¬ G m) : Marks P kt et lit m l w' := by
  obtain ⟨D, h, h2⟩ := h
  exact ⟨D, by obtain ⟨es, c, h1, h3⟩ := h; exact ⟨es, c, f.st h1 hm, h3⟩, h2⟩
theorem Marks.made (w : World) : Marks P kt et lit w.heap.size ([] : List (α × Bool)) (w.alloc (.map #[] 0)) :=
  ⟨.map [], World.ownsMap_made w P kt _, fun s => ⟨by simp [has_eq, inK, keys], by simp [DataW.atKey, mkd]⟩⟩
/-- So many entries as keys. -/
theorem ownsMap_size {k : TypeId} {R : Value → Option (DataW Nat × List MemPlace)} {b n n' : Nat} {D : DataW Nat} (h : w.ownsMap P k R b n D) (hs : Maps.size D ≤ n') : w.ownsMap P k R b n' D := by
  obtain ⟨es, c, hb, F, _, hD⟩ := h
  refine ⟨es, c, hb, F, ?_, hD⟩
  rw [hD] at hs
  simpa [Maps.size, length_sorted] using hs
theorem Marks.look (h : Marks P kt et lit m l w) (K : Keyed P kt) (ht : P.underlying t = some (.map kt et)) (he : P.underlying et = some .bool) (hz : (zeroValue et).run P w = .ok (.bool false) w) {s : α} {key : Value} (hkey : keyOf P kt key = some (lit s)) :
    (Instr.lookup t (.map (some m)) key false).run P w = .ok (.bool (mkd l s)) w := by
  obtain ⟨D, h, h2⟩ := h
  obtain ⟨v, ps, hrun, hv⟩ := h.lookup K ht hz (plainElem_bool he false) hkey
  obtain ⟨x, rfl, hx⟩ := plainElem_bool_inv he hv
  rw [(h2 s).2] at hx
  cases hx
  exact hrun
theorem Marks.look_ok (h : Marks P kt et lit m l w) (K : Keyed P kt) (ht : P.underlying t = some (.map kt et)) (he : P.underlying et = some .bool) (hz : (zeroValue et).run P w = .ok (.bool false) w) {s : α} {key : Value} (hkey : keyOf P kt key = some (lit s)) :
    (Instr.lookup t (.map (some m)) key true).run P w = .ok (.tuple #[.bool (mkd l s), .bool (inK s l)]) w := by
  obtain ⟨D, h, h2⟩ := h
  obtain ⟨v, ps, hrun, hv⟩ := h.look_ok K ht hz (plainElem_bool he false) hkey
  obtain ⟨x, rfl, hx⟩ := plainElem_bool_inv he hv
  rw [(h2 s).2] at hx
  rw [(h2 s).1] at hrun
  cases hx
  exact hrun
theorem Marks.put (h : Marks P kt et lit m l w) (K : Keyed P kt) (ht : P.underlying t = some (.map kt et)) (he : P.underlying et = some .bool) (hinj : ∀ a b : α, lit a = lit b → a = b) {s : α} {key : Value} (hkey : keyOf P kt key = some (lit s)) (hlit : WideAt.IsKeyLit (lit s)) (b : Bool) (hn : l.length < maxLen)
    (l' : List (α × Bool)) (hl : l'.length = if inK s l then l.length else l.length + 1) (h1 : ∀ x, inK x l' = (decide (x = s) || inK x l)) (h2 : ∀ x, mkd l' x = if x = s then b else mkd l x) :
    ∃ w', (Instr.mapUpdate t (.map (some m)) key (.bool b)).run P w = .ok () w' ∧ Marks P kt et lit m l' w' ∧ w.grownBy w' (some m) := by
  obtain ⟨D, h, hD⟩ := h
  have hT := h.tidy K
  obtain ⟨w', hrun, r1, r2⟩ := h.update K ht hn hkey (plainElem_bool he b)
  refine ⟨w', hrun, ⟨_, ownsMap_size r1 ?_, fun x => ?_⟩, r2⟩
  · rw [size_put hT, (hD s).1, hl]
    have := h.size_le
    split <;> omega
  · by_cases hx : x = s
    · subst hx
      rw [has_put_same hT.isMap hlit, atKey_put_same hT.isMap hlit, h1, h2, if_pos rfl]
      simp
    · have hne : lit x ≠ lit s := fun e => hx (hinj _ _ e)
      rw [has_put_other hne, atKey_put_other hne, h1, h2, if_neg hx, (hD x).1, (hD x).2]
      simp [hx]
theorem Marks.del (h : Marks P kt et lit m l w) (K : Keyed P kt) (ht : P.underlying t = some (.map kt et)) (hinj : ∀ a b : α, lit a = lit b → a = b) {s : α} {key : Value} (hkey : keyOf P kt key = some (lit s)) (ty : TypeId)
    (l' : List (α × Bool)) (hl : l.length ≤ l'.length + if inK s l then 1 else 0) (h1 : ∀ x, inK x l' = (!decide (x = s) && inK x l)) (h2 : ∀ x, mkd l' x = if x = s then false else mkd l x) :
    ∃ w', (Builtin.delete_ #[t, kt] ty #[.map (some m), key]).run P w = .ok (.tuple #[]) w' ∧ Marks P kt et lit m l' w' ∧ w.grownBy w' (some m) := by
  obtain ⟨D, h, hD⟩ := h
  have hT := h.tidy K
  obtain ⟨w', hrun, r1, r2⟩ := h.drop K ht hkey ty
  refine ⟨w', hrun, ⟨_, ownsMap_size r1 ?_, fun x => ?_⟩, r2.grown⟩
  · have e := size_del hT (k := lit s)
    rw [(hD s).1] at e
    have := h.size_le
    split at hl <;> simp_all <;> omega
  · by_cases hx : x = s
    · subst hx
      rw [has_del_same, atKey_del_same, h1, h2, if_pos rfl]
      simp
    · have hne : lit x ≠ lit s := fun e => hx (hinj _ _ e)
      rw [has_del_other hne, atKey_del_other hne, h1, h2, if_neg hx, (hD x).1, (hD x).2]
      simp [hx]
end
theorem wpList_mapUpdate_run {P : Program} {w w' : World} {ops : Array Oper} {rest : List Oper} {o : Oper} {a : Act} {Q : Exit → Act → World → Prop} (hg : o.guard = none) (m x v : Operand) (t : TypeId) (hop : o.op = Op.mapUpdate t m x v)
    (mv key val : Value) (hm : a.eval m = mv) (hx : a.eval x = key) (hv : a.eval v = val) (hrun : (Instr.mapUpdate t mv key val).run P w = .ok () w') (hK : wpList P ops Q rest (a.put o.dst undef) w') : wpList P ops Q (o :: rest) a w := by
  refine wpList_plain hg fun K' hK' => ?_
  unfold Oper.wp
  simp [execOp, hop, hm, hx, hv, hrun, Result.andThen]
  exact hK' _ _ hK
theorem wpList_delete_run {P : Program} {w w' : World} {ops : Array Oper} {rest : List Oper} {o : Oper} {a : Act} {Q : Exit → Act → World → Prop} (hg : o.guard = none) (m x : Operand) (t k : TypeId) (hop : o.op = Op.call { callee := Callee.builtin Builtin.delete, args := #[m, x], argTypes := #[t, k] })
    (mv key : Value) (hm : a.eval m = mv) (hx : a.eval x = key) (hrun : (Builtin.delete_ #[t, k] o.type #[mv, key]).run P w = .ok (.tuple #[]) w') (hK : wpList P ops Q rest (a.put o.dst (.tuple #[])) w') : wpList P ops Q (o :: rest) a w := by
  refine wpList_plain hg fun K' hK' => ?_
  unfold Oper.wp
  simp [execOp, hop, resolve, invoke, builtin, hm, hx, hrun, Result.andThen]
  exact hK' _ _ hK
section
variable {α : Type} [DecidableEq α]
/-- What becomes of keys and marks when a key is touched. -/
theorem touch_marks (l : List (α × Bool)) (hn : (keys l).Nodup) (s : α) : (ktouch l s).length = (if inK s l then l.length else l.length + 1) ∧ (∀ x, inK x (ktouch l s) = (decide (x = s) || inK x l)) ∧ (∀ x, mkd (ktouch l s) x = if x = s then true else mkd l x) ∧ (keys (ktouch l s)).Nodup := by
  rcases plc_cases s l with ⟨e, hs⟩ | ⟨i, b, e, hi, hx⟩
  · have hin : inK s l = false := by unfold inK; exact decide_eq_false hs
    have ek : ktouch l s = l ++ [(s, true)] := by unfold ktouch; rw [e, if_pos (by omega)]
    rw [ek, hin]
    refine ⟨by simp, fun x => ?_, fun x => ?_, ?_⟩
    · unfold inK keys
      rw [List.map_append, Bool.eq_iff_iff]
      simp [or_comm]
    · unfold mkd
      by_cases hx : x = s
      · subst hx; simp
      · simp [hx]
    · unfold keys
      rw [List.map_append]
      exact List.nodup_append.2 ⟨hn, by simp, fun a ha b hb e2 => by simp at hb; subst hb; subst e2; exact hs ha⟩
  · have hsk : s ∈ keys l := List.mem_map.2 ⟨(s, b), List.mem_of_getElem? hx, rfl⟩
    have hin : inK s l = true := (inK_iff s l).2 hsk
    have ek : ktouch l s = l.set i (s, true) := by unfold ktouch; rw [e, if_neg (by omega), Int.toNat_natCast]
    obtain ⟨_, hx'⟩ := List.getElem?_eq_some_iff.1 hx
    have ekk : keys (l.set i (s, true)) = keys l := by
      unfold keys
      rw [List.map_set]
      have : (l.map (·.1))[i]'(by simpa using hi) = s := by simp [hx']
      rw [← this, List.set_getElem_self]
    rw [ek, hin]
    refine ⟨by simp, fun x => ?_, fun x => ?_, by rw [ekk]; exact hn⟩
    · unfold inK
      rw [ekk, Bool.eq_iff_iff]
      simp
      intro h
      subst h
      exact hsk
    · have hnd : (keys (l.set i (s, true))).Nodup := by rw [ekk]; exact hn
      by_cases hxs : x = s
      · subst hxs
        rw [if_pos rfl]
        exact mkd_at _ hnd i (x, true) (List.getElem?_set_self hi)
      · rw [if_neg hxs]
        unfold mkd
        rw [decide_eq_decide]
        constructor
        · intro hm
          rcases List.mem_or_eq_of_mem_set hm with h | h
          · exact h
          · cases h; exact absurd rfl hxs
        · intro hm
          obtain ⟨j, hj⟩ := List.mem_iff_getElem?.1 hm
          have hij : i ≠ j := fun h => by subst h; rw [hx] at hj; cases hj; exact hxs rfl
          exact List.mem_iff_getElem?.2 ⟨j, by rw [List.getElem?_set_ne hij]; exact hj⟩
end
end Go.Proofs.Ytokchikihacalaa
