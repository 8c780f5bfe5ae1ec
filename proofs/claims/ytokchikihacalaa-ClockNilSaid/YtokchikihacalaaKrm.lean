/- Maps of one's own: of keys to places; and sets of keys. No function of the program is named here. -/
import Derived.Test.YtokchikihacalaaMm
namespace Go.Proofs.Ytokchikihacalaa
open Go.RowKit Go.Maps

section
variable {α : Type}
/-- Block m is a map of n entries: what it has of each key, f tells. -/
def KM (P : Program) (kt : TypeId) (R : Value → Option (DataW Nat × List MemPlace)) (lit : α → Lit) (m n : Nat) (f : α → Option (DataW Nat)) (w : World) : Prop :=
  ∃ D : DataW Nat, w.ownsMap P kt R m n D ∧ Maps.size D = n ∧ ∀ s, has D (lit s) = (f s).isSome ∧ ∀ z, D.atKey (lit s) z = (f s).getD z
variable {P : Program} {kt et t : TypeId} {R : Value → Option (DataW Nat × List MemPlace)} {lit : α → Lit} {m n : Nat} {f : α → Option (DataW Nat)} {w : World}
theorem KM.block (h : KM P kt R lit m n f w) : ∃ es c, w.heap[m]? = some (.map es c) := by
  obtain ⟨D, ⟨es, c, h, _⟩, _⟩ := h
  exact ⟨es, c, h⟩
theorem KM.lt (h : KM P kt R lit m n f w) : m < w.heap.size := by
  obtain ⟨D, h, _⟩ := h
  exact h.lt
theorem KM.frm {G : Nat → Prop} {w' : World} (h : KM P kt R lit m n f w) (g : Frm G w w') (hm : ¬ G m) : KM P kt R lit m n f w' := by
  obtain ⟨D, h, h2⟩ := h
  exact ⟨D, by obtain ⟨es, c, h1, h3⟩ := h; exact ⟨es, c, g.st h1 hm, h3⟩, h2⟩
theorem KM.made (w : World) : KM P kt R lit w.heap.size 0 (fun _ => none) (w.alloc (.map #[] 0)) :=
  ⟨.map [], World.ownsMap_made w P kt _, by simp [Maps.size], fun s => ⟨by simp [has_eq], fun z => by simp [DataW.atKey]⟩⟩
/-- How many entries a map has. -/
def mapSize (w : World) (m : Nat) : Nat :=
  match w.heap[m]? with
  | some (.map es _) => es.size
  | _ => 0
theorem KM.count (h : KM P kt R lit m n f w) : mapSize w m = n := by
  obtain ⟨D, ⟨es, c, hb, F, hs, hD⟩, h1, _⟩ := h
  unfold mapSize
  rw [hb]
  rw [hD] at h1
  simpa [Maps.size, length_sorted] using h1
theorem KM.look (h : KM P kt R lit m n f w) (K : Keyed P kt) (ht : P.underlying t = some (.map kt et)) {zv : Value} {zd : DataW Nat} {zp : List MemPlace} (hz : (zeroValue et).run P w = .ok zv w) (hzd : R zv = some (zd, zp)) {s : α} {key : Value} (hkey : keyOf P kt key = some (lit s)) :
    ∃ v ps, (Instr.lookup t (.map (some m)) key false).run P w = .ok v w ∧ R v = some ((f s).getD zd, ps) := by
  obtain ⟨D, h, _, h2⟩ := h
  obtain ⟨v, ps, hrun, hv⟩ := h.lookup K ht hz hzd hkey
  exact ⟨v, ps, hrun, by rw [← (h2 s).2]; exact hv⟩
theorem KM.look_ok (h : KM P kt R lit m n f w) (K : Keyed P kt) (ht : P.underlying t = some (.map kt et)) {zv : Value} {zd : DataW Nat} {zp : List MemPlace} (hz : (zeroValue et).run P w = .ok zv w) (hzd : R zv = some (zd, zp)) {s : α} {key : Value} (hkey : keyOf P kt key = some (lit s)) :
    ∃ v ps, (Instr.lookup t (.map (some m)) key true).run P w = .ok (.tuple #[v, .bool (f s).isSome]) w ∧ R v = some ((f s).getD zd, ps) := by
  obtain ⟨D, h, _, h2⟩ := h
  obtain ⟨v, ps, hrun, hv⟩ := h.look_ok K ht hz hzd hkey
  exact ⟨v, ps, by rw [← (h2 s).1]; exact hrun, by rw [← (h2 s).2]; exact hv⟩
theorem KM.len (h : KM P kt R lit m n f w) (ht : P.underlying t = some (.map kt et)) (ty : TypeId) : (Builtin.len_ #[t] ty #[.map (some m)]).run P w = .ok (.int .i64 (n : Int)) w := by
  obtain ⟨D, h, h1, _⟩ := h
  have := h.len ht ty
  rw [h1] at this
  exact this
section
variable [DecidableEq α]
theorem KM.put (h : KM P kt R lit m n f w) (K : Keyed P kt) (ht : P.underlying t = some (.map kt et)) (hinj : ∀ a b : α, lit a = lit b → a = b) {s : α} {key val : Value} (hkey : keyOf P kt key = some (lit s)) (hlit : WideAt.IsKeyLit (lit s)) {d : DataW Nat} {ps : List MemPlace} (hv : R val = some (d, ps)) (hn : n < maxLen) :
    ∃ w', (Instr.mapUpdate t (.map (some m)) key val).run P w = .ok () w' ∧ KM P kt R lit m (if (f s).isSome then n else n + 1) (fun x => if x = s then some d else f x) w' ∧ w.grownBy w' (some m) := by
  obtain ⟨D, h, h1, hD⟩ := h
  have hT := h.tidy K
  obtain ⟨w', hrun, r1, r2⟩ := h.update K ht hn hkey hv
  have hsz : Maps.size (D.put (lit s) d) = if (f s).isSome then n else n + 1 := by rw [size_put hT, (hD s).1, h1]
  refine ⟨w', hrun, ⟨_, ownsMap_size r1 (by rw [hsz]; exact Nat.le_refl _), hsz, fun x => ?_⟩, r2⟩
  by_cases hx : x = s
  · subst hx
    refine ⟨?_, fun z => ?_⟩
    · rw [has_put_same hT.isMap hlit]; simp
    · rw [atKey_put_same hT.isMap hlit]; simp
  · have hne : lit x ≠ lit s := fun e => hx (hinj _ _ e)
    refine ⟨?_, fun z => ?_⟩
    · rw [has_put_other hne, (hD x).1]; simp [hx]
    · rw [atKey_put_other hne, (hD x).2]; simp [hx]
theorem KM.del (h : KM P kt R lit m n f w) (K : Keyed P kt) (ht : P.underlying t = some (.map kt et)) (hinj : ∀ a b : α, lit a = lit b → a = b) {s : α} {key : Value} (hkey : keyOf P kt key = some (lit s)) (ty : TypeId) :
    ∃ w', (Builtin.delete_ #[t, kt] ty #[.map (some m), key]).run P w = .ok (.tuple #[]) w' ∧ KM P kt R lit m (n - (if (f s).isSome then 1 else 0)) (fun x => if x = s then none else f x) w' ∧ w.grownBy w' (some m) := by
  obtain ⟨D, h, h1, hD⟩ := h
  have hT := h.tidy K
  obtain ⟨w', hrun, r1, r2⟩ := h.drop K ht hkey ty
  have hsz : Maps.size (D.del (lit s)) = n - (if (f s).isSome then 1 else 0) := by
    have e := size_del hT (k := lit s)
    rw [(hD s).1, h1] at e
    omega
  refine ⟨w', hrun, ⟨_, ownsMap_size r1 (by rw [hsz]; exact Nat.le_refl _), hsz, fun x => ?_⟩, r2.grown⟩
  by_cases hx : x = s
  · subst hx
    refine ⟨?_, fun z => ?_⟩
    · rw [has_del_same]; simp
    · rw [atKey_del_same]; simp
  · have hne : lit x ≠ lit s := fun e => hx (hinj _ _ e)
    refine ⟨?_, fun z => ?_⟩
    · rw [has_del_other hne, (hD x).1]; simp [hx]
    · rw [atKey_del_other hne, (hD x).2]; simp [hx]
end
theorem KM.as {n' : Nat} {f' : α → Option (DataW Nat)} (h : KM P kt R lit m n f w) (hn : n = n') (hf : ∀ x, f x = f' x) : KM P kt R lit m n' f' w := by
  have e : f = f' := funext hf
  subst hn e
  exact h
/-- How a place reads. -/
def placeR (v : Value) : Option (DataW Nat × List MemPlace) :=
  match v with
  | .pointer none => some (.lit (.bool false), [])
  | .pointer (some ⟨b, 0, none⟩) => some (.lit (.int .i64 (b : Int)), [])
  | _ => none
theorem placeR_inv {v : Value} {b : Nat} {ps : List MemPlace} (h : placeR v = some (.lit (.int .i64 (b : Int)), ps)) : v = .pointer (some ⟨b, 0, none⟩) := by
  unfold placeR at h
  split at h
  · simp at h
  · simp at h
    obtain ⟨h, _⟩ := h
    rw [Int.ofNat_inj.1 h]
  · cases h
/-- How nothing reads. -/
def unitR (v : Value) : Option (DataW Nat × List MemPlace) :=
  match v with
  | .agg cs => if cs.size = 0 then some (.lit (.bool true), []) else none
  | _ => none
theorem unitR_inv {v : Value} {x : DataW Nat × List MemPlace} (h : unitR v = some x) : v = .agg #[] := by
  unfold unitR at h
  split at h
  · rename_i cs
    split at h
    · rename_i h0
      rw [Array.eq_empty_of_size_eq_zero h0]
    · cases h
  · cases h
/-- Block m is a map of just these keys to just these places. -/
def PMap (P : Program) (kt : TypeId) (lit : α → Lit) (m : Nat) (ks : List α) (bs : List Nat) (w : World) : Prop :=
  ∃ f, KM P kt placeR lit m ks.length f w ∧ bs.length = ks.length ∧ (∀ (i : Nat) (s : α) (b : Nat), ks[i]? = some s → bs[i]? = some b → f s = some (.lit (.int .i64 (b : Int)))) ∧ ∀ s, s ∉ ks → f s = none
variable {ks : List α} {bs : List Nat} {l : List (α × Bool)}
theorem PMap.frm {G : Nat → Prop} {w' : World} (h : PMap P kt lit m ks bs w) (g : Frm G w w') (hm : ¬ G m) : PMap P kt lit m ks bs w' := by
  obtain ⟨f, h, h2⟩ := h
  exact ⟨f, h.frm g hm, h2⟩
theorem PMap.block (h : PMap P kt lit m ks bs w) : ∃ es c, w.heap[m]? = some (.map es c) := by
  obtain ⟨f, h, h2⟩ := h
  exact h.block
theorem PMap.made (w : World) : PMap P kt lit w.heap.size ([] : List α) [] (w.alloc (.map #[] 0)) :=
  ⟨fun _ => none, KM.made w, rfl, (show ∀ (i : Nat) (s : α) (b : Nat), ([] : List α)[i]? = some s → ([] : List Nat)[i]? = some b → (none : Option (DataW Nat)) = some (.lit (.int .i64 (b : Int))) from fun i s b h => by simp at h), fun _ _ => rfl⟩
theorem PMap.look (h : PMap P kt lit m ks bs w) (K : Keyed P kt) (ht : P.underlying t = some (.map kt et)) (hz : (zeroValue et).run P w = .ok (.pointer none) w) {s : α} {key : Value} (hkey : keyOf P kt key = some (lit s)) (i b : Nat) (hs : ks[i]? = some s) (hb : bs[i]? = some b) :
    (Instr.lookup t (.map (some m)) key false).run P w = .ok (.pointer (some ⟨b, 0, none⟩)) w := by
  obtain ⟨f, h, hl, h1, h2⟩ := h
  obtain ⟨v, ps, hrun, hv⟩ := h.look K ht hz (zd := .lit (.bool false)) (zp := []) rfl hkey
  rw [h1 i s b hs hb] at hv
  rw [placeR_inv hv] at hrun
  exact hrun
theorem PMap.look_any (h : PMap P kt lit m ks bs w) (K : Keyed P kt) (ht : P.underlying t = some (.map kt et)) (hz : (zeroValue et).run P w = .ok (.pointer none) w) {s : α} {key : Value} (hkey : keyOf P kt key = some (lit s)) :
    ∃ v, (Instr.lookup t (.map (some m)) key false).run P w = .ok v w := by
  obtain ⟨f, h, _⟩ := h
  obtain ⟨v, ps, hrun, hv⟩ := h.look K ht hz (zd := .lit (.bool false)) (zp := []) rfl hkey
  exact ⟨v, hrun⟩
theorem PMap.size (h : PMap P kt lit m ks bs w) (ht : P.underlying t = some (.map kt et)) (ty : TypeId) : (Builtin.len_ #[t] ty #[.map (some m)]).run P w = .ok (.int .i64 (ks.length : Int)) w := by
  obtain ⟨f, h, _⟩ := h
  exact h.len ht ty
section
variable [DecidableEq α]
theorem PMap.isSome (f : α → Option (DataW Nat)) (hl : bs.length = ks.length) (h1 : ∀ (i : Nat) (s : α) (b : Nat), ks[i]? = some s → bs[i]? = some b → f s = some (.lit (.int .i64 (b : Int)))) (h2 : ∀ s, s ∉ ks → f s = none) (s : α) : (f s).isSome = decide (s ∈ ks) := by
  by_cases h : s ∈ ks
  · obtain ⟨i, hi⟩ := List.mem_iff_getElem?.1 h
    have hil := (List.getElem?_eq_some_iff.1 hi).1
    rw [decide_eq_true h, h1 i s _ hi (List.getElem?_eq_getElem (by omega))]
    rfl
  · rw [decide_eq_false h, h2 s h]; rfl
/-- Is a key among these? -/
def isIn (s : α) (ks : List α) : Bool := decide (s ∈ ks)
theorem isIn_keys (s : α) (l : List (α × Bool)) : isIn s (keys l) = inK s l := rfl
theorem PMap.look_ok (h : PMap P kt lit m ks bs w) (K : Keyed P kt) (ht : P.underlying t = some (.map kt et)) (hz : (zeroValue et).run P w = .ok (.pointer none) w) {s : α} {key : Value} (hkey : keyOf P kt key = some (lit s)) :
    ∃ v, (Instr.lookup t (.map (some m)) key true).run P w = .ok (.tuple #[v, .bool (isIn s ks)]) w := by
  obtain ⟨f, h, hl, h1, h2⟩ := h
  obtain ⟨v, ps, hrun, hv⟩ := h.look_ok K ht hz (zd := .lit (.bool false)) (zp := []) rfl hkey
  rw [PMap.isSome f hl h1 h2 s] at hrun
  exact ⟨v, hrun⟩
theorem PMap.add (h : PMap P kt lit m ks bs w) (K : Keyed P kt) (ht : P.underlying t = some (.map kt et)) (hinj : ∀ a b : α, lit a = lit b → a = b) {s : α} {key : Value} (hkey : keyOf P kt key = some (lit s)) (hlit : WideAt.IsKeyLit (lit s)) (hn : ks.length < maxLen) (hs : s ∉ ks) (q : Nat) :
    ∃ w', (Instr.mapUpdate t (.map (some m)) key (.pointer (some ⟨q, 0, none⟩))).run P w = .ok () w' ∧ PMap P kt lit m (ks ++ [s]) (bs ++ [q]) w' ∧ w.grownBy w' (some m) := by
  obtain ⟨f, h, hl, h1, h2⟩ := h
  obtain ⟨w', hrun, hk, hg⟩ := h.put K ht hinj hkey hlit (val := .pointer (some ⟨q, 0, none⟩)) (d := .lit (.int .i64 (q : Int))) (ps := []) rfl hn
  refine ⟨w', hrun, ⟨_, hk.as (by rw [PMap.isSome f hl h1 h2 s, decide_eq_false hs]; simp) (fun _ => rfl), by simp [hl], fun i x b hx hb => ?_, fun x hx => ?_⟩, hg⟩
  · have hi := (List.getElem?_eq_some_iff.1 hx).1
    rw [List.length_append, List.length_singleton] at hi
    by_cases h0 : i < ks.length
    · rw [List.getElem?_append_left h0] at hx
      rw [List.getElem?_append_left (by omega)] at hb
      have hne : x ≠ s := fun e => hs (by rw [← e]; exact List.mem_of_getElem? hx)
      rw [if_neg hne]
      exact h1 i x b hx hb
    · obtain rfl : i = ks.length := by omega
      rw [List.getElem?_append_right (Nat.le_refl _)] at hx
      rw [List.getElem?_append_right (by omega), hl] at hb
      simp at hx hb
      rw [if_pos hx.symm, hb]
  · simp only [List.mem_append, List.mem_singleton, not_or] at hx
    rw [if_neg hx.2]
    exact h2 x hx.1
theorem PMap.del (h : PMap P kt lit m ks bs w) (K : Keyed P kt) (ht : P.underlying t = some (.map kt et)) (hinj : ∀ a b : α, lit a = lit b → a = b) {s : α} {key : Value} (hkey : keyOf P kt key = some (lit s)) (ty : TypeId) (hnd : ks.Nodup) (i : Nat) (hs : ks[i]? = some s) :
    ∃ w', (Builtin.delete_ #[t, kt] ty #[.map (some m), key]).run P w = .ok (.tuple #[]) w' ∧ PMap P kt lit m (ks.eraseIdx i) (bs.eraseIdx i) w' ∧ w.grownBy w' (some m) := by
  obtain ⟨f, h, hl, h1, h2⟩ := h
  have hi := (List.getElem?_eq_some_iff.1 hs).1
  obtain ⟨w', hrun, hk, hg⟩ := h.del K ht hinj hkey ty
  have hm : s ∈ ks := List.mem_of_getElem? hs
  refine ⟨w', hrun, ⟨_, hk.as (by rw [PMap.isSome f hl h1 h2 s, decide_eq_true hm, List.length_eraseIdx_of_lt hi]; rfl) (fun _ => rfl), by rw [List.length_eraseIdx_of_lt hi, List.length_eraseIdx_of_lt (by omega), hl], fun j x b hx hb => ?_, fun x hx => ?_⟩, hg⟩
  · obtain ⟨k, hk⟩ : ∃ k, k = if j < i then j else j + 1 := ⟨_, rfl⟩
    have hki : k ≠ i := by rw [hk]; split <;> omega
    have e1 : ks[k]? = some x := by rw [List.getElem?_eraseIdx] at hx; rw [hk]; by_cases hji : j < i; (rw [if_pos hji] at hx ⊢; exact hx); (rw [if_neg hji] at hx ⊢; exact hx)
    have e2 : bs[k]? = some b := by rw [List.getElem?_eraseIdx] at hb; rw [hk]; by_cases hji : j < i; (rw [if_pos hji] at hb ⊢; exact hb); (rw [if_neg hji] at hb ⊢; exact hb)
    have hne : x ≠ s := fun e => hki (by
      subst e
      exact (List.getElem?_inj (List.getElem?_eq_some_iff.1 e1).1 hnd).1 (e1.trans hs.symm))
    rw [if_neg hne]
    exact h1 k x b e1 e2
  · by_cases hxs : x = s
    · rw [if_pos hxs]
    · rw [if_neg hxs]
      refine h2 x fun hm2 => hx ?_
      obtain ⟨k, hk⟩ := List.mem_iff_getElem?.1 hm2
      have hki : k ≠ i := fun e => hxs (by subst e; rw [hs] at hk; injection hk with hk; exact hk.symm)
      refine List.mem_iff_getElem?.2 ⟨if k < i then k else k - 1, ?_⟩
      rw [List.getElem?_eraseIdx]
      by_cases hki2 : k < i
      · rw [if_pos hki2, if_pos hki2]; exact hk
      · rw [if_neg hki2, if_neg (by omega), show k - 1 + 1 = k from by omega]; exact hk
end
theorem PMap.turn {k : α} {b : Nat} (h : PMap P kt lit m (k :: ks) (b :: bs) w) : PMap P kt lit m (ks ++ [k]) (bs ++ [b]) w := by
  obtain ⟨f, h, hl, h1, h2⟩ := h
  have hl2 : bs.length = ks.length := by simpa using hl
  refine ⟨f, h.as (by simp) (fun _ => rfl), by simp [hl2], fun i x c hx hc => ?_, fun x hx => h2 x (by simpa [or_comm] using hx)⟩
  have hi := (List.getElem?_eq_some_iff.1 hx).1
  rw [List.length_append, List.length_singleton] at hi
  by_cases h0 : i < ks.length
  · rw [List.getElem?_append_left h0] at hx
    rw [List.getElem?_append_left (by omega)] at hc
    exact h1 (i + 1) x c (by simpa using hx) (by simpa using hc)
  · obtain rfl : i = ks.length := by omega
    rw [List.getElem?_append_right (Nat.le_refl _)] at hx
    rw [List.getElem?_append_right (by omega), hl2] at hc
    simp at hx hc
    exact h1 0 x c (by simp [hx]) (by simp [hc])
section
variable [DecidableEq α]
/-- Block m is a map that has just those keys that are marked. -/
def SMap (P : Program) (kt : TypeId) (lit : α → Lit) (m : Nat) (l : List (α × Bool)) (w : World) : Prop :=
  KM P kt unitR lit m (l.countP (·.2)) (fun s => if mkd l s then some (.lit (.bool true)) else none) w
theorem SMap.frm {G : Nat → Prop} {w' : World} (h : SMap P kt lit m l w) (g : Frm G w w') (hm : ¬ G m) : SMap P kt lit m l w' := KM.frm h g hm
theorem SMap.block (h : SMap P kt lit m l w) : ∃ es c, w.heap[m]? = some (.map es c) := KM.block h
theorem SMap.made (w : World) : SMap P kt lit w.heap.size ([] : List (α × Bool)) (w.alloc (.map #[] 0)) := (KM.made w).as rfl fun x => by simp [mkd]
theorem SMap.look_ok (h : SMap P kt lit m l w) (K : Keyed P kt) (ht : P.underlying t = some (.map kt et)) (hz : (zeroValue et).run P w = .ok (.agg #[]) w) {s : α} {key : Value} (hkey : keyOf P kt key = some (lit s)) :
    (Instr.lookup t (.map (some m)) key true).run P w = .ok (.tuple #[.agg #[], .bool (mkd l s)]) w := by
  obtain ⟨v, ps, hrun, hv⟩ := KM.look_ok h K ht hz (zd := .lit (.bool true)) (zp := []) rfl hkey
  rw [unitR_inv hv] at hrun
  rw [hrun]
  cases mkd l s <;> rfl
theorem SMap.put (h : SMap P kt lit m l w) (K : Keyed P kt) (ht : P.underlying t = some (.map kt et)) (hinj : ∀ a b : α, lit a = lit b → a = b) {s : α} {key : Value} (hkey : keyOf P kt key = some (lit s)) (hlit : WideAt.IsKeyLit (lit s)) (hn : l.length < maxLen)
    (l' : List (α × Bool)) (hl : l'.countP (·.2) = if mkd l s then l.countP (·.2) else l.countP (·.2) + 1) (h2 : ∀ x, mkd l' x = if x = s then true else mkd l x) :
    ∃ w', (Instr.mapUpdate t (.map (some m)) key (.agg #[])).run P w = .ok () w' ∧ SMap P kt lit m l' w' ∧ w.grownBy w' (some m) := by
  obtain ⟨w', hrun, hk, hg⟩ := KM.put h K ht hinj hkey hlit (val := .agg #[]) (d := .lit (.bool true)) (ps := []) rfl (Nat.lt_of_le_of_lt List.countP_le_length hn)
  refine ⟨w', hrun, hk.as ?_ fun x => ?_, hg⟩
  · rw [hl]
    cases mkd l s <;> simp
  · rw [h2]
    by_cases hx : x = s
    · simp [hx]
    · simp [hx]
theorem SMap.del (h : SMap P kt lit m l w) (K : Keyed P kt) (ht : P.underlying t = some (.map kt et)) (hinj : ∀ a b : α, lit a = lit b → a = b) {s : α} {key : Value} (hkey : keyOf P kt key = some (lit s)) (ty : TypeId)
    (l' : List (α × Bool)) (hl : l'.countP (·.2) = l.countP (·.2) - if mkd l s then 1 else 0) (h2 : ∀ x, mkd l' x = if x = s then false else mkd l x) :
    ∃ w', (Builtin.delete_ #[t, kt] ty #[.map (some m), key]).run P w = .ok (.tuple #[]) w' ∧ SMap P kt lit m l' w' ∧ w.grownBy w' (some m) := by
  obtain ⟨w', hrun, hk, hg⟩ := KM.del h K ht hinj hkey ty
  refine ⟨w', hrun, hk.as ?_ fun x => ?_, hg⟩
  · rw [hl]
    cases mkd l s <;> simp
  · rw [h2]
    by_cases hx : x = s
    · simp [hx]
    · simp [hx]
end
end
end Go.Proofs.Ytokchikihacalaa
