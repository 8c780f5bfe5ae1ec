/- Places in a ring: each knows the one ahead of it and the one behind it. No function of the program is named here. -/
import Derived.Test.YtokchikihacalaaSt
import Derived.Test.YtokchikihacalaaDa
namespace Go.Proofs.Ytokchikihacalaa
open Go.RowKit

/-- Block b is a place: its key, the one ahead, the one behind. -/
def Nd (T : TypeId) (b : Nat) (v : Value) (a c : Nat) (w : World) : Prop := St T b #[v, .pointer (some ⟨a, 0, none⟩), .pointer (some ⟨c, 0, none⟩)] w
theorem Nd.behind {T : TypeId} {b : Nat} {v : Value} {a c : Nat} {w : World} (h : Nd T b v a c w) (z q : Nat) : Nd T b v a (if b = z then q else c) (w.setCell ⟨z, 2, none⟩ (.pointer (some ⟨q, 0, none⟩))) := by
  by_cases e : b = z
  · subst e; rw [if_pos rfl]; exact St.set h 2 _
  · rw [if_neg e]; exact St.other h z 2 _ (fun e2 => e e2.symm)
theorem Nd.ahead {T : TypeId} {b : Nat} {v : Value} {a c : Nat} {w : World} (h : Nd T b v a c w) (z q : Nat) : Nd T b v (if b = z then q else a) c (w.setCell ⟨z, 1, none⟩ (.pointer (some ⟨q, 0, none⟩))) := by
  by_cases e : b = z
  · subst e; rw [if_pos rfl]; exact St.set h 1 _
  · rw [if_neg e]; exact St.other h z 1 _ (fun e2 => e e2.symm)
def nI (n i : Nat) : Nat := if i + 1 = n then 0 else i + 1
def pI (n i : Nat) : Nat := if i = 0 then n - 1 else i - 1
def nxt (bs : List Nat) (i : Nat) : Nat := bs.getD (nI bs.length i) 0
def prv (bs : List Nat) (i : Nat) : Nat := bs.getD (pI bs.length i) 0
/-- The places bs, whose keys are vs, stand in a ring. -/
structure Rng (T : TypeId) (bs : List Nat) (vs : List Value) (w : World) : Prop where
  len : vs.length = bs.length
  node : ∀ i b v, bs[i]? = some b → vs[i]? = some v → Nd T b v (prv bs i) (nxt bs i) w
theorem Rng.nil (T : TypeId) (w : World) : Rng T [] [] w := ⟨rfl, fun i b v h => by simp at h⟩
theorem Rng.frm {T : TypeId} {bs : List Nat} {vs : List Value} {F : Nat → Prop} {w w' : World} (h : Rng T bs vs w) (f : Frm F w w') (hb : ∀ b ∈ bs, ¬ F b) : Rng T bs vs w' :=
  ⟨h.len, fun i b v h1 h2 => f.st (h.node i b v h1 h2) (hb b (List.mem_of_getElem? h1))⟩
theorem Rng.at {T : TypeId} {bs : List Nat} {vs : List Value} {w : World} (h : Rng T bs vs w) (i : Nat) (v : Value) (hv : vs[i]? = some v) : ∃ b, bs[i]? = some b ∧ Nd T b v (prv bs i) (nxt bs i) w := by
  have hi := (List.getElem?_eq_some_iff.1 hv).1
  rw [h.len] at hi
  exact ⟨_, List.getElem?_eq_getElem hi, h.node i _ v (List.getElem?_eq_getElem hi) hv⟩
theorem Rng.lt {T : TypeId} {bs : List Nat} {vs : List Value} {w : World} (h : Rng T bs vs w) : ∀ b ∈ bs, b < w.heap.size := by
  intro b hb
  obtain ⟨i, hi⟩ := List.mem_iff_getElem?.1 hb
  have hl := (List.getElem?_eq_some_iff.1 hi).1
  exact St.lt (h.node i b _ hi (List.getElem?_eq_getElem (by rw [h.len]; exact hl)))
/-- Unlike keys stand in unlike places. -/
theorem Rng.nodup {T : TypeId} {bs : List Nat} {vs : List Value} {w : World} (h : Rng T bs vs w) (hv : vs.Nodup) : bs.Nodup := by
  rw [List.Nodup, List.pairwise_iff_getElem] at hv ⊢
  intro i j hi' hj' hij e
  have hi : i < vs.length := by rw [h.len]; omega
  have hj2 : j < vs.length := by rw [h.len]; exact hj'
  have e1 := List.getElem?_eq_getElem hi'
  have e2 : bs[j]? = some bs[i] := by rw [e]; exact List.getElem?_eq_getElem hj'
  have n1 := h.node i _ _ e1 (List.getElem?_eq_getElem hi)
  have n2 := h.node j _ _ e2 (List.getElem?_eq_getElem hj2)
  unfold Nd St at n1 n2
  rw [n1] at n2
  injection n2 with n2
  injection n2 with n2
  have e3 : vs[i] = vs[j] := by
    have := congrArg (fun a : Array Value => a[0]?) n2
    simpa using this
  exact hv i j hi hj2 hij e3
/-- What no place is: a block of another kind. -/
theorem Rng.apart {T : TypeId} {bs : List Nat} {vs : List Value} {w : World} (h : Rng T bs vs w) (k : Nat) (hk : ∀ v ∈ vs, ∀ a c, ¬ Nd T k v a c w) : k ∉ bs := by
  intro hb
  obtain ⟨i, hi⟩ := List.mem_iff_getElem?.1 hb
  have hl := (List.getElem?_eq_some_iff.1 hi).1
  have hl2 : i < vs.length := by rw [h.len]; exact hl
  exact hk _ (List.getElem_mem hl2) _ _ (h.node i k _ hi (List.getElem?_eq_getElem hl2))
theorem getD_at (bs : List Nat) (i : Nat) (b : Nat) (h : bs[i]? = some b) : bs.getD i 0 = b := by simp [List.getD, h]
theorem getD_app (bs : List Nat) (q j : Nat) : (bs ++ [q]).getD j 0 = if j < bs.length then bs.getD j 0 else if j = bs.length then q else 0 := by
  simp only [List.getD_eq_getElem?_getD, List.getElem?_append]
  by_cases h : j < bs.length
  · rw [if_pos h, if_pos h]
  · rw [if_neg h, if_neg h]
    by_cases h2 : j = bs.length
    · subst h2; simp
    · rw [if_neg h2, List.getElem?_eq_none (by simp; omega)]; rfl
theorem getD_cons (bs : List Nat) (b j : Nat) : (b :: bs).getD j 0 = if j = 0 then b else bs.getD (j - 1) 0 := by
  cases j with
  | zero => rfl
  | succ j => simp
theorem getD_erase (bs : List Nat) (i j : Nat) : (bs.eraseIdx i).getD j 0 = bs.getD (if j < i then j else j + 1) 0 := by
  simp only [List.getD_eq_getElem?_getD, List.getElem?_eraseIdx]
  split <;> rfl
theorem getD_inj {bs : List Nat} (nd : bs.Nodup) {i j : Nat} (hi : i < bs.length) (hj : j < bs.length) : bs.getD i 0 = bs.getD j 0 ↔ i = j := by
  constructor
  · intro e
    rw [List.getD_eq_getElem?_getD, List.getD_eq_getElem?_getD, List.getElem?_eq_getElem hi, List.getElem?_eq_getElem hj] at e
    exact (List.getElem?_inj hi nd).1 (by rw [List.getElem?_eq_getElem hi, List.getElem?_eq_getElem hj]; exact congrArg some e)
  · intro e; rw [e]
/-- The first place becomes the last one. -/
theorem Rng.turn {T : TypeId} {bs : List Nat} {vs : List Value} {b : Nat} {v : Value} {w : World} (h : Rng T (b :: bs) (v :: vs) w) : Rng T (bs ++ [b]) (vs ++ [v]) w := by
  have hl : vs.length = bs.length := by have := h.len; simpa using this
  refine ⟨by simp [hl], fun i c x h1 h2 => ?_⟩
  have hi := (List.getElem?_eq_some_iff.1 h1).1
  rw [List.length_append, List.length_singleton] at hi
  by_cases h0 : i < bs.length
  · have e1 : (b :: bs)[i + 1]? = some c := by rw [List.getElem?_append_left h0] at h1; simpa using h1
    have e2 : (v :: vs)[i + 1]? = some x := by rw [List.getElem?_append_left (by omega)] at h2; simpa using h2
    have n := h.node (i + 1) c x e1 e2
    have p1 : prv (b :: bs) (i + 1) = prv (bs ++ [b]) i := by
      unfold prv pI
      rw [getD_app, getD_cons, List.length_append, List.length_singleton, List.length_cons]
      (repeat' split) <;> first | rfl | omega | (congr 1 <;> omega)
    have p2 : nxt (b :: bs) (i + 1) = nxt (bs ++ [b]) i := by
      unfold nxt nI
      rw [getD_app, getD_cons, List.length_append, List.length_singleton, List.length_cons]
      (repeat' split) <;> first | rfl | omega | (congr 1 <;> omega)
    rw [p1, p2] at n
    exact n
  · obtain rfl : i = bs.length := by omega
    have e1 : c = b := by rw [List.getElem?_append_right (Nat.le_refl _)] at h1; simpa using h1.symm
    have e2 : x = v := by rw [List.getElem?_append_right (by omega), hl] at h2; simpa using h2.symm
    subst e1 e2
    have n := h.node 0 c x rfl rfl
    have p1 : prv (c :: bs) 0 = prv (bs ++ [c]) bs.length := by
      unfold prv pI
      rw [getD_app, getD_cons, List.length_append, List.length_singleton, List.length_cons]
      (repeat' split) <;> first | rfl | omega | (congr 1 <;> omega)
    have p2 : nxt (c :: bs) 0 = nxt (bs ++ [c]) bs.length := by
      unfold nxt nI
      rw [getD_app, getD_cons, List.length_append, List.length_singleton, List.length_cons]
      (repeat' split) <;> first | rfl | omega | (congr 1 <;> omega)
    rw [p1, p2] at n
    exact n
/-- A new place becomes the last one. -/
theorem Rng.add {T : TypeId} {bs : List Nat} {vs : List Value} {q : Nat} {v : Value} {w : World} (h : Rng T bs vs w) (hn : 0 < bs.length) (nd : bs.Nodup) (hq : q ∉ bs) (hv : Nd T q v (bs.getD (bs.length - 1) 0) (bs.getD 0 0) w) :
    Rng T (bs ++ [q]) (vs ++ [v]) ((w.setCell ⟨bs.getD (bs.length - 1) 0, 2, none⟩ (.pointer (some ⟨q, 0, none⟩))).setCell ⟨bs.getD 0 0, 1, none⟩ (.pointer (some ⟨q, 0, none⟩))) := by
  have mem : ∀ j, j < bs.length → bs.getD j 0 ∈ bs := fun j hj => by rw [List.getD_eq_getElem?_getD, List.getElem?_eq_getElem hj]; exact List.getElem_mem hj
  refine ⟨by simp [h.len], fun i c x h1 h2 => ?_⟩
  have hi := (List.getElem?_eq_some_iff.1 h1).1
  rw [List.length_append, List.length_singleton] at hi
  by_cases h0 : i < bs.length
  · have e1 : bs[i]? = some c := by rw [List.getElem?_append_left h0] at h1; exact h1
    have e2 : vs[i]? = some x := by rw [List.getElem?_append_left (by rw [h.len]; exact h0)] at h2; exact h2
    have n := ((h.node i c x e1 e2).behind (bs.getD (bs.length - 1) 0) q).ahead (bs.getD 0 0) q
    have ec := getD_at bs i c e1
    have k1 : c = bs.getD 0 0 ↔ i = 0 := by rw [← ec]; exact getD_inj nd h0 hn
    have k2 : c = bs.getD (bs.length - 1) 0 ↔ i = bs.length - 1 := by rw [← ec]; exact getD_inj nd h0 (by omega)
    have p1 : (if c = bs.getD 0 0 then q else prv bs i) = prv (bs ++ [q]) i := by
      simp only [k1]
      unfold prv pI
      rw [getD_app, List.length_append, List.length_singleton]
      (repeat' split) <;> first | rfl | omega | (congr 1 <;> omega)
    have p2 : (if c = bs.getD (bs.length - 1) 0 then q else nxt bs i) = nxt (bs ++ [q]) i := by
      simp only [k2]
      unfold nxt nI
      rw [getD_app, List.length_append, List.length_singleton]
      (repeat' split) <;> first | rfl | omega | (congr 1 <;> omega)
    rw [p1, p2] at n
    exact n
  · obtain rfl : i = bs.length := by omega
    have e1 : c = q := by rw [List.getElem?_append_right (Nat.le_refl _)] at h1; simpa using h1.symm
    have e2 : x = v := by rw [List.getElem?_append_right (by rw [h.len]; omega), h.len] at h2; simpa using h2.symm
    subst e1 e2
    have n := (hv.behind (bs.getD (bs.length - 1) 0) c).ahead (bs.getD 0 0) c
    rw [if_neg (fun e => hq (by rw [e]; exact mem _ hn)), if_neg (fun e => hq (by rw [e]; exact mem _ (by omega)))] at n
    have p1 : bs.getD (bs.length - 1) 0 = prv (bs ++ [c]) bs.length := by
      unfold prv pI
      rw [getD_app, List.length_append, List.length_singleton]
      (repeat' split) <;> first | rfl | omega | (congr 1 <;> omega)
    have p2 : bs.getD 0 0 = nxt (bs ++ [c]) bs.length := by
      unfold nxt nI
      rw [getD_app, List.length_append, List.length_singleton]
      (repeat' split) <;> first | rfl | omega | (congr 1 <;> omega)
    rw [← p1, ← p2]
    exact n
/-- A place alone. -/
theorem Rng.one {T : TypeId} {q : Nat} {v : Value} {w : World} (h : Nd T q v q q w) : Rng T [q] [v] w := by
  refine ⟨rfl, fun i c x h1 h2 => ?_⟩
  have hi := (List.getElem?_eq_some_iff.1 h1).1
  obtain rfl : i = 0 := by simpa using hi
  simp at h1 h2
  subst h1 h2
  exact h
/-- A place is taken out. -/
theorem Rng.out {T : TypeId} {bs : List Nat} {vs : List Value} {w : World} (h : Rng T bs vs w) (nd : bs.Nodup) (i : Nat) (hi : i < bs.length) :
    Rng T (bs.eraseIdx i) (vs.eraseIdx i) ((w.setCell ⟨prv bs i, 2, none⟩ (.pointer (some ⟨nxt bs i, 0, none⟩))).setCell ⟨nxt bs i, 1, none⟩ (.pointer (some ⟨prv bs i, 0, none⟩))) := by
  have hle : (bs.eraseIdx i).length = bs.length - 1 := List.length_eraseIdx_of_lt hi
  refine ⟨by rw [hle, List.length_eraseIdx_of_lt (by rw [h.len]; exact hi), h.len], fun j c x h1 h2 => ?_⟩
  have hj := (List.getElem?_eq_some_iff.1 h1).1
  rw [hle] at hj
  obtain ⟨k, hk⟩ : ∃ k, k = if j < i then j else j + 1 := ⟨_, rfl⟩
  have hkl : k < bs.length ∧ k ≠ i := by rw [hk]; split <;> omega
  have e1 : bs[k]? = some c := by rw [List.getElem?_eraseIdx] at h1; rw [hk]; by_cases hji : j < i; (rw [if_pos hji] at h1 ⊢; exact h1); (rw [if_neg hji] at h1 ⊢; exact h1)
  have e2 : vs[k]? = some x := by rw [List.getElem?_eraseIdx] at h2; rw [hk]; by_cases hji : j < i; (rw [if_pos hji] at h2 ⊢; exact h2); (rw [if_neg hji] at h2 ⊢; exact h2)
  have n := ((h.node k c x e1 e2).behind (prv bs i) (nxt bs i)).ahead (nxt bs i) (prv bs i)
  have ec := getD_at bs k c e1
  have l1 : nI bs.length i < bs.length := by unfold nI; split <;> omega
  have l2 : pI bs.length i < bs.length := by unfold pI; split <;> omega
  have k1 : c = nxt bs i ↔ k = nI bs.length i := by rw [← ec]; exact getD_inj nd hkl.1 l1
  have k2 : c = prv bs i ↔ k = pI bs.length i := by rw [← ec]; exact getD_inj nd hkl.1 l2
  have p1 : (if c = nxt bs i then prv bs i else prv bs k) = prv (bs.eraseIdx i) j := by
    simp only [k1]
    unfold prv pI nI
    rw [getD_erase, hle, hk]
    (repeat' split) <;> first | rfl | omega | (congr 1 <;> omega)
  have p2 : (if c = prv bs i then nxt bs i else nxt bs k) = nxt (bs.eraseIdx i) j := by
    simp only [k2]
    unfold nxt pI nI
    rw [getD_erase, hle, hk]
    (repeat' split) <;> first | rfl | omega | (congr 1 <;> omega)
  rw [p1, p2] at n
  exact n
end Go.Proofs.Ytokchikihacalaa
