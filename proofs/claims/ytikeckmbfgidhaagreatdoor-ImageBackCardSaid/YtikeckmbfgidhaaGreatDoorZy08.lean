/- Several texts in one: Pda. -/
import Derived.Test.YtikeckmbfgidhaaGreatDoorZy03
import Derived.Test.YtikeckmbfgidhaaGreatDoorZy07
/- The program's disk, plainly: rows of sectors and of writes that wait as cells; many cells set at once; the last write to a sector. -/
namespace Go.Proofs.YtikeckmbfgidhaaGreatDoor
open Go.RowKit

/-- A text's bytes as cells. -/
def tb (s : ByteArray) : List Value := bc s.data.toList
theorem tb_length (s : ByteArray) : (tb s).length = s.size := by simp [tb, bc]
theorem tb_one (s : ByteArray) : ∀ v ∈ tb s, v.oneCell' = true := by
  intro v hv
  unfold tb bc at hv
  obtain ⟨b, _, rfl⟩ := List.mem_map.1 hv
  rfl

/-- Rows of things that have as many cells each. -/
theorem flat_length {α : Type} (f : α → List Value) (N : Nat) : ∀ l : List α, (∀ x ∈ l, (f x).length = N) → (l.flatMap f).length = l.length * N
  | [], _ => by simp
  | x :: l, h => by
    rw [List.flatMap_cons, List.length_append, flat_length f N l fun y hy => h y (List.mem_cons_of_mem _ hy), h x (List.mem_cons_self ..), List.length_cons, Nat.add_mul]
    omega
theorem flat_at {α : Type} (f : α → List Value) (N : Nat) : ∀ (l : List α), (∀ x ∈ l, (f x).length = N) → ∀ (k : Nat) (x : α), l[k]? = some x → ∀ (j : Nat) (v : Value), (f x)[j]? = some v → (l.flatMap f)[k * N + j]? = some v
  | [], _, k, x, h => by simp at h
  | y :: l, hl, 0, x, h => fun j v hv => by
    simp at h
    subst h
    rw [List.flatMap_cons, Nat.zero_mul, Nat.zero_add, List.getElem?_append_left (List.getElem?_eq_some_iff.1 hv).1]
    exact hv
  | y :: l, hl, k + 1, x, h => fun j v hv => by
    have e := hl y (List.mem_cons_self ..)
    have h2 := flat_at f N l (fun z hz => hl z (List.mem_cons_of_mem _ hz)) k x (by simpa using h) j v hv
    rw [List.flatMap_cons, List.getElem?_append_right (by rw [e, Nat.add_mul]; omega), e, show (k + 1) * N + j - N = k * N + j from by rw [Nat.add_mul]; omega]
    exact h2
/-- Cells set one by one in a list. -/
def setMany : List Value → Nat → List Value → List Value
  | xs, _, [] => xs
  | xs, o, v :: r => setMany (xs.set o v) (o + 1) r
theorem setMany_mid : ∀ (Y X A C : List Value), X.length = Y.length → setMany (A ++ (X ++ C)) A.length Y = A ++ (Y ++ C)
  | [], X, A, C, h => by
    have : X = [] := List.eq_nil_of_length_eq_zero (by simpa using h)
    subst this
    rfl
  | y :: Y, [], A, C, h => by simp at h
  | y :: Y, x :: X, A, C, h => by
    show setMany ((A ++ (x :: X ++ C)).set A.length y) (A.length + 1) Y = _
    rw [List.set_append_right _ _ (Nat.le_refl _)]
    simp only [Nat.sub_self, List.cons_append, List.set_cons_zero]
    have h2 := setMany_mid Y X (A ++ [y]) C (by simpa using h)
    simp only [List.append_assoc, List.singleton_append, List.length_append, List.length_cons, List.length_nil, Nat.zero_add] at h2
    exact h2
theorem flat_set {α : Type} (f : α → List Value) (N : Nat) (l : List α) (hl : ∀ x ∈ l, (f x).length = N) (k : Nat) (y : α) (hk : k < l.length) (hy : (f y).length = N) :
    (l.set k y).flatMap f = setMany (l.flatMap f) (k * N) (f y) := by
  obtain ⟨A, hA⟩ : ∃ A, A = l.take k := ⟨_, rfl⟩
  obtain ⟨C, hC⟩ : ∃ C, C = l.drop (k + 1) := ⟨_, rfl⟩
  have e1 : l = A ++ l[k] :: C := by rw [hA, hC]; simp
  have e2 : l.set k y = A ++ y :: C := by rw [List.set_eq_take_append_cons_drop, if_pos hk, hA, hC]
  have hx : (f l[k]).length = N := hl _ (List.getElem_mem hk)
  have hAl : A.length = k := by rw [hA]; simp; omega
  have hAf : (A.flatMap f).length = k * N := by
    rw [flat_length f N A fun x hx => hl x (by rw [e1]; exact List.mem_append_left _ hx), hAl]
  rw [e2]
  obtain ⟨x, hxe⟩ : ∃ x, x = l[k] := ⟨_, rfl⟩
  rw [← hxe] at hx e1
  rw [e1]
  simp only [List.flatMap_append, List.flatMap_cons]
  rw [← hAf]
  exact (setMany_mid (f y) (f x) (A.flatMap f) (C.flatMap f) (by rw [hx, hy])).symm

theorem own_setMany {base : Nat} {e : TypeId} {size g n cap : Nat} : ∀ (vs : List Value) (o : Nat) (w : World) (xs : List Value), w.ownsRow base e size (.slice (some ⟨g, 0, none⟩) n cap) n xs →
    (w.setCells g o vs).ownsRow base e size (.slice (some ⟨g, 0, none⟩) n cap) n (setMany xs o vs)
  | [], _, _, _, h => h
  | v :: r, o, _, _, h => own_setMany r (o + 1) _ _ (h.stored o v).1
theorem size_setCells (g : Nat) : ∀ (vs : List Value) (o : Nat) (w : World), (w.setCells g o vs).heap.size = w.heap.size
  | [], _, _ => rfl
  | v :: r, o, w => by rw [World.setCells, size_setCells g r]; simp [World.setCell]
theorem Frm.setCells {F : Nat → Prop} {a : World} {g : Nat} (hp : F g ∨ a.heap.size ≤ g) : ∀ (vs : List Value) (o : Nat) (b : World), Frm F a b → Frm F a (b.setCells g o vs)
  | [], _, _, h => h
  | v :: r, o, _, h => Frm.setCells hp r (o + 1) _ (h.setCell (p := ⟨g, o, none⟩) hp v)
theorem St.setCells_other {T : TypeId} {k g : Nat} {cs : Array Value} {w : World} (h : St T k cs w) (hne : k ≠ g) (o : Nat) (vs : List Value) : St T k cs (w.setCells g o vs) :=
  Frm.st (F := fun j => j = g) (Frm.setCells (F := fun j => j = g) (.inl rfl) vs o w (Frm.refl _ w)) h hne
theorem own_setCells_other {B : Nat} {e : TypeId} {size : Nat} {v : Value} {n : Nat} {xs : List Value} {g : Nat} {w : World} (h : w.ownsRow B e size v n xs) (hne : v.ownBlock ≠ some g) (o : Nat) (vs : List Value) : (w.setCells g o vs).ownsRow B e size v n xs :=
  Frm.own (F := fun j => j = g) (Frm.setCells (F := fun j => j = g) (.inl rfl) vs o w (Frm.refl _ w)) h fun k hk e => hne (by rw [hk, e])

/-- How many writes wait up to the last one to a sector; 0 if none does. -/
def lastNo (i : Nat) : List (Nat × ByteArray) → Nat → Nat → Nat
  | [], _, z => z
  | x :: l, n, z => lastNo i l (n + 1) (if x.1 = i then n + 1 else z)
theorem lastNo_snoc (i : Nat) (x : Nat × ByteArray) : ∀ (l : List (Nat × ByteArray)) (n z : Nat), lastNo i (l ++ [x]) n z = if x.1 = i then n + l.length + 1 else lastNo i l n z
  | [], _, _ => rfl
  | y :: l, n, z => by
    show lastNo i (l ++ [x]) (n + 1) _ = _
    rw [lastNo_snoc i x l (n + 1)]
    simp only [List.length_cons]
    rw [show n + 1 + l.length + 1 = n + (l.length + 1) + 1 from by omega]
    rfl
theorem snoc_ind {α : Type} {P : List α → Prop} (h0 : P []) (h1 : ∀ l x, P l → P (l ++ [x])) (l : List α) : P l := by
  have h : ∀ r : List α, P r.reverse := by
    intro r
    induction r with
    | nil => exact h0
    | cons x r ih => rw [List.reverse_cons]; exact h1 _ _ ih
  have := h l.reverse
  rwa [List.reverse_reverse] at this
/-- Where the last write to a sector is. -/
theorem lastNo_spec (i : Nat) (s : ByteArray) (l : List (Nat × ByteArray)) : (lastNo i l 0 0 = 0 ∧ lastOf i s l = s ∧ ∀ x ∈ l, x.1 ≠ i) ∨ ∃ (k : Nat) (t : ByteArray), lastNo i l 0 0 = k + 1 ∧ l[k]? = some (i, t) ∧ lastOf i s l = t := by
  induction l using snoc_ind with
  | h0 => exact .inl ⟨rfl, rfl, by simp⟩
  | h1 l x ih =>
    rw [lastNo_snoc, lastOf_snoc]
    by_cases hx : x.1 = i
    · rw [if_pos hx, if_pos hx]
      exact .inr ⟨l.length, x.2, by omega, by rw [List.getElem?_append_right (Nat.le_refl _)]; simp [← hx], rfl⟩
    · rw [if_neg hx, if_neg hx]
      rcases ih with ⟨h1, h2, h3⟩ | ⟨k, t, h1, h2, h3⟩
      · refine .inl ⟨h1, h2, fun y hy => ?_⟩
        rcases List.mem_append.1 hy with hy | hy
        · exact h3 y hy
        · simp at hy; subst hy; exact hx
      · exact .inr ⟨k, t, h1, by rw [List.getElem?_append_left (List.getElem?_eq_some_iff.1 h2).1]; exact h2, h3⟩
theorem lastNo_le (i : Nat) (l : List (Nat × ByteArray)) : lastNo i l 0 0 ≤ l.length := by
  rcases lastNo_spec i ⟨#[]⟩ l with ⟨h, _⟩ | ⟨k, t, h, h2, _⟩
  · omega
  · have := (List.getElem?_eq_some_iff.1 h2).1; omega

/-- The cells of sectors, of writes that wait, of the row of last writes. -/
def scells (l : List ByteArray) : List Value := l.flatMap tb
def pend (x : Nat × ByteArray) : List Value := tb x.2 ++ [Value.int .i64 (x.1 : Int)]
def qcells (l : List (Nat × ByteArray)) : List Value := l.flatMap pend
def lcells (n : Nat) (l : List (Nat × ByteArray)) : List Value := (List.range n).map fun i => Value.int .i64 ((lastNo i l 0 0 : Nat) : Int)
theorem pend_length (x : Nat × ByteArray) (h : x.2.size = 128) : (pend x).length = 129 := by simp [pend, tb_length, h]
theorem pend_one (x : Nat × ByteArray) : ∀ v ∈ pend x, v.oneCell' = true := by
  intro v hv
  rcases List.mem_append.1 hv with hv | hv
  · exact tb_one _ v hv
  · simp at hv; subst hv; rfl
theorem qcells_snoc (l : List (Nat × ByteArray)) (x : Nat × ByteArray) : qcells (l ++ [x]) = qcells l ++ pend x := by simp [qcells]
theorem scells_length (l : List ByteArray) (h : ∀ x ∈ l, x.size = 128) : (scells l).length = l.length * 128 := flat_length tb 128 l fun x hx => by rw [tb_length, h x hx]
theorem qcells_length (l : List (Nat × ByteArray)) (h : ∀ x ∈ l, x.2.size = 128) : (qcells l).length = l.length * 129 := flat_length pend 129 l fun x hx => pend_length x (h x hx)
theorem lcells_length (n : Nat) (l : List (Nat × ByteArray)) : (lcells n l).length = n := by simp [lcells]
theorem lcells_at (n : Nat) (l : List (Nat × ByteArray)) (i : Nat) (h : i < n) : (lcells n l)[i]? = some (.int .i64 ((lastNo i l 0 0 : Nat) : Int)) := by simp [lcells, h]
theorem lcells_snoc (n : Nat) (l : List (Nat × ByteArray)) (x : Nat × ByteArray) : lcells n (l ++ [x]) = (lcells n l).set x.1 (.int .i64 ((l.length + 1 : Nat) : Int)) := by
  apply List.ext_getElem?
  intro i
  by_cases hi : i < n
  · rw [lcells_at n _ i hi, lastNo_snoc, List.getElem?_set]
    by_cases hx : x.1 = i
    · rw [if_pos hx, if_pos hx, if_pos (by rw [lcells_length]; omega)]
      simp
    · rw [if_neg hx, if_neg hx, lcells_at n l i hi]
  · rw [List.getElem?_eq_none (by rw [lcells_length]; omega), List.getElem?_eq_none (by rw [List.length_set, lcells_length]; omega)]
/-- The row of last writes, some of which have been made noughts. -/
def zcells (n : Nat) (l : List (Nat × ByteArray)) (k : Nat) : List Value := (List.range n).map fun i => Value.int .i64 (if (∃ x ∈ l.take k, x.1 = i) then 0 else ((lastNo i l 0 0 : Nat) : Int))
theorem zcells_zero (n : Nat) (l : List (Nat × ByteArray)) : zcells n l 0 = lcells n l := by simp [zcells, lcells]
theorem zcells_all (n : Nat) (l : List (Nat × ByteArray)) : zcells n l l.length = lcells n [] := by
  unfold zcells lcells
  apply List.map_congr_left
  intro i _
  rw [List.take_length]
  split
  · rfl
  · rename_i h
    rcases lastNo_spec i ⟨#[]⟩ l with ⟨h1, _⟩ | ⟨k, t, h1, h2, _⟩
    · rw [h1]; rfl
    · exact absurd ⟨(i, t), List.mem_of_getElem? h2, rfl⟩ h
theorem zcells_next (n : Nat) (l : List (Nat × ByteArray)) (k : Nat) (x : Nat × ByteArray) (h : l[k]? = some x) : zcells n l (k + 1) = (zcells n l k).set x.1 (.int .i64 0) := by
  obtain ⟨hk, hx⟩ := List.getElem?_eq_some_iff.1 h
  apply List.ext_getElem?
  intro i
  by_cases hi : i < n
  · rw [List.getElem?_set]
    simp only [zcells, List.getElem?_map, List.getElem?_range hi, Option.map_some, List.length_map, List.length_range]
    rw [List.take_succ_eq_append_getElem hk, hx]
    by_cases e : x.1 = i
    · rw [if_pos e, if_pos (show x.1 < n by omega), if_pos ⟨x, by simp, e⟩]
    · rw [if_neg e]
      congr 2
      have : (∃ y ∈ List.take k l ++ [x], y.1 = i) ↔ ∃ y ∈ List.take k l, y.1 = i := by
        constructor
        · rintro ⟨y, hy, e2⟩
          rcases List.mem_append.1 hy with hy | hy
          · exact ⟨y, hy, e2⟩
          · simp at hy; subst hy; exact absurd e2 e
        · rintro ⟨y, hy, e2⟩
          exact ⟨y, List.mem_append_left _ hy, e2⟩
      simp only [this]
  · rw [List.getElem?_eq_none (by simp [zcells]; omega), List.getElem?_eq_none (by simp [zcells]; omega)]
theorem zcells_length (n : Nat) (l : List (Nat × ByteArray)) (k : Nat) : (zcells n l k).length = n := by simp [zcells]

theorem own_range {w : World} {base : Nat} {e : TypeId} {size : Nat} {g n cap : Nat} {xs : List Value} (h : w.ownsRow base e size (.slice (some ⟨g, 0, none⟩) n cap) n xs) (o : Nat) (cs : List Value) (hc : ∀ j v, cs[j]? = some v → xs[o + j]? = some v) : w.rangeAt g o cs := fun j v hv => by
  have h2 := hc j v hv
  have hj := (List.getElem?_eq_some_iff.1 h2).1
  rw [h.1] at hj
  rw [h.cellAt _ hj]
  exact h2
theorem own_there {w : World} {base : Nat} {e : TypeId} {size : Nat} {g n cap : Nat} {xs : List Value} (h : w.ownsRow base e size (.slice (some ⟨g, 0, none⟩) n cap) n xs) (o m : Nat) (hm : o + m ≤ n * size) : w.there g o m := fun j hj => by
  refine ⟨?_, h.frozenAt _⟩
  rw [h.cellAt _ (by omega), List.getElem?_eq_getElem (by rw [h.1]; omega)]
  rfl
end Go.Proofs.YtikeckmbfgidhaaGreatDoor
