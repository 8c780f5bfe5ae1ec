/- The law of what is spared. -/
import Derived.Test.YtokchikihacalaaKd
import Derived.Test.YtokchikihacalaaOs
namespace Go.Proofs.Ytokchikihacalaa
open Go.Joins Go.ChangeShapes Go.WideShapes Go.RowKit Go.Deep

/-- Texts in a slice, below B. -/
def Txts (B : Nat) (v : Value) (xs : List ByteArray) (w : World) : Prop :=
  ∃ (ao : Option Addr) (cap b off : Nat), v = .slice ao xs.length cap ∧ xs.length ≤ 9223372036854775807 ∧ ∀ k, k < xs.length → ∃ x, xs[k]? = some x ∧ ao = some ⟨b, off, none⟩ ∧ b < B ∧ x.size ≤ 9223372036854775807 ∧ w.cell? ⟨b, off + k, none⟩ = some (.string x)
theorem open_txts {H : Type} {enc : TypeId × Value → H} {w : World} {base : Nat} {held : Bool} {fuel : Nat} {v : Value} {x : DataW H × List MemPlace} (hv : ∃ a len cap, v = .slice a len cap) (h : DataW.trod enc Try.prog w base (fun _ => true) held fuel 40 v.cells.toList = some x) :
    ∃ xs : List ByteArray, Txts w.heap.size v xs w := by
  obtain ⟨ao, n, cap, b, off, rfl, hn, hao, hc⟩ := open_rows (P := Try.prog) (k := 1) (R := fun cs => ∃ m : ByteArray, cs = [.string m] ∧ m.size ≤ 9223372036854775807) Try.underlying40 (by kernel_rfl) (by omega) (fun {fuel cs x} h => by
    obtain ⟨m, e1, _, f1⟩ := DataW.trod_string Try.underlying9 h
    unfold maxLen at f1
    exact ⟨m, e1, f1⟩) hv h
  obtain ⟨xs, hl, hx⟩ := exists_list n (fun i (m : ByteArray) => m.size ≤ 9223372036854775807 ∧ w.cell? ⟨b, off + i, none⟩ = some (.string m)) fun i hi => by
    obtain ⟨cs, hcl, ⟨m, rfl, hm⟩, hj⟩ := hc i hi
    exact ⟨m, hm, by have := hj 0 (by omega); simpa using this⟩
  refine ⟨xs, ao, cap, b, off, by rw [hl], by omega, fun k hk => ?_⟩
  have e : xs[k]? = some xs[k] := List.getElem?_eq_getElem hk
  exact ⟨xs[k], e, (hao (by omega)).1, (hao (by omega)).2, (hx k _ e).1, (hx k _ e).2⟩

section
variable {α : Type} [DecidableEq α]
theorem ktouch_pos (l : List (α × Bool)) (s : α) : 0 < (ktouch l s).length := by
  unfold ktouch
  rcases plc_cases s l with ⟨e, _⟩ | ⟨i, b, e, hi, _⟩
  · rw [e, if_pos (by omega)]; simp
  · rw [e, if_neg (by omega)]; simp; omega
theorem ktouch_there (l : List (α × Bool)) (s : α) (h : s ∈ keys l) : keys (ktouch l s) = keys l ∧ (s, true) ∈ ktouch l s ∧ ∀ t, (t, true) ∈ l → (t, true) ∈ ktouch l s := by
  rcases plc_cases s l with ⟨_, hn⟩ | ⟨i, b, e, hi, hx⟩
  · exact absurd h hn
  · unfold ktouch
    rw [e, if_neg (by omega), Int.toNat_natCast]
    obtain ⟨_, hx⟩ := List.getElem?_eq_some_iff.1 hx
    refine ⟨?_, List.mem_set hi _, fun t ht => ?_⟩
    · unfold keys
      rw [List.map_set]
      have : (l.map (·.1))[i]'(by simpa using hi) = s := by simp [hx]
      rw [← this, List.set_getElem_self]
    · obtain ⟨j, hj⟩ := List.mem_iff_getElem?.1 ht
      by_cases hij : i = j
      · subst hij
        obtain ⟨_, hj⟩ := List.getElem?_eq_some_iff.1 hj
        rw [hx] at hj
        cases hj
        exact List.mem_set hi _
      · refine List.mem_iff_getElem?.2 ⟨j, ?_⟩
        rw [List.getElem?_set_ne hij]
        exact hj
end
theorem lead_all {α : Type} (l : List (α × Bool)) (h : l.all (·.2) = false) : ∃ s, (kspin l)[0]? = some (s, false) ∧ (s, false) ∈ l := by
  have hlt : lead l < l.length := by
    have h1 := lead_le l
    by_cases e : lead l = l.length
    · exfalso
      have : l.all (·.2) = true := by
        rw [List.all_eq_true]
        intro x hx
        obtain ⟨j, hj⟩ := List.mem_iff_getElem?.1 hx
        have hjl := (List.getElem?_eq_some_iff.1 hj).1
        obtain ⟨s, hs⟩ := lead_marked l j (by omega)
        rw [hs] at hj
        cases hj
        rfl
      rw [this] at h
      cases h
    · omega
  obtain ⟨s, hs⟩ := lead_end l hlt
  exact ⟨s, (rot_first l _ hlt).trans hs, List.mem_of_getElem? hs⟩
theorem one_mark {α : Type} {l : List (α × Bool)} (hn : (keys l).Nodup) {s : α} (h1 : (s, true) ∈ l) (h2 : (s, false) ∈ l) : False := by
  obtain ⟨i, hi⟩ := List.mem_iff_getElem?.1 h1
  obtain ⟨j, hj⟩ := List.mem_iff_getElem?.1 h2
  have e1 := keys_at hi
  have e2 := keys_at hj
  have e := (List.getElem?_inj (List.getElem?_eq_some_iff.1 e1).1 hn).1 (e1.trans e2.symm)
  subst e
  rw [hi] at hj
  cases hj

/-- A clock, seen from the law. -/
def KC (w : World) (p n : Nat) (l : List (ByteArray × Bool)) (wr : World) : Prop := ∃ F, CL w.heap.size p F l wr ∧ l.length ≤ n ∧ Below w.heap.size w wr
theorem KC.bel {w : World} {p n : Nat} {l : List (ByteArray × Bool)} {wr : World} (h : KC w p n l wr) : Below w.heap.size w wr := by
  obtain ⟨_, _, _, h⟩ := h
  exact h
theorem KC.nodup {w : World} {p n : Nat} {l : List (ByteArray × Bool)} {wr : World} (h : KC w p n l wr) : (keys l).Nodup := by
  obtain ⟨_, h, _⟩ := h
  exact h.nodup
theorem KC.small {w : World} {p n : Nat} {l : List (ByteArray × Bool)} {wr : World} (h : KC w p n l wr) : ∀ s ∈ keys l, s.size ≤ 9223372036854775807 := by
  obtain ⟨_, h, _⟩ := h
  exact h.small
theorem KC.drewN {w : World} {p n : Nat} {l : List (ByteArray × Bool)} {wr : World} (h : KC w p n l wr) (q : Nat) : KC w p n l (wr.drewN q) := by
  obtain ⟨F, h1, h2, h3⟩ := h
  exact ⟨F, h1.drewN q, h2, below_drewN h3 q⟩
theorem kt_le {α : Type} [DecidableEq α] (l : List (α × Bool)) (s : α) : (ktouch l s).length ≤ l.length + 1 := by
  unfold ktouch
  split <;> simp
theorem KC.touch {w : World} {p n : Nat} {l : List (ByteArray × Bool)} {wr : World} (h : KC w p n l wr) (hn : n ≤ 1073741824) (s : ByteArray) (hz : s.size ≤ 9223372036854775807) :
    Calls Try.prog 13 #[.pointer (some ⟨p, 0, none⟩), .string s] wr fun e w' => e = .returned (.tuple #[]) ∧ KC w p (n + 1) (ktouch l s) w' := by
  obtain ⟨F, h1, h2, h3⟩ := h
  exact (kTouch_any w.heap.size p F l s hz wr h3.size (by omega) h1).mono fun e w1 ⟨he, hs⟩ => ⟨he, _, hs.1, by have := kt_le l s; omega, h3.trans (hs.below h3.size fun j hj => (h1.inF j hj).1)⟩
theorem KC.victim {w : World} {p n : Nat} {l : List (ByteArray × Bool)} {wr : World} (h : KC w p n l wr) (hn : n ≤ 1073741824) :
    Calls Try.prog 18 #[.pointer (some ⟨p, 0, none⟩)] wr fun e w' => e = .returned (.tuple #[.string (vic l), .bool (decide (0 < l.length))]) ∧ KC w p n (kspin l) w' := by
  obtain ⟨F, h1, h2, h3⟩ := h
  exact (kVictim_any w.heap.size p F l wr h3.size (by omega) h1).mono fun e w1 ⟨he, hs⟩ => ⟨he, _, hs.1, by rw [show (kspin l).length = l.length from rot_length l _]; exact h2, h3.trans (hs.below h3.size fun j hj => (h1.inF j hj).1)⟩
theorem KC.has {w : World} {p n : Nat} {l : List (ByteArray × Bool)} {wr : World} (h : KC w p n l wr) (s : ByteArray) (hz : s.size ≤ 9223372036854775807) :
    Calls Try.prog 21 #[.pointer (some ⟨p, 0, none⟩), .string s] wr fun e w' => e = .returned (.bool (inK s l)) ∧ KC w p n l w' := by
  have h0 := h
  obtain ⟨F, h1, h2, h3⟩ := h
  exact (kHas_any _ p F l s hz wr h1).mono fun e w' ⟨he, q, hq⟩ => ⟨he, by rw [hq]; exact h0.drewN q⟩
theorem KC.marked {w : World} {p n : Nat} {l : List (ByteArray × Bool)} {wr : World} (h : KC w p n l wr) (s : ByteArray) (hz : s.size ≤ 9223372036854775807) :
    Calls Try.prog 23 #[.pointer (some ⟨p, 0, none⟩), .string s] wr fun e w' => e = .returned (.bool (mkd l s)) ∧ KC w p n l w' ∧ Below wr.heap.size wr w' := by
  obtain ⟨F, h1, h2, h3⟩ := h
  exact (kMarked_any _ p F l s hz wr h1).mono fun e w' ⟨he, hb⟩ => ⟨he, ⟨F, h1.below hb, h2, h3.trans (hb.mono h3.size)⟩, hb⟩
theorem KC.keys {w : World} {p n : Nat} {l : List (ByteArray × Bool)} {wr : World} (h : KC w p n l wr) :
    Calls Try.prog 22 #[.pointer (some ⟨p, 0, none⟩)] wr fun e w' => ∃ v, e = .returned v ∧ Strs v (Go.Proofs.Ytokchikihacalaa.keys l) w' ∧ KC w p n l w' := by
  obtain ⟨F, h1, h2, h3⟩ := h
  exact (kKeys_any _ p F l wr h1).mono fun e w' ⟨v, he, hs, hb⟩ => ⟨v, he, hs, F, h1.below hb, h2, h3.trans (hb.mono h3.size)⟩
theorem all_at {l : List (ByteArray × Bool)} {i : Nat} {x : ByteArray × Bool} (h : l[i]? = some x) : (l.take (i + 1)).all (·.2) = ((l.take i).all (·.2) && x.2) := by
  rw [take_succ_at l i x h, List.all_append]
  simp
end Go.Proofs.Ytokchikihacalaa
