/- The reference's disk: Barrier, whatever comes; Crash. -/
import Derived.Test.YtfipojmgmmjnmaaDg
namespace Go.Proofs.Ytfipojmgmmjnmaa
open Go.RowKit

set_option maxRecDepth 100000 in
theorem dkBarrier_dead (B p : Nat) (kv wv : Value) (D : DS) (w : World) (hd : D.dead = true) (h : RD0 B p kv wv D w) :
    Calls Try.prog 37 #[.pointer (some ⟨p, 0, none⟩)] w fun e w' => e = .returned (.int .i64 30) ∧ w = w' := by
  have c3 : w.cell? ⟨p, 3, none⟩ = some (.bool true) := by rw [← hd]; exact h.st.cell rfl
  clear h hd
  go_enter Try.func37, Try.ntmps37
  go_wp2
  go_ret
  exact ⟨rfl, rfl⟩
set_option maxRecDepth 100000 in
theorem dkBarrier_off (B p : Nat) (kv wv : Value) (D : DS) (w : World) (hd : D.dead = false) (h0 : D.fuse = 0) (h : RD0 B p kv wv D w) :
    Calls Try.prog 37 #[.pointer (some ⟨p, 0, none⟩)] w fun e w' => e = .returned (.int .i64 30) ∧ RD0 B p kv wv D.burnt w' ∧ Frm (fun j => j = p) w w' := by
  have c3 : w.cell? ⟨p, 3, none⟩ = some (.bool false) := by rw [← hd]; exact h.st.cell rfl
  have HB := Lib.hid (fun W hW => dkburn_off B p kv wv D W h0 hW)
  have HH := Lib.hid h
  clear h hd
  go_enter Try.func37, Try.ntmps37
  go_wp2_with (go_at_call 58; go_must (refine (HB.out _ HH.out).mono ?_); rintro e w1 ⟨rfl, h1, f1, s1⟩; have H1 := Lib.hid h1; have F1 := Lib.hid f1; clear h1 f1 s1)
  go_ret
  exact ⟨rfl, H1.out, F1.out⟩
theorem dkBarrier_any (B p : Nat) (F : Nat → Prop) (D : DS) (w : World) (hB : B ≤ w.heap.size) (hc : D.br ≤ 1073741824) (h : RD B p F D w) :
    Calls Try.prog 37 #[.pointer (some ⟨p, 0, none⟩)] w fun e w' => e = .returned (.int .i64 D.barrier.1) ∧ RDid B p F D.barrier.2 w w' := by
  have hR := h
  obtain ⟨kv, wv, h0, hF, h1, h2, h3⟩ := h
  cases hd : D.dead with
  | true =>
    have e : D.barrier = (30, D) := by unfold DS.barrier; rw [if_pos hd]
    rw [e]
    exact (dkBarrier_dead B p kv wv D w hd h0).mono fun e w' ⟨he, hw⟩ => by subst hw; exact ⟨he, RDid.same hR⟩
  | false =>
    by_cases h00 : D.fuse = 0
    · have e : D.barrier = (30, D.burnt) := by unfold DS.barrier; rw [if_neg (by rw [hd]; simp), if_pos h00]
      rw [e]
      exact (dkBarrier_off B p kv wv D w hd h00 h0).mono fun e w' ⟨he, hr, hf⟩ => ⟨he, RDid.mk' hB hF h1 hr (hf.wide fun j hj => by subst hj; exact h1) (fun j hj => .inl (h2 j hj)) (fun j hj => .inl (h3 j hj))⟩
    · have e : D.barrier = (0, { D.burnt with kept := keepAll D.kept D.wait, wait := [], br := D.br + 1 }) := by unfold DS.barrier; rw [if_neg (by rw [hd]; simp), if_neg h00]
      rw [e]
      exact (dkBarrier_do B p kv wv D w hd h00 hc h0).mono fun e w' ⟨he, hr, hf⟩ => ⟨he, RDid.mk' hB hF h1 hr (hf.wide fun j hj => by rcases hj with rfl | hj; exact h1; exact h2 j hj) (fun j hj => .inl (h2 j hj)) (fun j hj => by simp [Value.ownBlock] at hj)⟩

/-- A slice of numbers, in a block that is fine. -/
def Ints (ok : Nat → Prop) (v : Value) (xs : List Int) (w : World) : Prop :=
  ∃ (ao : Option Addr) (cap b off : Nat), v = .slice ao xs.length cap ∧ (xs.length ≤ 9223372036854775807 ∧ (ao = none → cap = 0)) ∧ (0 < xs.length → ao = some ⟨b, off, none⟩ ∧ b < w.heap.size ∧ ok b) ∧ ∀ (i : Nat) (x : Int), xs[i]? = some x → w.cell? ⟨b, off + i, none⟩ = some (.int .i64 x)
theorem chosen_at (keep : List Int) (l : List (Nat × ByteArray)) (k : Nat) (x : Nat × ByteArray) (h : l[k]? = some x) : chosen keep (l.take (k + 1)) 0 = chosen keep (l.take k) 0 ++ (if (k : Int) ∈ keep then [x] else []) := by
  obtain ⟨hk, rfl⟩ := List.getElem?_eq_some_iff.1 h
  rw [List.take_succ_eq_append_getElem hk, chosen_snoc]
  have : (l.take k).length = k := by rw [List.length_take]; omega
  rw [this, Nat.zero_add]
/-- What is kept when so many of the places were asked. -/
def someKept (K : List ByteArray) (k : Nat) (x : Nat × ByteArray) (ks : List Int) : List ByteArray := if (k : Int) ∈ ks then K.set x.1 x.2 else K
theorem someKept_nil (K : List ByteArray) (k : Nat) (x : Nat × ByteArray) : someKept K k x [] = K := by unfold someKept; rw [if_neg (by simp)]
theorem someKept_yes (K : List ByteArray) (k : Nat) (x : Nat × ByteArray) (ks : List Int) : (someKept K k x ks).set x.1 x.2 = someKept K k x (ks ++ [(k : Int)]) := by
  unfold someKept
  rw [if_pos (by simp : (k : Int) ∈ ks ++ [(k : Int)])]
  split
  · rw [List.set_set]
  · rfl
theorem someKept_no (K : List ByteArray) (k : Nat) (x : Nat × ByteArray) (ks : List Int) (y : Int) (h : y ≠ k) : someKept K k x ks = someKept K k x (ks ++ [y]) := by
  unfold someKept
  have : (k : Int) ∈ ks ++ [y] ↔ (k : Int) ∈ ks := by
    constructor
    · intro hh
      rcases List.mem_append.1 hh with hh | hh
      · exact hh
      · simp at hh; exact absurd hh.symm h
    · intro hh; exact List.mem_append.2 (.inl hh)
  by_cases hk : (k : Int) ∈ ks
  · rw [if_pos hk, if_pos (this.2 hk)]
  · rw [if_neg hk, if_neg (fun e => hk (this.1 e))]
theorem someKept_length (K : List ByteArray) (k : Nat) (x : Nat × ByteArray) (ks : List Int) : (someKept K k x ks).length = K.length := by
  unfold someKept
  split
  · rw [List.length_set]
  · rfl
theorem someKept_all (K0 : List ByteArray) (keep : List Int) (l : List (Nat × ByteArray)) (k : Nat) (x : Nat × ByteArray) (h : l[k]? = some x) : someKept (keepAll K0 (chosen keep (l.take k) 0)) k x keep = keepAll K0 (chosen keep (l.take (k + 1)) 0) := by
  rw [chosen_at keep l k x h]
  unfold someKept
  split
  · rw [keepAll_snoc]
  · rw [List.append_nil]
theorem take_at (l : List Int) (j : Nat) (y : Int) (h : l[j]? = some y) : l.take (j + 1) = l.take j ++ [y] := by
  obtain ⟨hk, rfl⟩ := List.getElem?_eq_some_iff.1 h
  exact List.take_succ_eq_append_getElem hk
end Go.Proofs.Ytfipojmgmmjnmaa
