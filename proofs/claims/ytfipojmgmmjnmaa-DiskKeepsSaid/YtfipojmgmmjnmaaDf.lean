/- The reference's disk: Write, whatever comes. -/
import Derived.Test.YtfipojmgmmjnmaaDe
namespace Go.Proofs.Ytfipojmgmmjnmaa
open Go.RowKit

/-- What a method of a disk leaves: the disk D, in F and what is new; all else as it was. -/
def RDid (B p : Nat) (F : Nat → Prop) (D : DS) (w w' : World) : Prop := RD B p (Grow F w w') D w' ∧ Frm F w w'
theorem RDid.same {B p : Nat} {F : Nat → Prop} {D : DS} {w : World} (h : RD B p F D w) : RDid B p F D w w := by
  obtain ⟨kv, wv, h0, hF, h1, h2, h3⟩ := h
  exact ⟨⟨kv, wv, h0, fun j hj => by rcases hj with hj | hj; exact hF j hj; omega, .inl h1, fun j hj => .inl (h2 j hj), fun j hj => .inl (h3 j hj)⟩, Frm.refl _ _⟩
theorem RDid.mk' {B p : Nat} {F : Nat → Prop} {kv wv : Value} {D : DS} {w w' : World} (hB : B ≤ w.heap.size) (hF : ∀ j, F j → B ≤ j ∧ j < w.heap.size) (hp : F p) (h : RD0 B p kv wv D w') (f : Frm F w w')
    (hk : ∀ j, kv.ownBlock = some j → F j ∨ w.heap.size ≤ j) (hw : ∀ j, wv.ownBlock = some j → F j ∨ w.heap.size ≤ j) : RDid B p F D w w' :=
  ⟨⟨kv, wv, h, fun j hj => by
      rcases hj with hj | hj
      · exact ⟨(hF j hj).1, Nat.lt_of_lt_of_le (hF j hj).2 f.size⟩
      · omega,
    .inl hp, fun j hj => (hk j hj).imp id fun e => ⟨e, (h.kr.lt j hj).2⟩, fun j hj => (hw j hj).imp id fun e => ⟨e, (h.wr.lt j hj).2⟩⟩, f⟩

set_option maxRecDepth 100000 in
theorem dkWrite_dead (B p : Nat) (kv wv : Value) (D : DS) (i : Int) (s : ByteArray) (w : World) (hd : D.dead = true) (h : RD0 B p kv wv D w) :
    Calls Try.prog 36 #[.pointer (some ⟨p, 0, none⟩), .int .i64 i, .string s] w fun e w' => e = .returned (.int .i64 30) ∧ w = w' := by
  have c3 : w.cell? ⟨p, 3, none⟩ = some (.bool true) := by rw [← hd]; exact h.st.cell rfl
  clear h hd
  go_enter Try.func36, Try.ntmps36
  go_wp2
  go_ret
  exact ⟨rfl, rfl⟩
set_option maxRecDepth 100000 in
theorem dkWrite_out (B p : Nat) (kv wv : Value) (D : DS) (i : Int) (s : ByteArray) (w : World) (hd : D.dead = false) (hi : D.inside i = false) (h : RD0 B p kv wv D w) :
    Calls Try.prog 36 #[.pointer (some ⟨p, 0, none⟩), .int .i64 i, .string s] w fun e w' => e = .returned (.int .i64 3) ∧ w = w' := by
  have c3 : w.cell? ⟨p, 3, none⟩ = some (.bool false) := by rw [← hd]; exact h.st.cell rfl
  obtain ⟨n, hn⟩ : ∃ n, n = D.kept.length := ⟨_, rfl⟩
  have c0 : w.cell? ⟨p, 0, none⟩ = some kv := h.st.cell rfl
  obtain ⟨ao, cap, rfl⟩ := own_slice h.kr
  rw [← hn] at c0
  have hio : ¬ (0 ≤ i ∧ i < n) := by rw [hn]; exact of_decide_eq_false hi
  clear h hd hi hn
  by_cases h0 : i < 0
  · have d1 : decide (i < 0) = true := decide_eq_true h0
    go_enter Try.func36, Try.ntmps36
    go_wp2
    go_ret
    exact ⟨rfl, rfl⟩
  · have d1 : decide (i < 0) = false := decide_eq_false h0
    have d2 : decide (i ≥ (n : Int)) = true := decide_eq_true (by omega)
    go_enter Try.func36, Try.ntmps36
    go_wp2
    go_ret
    exact ⟨rfl, rfl⟩
set_option maxRecDepth 100000 in
theorem dkWrite_long (B p : Nat) (kv wv : Value) (D : DS) (j : Nat) (s : ByteArray) (w : World) (hd : D.dead = false) (hj : j < D.kept.length) (hs : 128 < s.size) (h : RD0 B p kv wv D w) :
    Calls Try.prog 36 #[.pointer (some ⟨p, 0, none⟩), .int .i64 j, .string s] w fun e w' => e = .returned (.int .i64 4) ∧ w = w' := by
  have c3 : w.cell? ⟨p, 3, none⟩ = some (.bool false) := by rw [← hd]; exact h.st.cell rfl
  obtain ⟨n, hn⟩ : ∃ n, n = D.kept.length := ⟨_, rfl⟩
  have c0 : w.cell? ⟨p, 0, none⟩ = some kv := h.st.cell rfl
  obtain ⟨ao, cap, rfl⟩ := own_slice h.kr
  rw [← hn] at c0
  have d1 : decide ((j : Int) < 0) = false := decide_eq_false (by omega)
  have d2 : decide (n ≤ j) = false := decide_eq_false (by omega)
  have d3 : decide ((s.size : Int) > 128) = true := decide_eq_true (by omega)
  clear h hd hn hs hj
  go_enter Try.func36, Try.ntmps36
  go_wp2
  go_ret
  exact ⟨rfl, rfl⟩
set_option maxRecDepth 100000 in
theorem dkWrite_off (B p : Nat) (kv wv : Value) (D : DS) (j : Nat) (s : ByteArray) (w : World) (hd : D.dead = false) (hj : j < D.kept.length) (hs : s.size ≤ 128) (h0 : D.fuse = 0) (h : RD0 B p kv wv D w) :
    Calls Try.prog 36 #[.pointer (some ⟨p, 0, none⟩), .int .i64 j, .string s] w fun e w' => e = .returned (.int .i64 30) ∧ RD0 B p kv wv D.burnt w' ∧ Frm (fun j => j = p) w w' := by
  have c3 : w.cell? ⟨p, 3, none⟩ = some (.bool false) := by rw [← hd]; exact h.st.cell rfl
  obtain ⟨n, hn⟩ : ∃ n, n = D.kept.length := ⟨_, rfl⟩
  have c0 : w.cell? ⟨p, 0, none⟩ = some kv := h.st.cell rfl
  obtain ⟨ao, cap, hkv⟩ := own_slice h.kr
  rw [hkv, ← hn] at c0
  have d1 : decide ((j : Int) < 0) = false := decide_eq_false (by omega)
  have d2 : decide (n ≤ j) = false := decide_eq_false (by omega)
  have d3 : decide ((s.size : Int) > 128) = false := decide_eq_false (by omega)
  have HB := Lib.hid (fun W hW => dkburn_off B p kv wv D W h0 hW)
  have HH := Lib.hid h
  clear h hd hn hs hj hkv
  go_enter Try.func36, Try.ntmps36
  go_wp2_with (go_at_call 58; go_must (refine (HB.out _ HH.out).mono ?_); rintro e w1 ⟨rfl, h1, f1, s1⟩; have H1 := Lib.hid h1; have F1 := Lib.hid f1; clear h1 f1 s1)
  go_ret
  exact ⟨rfl, H1.out, F1.out⟩

theorem dkWrite_any (B p : Nat) (F : Nat → Prop) (D : DS) (i : Int) (s : ByteArray) (w : World) (hB : B ≤ w.heap.size) (hl : D.wait.length ≤ 1073741824) (hc : D.wr ≤ 1073741824) (h : RD B p F D w) :
    Calls Try.prog 36 #[.pointer (some ⟨p, 0, none⟩), .int .i64 i, .string s] w fun e w' => e = .returned (.int .i64 (D.write i s).1) ∧ RDid B p F (D.write i s).2 w w' := by
  have hR := h
  obtain ⟨kv, wv, h0, hF, h1, h2, h3⟩ := h
  cases hd : D.dead with
  | true =>
    have e : D.write i s = (30, D) := by unfold DS.write; rw [if_pos hd]
    rw [e]
    exact (dkWrite_dead B p kv wv D i s w hd h0).mono fun e w' ⟨he, hw⟩ => by subst hw; exact ⟨he, RDid.same hR⟩
  | false =>
    cases hi : D.inside i with
    | false =>
      have e : D.write i s = (3, D) := by unfold DS.write; rw [if_neg (by rw [hd]; simp), if_pos hi]
      rw [e]
      exact (dkWrite_out B p kv wv D i s w hd hi h0).mono fun e w' ⟨he, hw⟩ => by subst hw; exact ⟨he, RDid.same hR⟩
    | true =>
      have hio : 0 ≤ i ∧ i < D.kept.length := of_decide_eq_true hi
      obtain ⟨j, hj⟩ : ∃ j : Nat, i = j := ⟨i.toNat, by omega⟩
      subst hj
      by_cases hs : 128 < s.size
      · have e : D.write j s = (4, D) := by unfold DS.write; rw [if_neg (by rw [hd]; simp), if_neg (by rw [hi]; simp), if_pos hs]
        rw [e]
        exact (dkWrite_long B p kv wv D j s w hd (by omega) hs h0).mono fun e w' ⟨he, hw⟩ => by subst hw; exact ⟨he, RDid.same hR⟩
      · by_cases h00 : D.fuse = 0
        · have e : D.write j s = (30, D.burnt) := by unfold DS.write; rw [if_neg (by rw [hd]; simp), if_neg (by rw [hi]; simp), if_neg hs, if_pos h00]
          rw [e]
          exact (dkWrite_off B p kv wv D j s w hd (by omega) (by omega) h00 h0).mono fun e w' ⟨he, hr, hf⟩ => ⟨he, RDid.mk' hB hF h1 hr (hf.wide fun j hj => by subst hj; exact h1) (fun j hj => .inl (h2 j hj)) (fun j hj => .inl (h3 j hj))⟩
        · have e : D.write j s = (0, { D.burnt with wait := D.wait ++ [(j, blank s)], wr := D.wr + 1 }) := by unfold DS.write; rw [if_neg (by rw [hd]; simp), if_neg (by rw [hi]; simp), if_neg hs, if_neg h00]; rfl
          rw [e]
          exact (dkWrite_do B p kv wv D j s w hd (by omega) (by omega) h00 hl hc hB h0).mono fun e w' ⟨he, wv', hr, hf, hw⟩ => ⟨he, RDid.mk' hB hF h1 hr (hf.wide fun j hj => by rcases hj with rfl | hj; exact h1; exact h3 j hj) (fun j hj => .inl (h2 j hj)) (fun j hj => (hw j hj).imp (h3 j) id)⟩
end Go.Proofs.Ytfipojmgmmjnmaa
