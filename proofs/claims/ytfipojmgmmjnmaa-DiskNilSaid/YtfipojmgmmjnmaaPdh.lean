/- The program's disk: Write, whatever comes; Read, Arm, and what is asked of it, over what lies in memory. -/
import Derived.Test.YtfipojmgmmjnmaaPdg
namespace Go.Proofs.Ytfipojmgmmjnmaa
open Go.RowKit

theorem PD0.drewN {B p : Nat} {kv wv lv : Value} {is : Bool} {N : Int} {D : DS} {w : World} (h : PD0 B p kv wv lv is N D w) (q : Nat) : PD0 B p kv wv lv is N D (w.drewN q) := ⟨h.st, h.fz, h.ok, h.pos, h.kr, h.wr, h.lr, h.kp, h.wp, h.lp, h.kw, h.kl, h.wl, h.bp⟩
set_option maxRecDepth 100000 in
theorem dWrite_dead {B p : Nat} {kv wv lv : Value} {is : Bool} {N : Int} {D : DS} {w : World} (i : Int) (s : ByteArray) (hd : D.dead = true) (h : PD0 B p kv wv lv is N D w) : Calls Try.prog 22 #[.pointer (some ⟨p, 0, none⟩), .int .i64 i, .string s] w fun e w' => e = .returned (.int .i64 30) ∧ w = w' := by
  have HR := Lib.hid (drefusal_at h)
  rw [hd] at HR
  clear h hd
  go_enter Try.func22, Try.ntmps22
  go_wp2_with (go_at_call 45; go_must (refine HR.out.mono ?_); rintro e w1 ⟨rfl, rfl⟩)
  go_ret
  exact ⟨rfl, rfl⟩
set_option maxRecDepth 100000 in
theorem dWrite_out {B p : Nat} {kv wv lv : Value} {is : Bool} {N : Int} {D : DS} {w : World} (i : Int) (s : ByteArray) (hd : D.dead = false) (hi : D.inside i = false) (h : PD0 B p kv wv lv is N D w) : Calls Try.prog 22 #[.pointer (some ⟨p, 0, none⟩), .int .i64 i, .string s] w fun e w' => e = .returned (.int .i64 3) ∧ Below w.heap.size w w' := by
  have HR := Lib.hid (drefusal_at h)
  have HI := Lib.hid (dhas_at i h)
  rw [hd] at HR
  rw [hi] at HI
  clear h hd hi
  go_enter Try.func22, Try.ntmps22
  go_wp2_with (first | (go_at_call 45; go_must (refine HR.out.mono ?_); rintro e w1 ⟨rfl, rfl⟩) | (go_at_call 46; go_must (refine HI.out.mono ?_); rintro e w1 ⟨rfl, q, rfl⟩))
  go_ret
  exact ⟨rfl, rfl, rfl, rfl, Nat.le_refl _, fun _ _ => rfl⟩
set_option maxRecDepth 100000 in
theorem dWrite_long {B p : Nat} {kv wv lv : Value} {is : Bool} {N : Int} {D : DS} {w : World} (i : Int) (s : ByteArray) (hd : D.dead = false) (hi : D.inside i = true) (hs : 128 < s.size) (h : PD0 B p kv wv lv is N D w) : Calls Try.prog 22 #[.pointer (some ⟨p, 0, none⟩), .int .i64 i, .string s] w fun e w' => e = .returned (.int .i64 4) ∧ Below w.heap.size w w' := by
  have HR := Lib.hid (drefusal_at h)
  have HI := Lib.hid (dhas_at i h)
  rw [hd] at HR
  rw [hi] at HI
  have d3 : decide ((s.size : Int) > 128) = true := decide_eq_true (by omega)
  clear h hd hi hs
  go_enter Try.func22, Try.ntmps22
  go_wp2_with (first | (go_at_call 45; go_must (refine HR.out.mono ?_); rintro e w1 ⟨rfl, rfl⟩) | (go_at_call 46; go_must (refine HI.out.mono ?_); rintro e w1 ⟨rfl, q, rfl⟩))
  go_ret
  exact ⟨rfl, rfl, rfl, rfl, Nat.le_refl _, fun _ _ => rfl⟩
set_option maxRecDepth 100000 in
theorem dWrite_off {B p : Nat} {kv wv lv : Value} {is : Bool} {N : Int} {D : DS} {w : World} (i : Int) (s : ByteArray) (hd : D.dead = false) (hi : D.inside i = true) (hs : s.size ≤ 128) (h0 : D.fuse = 0) (h : PD0 B p kv wv lv is N D w) :
    Calls Try.prog 22 #[.pointer (some ⟨p, 0, none⟩), .int .i64 i, .string s] w fun e w' => e = .returned (.int .i64 30) ∧ PD0 B p kv wv lv is N D.burnt w' ∧ Frm (fun j => j = p) w w' := by
  have HR := Lib.hid (drefusal_at h)
  have HI := Lib.hid (dhas_at i h)
  rw [hd] at HR
  rw [hi] at HI
  have d3 : decide ((s.size : Int) > 128) = false := decide_eq_false (by omega)
  have HB := Lib.hid (show ∀ q, Calls Try.prog 47 #[.pointer (some ⟨p, 0, none⟩)] (w.drewN q) _ from fun q => dburn_off B p kv wv lv is N D (w.drewN q) h0 (h.drewN q))
  clear h hd hi hs
  go_enter Try.func22, Try.ntmps22
  go_wp2_with (first | (go_at_call 45; go_must (refine HR.out.mono ?_); rintro e w1 ⟨rfl, rfl⟩) | (go_at_call 46; go_must (refine HI.out.mono ?_); rintro e w1 ⟨rfl, q, rfl⟩) | (go_at_call 47; go_must (refine (HB.out q).mono ?_); rintro e w2 ⟨rfl, h2⟩; have H2 := Lib.hid h2; clear h2))
  go_ret
  exact ⟨rfl, H2.out.1, H2.out.2.os, H2.out.2.tape, H2.out.2.output, H2.out.2.size, H2.out.2.block⟩

theorem PD.of_below {B p : Nat} {F : Nat → Prop} {D : DS} {w w' : World} (hB : B ≤ w.heap.size) (h : PD B p F D w) (b : Below w.heap.size w w') : PDid B p F D w w' := by
  obtain ⟨kv, wv, lv, is, N, h0, hF, h1, h2, h3, h4⟩ := h
  exact PDid.mk' hB hF h1 (h0.below b) (Frm.of_below b) (fun j hj => .inl (h2 j hj)) (fun j hj => .inl (h3 j hj)) (fun j hj => .inl (h4 j hj))
theorem dSize_any (B p : Nat) (F : Nat → Prop) (D : DS) (w : World) (h : PD B p F D w) : Calls Try.prog 12 #[.pointer (some ⟨p, 0, none⟩)] w fun e w' => e = .returned (.int .i64 (D.kept.length : Int)) ∧ w = w' := by
  obtain ⟨kv, wv, lv, is, N, h0, _⟩ := h
  exact dSize_at h0
theorem dDead_any (B p : Nat) (F : Nat → Prop) (D : DS) (w : World) (h : PD B p F D w) : Calls Try.prog 17 #[.pointer (some ⟨p, 0, none⟩)] w fun e w' => e = .returned (.bool D.dead) ∧ w = w' := by
  obtain ⟨kv, wv, lv, is, N, h0, _⟩ := h
  exact dDead_at h0
theorem dWaiting_any (B p : Nat) (F : Nat → Prop) (D : DS) (w : World) (h : PD B p F D w) : Calls Try.prog 18 #[.pointer (some ⟨p, 0, none⟩)] w fun e w' => e = .returned (.int .i64 (D.wait.length : Int)) ∧ w = w' := by
  obtain ⟨kv, wv, lv, is, N, h0, _⟩ := h
  exact dWaiting_at h0
theorem dCount_any (B p : Nat) (F : Nat → Prop) (D : DS) (w : World) (h : PD B p F D w) : Calls Try.prog 16 #[.pointer (some ⟨p, 0, none⟩)] w fun e w' => e = .returned (.tuple #[.int .i64 (D.wr : Int), .int .i64 (D.br : Int)]) ∧ ∃ q, w' = w.drewN q := by
  obtain ⟨kv, wv, lv, is, N, h0, _⟩ := h
  exact dCount_at h0
theorem dRead_any (B p : Nat) (F : Nat → Prop) (D : DS) (i : Int) (w : World) (h : PD B p F D w) : Calls Try.prog 25 #[.pointer (some ⟨p, 0, none⟩), .int .i64 i] w fun e w' => e = .returned (.tuple #[.string (D.read i).1, .int .i64 (D.read i).2]) ∧ Below w.heap.size w w' := by
  obtain ⟨kv, wv, lv, is, N, h0, _⟩ := h
  cases hd : D.dead with
  | true =>
    have e : D.read i = (⟨#[]⟩, 30) := by unfold DS.read; rw [if_pos hd]
    rw [e]
    exact (dRead_dead i hd h0).mono fun e w' ⟨he, hw⟩ => by subst hw; exact ⟨he, Below.refl _ _⟩
  | false =>
    cases hi : D.inside i with
    | false =>
      have e : D.read i = (⟨#[]⟩, 3) := by unfold DS.read; rw [hd, hi]; rfl
      rw [e]
      exact dRead_out i hd hi h0
    | true =>
      have hio : 0 ≤ i ∧ i < D.kept.length := of_decide_eq_true hi
      obtain ⟨j, hj⟩ : ∃ j : Nat, i = j := ⟨i.toNat, by omega⟩
      subst hj
      have e : D.read j = (lastOf j (D.kept.getD j ⟨#[]⟩) D.wait, 0) := by unfold DS.read; rw [hd, hi]; rfl
      rw [e]
      exact dRead_in j hd (by omega) h0
theorem dArm_any (B p : Nat) (F : Nat → Prop) (D : DS) (n : Int) (w : World) (hB : B ≤ w.heap.size) (hn : n ≤ 9223372036854775807) (h : PD B p F D w) :
    Calls Try.prog 35 #[.pointer (some ⟨p, 0, none⟩), .int .i64 n] w fun e w' => e = .returned (.int .i64 (D.arm n).1) ∧ PDid B p F (D.arm n).2 w w' := by
  have hR := h
  obtain ⟨kv, wv, lv, is, N, h0, hF, h1, h2, h3, h4⟩ := h
  cases hd : D.dead with
  | true =>
    have e : D.arm n = (30, D) := by unfold DS.arm; rw [if_pos hd]
    rw [e]
    exact (dArm_dead B p kv wv lv is N D n w hd h0).mono fun e w' ⟨he, hw⟩ => by subst hw; exact ⟨he, PDid.same hR⟩
  | false =>
    have e : (D.arm n).1 = 0 := by unfold DS.arm; rw [hd]; rfl
    rw [e]
    exact (dArm_at B p kv wv lv is N D n w hd hn h0).mono fun e w' ⟨he, ⟨is', N', hr⟩, hf⟩ => ⟨he, PDid.mk' hB hF h1 hr (hf.wide fun j hj => by subst hj; exact h1) (fun j hj => .inl (h2 j hj)) (fun j hj => .inl (h3 j hj)) (fun j hj => .inl (h4 j hj))⟩
theorem dWrite_any (B p : Nat) (F : Nat → Prop) (D : DS) (i : Int) (s : ByteArray) (w : World) (hB : B ≤ w.heap.size) (hl : D.wait.length ≤ 1073741824) (hc : D.wr ≤ 1073741824) (h : PD B p F D w) :
    Calls Try.prog 22 #[.pointer (some ⟨p, 0, none⟩), .int .i64 i, .string s] w fun e w' => e = .returned (.int .i64 (D.write i s).1) ∧ PDid B p F (D.write i s).2 w w' := by
  have hR := h
  obtain ⟨kv, wv, lv, is, N, h0, hF, h1, h2, h3, h4⟩ := h
  cases hd : D.dead with
  | true =>
    have e : D.write i s = (30, D) := by unfold DS.write; rw [if_pos hd]
    rw [e]
    exact (dWrite_dead i s hd h0).mono fun e w' ⟨he, hw⟩ => by subst hw; exact ⟨he, PDid.same hR⟩
  | false =>
    cases hi : D.inside i with
    | false =>
      have e : D.write i s = (3, D) := by unfold DS.write; rw [if_neg (by rw [hd]; simp), if_pos hi]
      rw [e]
      exact (dWrite_out i s hd hi h0).mono fun e w' ⟨he, hw⟩ => ⟨he, hR.of_below hB hw⟩
    | true =>
      have hio : 0 ≤ i ∧ i < D.kept.length := of_decide_eq_true hi
      obtain ⟨j, hj⟩ : ∃ j : Nat, i = j := ⟨i.toNat, by omega⟩
      subst hj
      by_cases hs : 128 < s.size
      · have e : D.write j s = (4, D) := by unfold DS.write; rw [if_neg (by rw [hd]; simp), if_neg (by rw [hi]; simp), if_pos hs]
        rw [e]
        exact (dWrite_long j s hd hi hs h0).mono fun e w' ⟨he, hw⟩ => ⟨he, hR.of_below hB hw⟩
      · by_cases h00 : D.fuse = 0
        · have e : D.write j s = (30, D.burnt) := by unfold DS.write; rw [if_neg (by rw [hd]; simp), if_neg (by rw [hi]; simp), if_neg hs, if_pos h00]
          rw [e]
          exact (dWrite_off j s hd hi (by omega) h00 h0).mono fun e w' ⟨he, hr, hf⟩ => ⟨he, PDid.mk' hB hF h1 hr (hf.wide fun j hj => by subst hj; exact h1) (fun j hj => .inl (h2 j hj)) (fun j hj => .inl (h3 j hj)) (fun j hj => .inl (h4 j hj))⟩
        · have e : D.write j s = (0, { D.burnt with wait := D.wait ++ [(j, blank s)], wr := D.wr + 1 }) := by unfold DS.write; rw [if_neg (by rw [hd]; simp), if_neg (by rw [hi]; simp), if_neg hs, if_neg h00]; rfl
          rw [e]
          exact (dWrite_do B p kv wv lv is N D j s w hd (by omega) (by omega) h00 hl hc hB h0).mono fun e w' ⟨he, wv', ⟨is', N', hr⟩, hf, hw⟩ => ⟨he, PDid.mk' hB hF h1 hr (hf.wide fun j hj => by rcases hj with rfl | hj | hj; exact h1; exact h3 j hj; exact h4 j hj) (fun j hj => .inl (h2 j hj)) (fun j hj => (hw j hj).imp (h3 j) id) (fun j hj => .inl (h4 j hj))⟩
end Go.Proofs.Ytfipojmgmmjnmaa
