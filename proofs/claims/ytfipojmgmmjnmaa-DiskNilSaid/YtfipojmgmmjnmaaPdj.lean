/- The program's disk: Barrier; Crash. -/
import Derived.Test.YtfipojmgmmjnmaaPdi
import Derived.Laws.OwnMore
namespace Go.Proofs.Ytfipojmgmmjnmaa
open Go.RowKit

set_option maxRecDepth 100000 in
theorem dBarrierc_any (k : Nat) (W : World) : Calls Try.prog 49 #[.int .i64 k] W fun e w' => e = .returned (.bool true) ∧ W = w' := by
  go_enter Try.func49, Try.ntmps49
  go_wp2
  go_ret
  exact ⟨rfl, rfl⟩
set_option maxRecDepth 100000 in
theorem dBarrier_dead {B p : Nat} {kv wv lv : Value} {is : Bool} {N : Int} {D : DS} {w : World} (hd : D.dead = true) (h : PD0 B p kv wv lv is N D w) : Calls Try.prog 24 #[.pointer (some ⟨p, 0, none⟩)] w fun e w' => e = .returned (.int .i64 30) ∧ w = w' := by
  have HR := Lib.hid (drefusal_at h)
  rw [hd] at HR
  clear h hd
  go_enter Try.func24, Try.ntmps24
  go_wp2_with (go_at_call 45; go_must (refine HR.out.mono ?_); rintro e w1 ⟨rfl, rfl⟩)
  go_ret
  exact ⟨rfl, rfl⟩
set_option maxRecDepth 100000 in
theorem dBarrier_off {B p : Nat} {kv wv lv : Value} {is : Bool} {N : Int} {D : DS} {w : World} (hd : D.dead = false) (h0 : D.fuse = 0) (h : PD0 B p kv wv lv is N D w) :
    Calls Try.prog 24 #[.pointer (some ⟨p, 0, none⟩)] w fun e w' => e = .returned (.int .i64 30) ∧ PD0 B p kv wv lv is N D.burnt w' ∧ Frm (fun j => j = p) w w' := by
  have HR := Lib.hid (drefusal_at h)
  rw [hd] at HR
  have HB := Lib.hid (dburn_off B p kv wv lv is N D w h0 h)
  clear h hd
  go_enter Try.func24, Try.ntmps24
  go_wp2_with (first | (go_at_call 45; go_must (refine HR.out.mono ?_); rintro e w1 ⟨rfl, rfl⟩) | (go_at_call 47; go_must (refine HB.out.mono ?_); rintro e w2 ⟨rfl, h2⟩; have H2 := Lib.hid h2; clear h2))
  go_ret
  exact ⟨rfl, H2.out.1, H2.out.2⟩
set_option maxRecDepth 100000 in
theorem dBarrier_do {B p : Nat} {kv wv lv : Value} {is : Bool} {N : Int} {D : DS} {w : World} (hd : D.dead = false) (h0 : D.fuse ≠ 0) (hc : D.br ≤ 1073741824) (h : PD0 B p kv wv lv is N D w) :
    Calls Try.prog 24 #[.pointer (some ⟨p, 0, none⟩)] w fun e w' => e = .returned (.int .i64 0) ∧
      PDk B p kv (.slice none 0 0) lv { D.burnt with kept := keepAll D.kept D.wait, wait := [], br := D.br + 1 } w' ∧ Frm (fun j => j = p ∨ kv.ownBlock = some j ∨ lv.ownBlock = some j) w w' := by
  have HR := Lib.hid (drefusal_at h)
  rw [hd] at HR
  have HB := Lib.hid (dburn_on B p kv wv lv is N D w h0 h)
  obtain ⟨E, hE⟩ : ∃ E, E = D.burnt := ⟨_, rfl⟩
  obtain ⟨ew, er, ek, eb⟩ := burnt_parts D
  rw [← hE] at ew er ek eb HB ⊢
  have HX := Lib.hid (And.intro hE (And.intro ew (And.intro ek eb)))
  have HC := Lib.hid hc
  clear h hd h0 hE ew er ek eb hc
  go_enter Try.func24, Try.ntmps24
  go_wp2_with (first
    | (go_at_call 45; go_must (refine HR.out.mono ?_); rintro e w1 ⟨rfl, rfl⟩)
    | (go_at_call 47; go_must (refine HB.out.mono ?_); rintro e w2 ⟨rfl, ⟨is2, N2, h2⟩, f2, s2⟩; have H2 := Lib.hid h2; have F2 := Lib.hid f2; clear h2 f2 s2)
    | (go_at_call 43; go_must (refine (dsettle_all B p kv wv lv is2 N2 E (fun _ => true) w2 H2.out (fun k W _ _ => dBarrierc_any k W)).mono ?_); rintro e w3 ⟨rfl, h3, f3⟩; have c7 := (show w3.cell? ⟨p, 7, none⟩ = some (.int .i64 (D.br : Int)) from by rw [← HX.out.2.2.2]; exact h3.st.cell rfl); have q7 := h3.st.free 7; have hbr := HC.out; have H3 := Lib.hid h3; have F3 := Lib.hid f3; clear h3 f3)
    | (go_at_call 48; go_must (refine (i64_one ⟨p, 7, none⟩ (D.br : Int) _ (by omega) (by omega) c7 q7).mono ?_); rintro e w4 ⟨rfl, rfl⟩))
  go_ret
  refine ⟨rfl, ⟨is2, N2, ?_⟩, ((F2.out.wide fun j hj => .inl hj).next F3.out).setCell (p := ⟨p, 7, none⟩) (.inl (.inl rfl)) _⟩
  have h := H3.out.brs (D.br + 1)
  have e2 : ((D.br + 1 : Nat) : Int) = (D.br : Int) + 1 := by omega
  rw [e2, picked_all] at h
  have e3 : ({ { E with kept := keepAll E.kept E.wait, wait := [] } with br := D.br + 1 } : DS) = { E with kept := keepAll D.kept D.wait, wait := [], br := D.br + 1 } := by simp only [HX.out.2.1, HX.out.2.2.1]
  rw [← e3]
  exact h
theorem dBarrier_any (B p : Nat) (F : Nat → Prop) (D : DS) (w : World) (hB : B ≤ w.heap.size) (hc : D.br ≤ 1073741824) (h : PD B p F D w) :
    Calls Try.prog 24 #[.pointer (some ⟨p, 0, none⟩)] w fun e w' => e = .returned (.int .i64 D.barrier.1) ∧ PDid B p F D.barrier.2 w w' := by
  have hR := h
  obtain ⟨kv, wv, lv, is, N, h0, hF, h1, h2, h3, h4⟩ := h
  cases hd : D.dead with
  | true =>
    have e : D.barrier = (30, D) := by unfold DS.barrier; rw [if_pos hd]
    rw [e]
    exact (dBarrier_dead hd h0).mono fun e w' ⟨he, hw⟩ => by subst hw; exact ⟨he, PDid.same hR⟩
  | false =>
    by_cases h00 : D.fuse = 0
    · have e : D.barrier = (30, D.burnt) := by unfold DS.barrier; rw [if_neg (by rw [hd]; simp), if_pos h00]
      rw [e]
      exact (dBarrier_off hd h00 h0).mono fun e w' ⟨he, hr, hf⟩ => ⟨he, PDid.mk' hB hF h1 hr (hf.wide fun j hj => by subst hj; exact h1) (fun j hj => .inl (h2 j hj)) (fun j hj => .inl (h3 j hj)) (fun j hj => .inl (h4 j hj))⟩
    · have e : D.barrier = (0, { D.burnt with kept := keepAll D.kept D.wait, wait := [], br := D.br + 1 }) := by unfold DS.barrier; rw [if_neg (by rw [hd]; simp), if_neg h00]
      rw [e]
      exact (dBarrier_do hd h00 hc h0).mono fun e w' ⟨he, ⟨is', N', hr⟩, hf⟩ => ⟨he, PDid.mk' hB hF h1 hr (hf.wide fun j hj => by rcases hj with rfl | hj | hj; exact h1; exact h2 j hj; exact h4 j hj) (fun j hj => .inl (h2 j hj)) (fun j hj => by simp [Value.ownBlock] at hj) (fun j hj => .inl (h4 j hj))⟩
end Go.Proofs.Ytfipojmgmmjnmaa
