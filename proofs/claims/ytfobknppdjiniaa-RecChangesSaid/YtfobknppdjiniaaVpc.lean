/- rec's visit of one change that goes, with the functions that look and with those that write. -/
import Derived.Test.YtfobknppdjiniaaVpb
import Derived.Deep.QuietTactic
import Derived.BigQuiet
namespace Go.Proofs.Ytfobknppdjiniaa
open Go.RowKit

/-- The code of visit, within its scope. -/
noncomputable def visC : Code := match Try.f13.body with
  | some (.seq _ (.scope c)) => c
  | _ => .skip
def lookFn (g : Nat) : Array Value := #[.func (.func 23) #[] #[], .func (.func 24) #[] #[.pointer (some ⟨g, 0, none⟩)], .func (.func 25) #[] #[.pointer (some ⟨g, 0, none⟩)], .func (.func 26) #[] #[.pointer (some ⟨g, 0, none⟩)], .func (.func 27) #[] #[.pointer (some ⟨g, 0, none⟩)]]
set_option maxRecDepth 100000 in
set_option maxHeartbeats 1000000 in
theorem visit_look (k g : Nat) (s : ByteArray) (w : World) (hs : s.size = 2) (hkg : k ≠ g) (h1 : St 39 k (goneCs s) w) (h2 : St 4 g #[.bool true] w) :
    Calls Try.prog 13 #[.slice (some ⟨k, 0, none⟩) 1 1, .agg #[.func (.func 23) #[] #[], .func (.func 24) #[] #[.pointer (some ⟨g, 0, none⟩)], .func (.func 25) #[] #[.pointer (some ⟨g, 0, none⟩)], .func (.func 26) #[] #[.pointer (some ⟨g, 0, none⟩)], .func (.func 27) #[] #[.pointer (some ⟨g, 0, none⟩)]]] w
      fun e w' => e = .returned (.bool true) ∧ St 39 k (goneCs ⟨#[]⟩) w' ∧ St 4 g #[.bool true] w' ∧ ∀ B, B ≤ k → B ≤ g → B ≤ w.heap.size → Below B w w' := by
  obtain ⟨W0, hW0⟩ : ∃ W0, W0 = w.alloc (.cells #[.func (.func 23) #[] #[], .func (.func 24) #[] #[.pointer (some ⟨g, 0, none⟩)], .func (.func 25) #[] #[.pointer (some ⟨g, 0, none⟩)], .func (.func 26) #[] #[.pointer (some ⟨g, 0, none⟩)], .func (.func 27) #[] #[.pointer (some ⟨g, 0, none⟩)]] 68 (0, 0)) := ⟨_, rfl⟩
  have s1 : St 39 k (goneCs s) W0 := by rw [hW0]; exact h1.alloc _
  have s2 : St 4 g #[.bool true] W0 := by rw [hW0]; exact h2.alloc _
  have s3 : St 68 w.heap.size (lookFn g) W0 := by rw [hW0]; exact St.new w _ _
  obtain ⟨W1, hW1⟩ : ∃ W1, W1 = W0.drew := ⟨_, rfl⟩
  have s1 : St 39 k (goneCs s) W1 := by rw [hW1]; exact s1
  have s2 : St 4 g #[.bool true] W1 := by rw [hW1]; exact s2
  have s3 : St 68 w.heap.size (lookFn g) W1 := by rw [hW1]; exact s3
  have HL := Lib.hid (show ∀ B, B ≤ w.heap.size → Below B w W1 from fun B hB => by rw [hW1, hW0]; exact ((Below.refl _ _).alloc hB _).drew)
  have c0 : W1.cell? ⟨k, 0, none⟩ = some (.int .i64 4) := s1.cell rfl
  have c3 : W1.cell? ⟨k, 3, none⟩ = some (.string s) := s1.cell rfl
  have f0 : W1.cell? ⟨w.heap.size, 0, none⟩ = some (.func (.func 23) #[] #[]) := s3.cell rfl
  have f3 : W1.cell? ⟨w.heap.size, 3, none⟩ = some (.func (.func 26) #[] #[.pointer (some ⟨g, 0, none⟩)]) := s3.cell rfl
  have S1 := Lib.hid s1
  have S2 := Lib.hid s2
  obtain ⟨W2, hW2⟩ : ∃ W2, W2 = W1.drew := ⟨_, rfl⟩
  have s1 : St 39 k (goneCs s) W2 := by rw [hW2]; exact s1
  have s2 : St 4 g #[.bool true] W2 := by rw [hW2]; exact s2
  have g3 : W2.cell? ⟨w.heap.size, 3, none⟩ = some (.func (.func 26) #[] #[.pointer (some ⟨g, 0, none⟩)]) := by rw [hW2]; exact f3
  have HV2 := Lib.hid hW2
  have HL := Lib.hid (show ∀ B, B ≤ w.heap.size → Below B w W2 from fun B hB => by rw [hW2]; exact (HL.out B hB).drew)
  have HC4 := Lib.hid (recC4_st k g s W2.drew hs hkg s1 s2)
  have HW := Lib.hid hW0
  have HV := Lib.hid hW1
  have HS := Lib.hid hs
  clear h1 h2 s1 s2 s3 hW0 hW1 hW2 hs
  go_enter Try.func13, Try.ntmps13
  go_wp2
  rw [← HW.out]
  refine wp_scope_from 2 visC rfl ?_
  go_wp2
  go_step3
  go_wp2_with fail
  go_region
  rw [← HV.out]
  go_wp2_with fail
  go_still_tail 5, (by kernel_rfl)
  change wpList _ _ _ _ _ W1.drew
  go_wp2_with (go_at_call 23; go_must (refine (recC1_any _ _).mono ?_); rintro e w1 ⟨rfl, rfl⟩)
  refine wp_goto (scopeFrom_goto rfl ?_)
  go_wp2_with fail
  rw [← HV2.out]
  go_still_tail 5, (by kernel_rfl)
  change wpList _ _ _ _ _ W2.drew
  go_wp2_with (go_at_call 26; go_must (refine HC4.out.mono ?_); rintro e w3 ⟨rfl, q1, q2, q3⟩; have d0 : w3.cell? ⟨k, 0, none⟩ = some (.int .i64 4) := q1.cell rfl; have Q1 := Lib.hid q1; have Q2 := Lib.hid q2; have Q3 := Lib.hid q3; clear q1 q2 q3)
  refine wp_goto (scopeFrom_goto rfl ?_)
  go_wp2_with fail
  rw [scopeFrom_ret]
  go_ret
  exact ⟨rfl, Q1.out, Q2.out, fun B hk hg hB => (HL.out B hB).drew.trans (Q3.out B hk hg)⟩
def writeFn (b : Nat) : Array Value := #[.func (.func 14) #[] #[.pointer (some ⟨b, 0, none⟩)], .func (.func 15) #[] #[.pointer (some ⟨b, 0, none⟩)], .func (.func 16) #[] #[.pointer (some ⟨b, 0, none⟩)], .func (.func 18) #[] #[.pointer (some ⟨b, 0, none⟩)], .func (.func 20) #[] #[.pointer (some ⟨b, 0, none⟩)]]
/-- Behind a writing function: all but the writer's blocks as they were. -/
structure Wd (B k b m cb : Nat) (s : ByteArray) (w : World) (r : Option Nat) (ys : List UInt8) (W : World) : Prop where
  ch : St 39 k (goneCs s) W
  var : St 51 b #[.pointer (some ⟨m, 0, none⟩)] W
  cod : St 68 cb (writeFn b) W
  wr : Wr 54 5 m r ys W
  low : Below B w W
  ne : some k ≠ r ∧ some b ≠ r ∧ some cb ≠ r
  ge : ∀ j, r = some j → B ≤ j
theorem Wd.drew {B k b m cb : Nat} {s : ByteArray} {w : World} {r : Option Nat} {ys : List UInt8} {W : World} (h : Wd B k b m cb s w r ys W) : Wd B k b m cb s w r ys W.drew := ⟨h.ch, h.var, h.cod, h.wr, h.low.drew, h.ne, h.ge⟩
theorem Wd.wrote {B k b m cb : Nat} {s : ByteArray} {w : World} {r : Option Nat} {ys zs : List UInt8} {W W' : World} (hne : k ≠ m ∧ b ≠ m ∧ cb ≠ m) (hB : B ≤ m ∧ B ≤ w.heap.size) (h : Wd B k b m cb s w r ys W) (g : Wrote 54 5 m r zs W W') : ∃ r', Wd B k b m cb s w r' zs W' := by
  obtain ⟨r', g1, g2, g3⟩ := g
  have hl := h.low.size
  have l1 := h.ch.lt
  have l2 := h.var.lt
  have l3 := h.cod.lt
  have key : ∀ x, x < W.heap.size → some x ≠ r → some x ≠ r' := by
    intro x hx hxr
    rcases g3 with rfl | ⟨j, rfl, hj⟩
    · exact hxr
    · intro e; injection e with e; omega
  refine ⟨r', Keep.same g2 h.ch hne.1 h.ne.1, Keep.same g2 h.var hne.2.1 h.ne.2.1, Keep.same g2 h.cod hne.2.2 h.ne.2.2, g1, h.low.trans (g2.below hB.1 (by omega) h.ge), ⟨key _ l1 h.ne.1, key _ l2 h.ne.2.1, key _ l3 h.ne.2.2⟩, ?_⟩
  rcases g3 with rfl | ⟨j, rfl, hj⟩
  · exact h.ge
  · intro i e; injection e with e; omega
set_option maxRecDepth 100000 in
set_option maxHeartbeats 1000000 in
theorem visit_write (B k b m : Nat) (r : Option Nat) (xs : List UInt8) (s : ByteArray) (w : World) (hl : xs.length ≤ 1000) (hk : k ≠ m ∧ some k ≠ r) (hb : b ≠ m ∧ some b ≠ r) (hB : B ≤ m ∧ B ≤ w.heap.size ∧ ∀ j, r = some j → B ≤ j) (h1 : St 39 k (goneCs s) w) (h2 : St 51 b #[.pointer (some ⟨m, 0, none⟩)] w) (h3 : Wr 54 5 m r xs w) :
    Calls Try.prog 13 #[.slice (some ⟨k, 0, none⟩) 1 1, .agg #[.func (.func 14) #[] #[.pointer (some ⟨b, 0, none⟩)], .func (.func 15) #[] #[.pointer (some ⟨b, 0, none⟩)], .func (.func 16) #[] #[.pointer (some ⟨b, 0, none⟩)], .func (.func 18) #[] #[.pointer (some ⟨b, 0, none⟩)], .func (.func 20) #[] #[.pointer (some ⟨b, 0, none⟩)]]] w
      fun e w' => e = .returned (.bool true) ∧ (∃ r', Wr 54 5 m r' (xs ++ (putU32 4).2 ++ (putOpaque s).2) w') ∧ St 51 b #[.pointer (some ⟨m, 0, none⟩)] w' ∧ Below B w w' := by
  obtain ⟨W0, hW0⟩ : ∃ W0, W0 = w.alloc (.cells #[.func (.func 14) #[] #[.pointer (some ⟨b, 0, none⟩)], .func (.func 15) #[] #[.pointer (some ⟨b, 0, none⟩)], .func (.func 16) #[] #[.pointer (some ⟨b, 0, none⟩)], .func (.func 18) #[] #[.pointer (some ⟨b, 0, none⟩)], .func (.func 20) #[] #[.pointer (some ⟨b, 0, none⟩)]] 68 (0, 0)) := ⟨_, rfl⟩
  obtain ⟨W1, hW1⟩ : ∃ W1, W1 = W0.drew := ⟨_, rfl⟩
  obtain ⟨cb, hcb⟩ : ∃ n, n = w.heap.size := ⟨_, rfl⟩
  have lm := h3.lt
  have v0 : Wd B k b m cb s w r xs W1 := by
    rw [hW1, hW0]
    exact ⟨(h1.alloc _), (h2.alloc _), by rw [hcb]; exact (St.new w _ _), (h3.alloc _), ((Below.refl _ _).alloc hB.2.1 _).drew, ⟨hk.2, hb.2, fun e => by have := (lm.2 _ e.symm).2; omega⟩, hB.2.2⟩
  have hne : k ≠ m ∧ b ≠ m ∧ cb ≠ m := ⟨hk.1, hb.1, by have := lm.1; omega⟩
  have c0 : W1.cell? ⟨k, 0, none⟩ = some (.int .i64 4) := v0.ch.cell rfl
  have f0 : W1.cell? ⟨cb, 0, none⟩ = some (.func (.func 14) #[] #[.pointer (some ⟨b, 0, none⟩)]) := v0.cod.cell rfl
  have HC1 := Lib.hid (show Calls Try.prog 14 #[.pointer (some ⟨k, 0, none⟩), .pointer (some ⟨b, 0, none⟩)] W1.drew fun e w' => e = .returned (.tuple #[]) ∧ ∃ r', Wd B k b m cb s w r' (xs ++ (putU32 4).2) w' from
    (recW1_any k 0 b m 4 r xs W1.drew (by omega) c0 (v0.var.cell rfl) v0.wr).mono fun e w' ⟨he, hw⟩ => ⟨he, v0.drew.wrote hne ⟨hB.1, hB.2.1⟩ hw⟩)
  have HC4 := Lib.hid (show ∀ r' W, Wd B k b m cb s w r' (xs ++ (putU32 4).2) W → Calls Try.prog 18 #[.pointer (some ⟨k, 3, none⟩), .int .i64 1, .int .i64 64, .pointer (some ⟨b, 0, none⟩)] W fun e w' => e = .returned (.tuple #[]) ∧ ∃ r', Wd B k b m cb s w r' (xs ++ (putU32 4).2 ++ (putOpaque s).2) w' from fun r' W v =>
    (recW4_any k 3 b m 1 64 s r' _ W (by rw [show (putU32 4).2 = be 4 4 from rfl, List.length_append, be_length]; omega) (v.ch.cell rfl) (v.var.cell rfl) v.wr).mono fun e w' ⟨he, hw⟩ => ⟨he, v.wrote hne ⟨hB.1, hB.2.1⟩ hw⟩)
  have HW := Lib.hid hW0
  have HV := Lib.hid hW1
  have HN := Lib.hid hcb
  clear h1 h2 h3 hW0 hW1 v0 lm hne hk hb hB hl hcb
  go_enter Try.func13, Try.ntmps13
  go_wp2
  rw [← HW.out, ← HN.out]
  refine wp_scope_from 2 visC rfl ?_
  go_wp2
  go_step3
  go_wp2_with fail
  go_region
  rw [← HV.out]
  go_wp2_with fail
  go_still_tail 5, (by kernel_rfl)
  change wpList _ _ _ _ _ W1.drew
  go_wp2_with (go_at_call 14; go_must (refine HC1.out.mono ?_); rintro e w2 ⟨rfl, r2, v2⟩; have c2 : w2.cell? ⟨k, 0, none⟩ = some (.int .i64 4) := v2.ch.cell rfl; have f2 : w2.cell? ⟨cb, 3, none⟩ = some (.func (.func 18) #[] #[.pointer (some ⟨b, 0, none⟩)]) := v2.cod.cell rfl; have V2 := Lib.hid v2.drew; clear v2)
  refine wp_goto (scopeFrom_goto rfl ?_)
  go_wp2_with fail
  go_still_tail 5, (by kernel_rfl)
  change wpList _ _ _ _ _ w2.drew
  go_wp2_with (go_at_call 18; go_must (refine (HC4.out r2 _ V2.out).mono ?_); rintro e w3 ⟨rfl, r3, v3⟩; have d0 : w3.cell? ⟨k, 0, none⟩ = some (.int .i64 4) := v3.ch.cell rfl; have V3 := Lib.hid v3; clear v3)
  refine wp_goto (scopeFrom_goto rfl ?_)
  go_wp2_with fail
  rw [scopeFrom_ret]
  go_ret
  exact ⟨rfl, ⟨r3, V3.out.wr⟩, V3.out.var, V3.out.low⟩
end Go.Proofs.Ytfobknppdjiniaa
