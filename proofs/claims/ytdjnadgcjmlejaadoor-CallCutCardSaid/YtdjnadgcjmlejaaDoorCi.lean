/- attr: reading a change. -/
import Derived.Test.YtdjnadgcjmlejaaDoorCb
import Derived.Test.YtdjnadgcjmlejaaDoorCw
import Derived.Test.YtdjnadgcjmlejaaDoorAa
namespace Go.Proofs.YtdjnadgcjmlejaaDoor
open Go.Joins Go.RowKit

/-- A function with two results, the first one a block of cells. -/
theorem ret_cell2 {P : Program} {fn : Func} {R : Ending → World → Prop} {a : Act} {w : World} {r t : Nat} {T ty : TypeId} {k : Nat} {cs : Array Value} {d : TypeDesc} {x : Value} (hfn : fn.results = #[.cell r ty, .tmp t]) (hr : a.tmps.getD r undef = .pointer (some ⟨k, 0, none⟩)) (hx : a.tmps.getD t undef = x)
    (h : St T k cs w) (hu : P.underlying ty = some d) (hd : (match d with | .struct _ | .array _ _ => true | _ => false) = true) (hi : (P.info? ty).map (·.size) = some cs.size) (hdf : a.defers = []) (hR : R (.returned (.tuple #[.agg cs, x])) w) : bodyPost P fn R .ret a w := by
  refine bodyPost_ret (v := .tuple #[.agg cs, x]) ?_ hdf hR
  have hl := h.load (P := P) hu hd hi
  rw [Array.getD_eq_getD_getElem?] at hr hx
  have hp : ∀ (x : Addr) (w : World), (asAddr (.pointer (some x))).run P w = .ok x w := fun _ _ => rfl
  unfold results
  rw [hfn]
  simp [Sem.run_bind, hr, hp, hl, hx, Result.andThen]

theorem St.keepN {T : TypeId} {cs : Array Value} {k b : Nat} {w w' : World} (h : St T k cs w) (hk : Keep b none w w') (h1 : k ≠ b) : St T k cs w' := h.keep hk h1 (by simp)
theorem St.setRow_other {T : TypeId} {k g : Nat} {cs : Array Value} {w : World} (h : St T k cs w) (hne : k ≠ g) (row : Array Value) : St T k cs (w.setRow g row) := (Go.setRow_other w g k row hne).trans h
theorem Took.rd {k : Nat} {s : ByteArray} {e : Int} {v : Value} {w w' : World} {r : Ending} (h : Took k s e v w r w') : r = .returned v ∧ Rd k s e w' ∧ Keep k none w w' := h
theorem set_built (b1 b2 b3 b4 b5 : Bool) (n1 n2 n3 n4 n5 : Int) : Tryd.prog.built 28 [(0, .agg #[.bool b1, .int .i64 n1]), (1, .agg #[.bool b2, .int .i64 n2]), (2, .agg #[.bool b3, .int .i64 n3]), (3, .agg #[.bool b4, .int .i64 n4]), (4, .agg #[.bool b5, .int .i64 n5])] =
    some #[.bool b1, .int .i64 n1, .bool b2, .int .i64 n2, .bool b3, .int .i64 n3, .bool b4, .int .i64 n4, .bool b5, .int .i64 n5] := by kernel_rfl
theorem Keep.row {k b : Nat} {w w' : World} {r : Option Nat} (h : Keep k r w w') (hb : w.heap.size ≤ b) (cs : Array Value) : Keep k r w (w'.setRow b cs) :=
  ⟨h.os, h.tape, h.output, by simpa using h.size, fun j hj hk hr => (setRow_other w' b j cs (by omega)).trans (h.block j hj hk hr)⟩

set_option maxRecDepth 100000 in
set_option maxHeartbeats 2000000 in
theorem areadSet_any (m : Nat) (s : ByteArray) (e : Int) (w : World) (h : Rd m s e w) :
    Calls Tryd.prog 82 #[.pointer (some ⟨m, 0, none⟩)] w fun r w' => r = .returned (.agg (psTake s e).2.2.vs.toArray) ∧ Rd m (psTake s e).1 (psTake s e).2.1 w' ∧ Keep m none w w' := by
  obtain ⟨s1, e1, b1, n1, hr1⟩ : ∃ s1 e1 b1 n1, rdOpt s e = (s1, e1, b1, n1) := ⟨_, _, _, _, rfl⟩
  obtain ⟨s2, e2, b2, n2, hr2⟩ : ∃ s2 e2 b2 n2, rdOpt s1 e1 = (s2, e2, b2, n2) := ⟨_, _, _, _, rfl⟩
  obtain ⟨s3, e3, b3, n3, hr3⟩ : ∃ s3 e3 b3 n3, rdOpt s2 e2 = (s3, e3, b3, n3) := ⟨_, _, _, _, rfl⟩
  obtain ⟨s4, e4, b4, n4, hr4⟩ : ∃ s4 e4 b4 n4, rdOpt s3 e3 = (s4, e4, b4, n4) := ⟨_, _, _, _, rfl⟩
  obtain ⟨s5, e5, b5, n5, hr5⟩ : ∃ s5 e5 b5 n5, rdOpt s4 e4 = (s5, e5, b5, n5) := ⟨_, _, _, _, rfl⟩
  rw [psTake_of hr1 hr2 hr3 hr4 hr5]
  have hm := h.lt
  have O1 := fun w h => rOpt_any m s e w h
  have O2 := fun w h => rOpt_any m s1 e1 w h
  have O3 := fun w h => rOpt_any m s2 e2 w h
  have O4 := fun w h => rOpt_any m s3 e3 w h
  have O5 := fun w h => rOpt_any m s4 e4 w h
  rw [hr1] at O1
  rw [hr2] at O2
  rw [hr3] at O3
  rw [hr4] at O4
  rw [hr5] at O5
  replace O1 := Lib.hid O1
  replace O2 := Lib.hid O2
  replace O3 := Lib.hid O3
  replace O4 := Lib.hid O4
  replace O5 := Lib.hid O5
  clear hr1 hr2 hr3 hr4 hr5
  have H0 := Lib.hid (show Rd m s e (w.alloc (.cells #[.bool false, .int .i64 0, .bool false, .int .i64 0, .bool false, .int .i64 0, .bool false, .int .i64 0, .bool false, .int .i64 0] 28 (0, 0))) from St.alloc h _)
  clear h
  go_enter Tryd.func82, Tryd.ntmps82
  go_wp2_with fail
  go_must (refine (O1.out _ H0.out).mono ?_)
  rintro r w1 ⟨rfl, g1, k1⟩
  have G1 := Lib.hid g1
  clear g1
  go_wp2_with fail
  go_must (refine (O2.out _ G1.out).mono ?_)
  rintro r w2 ⟨rfl, g2, k2⟩
  have G2 := Lib.hid g2
  clear g2
  go_wp2_with fail
  go_must (refine (O3.out _ G2.out).mono ?_)
  rintro r w3 ⟨rfl, g3, k3⟩
  have G3 := Lib.hid g3
  clear g3
  go_wp2_with fail
  go_must (refine (O4.out _ G3.out).mono ?_)
  rintro r w4 ⟨rfl, g4, k4⟩
  have G4 := Lib.hid g4
  clear g4
  go_wp2_with fail
  go_must (refine (O5.out _ G4.out).mono ?_)
  rintro r w5 ⟨rfl, g5, k5⟩
  have hk := (((Took.keep_trans k1 k2)).trans k3 (.inl rfl)).trans k4 (.inl rfl) |>.trans k5 (.inl rfl)
  have st := (St.new w 28 #[.bool false, .int .i64 0, .bool false, .int .i64 0, .bool false, .int .i64 0, .bool false, .int .i64 0, .bool false, .int .i64 0]).keepN hk (by omega)
  have ST := Lib.hid st
  have G5 := Lib.hid g5
  have HK := Lib.hid hk
  clear st g5 hk k1 k2 k3 k4 k5
  go_wp2_with (first
    | ((with_reducible show wpList _ _ _ ({ dst := _, op := .build _ _, type := _, pos := _, after := _, guard := _ } :: _) _ _); refine wpList_build_as rfl 28 _ rfl _ (set_built b1 b2 b3 b4 b5 n1 n2 n3 n4 n5) ?_)
    | ((with_reducible show wpList _ _ _ ({ dst := _, op := .store _ _ _, type := _, pos := _, after := _, guard := _ } :: _) _ _); refine wpList_store_st rfl 28 _ _ rfl w.heap.size _ rfl rfl _ ST.out (by kernel_rfl) rfl (by kernel_rfl) ?_; intro w6 hw6 hst6; have HR := Lib.hid hst6; have HQ := Lib.hid hw6; clear hst6 hw6))
  refine ret_cell (r := 2) (k := w.heap.size) (T := 28) Tryd.results82 rfl HR.out Tryd.underlying28 rfl (by kernel_rfl) rfl ?_
  have e := HQ.out
  subst e
  exact ⟨rfl, (show Rd m s5 e5 _ from St.setRow_other G5.out (by omega) _), Keep.row (keep_boxed1 HK.out) (Nat.le_refl _) _⟩
end Go.Proofs.YtdjnadgcjmlejaaDoor
