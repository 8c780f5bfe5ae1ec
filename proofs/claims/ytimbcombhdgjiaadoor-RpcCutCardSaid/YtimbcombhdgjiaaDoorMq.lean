/- Messages: the fixed calls that end each statement. -/
import Derived.Test.YtimbcombhdgjiaaDoorMw
import Derived.Test.YtimbcombhdgjiaaDoorMra
namespace Go.Proofs.YtimbcombhdgjiaaDoor
open Go.RowKit

theorem str_at (xs : List UInt8) (i : Nat) (v : UInt8) (h : xs[i]? = some v) (hi : i < (str xs).size) : (str xs)[i]'hi = v := by
  have h2 : (str xs).data.toList[i]? = some v := by
    show (xs.toArray.toList)[i]? = _
    exact h
  have h3 : (str xs).data.toList[i]? = some ((str xs)[i]'hi) := by
    rw [List.getElem?_eq_getElem (by rw [len_data]; exact hi)]
    rfl
  rw [h2] at h3
  exact (Option.some.inj h3).symm
def km1 : Mg := { Mg.zero with xid := 7, client := 1, seq := 1 }
def km2 : Mg := { Mg.zero with xid := 7 }
def km3 : Mg := { Mg.zero with xid := 7, ans := true, accept := 4 }
set_option maxRecDepth 100000 in
set_option maxHeartbeats 1000000 in
theorem mknown_any (w : World) : Calls Tryd.prog 6 #[] w fun e w' => e = .returned (.bool true) ∧ Below w.heap.size w w' := by
  have H1 := fun w => mPut_any km1 w (by decide)
  have H2 := fun w => mRefuse_any km2 4 w
  have H3 := fun w => mPut_any km3 w (by decide)
  have o1 : okMg km1 = true := by decide +kernel
  have o3 : okMg km3 = true := by decide +kernel
  rw [o1] at H1
  rw [o3] at H3
  simp only [if_true] at H1 H3
  have hs1 : (str (mgBytes km1)).size = 56 := by decide +kernel
  have hs3 : (str (mgBytes km3)).size = 24 := by decide +kernel
  have b1 : Tryd.prog.built 25 [(0, .int .i64 7), (4, .agg #[.int .i64 1, .int .i64 1, .int .i64 0, .int .i64 0])] = some km1.arr := by kernel_rfl
  have b2 : Tryd.prog.built 25 [(0, .int .i64 7)] = some km2.arr := by kernel_rfl
  have bc : Tryd.prog.built 23 [(0, .int .i64 1), (1, .int .i64 1)] = some #[.int .i64 1, .int .i64 1, .int .i64 0, .int .i64 0] := by kernel_rfl
  have H2 : ∀ w, Calls Tryd.prog 13 #[.agg km2.arr, .int .i64 4] w fun e w' => e = .returned (.agg km3.arr) ∧ Below w.heap.size w w' := H2
  have g1 : ∀ h, (str (mgBytes km1))[3]'h = 7 := fun h => str_at _ 3 7 (by decide +kernel) h
  have g3 : ∀ h, (str (mgBytes km3))[3]'h = 7 := fun h => str_at _ 3 7 (by decide +kernel) h
  obtain ⟨s1, e1⟩ : ∃ s, s = str (mgBytes km1) := ⟨_, rfl⟩
  obtain ⟨s3, e3⟩ : ∃ s, s = str (mgBytes km3) := ⟨_, rfl⟩
  rw [← e1] at H1 hs1
  rw [← e3] at H3 hs3
  have z1 : 3 < s1.size := by omega
  have z3 : 3 < s3.size := by omega
  have g1 : (s1[3]'z1) = 7 := by subst e1; exact g1 _
  have g3 : (s3[3]'z3) = 7 := by subst e3; exact g3 _
  obtain ⟨r1, hr1⟩ : ∃ r, r = km1.arr := ⟨_, rfl⟩
  obtain ⟨r2, hr2⟩ : ∃ r, r = km2.arr := ⟨_, rfl⟩
  obtain ⟨r3, hr3⟩ : ∃ r, r = km3.arr := ⟨_, rfl⟩
  rw [← hr1] at H1 b1
  rw [← hr2] at H2 b2
  rw [← hr3] at H3 H2
  replace H1 := Lib.hid H1
  replace H2 := Lib.hid H2
  replace H3 := Lib.hid H3
  have B1 := Lib.hid b1
  have B2 := Lib.hid b2
  have BC := Lib.hid bc
  clear e1 e3 hr1 hr2 hr3 o1 o3 b1 b2 bc
  go_enter Tryd.func6, Tryd.ntmps6
  go_wp2_with (first
    | ((with_reducible show wpList _ _ _ ({ dst := _, op := .build 23 _, type := _, pos := _, after := _, guard := _ } :: _) _ _); refine wpList_build_as rfl 23 _ rfl _ BC.out ?_)
    | ((with_reducible show wpList _ _ _ ({ dst := some 7, op := .build 25 _, type := _, pos := _, after := _, guard := _ } :: _) _ _); refine wpList_build_as rfl 25 _ rfl r1 B1.out ?_)
    | ((with_reducible show wpList _ _ _ ({ dst := some 12, op := .build 25 _, type := _, pos := _, after := _, guard := _ } :: _) _ _); refine wpList_build_as rfl 25 _ rfl r2 B2.out ?_)
    | (go_at_call 7; (first | (with_reducible refine (H1.out _).mono ?_; rintro e w1 ⟨rfl, b1⟩; have L1 := Lib.hid b1; clear b1) | (with_reducible refine (H3.out _).mono ?_; rintro e w3 ⟨rfl, b3⟩; have L3 := Lib.hid (L2.out.trans (b3.mono L2.out.size)); clear b3)))
    | (go_at_call 13; go_must (refine (H2.out _).mono ?_); rintro e w2 ⟨rfl, b2⟩; have L2 := Lib.hid (L1.out.trans (b2.mono L1.out.size)); clear b2))
  go_ret
  exact ⟨rfl, L3.out⟩
end Go.Proofs.YtimbcombhdgjiaaDoor
