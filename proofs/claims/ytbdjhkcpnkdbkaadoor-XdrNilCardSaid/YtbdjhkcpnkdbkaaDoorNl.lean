/- The contracts of writers and readers that are nil. -/
import Derived.Test.YtbdjhkcpnkdbkaaDoorPt
import Derived.Deep.RegionHeld3
namespace Go.Proofs.YtbdjhkcpnkdbkaaDoor
open Go.RowKit

theorem nU32 (n : Int) (w : World) : Calls Tryd.prog 33 #[.pointer none, .int .i64 n] w fun e w' => e = .returned (.int .i64 1) ∧ w = w' := by
  go_enter Tryd.func33, Tryd.ntmps33
  go_wp2
  go_ret
  exact ⟨rfl, rfl⟩
theorem nU64 (n : Int) (w : World) : Calls Tryd.prog 34 #[.pointer none, .int .i64 n] w fun e w' => e = .returned (.int .i64 1) ∧ w = w' := by
  go_enter Tryd.func34, Tryd.ntmps34
  go_wp2
  go_ret
  exact ⟨rfl, rfl⟩
theorem nBool (b : Bool) (w : World) : Calls Tryd.prog 35 #[.pointer none, .bool b] w fun e w' => e = .returned (.int .i64 1) ∧ w = w' := by
  cases b
  · go_enter Tryd.func35, Tryd.ntmps35
    go_wp2_with (go_at_call 33; go_must (refine (nU32 0 _).mono ?_); rintro e w1 ⟨rfl, rfl⟩)
    go_ret
    exact ⟨rfl, rfl⟩
  · go_enter Tryd.func35, Tryd.ntmps35
    go_wp2_with (go_at_call 33; go_must (refine (nU32 1 _).mono ?_); rintro e w1 ⟨rfl, rfl⟩)
    go_ret
    exact ⟨rfl, rfl⟩
theorem nFixed (s : ByteArray) (w : World) : Calls Tryd.prog 36 #[.pointer none, .string s] w fun e w' => e = .returned (.int .i64 1) ∧ w = w' := by
  go_enter Tryd.func36, Tryd.ntmps36
  go_wp2
  go_ret
  exact ⟨rfl, rfl⟩
theorem nOpaque (s : ByteArray) (w : World) : Calls Tryd.prog 19 #[.pointer none, .string s] w fun e w' => e = .returned (.int .i64 1) ∧ w = w' := by
  go_enter Tryd.func19, Tryd.ntmps19
  go_wp2
  go_ret
  exact ⟨rfl, rfl⟩
theorem nOpt (b : Bool) (n : Int) (w : World) : Calls Tryd.prog 20 #[.pointer none, .agg #[.bool b, .int .i64 n]] w fun e w' => e = .returned (.int .i64 1) ∧ Below w.heap.size w w' := by
  cases b
  · go_enter Tryd.func20, Tryd.ntmps20
    go_wp2_with (go_at_call 35; go_must (refine (nBool false _).mono ?_); rintro e w1 ⟨rfl, rfl⟩)
    go_ret
    exact ⟨rfl, boxed0⟩
  · go_enter Tryd.func20, Tryd.ntmps20
    go_wp2_with (first | (go_at_call 35; go_must (refine (nBool true _).mono ?_); rintro e w1 ⟨rfl, rfl⟩) | (go_at_call 34; go_must (refine (nU64 n _).mono ?_); rintro e w1 ⟨rfl, rfl⟩))
    go_ret
    exact ⟨rfl, boxed0⟩
theorem nText (w : World) : Calls Tryd.prog 17 #[.pointer none] w fun e w' => e = .returned (.string ⟨#[]⟩) ∧ w = w' := by
  go_enter Tryd.func17, Tryd.ntmps17
  go_wp2
  go_ret
  exact ⟨rfl, rfl⟩
theorem nLen (w : World) : Calls Tryd.prog 18 #[.pointer none] w fun e w' => e = .returned (.int .i64 0) ∧ w = w' := by
  go_enter Tryd.func18, Tryd.ntmps18
  go_wp2
  go_ret
  exact ⟨rfl, rfl⟩

/-- What is wrong with the writing of a thing to no writer. -/
def nilErr (kind : Int) : Int := if 1 ≤ kind ∧ kind ≤ 6 then 1 else 0

set_option maxRecDepth 100000 in
set_option maxHeartbeats 1000000 in
theorem xput_nil (kind n : Int) (is : Bool) (s : ByteArray) (w : World) :
    Calls Tryd.prog 16 #[.pointer none, .agg #[.int .i64 kind, .int .i64 n, .bool is, .string s]] w fun e w' => e = .returned (.int .i64 (nilErr kind)) ∧ Below w.heap.size w w' := by
  rcases kinds kind with rfl | rfl | rfl | rfl | rfl | rfl | ⟨k1, k2, k3, k4, k5, k6⟩
  · go_enter Tryd.func16, Tryd.ntmps16
    go_wp2_with (go_at_call 33; go_must (refine (nU32 n _).mono ?_); rintro e w' ⟨rfl, rfl⟩)
    go_ret
    exact ⟨rfl, boxed0⟩
  · go_enter Tryd.func16, Tryd.ntmps16
    go_wp2_with (go_at_call 34; go_must (refine (nU64 n _).mono ?_); rintro e w' ⟨rfl, rfl⟩)
    go_ret
    exact ⟨rfl, boxed0⟩
  · go_enter Tryd.func16, Tryd.ntmps16
    go_wp2_with (go_at_call 35; go_must (refine (nBool is _).mono ?_); rintro e w' ⟨rfl, rfl⟩)
    go_ret
    exact ⟨rfl, boxed0⟩
  · go_enter Tryd.func16, Tryd.ntmps16
    go_wp2_with (go_at_call 36; go_must (refine (nFixed s _).mono ?_); rintro e w' ⟨rfl, rfl⟩)
    go_ret
    exact ⟨rfl, boxed0⟩
  · go_enter Tryd.func16, Tryd.ntmps16
    go_wp2_with (go_at_call 19; go_must (refine (nOpaque s _).mono ?_); rintro e w' ⟨rfl, rfl⟩)
    go_ret
    exact ⟨rfl, boxed0⟩
  · go_enter Tryd.func16, Tryd.ntmps16
    go_wp2_with (go_at_call 20; go_must (refine (nOpt is n _).mono ?_); rintro e w' ⟨rfl, hb⟩)
    go_ret
    exact ⟨rfl, boxed hb⟩
  · have e : nilErr kind = 0 := if_neg (by omega)
    rw [e]
    go_enter Tryd.func16, Tryd.ntmps16
    go_wp2
    go_ret
    exact ⟨rfl, boxed0⟩

/-! ### No reader -/
theorem nErr (w : World) : Calls Tryd.prog 12 #[.pointer none] w fun e w' => e = .returned (.int .i64 1) ∧ w = w' := by
  go_enter Tryd.func12, Tryd.ntmps12
  go_wp2
  go_ret
  exact ⟨rfl, rfl⟩
theorem nLeft (w : World) : Calls Tryd.prog 13 #[.pointer none] w fun e w' => e = .returned (.int .i64 0) ∧ w = w' := by
  go_enter Tryd.func13, Tryd.ntmps13
  go_wp2
  go_ret
  exact ⟨rfl, rfl⟩
theorem nDone (w : World) : Calls Tryd.prog 15 #[.pointer none] w fun e w' => e = .returned (.int .i64 1) ∧ w = w' := by
  go_enter Tryd.func15, Tryd.ntmps15
  go_wp2_with (go_at_call 12; go_must (refine (nErr _).mono ?_); rintro e w1 ⟨rfl, rfl⟩)
  go_ret
  exact ⟨rfl, rfl⟩
theorem nfail (c : Int) (w : World) : Calls Tryd.prog 44 #[.pointer none, .int .i64 c] w fun e w' => e = .returned (.tuple #[]) ∧ w = w' := by
  go_enter Tryd.func44, Tryd.ntmps44
  go_wp2_with (go_at_call 12; go_must (refine (nErr _).mono ?_); rintro e w1 ⟨rfl, rfl⟩)
  go_returns
  exact ⟨rfl, rfl⟩
theorem ntake (n : Int) (f : Value) (w : World) : Calls Tryd.prog 39 #[.pointer none, .int .i64 n, f] w fun e w' => e = .returned (.tuple #[]) ∧ w = w' := by
  go_enter Tryd.func39, Tryd.ntmps39
  go_wp2_with (go_at_call 12; go_must (refine (nErr _).mono ?_); rintro e w1 ⟨rfl, rfl⟩)
  go_returns
  exact ⟨rfl, rfl⟩

set_option maxRecDepth 100000 in
theorem nrU32 (w : World) : Calls Tryd.prog 22 #[.pointer none] w fun e w' => e = .returned (.int .i64 0) ∧ Below w.heap.size w w' := by
  have hmf : ∀ (fn : Fn) (first cap : Array Value) (w : World), (Instr.makeFunc fn first cap).run Tryd.prog w = .ok (.func fn first cap) w := fun _ _ _ _ => rfl
  go_enter Tryd.func22, Tryd.ntmps22
  go_wp2_with (go_at_call 39; go_must (refine (ntake 4 _ _).mono ?_); rintro e w1 ⟨rfl, rfl⟩)
  go_returns
  exact ⟨rfl, boxed0⟩

set_option maxRecDepth 100000 in
theorem nrU64 (w : World) : Calls Tryd.prog 23 #[.pointer none] w fun e w' => e = .returned (.int .i64 0) ∧ Below w.heap.size w w' := by
  have hmf : ∀ (fn : Fn) (first cap : Array Value) (w : World), (Instr.makeFunc fn first cap).run Tryd.prog w = .ok (.func fn first cap) w := fun _ _ _ _ => rfl
  go_enter Tryd.func23, Tryd.ntmps23
  go_wp2_with (go_at_call 39; go_must (refine (ntake 8 _ _).mono ?_); rintro e w1 ⟨rfl, rfl⟩)
  go_returns
  exact ⟨rfl, boxed0⟩

set_option maxRecDepth 100000 in
theorem nrBool (w : World) : Calls Tryd.prog 24 #[.pointer none] w fun e w' => e = .returned (.bool false) ∧ Below w.heap.size w w' := by
  have hmf : ∀ (fn : Fn) (first cap : Array Value) (w : World), (Instr.makeFunc fn first cap).run Tryd.prog w = .ok (.func fn first cap) w := fun _ _ _ _ => rfl
  go_enter Tryd.func24, Tryd.ntmps24
  go_wp2_with (go_at_call 39; go_must (refine (ntake 4 _ _).mono ?_); rintro e w1 ⟨rfl, rfl⟩)
  go_returns
  exact ⟨rfl, boxed0⟩

set_option maxRecDepth 100000 in
theorem nrOpt (w : World) : Calls Tryd.prog 27 #[.pointer none] w fun e w' => e = .returned (.agg #[.bool false, .int .i64 0]) ∧ Below w.heap.size w w' := by
  go_enter Tryd.func27, Tryd.ntmps27
  go_wp2_with (go_at_call 24; go_must (refine (nrBool _).mono ?_); rintro e w1 ⟨rfl, hb⟩; have hz := hb.size; have c0 := hb.cell (p := ⟨w.heap.size, 0, none⟩) (by simp); have c1 := hb.cell (p := ⟨w.heap.size, 1, none⟩) (by simp); have f0 := hb.frozen (p := ⟨w.heap.size, 0, none⟩) (by simp); have f1 := hb.frozen (p := ⟨w.heap.size, 1, none⟩) (by simp); simp at c0 c1 f0 f1)
  have g0 : (w1.setCell ⟨w.heap.size, 0, none⟩ (.bool false)).cell? ⟨w.heap.size, 0, none⟩ = some (.bool false) := World.cell?_setCell_same _ _ _ c0
  have g1 : ((w1.setCell ⟨w.heap.size, 0, none⟩ (.bool false)).setCell ⟨w.heap.size, 1, none⟩ (.int .i64 0)).cell? ⟨w.heap.size, 1, none⟩ = some (.int .i64 0) := World.cell?_setCell_same _ _ _ ((World.cell?_setCell_other w1 ⟨w.heap.size, 0, none⟩ ⟨w.heap.size, 1, none⟩ _ (by simp)).trans c1)
  exact bodyPost_ret (v := .agg #[.bool false, .int .i64 0]) (by simp [results, Tryd.results27, go_sem, g0, g1]) rfl ⟨rfl, ((boxed hb).setCell (by simp) _).setCell (by simp) _⟩

set_option maxRecDepth 100000 in
set_option maxHeartbeats 1000000 in
theorem nrFixed (n : Int) (w : World) : Calls Tryd.prog 25 #[.pointer none, .int .i64 n] w fun e w' => e = .returned (.string ⟨#[]⟩) ∧ Below w.heap.size w w' := by
  have hmf : ∀ (fn : Fn) (first cap : Array Value) (w : World), (Instr.makeFunc fn first cap).run Tryd.prog w = .ok (.func fn first cap) w := fun _ _ _ _ => rfl
  by_cases h1 : n < 0
  · go_enter Tryd.func25, Tryd.ntmps25
    go_wp2_with (go_at_call 44; go_must (refine (nfail 2 _).mono ?_); rintro e w1 ⟨rfl, rfl⟩)
    go_returns
    exact ⟨rfl, boxed0.alloc (by simp) _⟩
  · by_cases h2 : 0 < n
    · go_enter Tryd.func25, Tryd.ntmps25
      go_wp2_with fail
      go_region_held3 (fun w' => w'.cell? ⟨w.heap.size, 0, none⟩ = some (.int .i64 n)) (first | (simp; done) | assumption)
        (first | (go_at_call 13; go_must (refine (nLeft _).mono ?_; rintro e w1 ⟨rfl, rfl⟩)))
      go_wp2_with (go_at_call 44; go_must (refine (nfail 10 _).mono ?_); rintro e w1 ⟨rfl, rfl⟩)
      go_returns
      exact ⟨rfl, (boxed0.alloc (by simp) _).drew⟩
    · have hw0 : IntKind.i64.wrap 0 = 0 := by decide
      obtain rfl : n = 0 := by omega
      go_enter Tryd.func25, Tryd.ntmps25
      go_wp2_with fail
      go_region_held3 (fun w' => w'.cell? ⟨w.heap.size, 0, none⟩ = some (.int .i64 0)) (first | (simp; done) | assumption)
        (first | (go_at_call 13; go_must (refine (nLeft _).mono ?_; rintro e w1 ⟨rfl, rfl⟩)))
      go_wp2
      go_region_held3 (fun w' => w'.cell? ⟨w.heap.size, 0, none⟩ = some (.int .i64 0)) (first | (simp; done) | assumption)
        (first | (go_at_call 21; go_must (refine (Pad_small 0 (by omega) _).mono ?_; rintro e w1 ⟨rfl, rfl⟩)) | (go_at_call 39; go_must (refine (ntake 0 _ _).mono ?_; rintro e w1 ⟨rfl, rfl⟩)))
      all_goals (go_wp2; go_returns)
      all_goals exact ⟨rfl, (boxed0.alloc (by simp) _).drew.drew⟩

theorem nrOpaque (n : Int) (w : World) : Calls Tryd.prog 26 #[.pointer none, .int .i64 n] w fun e w' => e = .returned (.string ⟨#[]⟩) ∧ Below w.heap.size w w' := by
  by_cases h1 : n < 0
  · go_enter Tryd.func26, Tryd.ntmps26
    go_wp2_with (first | (go_at_call 22; go_must (refine (nrU32 _).mono ?_); rintro e w1 ⟨rfl, hb⟩) | (go_at_call 44; go_must (refine (nfail 4 _).mono ?_); rintro e w2 ⟨rfl, rfl⟩))
    go_ret
    exact ⟨rfl, hb⟩
  · go_enter Tryd.func26, Tryd.ntmps26
    go_wp2_with (first | (go_at_call 22; go_must (refine (nrU32 _).mono ?_); rintro e w1 ⟨rfl, hb⟩) | (go_at_call 25; go_must (refine (nrFixed 0 _).mono ?_); rintro e w2 ⟨rfl, hb2⟩))
    go_ret
    exact ⟨rfl, hb.trans (hb2.mono hb.size)⟩

end Go.Proofs.YtbdjhkcpnkdbkaaDoor
