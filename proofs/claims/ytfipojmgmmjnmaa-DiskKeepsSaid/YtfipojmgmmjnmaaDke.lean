/- PROVED HERE: for all steps, and all numbers of writes that are kept, the law DiskKeeps returns true: what was barriered is kept, whatever crashes. CONDITIONS: none. -/
import Derived.Test.YtfipojmgmmjnmaaDz
import Derived.Test.YtfipojmgmmjnmaaLaw
import Derived.ChangeMaps5
namespace Go.Proofs.Ytfipojmgmmjnmaa.diskKeeps
open Go.ChangeShapes Go.WideShapes Go.ChangeAt Go.RowKit

theorem own : ownKnob Try.prog.godebug = none := by kernel_rfl
theorem laidOut : laidOutB Try.prog = true := by kernel_rfl

set_option maxRecDepth 100000 in
set_option maxHeartbeats 1000000 in
theorem large1 (v v2 v3 : Value) (xs : List Sp) (w : World) (hl : largeSp xs = true) (hx : Steps w.heap.size v xs w) :
    Calls Try.prog 4 #[v, v2, v3] w fun e w' => e = .returned (.bool true) ∧ Below w.heap.size w w' := by
  have HLg := Lib.hid (show Calls Try.prog 9 #[v] w fun e w' => e = .returned (.bool true) ∧ w = w' from by have := dkLarge_any w.heap.size _ xs w hx; rw [hl] at this; exact this)
  clear hx hl
  go_enter Try.func4, Try.ntmps4
  go_wp2_with (first
    | (go_at_call 9; go_must (with_reducible refine HLg.out.mono ?_); rintro e w1 ⟨rfl, rfl⟩)
    | (go_at_call 10; go_must (with_reducible refine (dkknown_any _).mono ?_); rintro e w2 ⟨rfl, b2⟩))
  go_ret
  exact ⟨rfl, b2⟩
set_option maxRecDepth 100000 in
set_option maxHeartbeats 1000000 in
theorem large2 (v v2 v3 : Value) (xs ys : List Sp) (w : World) (hl : largeSp xs = false) (hl2 : largeSp ys = true) (hx : Steps w.heap.size v xs w) (hy : Steps w.heap.size v2 ys w) :
    Calls Try.prog 4 #[v, v2, v3] w fun e w' => e = .returned (.bool true) ∧ Below w.heap.size w w' := by
  have HLg := Lib.hid (show Calls Try.prog 9 #[v] w fun e w' => e = .returned (.bool false) ∧ w = w' from by have := dkLarge_any w.heap.size _ xs w hx; rw [hl] at this; exact this)
  have HLh := Lib.hid (show Calls Try.prog 9 #[v2] w fun e w' => e = .returned (.bool true) ∧ w = w' from by have := dkLarge_any w.heap.size _ ys w hy; rw [hl2] at this; exact this)
  clear hx hl hy hl2
  go_enter Try.func4, Try.ntmps4
  go_wp2_with (first
    | (go_at_call 9; (with_reducible refine HLg.out.mono ?_); rintro e w1 ⟨rfl, rfl⟩)
    | (go_at_call 9; (with_reducible refine HLh.out.mono ?_); rintro e w1 ⟨rfl, rfl⟩)
    | (go_at_call 10; go_must (with_reducible refine (dkknown_any _).mono ?_); rintro e w2 ⟨rfl, b2⟩))
  go_ret
  exact ⟨rfl, b2⟩
set_option maxRecDepth 100000 in
set_option maxHeartbeats 1000000 in
theorem long3 (v v2 : Value) (ko : Option Addr) (n kc : Nat) (xs ys : List Sp) (w : World) (hn : 60 < n) (hl : largeSp xs = false) (hl2 : largeSp ys = false) (hx : Steps w.heap.size v xs w) (hy : Steps w.heap.size v2 ys w) :
    Calls Try.prog 4 #[v, v2, .slice ko n kc] w fun e w' => e = .returned (.bool true) ∧ Below w.heap.size w w' := by
  have HLg := Lib.hid (show Calls Try.prog 9 #[v] w fun e w' => e = .returned (.bool false) ∧ w = w' from by have := dkLarge_any w.heap.size _ xs w hx; rw [hl] at this; exact this)
  have HLh := Lib.hid (show Calls Try.prog 9 #[v2] w fun e w' => e = .returned (.bool false) ∧ w = w' from by have := dkLarge_any w.heap.size _ ys w hy; rw [hl2] at this; exact this)
  have d1 : decide ((n : Int) > 60) = true := decide_eq_true (by omega)
  clear hx hl hy hl2
  go_enter Try.func4, Try.ntmps4
  go_wp2_with (first
    | (go_at_call 9; (with_reducible refine HLg.out.mono ?_); rintro e w1 ⟨rfl, rfl⟩)
    | (go_at_call 9; (with_reducible refine HLh.out.mono ?_); rintro e w1 ⟨rfl, rfl⟩)
    | (go_at_call 10; go_must (with_reducible refine (dkknown_any _).mono ?_); rintro e w2 ⟨rfl, b2⟩))
  go_ret
  exact ⟨rfl, b2⟩
theorem keeps_any (v v2 v3 : Value) (xs ys : List Sp) (keep : List Int) (w : World) (hx : Steps w.heap.size v xs w) (hy : Steps w.heap.size v2 ys w) (hk : Ints (fun j => j < w.heap.size) v3 keep w) :
    Calls Try.prog 4 #[v, v2, v3] w fun e w' => e = .returned (.bool true) ∧ Below w.heap.size w w' := by
  cases hl : largeSp xs with
  | true => exact large1 v v2 v3 xs w hl hx
  | false =>
    cases hl2 : largeSp ys with
    | true => exact large2 v v2 v3 xs ys w hl hl2 hx hy
    | false =>
      have hx2 := hx
      have hy2 := hy
      have hk2 := hk
      obtain ⟨ao, ac, _, _, rfl, _⟩ := hx
      obtain ⟨bo, bc, _, _, rfl, _⟩ := hy
      obtain ⟨ko, kc, _, _, rfl, _⟩ := hk
      by_cases h3 : 60 < keep.length
      · exact long3 _ _ ko _ kc xs ys w h3 hl hl2 hx2 hy2
      · exact keeps_walk ao bo ko ac bc kc xs ys keep w hl hl2 (by omega) hx2 hy2 hk2

set_option maxRecDepth 100000 in
theorem lifted (os : Os) (started : os.Started) (H : Type) (enc : TypeId × Value → H) :
    ReturnsInHanded {} Try.checked os 4 .any (Rows.diskKeepsSpec.pre6 enc Try.prog Try.f4 Rows.diskKeepsRow.domain false) (Rows.diskKeepsSpec.post enc Try.prog Try.f4 false true false false) := by
  refine returnsInHanded_of_change (C := Try.checked) own started (by kernel_rfl) Try.func4
    (ChangeSpec.witness6 (enc := enc) (C := Try.checked) false ⟨#[], #[.slice none 0 0, .slice none 0 0, .slice none 0 0], []⟩ 8 (by kernel_rfl) (by kernel_rfl) (by kernel_rfl) (by kernel_rfl)) ?_
  intro W base args ds gs before hval0 hW hcnd _
  have hval : ∀ (j : Nat) t v, Try.f4.params[j]? = some t → args[j]? = some v → Value.okWide Try.prog W .any base t v := hval0
  have hW' := hW
  obtain ⟨p, q, hA0, hV, rfl, hfz, hnd⟩ := hW
  have hA : DataW.TrodAll enc Try.prog W 0 (fun _ => true) true Try.f4.params.toList args.toList ds p := hA0
  rw [Try.params4] at hA hval
  obtain ⟨v0, vs0, d0, ds0, p0, q0, hargs, rfl, rfl, h0, r0⟩ := trodAll_cons hA
  obtain ⟨v1, vs1, d1, ds1, p1, q1, rfl, rfl, rfl, h1, r1⟩ := trodAll_cons r0
  obtain ⟨v2, vs2, d2, ds2, p2, q2, rfl, rfl, rfl, h2, r2⟩ := trodAll_cons r1
  obtain ⟨rfl, rfl, rfl⟩ := trodAll_nil r2
  obtain rfl : args = #[v0, v1, v2] := by cases args; simp_all
  have post : ∀ W', Below W.heap.size W W' → Rows.diskKeepsSpec.post enc Try.prog Try.f4 false true false false W #[v0, v1, v2] (.bool true) W' := fun W' hg =>
    law_post laidOut (by rw [Try.params4]; decide +kernel) rfl Try.underlying4 rfl hW' rfl hg
  have done : ∀ (e : Ending) W', (e = .returned (.bool true) ∧ Below W.heap.size W W') → ∃ v, e = .returned v ∧ Rows.diskKeepsSpec.post enc Try.prog Try.f4 false true false false W #[v0, v1, v2] v W' := fun e W' ⟨he, hg⟩ => ⟨_, he, post W' hg⟩
  clear post
  obtain ⟨fuel0, hf0⟩ := h0
  obtain ⟨xs, hx⟩ := open_steps (okWide_slice Try.underlying22 (hval 0 22 v0 rfl rfl)) hf0
  obtain ⟨fuel1, hf1⟩ := h1
  obtain ⟨ys, hy⟩ := open_steps (okWide_slice Try.underlying22 (hval 1 22 v1 rfl rfl)) hf1
  obtain ⟨fuel2, hf2⟩ := h2
  obtain ⟨ks, hk, _⟩ := open_ints (okWide_slice Try.underlying34 (hval 2 34 v2 rfl rfl)) hf2
  exact (keeps_any v0 v1 v2 xs ys ks W hx hy hk).mono done


theorem over : Rows.diskKeepsRow.holds Try.pinned (OpenSpec.ofChange Rows.diskKeepsSpec) :=
  OpenClaim.holds_of_wide 4 Try.f4 rfl rfl rfl rfl rfl rfl rfl ⟨rfl, rfl, rfl, rfl, rfl⟩ rfl rfl rfl rfl rfl (by kernel_rfl) Try.func4 (by kernel_rfl)
    (of_decide_eq_true (by kernel_rfl)) (by unfold Func.isWrapper; first | (rw [if_pos (by decide +kernel)]; kernel_rfl) | (rw [if_neg (by decide +kernel)]; exact ⟨rfl, rfl⟩))
    (fun os started H enc _ => lifted os started H enc)

theorem proved : Rows.DiskKeepsSaid := over

end Go.Proofs.Ytfipojmgmmjnmaa.diskKeeps
