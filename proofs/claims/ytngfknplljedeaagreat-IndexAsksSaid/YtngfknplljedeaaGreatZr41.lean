/- Lemmas for the laws of index. -/
import Derived.Test.YtngfknplljedeaaGreatZr38
import Derived.Test.YtngfknplljedeaaGreatZr39
import Derived.Test.YtngfknplljedeaaGreatZrTk
import Derived.Test.YtngfknplljedeaaGreatZrHi
namespace Go.Proofs.YtngfknplljedeaaGreat
open Go.RowKit
def Ch.bare (k : Int) : Ch := ⟨k, 0, 0, ⟨#[]⟩, ⟨#[]⟩, ⟨#[]⟩, Pa.zero, 0, 0⟩
theorem infoChb : (Tryz.prog.info? 40).map (fun i => (i.zero, i.size, i.bytes)) = some (some (.agg (Ch.bare 0).vs.toArray), 18, 168) := by kernel_rfl
theorem run_lit_ch (W : World) (x : Ch) : (Instr.buildSlice 33 1 #[(0, .agg x.vs.toArray)]).run Tryz.prog W = .ok (.slice (some ⟨W.heap.size, 0, none⟩) 1 1) (W.alloc (.cells x.vs.toArray 40)) := by
 obtain ⟨i0, hi, hz0, hz1, hz2⟩ := info_parts infoChb
 refine run_buildSlice W 33 40 1 _ x.vs.toArray i0 _ Tryz.underlying33 hi hz0 (by rw [hz1]; decide) (by rw [hz1]; decide) ?_
 rw [hz1]
 have h := Great.fill_whole (s := 18) (by decide) [Value.agg x.vs.toArray] ((Array.range (1 * 18)).map ((Value.agg (Ch.bare 0).vs.toArray).cells[· % (Value.agg (Ch.bare 0).vs.toArray).cells.size]!)) (by intro v hv; simp at hv; subst hv; rfl) (by simp)
 simp only [List.flatMap_cons, List.flatMap_nil, List.append_nil] at h
 exact h
theorem ok_1 (x : Ch) (hk : x.kind = 1) (hn : x.num) : x.ok = (true && (((true && (decide (1 ≤ x.epoch) && decide (x.epoch ≤ 4294967295))) && (decide (1 ≤ x.serial))) && (decide (1 ≤ (x.up.size : Int)) && decide ((x.up.size : Int) ≤ 64))) && decide (({ x with epoch := 0, serial := 0, up := ⟨#[]⟩ } : Ch) = Ch.bare 1)) := by
 obtain ⟨k, e, s, u, n, c, a, no, sl⟩ := x
 simp only at hk
 subst hk
 have hs := hn.2.2.1.2
 dsimp only at hs
 have hs2 : (s ≤ 9223372036854775807) := by omega
 have l : lets 1 = ⟨#[101, 115, 117]⟩ := by decide
 rw [Bool.eq_iff_iff]
 simp only [Ch.ok, Ch.okA, Ch.has, l, Ch.bare, numB, textB, Bool.and_eq_true, decide_eq_true_eq, Bool.not_eq_true', Ch.mk.injEq, true_and]
 simp [hs2]
 all_goals (constructor <;> (intro h; simp_all))
theorem ok_2 (x : Ch) (hk : x.kind = 2) (hn : x.num) : x.ok = (true && ((true && (decide (1 ≤ x.epoch) && decide (x.epoch ≤ 4294967295))) && (decide (1 ≤ x.serial))) && decide (({ x with epoch := 0, serial := 0 } : Ch) = Ch.bare 2)) := by
 obtain ⟨k, e, s, u, n, c, a, no, sl⟩ := x
 simp only at hk
 subst hk
 have hs := hn.2.2.1.2
 dsimp only at hs
 have hs2 : (s ≤ 9223372036854775807) := by omega
 have l : lets 2 = ⟨#[101, 115]⟩ := by decide
 rw [Bool.eq_iff_iff]
 simp only [Ch.ok, Ch.okA, Ch.has, l, Ch.bare, numB, textB, Bool.and_eq_true, decide_eq_true_eq, Bool.not_eq_true', Ch.mk.injEq, true_and]
 simp [hs2]
 all_goals (constructor <;> (intro h; simp_all))
theorem ok_3 (x : Ch) (hk : x.kind = 3) (hn : x.num) : x.ok = (true && ((true && (decide (1 ≤ (x.up.size : Int)) && decide ((x.up.size : Int) ≤ 64))) && okPa x.attr) && decide (({ x with up := ⟨#[]⟩, attr := Pa.zero } : Ch) = Ch.bare 3)) := by
 obtain ⟨k, e, s, u, n, c, a, no, sl⟩ := x
 simp only at hk
 subst hk
 have hs := hn.2.2.1.2
 dsimp only at hs
 have hs2 : (s ≤ 9223372036854775807) := by omega
 have l : lets 3 = ⟨#[117, 97]⟩ := by decide
 rw [Bool.eq_iff_iff]
 simp only [Ch.ok, Ch.okA, Ch.has, l, Ch.bare, numB, textB, Bool.and_eq_true, decide_eq_true_eq, Bool.not_eq_true', Ch.mk.injEq, true_and]
 simp
 all_goals (constructor <;> (intro h; simp_all))
theorem ok_4 (x : Ch) (hk : x.kind = 4) (hn : x.num) : x.ok = (true && (true && (decide (1 ≤ (x.up.size : Int)) && decide ((x.up.size : Int) ≤ 64))) && decide (({ x with up := ⟨#[]⟩ } : Ch) = Ch.bare 4)) := by
 obtain ⟨k, e, s, u, n, c, a, no, sl⟩ := x
 simp only at hk
 subst hk
 have hs := hn.2.2.1.2
 dsimp only at hs
 have hs2 : (s ≤ 9223372036854775807) := by omega
 have l : lets 4 = ⟨#[117]⟩ := by decide
 rw [Bool.eq_iff_iff]
 simp only [Ch.ok, Ch.okA, Ch.has, l, Ch.bare, numB, textB, Bool.and_eq_true, decide_eq_true_eq, Bool.not_eq_true', Ch.mk.injEq, true_and]
 simp
 all_goals (constructor <;> (intro h; simp_all))
theorem ok_5 (x : Ch) (hk : x.kind = 5) (hn : x.num) : x.ok = (true && (true && (decide (1 ≤ (x.up.size : Int)) && decide ((x.up.size : Int) ≤ 64))) && decide (({ x with up := ⟨#[]⟩ } : Ch) = Ch.bare 5)) := by
 obtain ⟨k, e, s, u, n, c, a, no, sl⟩ := x
 simp only at hk
 subst hk
 have hs := hn.2.2.1.2
 dsimp only at hs
 have hs2 : (s ≤ 9223372036854775807) := by omega
 have l : lets 5 = ⟨#[117]⟩ := by decide
 rw [Bool.eq_iff_iff]
 simp only [Ch.ok, Ch.okA, Ch.has, l, Ch.bare, numB, textB, Bool.and_eq_true, decide_eq_true_eq, Bool.not_eq_true', Ch.mk.injEq, true_and]
 simp
 all_goals (constructor <;> (intro h; simp_all))
theorem ok_6 (x : Ch) (hk : x.kind = 6) (hn : x.num) : x.ok = (true && (((true && (decide (1 ≤ (x.up.size : Int)) && decide ((x.up.size : Int) ≤ 64))) && (decide (1 ≤ (x.name.size : Int)) && decide ((x.name.size : Int) ≤ 255))) && (decide (0 ≤ (x.child.size : Int)) && decide ((x.child.size : Int) ≤ 64))) && decide (({ x with up := ⟨#[]⟩, name := ⟨#[]⟩, child := ⟨#[]⟩ } : Ch) = Ch.bare 6)) := by
 obtain ⟨k, e, s, u, n, c, a, no, sl⟩ := x
 simp only at hk
 subst hk
 have hs := hn.2.2.1.2
 dsimp only at hs
 have hs2 : (s ≤ 9223372036854775807) := by omega
 have l : lets 6 = ⟨#[117, 110, 99]⟩ := by decide
 rw [Bool.eq_iff_iff]
 simp only [Ch.ok, Ch.okA, Ch.has, l, Ch.bare, numB, textB, Bool.and_eq_true, decide_eq_true_eq, Bool.not_eq_true', Ch.mk.injEq, true_and]
 simp
 all_goals (constructor <;> (intro h; simp_all))
theorem ok_7 (x : Ch) (hk : x.kind = 7) (hn : x.num) : x.ok = (true && ((true && (decide (1 ≤ (x.up.size : Int)) && decide ((x.up.size : Int) ≤ 64))) && (decide (1 ≤ (x.name.size : Int)) && decide ((x.name.size : Int) ≤ 255))) && decide (({ x with up := ⟨#[]⟩, name := ⟨#[]⟩ } : Ch) = Ch.bare 7)) := by
 obtain ⟨k, e, s, u, n, c, a, no, sl⟩ := x
 simp only at hk
 subst hk
 have hs := hn.2.2.1.2
 dsimp only at hs
 have hs2 : (s ≤ 9223372036854775807) := by omega
 have l : lets 7 = ⟨#[117, 110]⟩ := by decide
 rw [Bool.eq_iff_iff]
 simp only [Ch.ok, Ch.okA, Ch.has, l, Ch.bare, numB, textB, Bool.and_eq_true, decide_eq_true_eq, Bool.not_eq_true', Ch.mk.injEq, true_and]
 simp
 all_goals (constructor <;> (intro h; simp_all))
theorem ok_8 (x : Ch) (hk : x.kind = 8) (hn : x.num) : x.ok = (true && (((true && (decide (1 ≤ (x.up.size : Int)) && decide ((x.up.size : Int) ≤ 64))) && (decide (0 ≤ x.no) && decide (x.no ≤ 65535))) && (decide (0 ≤ x.slot) && decide (x.slot ≤ 65535))) && decide (({ x with up := ⟨#[]⟩, no := 0, slot := 0 } : Ch) = Ch.bare 8)) := by
 obtain ⟨k, e, s, u, n, c, a, no, sl⟩ := x
 simp only at hk
 subst hk
 have hs := hn.2.2.1.2
 dsimp only at hs
 have hs2 : (s ≤ 9223372036854775807) := by omega
 have l : lets 8 = ⟨#[117, 98, 116]⟩ := by decide
 rw [Bool.eq_iff_iff]
 simp only [Ch.ok, Ch.okA, Ch.has, l, Ch.bare, numB, textB, Bool.and_eq_true, decide_eq_true_eq, Bool.not_eq_true', Ch.mk.injEq, true_and]
 simp
 all_goals (constructor <;> (intro h; simp_all))
theorem ok_9 (x : Ch) (hk : x.kind = 9) (hn : x.num) : x.ok = (true && ((true && (decide (1 ≤ (x.up.size : Int)) && decide ((x.up.size : Int) ≤ 64))) && (decide (0 ≤ x.no) && decide (x.no ≤ 65535))) && decide (({ x with up := ⟨#[]⟩, no := 0 } : Ch) = Ch.bare 9)) := by
 obtain ⟨k, e, s, u, n, c, a, no, sl⟩ := x
 simp only at hk
 subst hk
 have hs := hn.2.2.1.2
 dsimp only at hs
 have hs2 : (s ≤ 9223372036854775807) := by omega
 have l : lets 9 = ⟨#[117, 98]⟩ := by decide
 rw [Bool.eq_iff_iff]
 simp only [Ch.ok, Ch.okA, Ch.has, l, Ch.bare, numB, textB, Bool.and_eq_true, decide_eq_true_eq, Bool.not_eq_true', Ch.mk.injEq, true_and]
 simp
 all_goals (constructor <;> (intro h; simp_all))
theorem ok_0 (x : Ch) (hk : x.kind ≠ 1 ∧ x.kind ≠ 2 ∧ x.kind ≠ 3 ∧ x.kind ≠ 4 ∧ x.kind ≠ 5 ∧ x.kind ≠ 6 ∧ x.kind ≠ 7 ∧ x.kind ≠ 8 ∧ x.kind ≠ 9) : x.ok = false := by
 have l : lets x.kind = ⟨#[]⟩ := by
  unfold lets
  simp [hk]
 unfold Ch.ok
 rw [l]
 rfl
theorem visit_any (k g : Nat) (x : Ch) (w : World) (hn : x.num) (hkg : k ≠ g) (h1 : St 40 k x.vs.toArray w) (h2 : St 4 g #[.bool true] w) :
 ∃ (known good : Bool) (y : Ch), x.ok = (known && good && decide (y = Ch.bare x.kind)) ∧ Calls Tryz.prog 77 #[.slice (some ⟨k, 0, none⟩) 1 1, .agg #[.func (.func 78) #[] #[], .func (.func 79) #[] #[.pointer (some ⟨g, 0, none⟩)], .func (.func 80) #[] #[.pointer (some ⟨g, 0, none⟩)], .func (.func 81) #[] #[.pointer (some ⟨g, 0, none⟩)], .func (.func 82) #[] #[.pointer (some ⟨g, 0, none⟩)]]] w
  fun e w' => e = .returned (.bool known) ∧ St 40 k y.vs.toArray w' ∧ St 4 g #[.bool good] w' ∧ Frm (fun j => j = k ∨ j = g) w w' := by
 have ha : x.attr.num := hn.2.2.2.2.2.2.1
 by_cases k1 : x.kind = 1
 · exact ⟨_, _, _, (ok_1 x k1 hn).trans (by rw [k1]), visit_1 k g x w k1 ha hkg h1 h2⟩
 by_cases k2 : x.kind = 2
 · exact ⟨_, _, _, (ok_2 x k2 hn).trans (by rw [k2]), visit_2 k g x w k2 ha hkg h1 h2⟩
 by_cases k3 : x.kind = 3
 · exact ⟨_, _, _, (ok_3 x k3 hn).trans (by rw [k3]), visit_3 k g x w k3 ha hkg h1 h2⟩
 by_cases k4 : x.kind = 4
 · exact ⟨_, _, _, (ok_4 x k4 hn).trans (by rw [k4]), visit_4 k g x w k4 ha hkg h1 h2⟩
 by_cases k5 : x.kind = 5
 · exact ⟨_, _, _, (ok_5 x k5 hn).trans (by rw [k5]), visit_5 k g x w k5 ha hkg h1 h2⟩
 by_cases k6 : x.kind = 6
 · exact ⟨_, _, _, (ok_6 x k6 hn).trans (by rw [k6]), visit_6 k g x w k6 ha hkg h1 h2⟩
 by_cases k7 : x.kind = 7
 · exact ⟨_, _, _, (ok_7 x k7 hn).trans (by rw [k7]), visit_7 k g x w k7 ha hkg h1 h2⟩
 by_cases k8 : x.kind = 8
 · exact ⟨_, _, _, (ok_8 x k8 hn).trans (by rw [k8]), visit_8 k g x w k8 ha hkg h1 h2⟩
 by_cases k9 : x.kind = 9
 · exact ⟨_, _, _, (ok_9 x k9 hn).trans (by rw [k9]), visit_9 k g x w k9 ha hkg h1 h2⟩
 exact ⟨_, _, _, by rw [ok_0 x ⟨k1, k2, k3, k4, k5, k6, k7, k8, k9⟩]; rfl, visit_0 k g x w ⟨k1, k2, k3, k4, k5, k6, k7, k8, k9⟩ ha hkg h1 h2⟩
set_option maxRecDepth 100000 in
set_option maxHeartbeats 2000000 in
theorem recCheck_any (x : Ch) (w : World) (hn : x.num) : Calls Tryz.prog 39 #[.agg x.vs.toArray] w fun e w' => e = .returned (.int .i64 (if x.ok then 0 else 14)) ∧ Below w.heap.size w w' := by
 obtain ⟨W, hW⟩ : ∃ W, W = ((w.alloc (.cells x.vs.toArray 40 (0, 0))).alloc (.cells x.vs.toArray 40 (0, 0))).alloc (.cells #[.bool true] 4 (0, 0)) := ⟨_, rfl⟩
 have hsz : W.heap.size = w.heap.size + 1 + 1 + 1 := by rw [hW]; simp
 have s0 : St 40 w.heap.size x.vs.toArray W := by rw [hW]; exact ((St.new w _ _).alloc _).alloc _
 have s1 : St 40 (w.heap.size + 1) x.vs.toArray W := by rw [hW]; exact (St.new1 w _ _ _).alloc _
 have s2 : St 4 (w.heap.size + 1 + 1) #[.bool true] W := by rw [hW]; have := St.new ((w.alloc (.cells x.vs.toArray 40 (0, 0))).alloc (.cells x.vs.toArray 40 (0, 0))) 4 #[.bool true]; simpa using this
 have bW : Below w.heap.size w W := by rw [hW]; exact (((Below.refl _ w).alloc (Nat.le_refl _) _).alloc (by simp) _).alloc (by simp; omega) _
 obtain ⟨known, good, y, hok, hv⟩ := visit_any (w.heap.size + 1) (w.heap.size + 1 + 1) x W hn (by omega) s1 s2
 have HL := hI (show Calls Tryz.prog 77 #[.slice (some ⟨w.heap.size + 1, 0, none⟩) 1 1, .agg #[.func (.func 78) #[] #[], .func (.func 79) #[] #[.pointer (some ⟨w.heap.size + 1 + 1, 0, none⟩)], .func (.func 80) #[] #[.pointer (some ⟨w.heap.size + 1 + 1, 0, none⟩)], .func (.func 81) #[] #[.pointer (some ⟨w.heap.size + 1 + 1, 0, none⟩)], .func (.func 82) #[] #[.pointer (some ⟨w.heap.size + 1 + 1, 0, none⟩)]]] W fun e w' => e = .returned (.bool known) ∧ St 40 w.heap.size x.vs.toArray w' ∧ St 40 (w.heap.size + 1) y.vs.toArray w' ∧ St 4 (w.heap.size + 1 + 1) #[.bool good] w' ∧ Below w.heap.size w w' from
  hv.mono fun e w' ⟨he, q1, q2, q3⟩ => ⟨he, q3.st s0 (by omega), q1, q2, bW.trans (q3.below (by omega) (fun j e => by omega))⟩)
 obtain ⟨f, hf⟩ : ∃ f, f = decide (y = Ch.bare x.kind) := ⟨_, rfl⟩
 rw [← hf] at hok
 have hne : ∀ W, (binOp .neq 40 (.agg y.vs.toArray) (.agg #[.int .i64 x.kind, .int .i64 0, .int .i64 0, .string ⟨#[]⟩, .string ⟨#[]⟩, .string ⟨#[]⟩, .int .i64 0, .int .i64 0, .int .i64 0, .int .i64 0, .int .i64 0, .int .i64 0, .int .i64 0, .int .i64 0, .int .i64 0, .int .i64 0, .int .i64 0, .int .i64 0])).run Tryz.prog W = .ok (.bool (!f)) W := fun W => by
  rw [hf]
  exact run_ne_ch y (Ch.bare x.kind) W
 obtain ⟨r, hr⟩ : ∃ r : Int, r = if x.ok then 0 else 14 := ⟨_, rfl⟩
 rw [← hr]
 have HR := hI (show r = if (known && good && f) then 0 else 14 from by rw [hr, hok])
 have HW := hI hW
 obtain ⟨X, hX⟩ : ∃ X, X = x.vs.toArray := ⟨_, rfl⟩
 obtain ⟨Y, hY⟩ : ∃ Y, Y = y.vs.toArray := ⟨_, rfl⟩
 have hYs : Y.size = 18 := by rw [hY]; rfl
 have hXs : X.size = 18 := by rw [hX]; rfl
 have HYS := hI hYs
 have HXS := hI hXs
 have HLIT := hI (fun W => run_lit_ch W x)
 rw [← hY] at hne HL
 rw [← hX] at HL HW HLIT ⊢
 have HKC := hI (show ∀ W, St 40 w.heap.size X W → W.cell? ⟨w.heap.size, 0, none⟩ = some (.int .i64 x.kind) from fun W h => h.cell (by rw [hX]; rfl))
 have HNW := hI (St.new w 40 X)
 clear hW s0 s1 s2 bW hsz hv hok hf hr hY hX hn hYs hXs
 go_enter Tryz.func39, Tryz.ntmps39
 go_wp2_with (first
  | ((with_reducible show wpList _ _ _ ({ dst := _, op := .load 40 (.tmp 1), type := _, pos := _, after := _, guard := _ } :: _) _ _); refine wpList_load_st rfl 40 _ rfl w.heap.size rfl 40 X HNW.out _ Tryz.underlying40 rfl (by rw [HXS.out]; kernel_rfl) ?_)
  | ((with_reducible show wpList _ _ _ ({ dst := _, op := .buildSlice _ _ _, type := _, pos := _, after := _, guard := _ } :: _) _ _); refine wpList_buildSlice_as rfl 33 40 1 _ rfl #[(0, .agg X)] X (by rfl) HLIT.out ?_)
  | (rw [← HW.out]; (with_reducible refine HL.out.mono ?_); rintro e w3 ⟨rfl, q1, q2, q3, q4⟩; have Q1 := hI q1; have Q2 := hI q2; have Q3 := hI q3; have Q4 := hI q4; clear q1 q2 q3 q4))
 have HS := hI (show ∀ W, Below w3.heap.size w3 W → (W.cell? ⟨w.heap.size, 0, none⟩ = some (.int .i64 x.kind) ∧ W.cell? ⟨w.heap.size + 1 + 1, 0, none⟩ = some (.bool good)) ∧ St 40 (w.heap.size + 1) Y W from fun W hW => ⟨⟨HKC.out W (Q1.out.below hW), (Q3.out.below hW).cell rfl⟩, Q2.out.below hW⟩)
 have HBD := hI (show Below w3.heap.size w3 w3.drew from (Below.refl _ _).drew)
 have C0 := hI (HS.out _ HBD.out)
 have HQ4 := hI Q4.out.drew
 cases known with
 | false =>
  refine wp_region_held (S := (fun W => (W.cell? ⟨w.heap.size, 0, none⟩ = some (.int .i64 x.kind) ∧ W.cell? ⟨w.heap.size + 1 + 1, 0, none⟩ = some (.bool good)) ∧ St 40 (w.heap.size + 1) Y W)) (by kernel_rfl) ?_
  change wpAnyH _ _ _ _ _ _ _ _ (World.drew _)
  generalize World.drew w3 = WD at HBD C0 HQ4 ⊢
  refine tkp 0 (.bool false) rfl (by kernel_rfl) q3 (fun w' hS => ?_) C0.out ?_
  · clear hS; go_simp
  try go_simp
  refine tkp 1 (.bool true) rfl (by kernel_rfl) q3 (fun w' hS => ?_) C0.out ?_
  · clear hS; go_simp
  try go_simp
  refine tkp 2 (.bool true) rfl (by kernel_rfl) q3 (fun w' hS => ?_) C0.out ?_
  · clear hS; go_simp
  try go_simp
  refine tku 3 rfl (by kernel_rfl) q3 C0.out ?_
  try go_simp
  refine tku 4 rfl (by kernel_rfl) q3 C0.out ?_
  refine tkp 5 (.bool true) rfl (by kernel_rfl) q3 (fun w' hS => ?_) C0.out ?_
  · clear hS; go_simp
  try go_simp
  refine tkp 6 (.bool true) rfl (by kernel_rfl) q3 (fun w' hS => ?_) C0.out ?_
  · clear hS; go_simp
  try go_simp
  refine tku 7 rfl (by kernel_rfl) q3 C0.out ?_
  try go_simp
  refine tku 8 rfl (by kernel_rfl) q3 C0.out ?_
  refine tku 9 rfl (by kernel_rfl) q3 C0.out ?_
  try go_simp
  refine tku 10 rfl (by kernel_rfl) q3 C0.out ?_
  refine tku 11 rfl (by kernel_rfl) q3 C0.out ?_
  try go_simp
  refine tku 12 rfl (by kernel_rfl) q3 C0.out ?_
  refine tku 13 rfl (by kernel_rfl) q3 C0.out ?_
  try go_simp
  refine tkp 14 (.bool true) rfl (by kernel_rfl) q3 (fun w' hS => ?_) C0.out ?_
  · clear hS; go_simp
  try go_simp
  refine wpAnyH_done (by kernel_rfl) ?_ _
  go_wp2
  go_returns
  exact ⟨by rw [HR.out]; rfl, HQ4.out⟩
 | true =>
  cases good with
  | false =>
   refine wp_region_held (S := (fun W => (W.cell? ⟨w.heap.size, 0, none⟩ = some (.int .i64 x.kind) ∧ W.cell? ⟨w.heap.size + 1 + 1, 0, none⟩ = some (.bool false)) ∧ St 40 (w.heap.size + 1) Y W)) (by kernel_rfl) ?_
   change wpAnyH _ _ _ _ _ _ _ _ (World.drew _)
   generalize World.drew w3 = WD at HBD C0 HQ4 ⊢
   refine tkp 0 (.bool true) rfl (by kernel_rfl) q3 (fun w' hS => ?_) C0.out ?_
   · clear hS; go_simp
   try go_simp
   refine tkp 1 (.bool false) rfl (by kernel_rfl) q3 (fun w' hS => ?_) C0.out ?_
   · clear hS; go_simp
   try go_simp
   refine tkp 2 (.bool false) rfl (by kernel_rfl) q3 (fun w' hS => ?_) C0.out ?_
   · clear hS; go_simp
   try go_simp
   refine tkp 3 (.bool false) rfl (by kernel_rfl) q3 (fun w' hS => ?_) C0.out ?_
   · obtain ⟨⟨s0, s1⟩, _⟩ := hS; go_simp
   try go_simp
   refine tkp 4 (.bool true) rfl (by kernel_rfl) q3 (fun w' hS => ?_) C0.out ?_
   · clear hS; go_simp
   try go_simp
   refine tkp 5 (.bool true) rfl (by kernel_rfl) q3 (fun w' hS => ?_) C0.out ?_
   · clear hS; go_simp
   try go_simp
   refine tkp 6 (.bool true) rfl (by kernel_rfl) q3 (fun w' hS => ?_) C0.out ?_
   · clear hS; go_simp
   try go_simp
   refine tku 7 rfl (by kernel_rfl) q3 C0.out ?_
   try go_simp
   refine tku 8 rfl (by kernel_rfl) q3 C0.out ?_
   refine tku 9 rfl (by kernel_rfl) q3 C0.out ?_
   try go_simp
   refine tku 10 rfl (by kernel_rfl) q3 C0.out ?_
   refine tku 11 rfl (by kernel_rfl) q3 C0.out ?_
   try go_simp
   refine tku 12 rfl (by kernel_rfl) q3 C0.out ?_
   refine tku 13 rfl (by kernel_rfl) q3 C0.out ?_
   try go_simp
   refine tkp 14 (.bool true) rfl (by kernel_rfl) q3 (fun w' hS => ?_) C0.out ?_
   · clear hS; go_simp
   try go_simp
   refine wpAnyH_done (by kernel_rfl) ?_ _
   go_wp2
   go_returns
   exact ⟨by rw [HR.out]; rfl, HQ4.out⟩
  | true =>
   cases f with
   | false =>
    refine wp_region_held (S := (fun W => (W.cell? ⟨w.heap.size, 0, none⟩ = some (.int .i64 x.kind) ∧ W.cell? ⟨w.heap.size + 1 + 1, 0, none⟩ = some (.bool true)) ∧ St 40 (w.heap.size + 1) Y W)) (by kernel_rfl) ?_
    change wpAnyH _ _ _ _ _ _ _ _ (World.drew _)
    generalize World.drew w3 = WD at HBD C0 HQ4 ⊢
    refine tkp 0 (.bool true) rfl (by kernel_rfl) q3 (fun w' hS => ?_) C0.out ?_
    · clear hS; go_simp
    try go_simp
    refine tkp 1 (.bool false) rfl (by kernel_rfl) q3 (fun w' hS => ?_) C0.out ?_
    · clear hS; go_simp
    try go_simp
    refine tkp 2 (.bool false) rfl (by kernel_rfl) q3 (fun w' hS => ?_) C0.out ?_
    · clear hS; go_simp
    try go_simp
    refine tkp 3 (.bool true) rfl (by kernel_rfl) q3 (fun w' hS => ?_) C0.out ?_
    · obtain ⟨⟨s0, s1⟩, _⟩ := hS; go_simp
    try go_simp
    refine tkp 4 (.bool false) rfl (by kernel_rfl) q3 (fun w' hS => ?_) C0.out ?_
    · clear hS; go_simp
    try go_simp
    refine tkp 5 (.bool false) rfl (by kernel_rfl) q3 (fun w' hS => ?_) C0.out ?_
    · clear hS; go_simp
    try go_simp
    refine tkp 6 (.bool false) rfl (by kernel_rfl) q3 (fun w' hS => ?_) C0.out ?_
    · clear hS; go_simp
    try go_simp
    refine tkp 7 (.slice (some ⟨w.heap.size + 1, 0, none⟩) 1 1) rfl (by kernel_rfl) q3 (fun w' hS => ?_) C0.out ?_
    · clear hS; go_simp
    try go_simp
    refine tkp 8 (.pointer (some ⟨w.heap.size + 1, 0, none⟩)) rfl (by kernel_rfl) q3 (fun w' hS => ?_) C0.out ?_
    · clear hS; go_simp
    try go_simp
    refine tkl 9 (.agg Y) rfl (by kernel_rfl) q3 (yld_boxi (by kernel_rfl) 40 (.tmp 23) rfl (w.heap.size + 1) (by first | rfl | simp [Act.eval, Act.put]) 40 Y (fun w' hS => hS.2) _ Tryz.underlying40 rfl (by rw [HYS.out]; kernel_rfl)) C0.out ?_
    try go_simp
    refine tkp 10 (.pointer (some ⟨w.heap.size, 0, none⟩)) rfl (by kernel_rfl) q3 (fun w' hS => ?_) C0.out ?_
    · clear hS; go_simp
    try go_simp
    refine tkp 11 (.int .i64 x.kind) rfl (by kernel_rfl) q3 (fun w' hS => ?_) C0.out ?_
    · obtain ⟨⟨s0, s1⟩, _⟩ := hS; go_simp
    try go_simp
    refine tkp 12 (.agg #[.int .i64 x.kind, .int .i64 0, .int .i64 0, .string ⟨#[]⟩, .string ⟨#[]⟩, .string ⟨#[]⟩, .int .i64 0, .int .i64 0, .int .i64 0, .int .i64 0, .int .i64 0, .int .i64 0, .int .i64 0, .int .i64 0, .int .i64 0, .int .i64 0, .int .i64 0, .int .i64 0]) rfl (by kernel_rfl) q3 (fun w' hS => ?_) C0.out ?_
    · clear hS; go_simp
    try go_simp
    refine tkp 13 (.bool true) rfl (by kernel_rfl) q3 (fun w' hS => ?_) C0.out ?_
    · clear hS; go_simp
    try go_simp
    refine tkp 14 (.bool true) rfl (by kernel_rfl) q3 (fun w' hS => ?_) C0.out ?_
    · clear hS; go_simp
    try go_simp
    refine wpAnyH_done (by kernel_rfl) ?_ _
    go_wp2
    go_returns
    exact ⟨by rw [HR.out]; rfl, HQ4.out⟩
   | true =>
    refine wp_region_held (S := (fun W => (W.cell? ⟨w.heap.size, 0, none⟩ = some (.int .i64 x.kind) ∧ W.cell? ⟨w.heap.size + 1 + 1, 0, none⟩ = some (.bool true)) ∧ St 40 (w.heap.size + 1) Y W)) (by kernel_rfl) ?_
    change wpAnyH _ _ _ _ _ _ _ _ (World.drew _)
    generalize World.drew w3 = WD at HBD C0 HQ4 ⊢
    refine tkp 0 (.bool true) rfl (by kernel_rfl) q3 (fun w' hS => ?_) C0.out ?_
    · clear hS; go_simp
    try go_simp
    refine tkp 1 (.bool false) rfl (by kernel_rfl) q3 (fun w' hS => ?_) C0.out ?_
    · clear hS; go_simp
    try go_simp
    refine tkp 2 (.bool false) rfl (by kernel_rfl) q3 (fun w' hS => ?_) C0.out ?_
    · clear hS; go_simp
    try go_simp
    refine tkp 3 (.bool true) rfl (by kernel_rfl) q3 (fun w' hS => ?_) C0.out ?_
    · obtain ⟨⟨s0, s1⟩, _⟩ := hS; go_simp
    try go_simp
    refine tkp 4 (.bool false) rfl (by kernel_rfl) q3 (fun w' hS => ?_) C0.out ?_
    · clear hS; go_simp
    try go_simp
    refine tkp 5 (.bool false) rfl (by kernel_rfl) q3 (fun w' hS => ?_) C0.out ?_
    · clear hS; go_simp
    try go_simp
    refine tkp 6 (.bool false) rfl (by kernel_rfl) q3 (fun w' hS => ?_) C0.out ?_
    · clear hS; go_simp
    try go_simp
    refine tkp 7 (.slice (some ⟨w.heap.size + 1, 0, none⟩) 1 1) rfl (by kernel_rfl) q3 (fun w' hS => ?_) C0.out ?_
    · clear hS; go_simp
    try go_simp
    refine tkp 8 (.pointer (some ⟨w.heap.size + 1, 0, none⟩)) rfl (by kernel_rfl) q3 (fun w' hS => ?_) C0.out ?_
    · clear hS; go_simp
    try go_simp
    refine tkl 9 (.agg Y) rfl (by kernel_rfl) q3 (yld_boxi (by kernel_rfl) 40 (.tmp 23) rfl (w.heap.size + 1) (by first | rfl | simp [Act.eval, Act.put]) 40 Y (fun w' hS => hS.2) _ Tryz.underlying40 rfl (by rw [HYS.out]; kernel_rfl)) C0.out ?_
    try go_simp
    refine tkp 10 (.pointer (some ⟨w.heap.size, 0, none⟩)) rfl (by kernel_rfl) q3 (fun w' hS => ?_) C0.out ?_
    · clear hS; go_simp
    try go_simp
    refine tkp 11 (.int .i64 x.kind) rfl (by kernel_rfl) q3 (fun w' hS => ?_) C0.out ?_
    · obtain ⟨⟨s0, s1⟩, _⟩ := hS; go_simp
    try go_simp
    refine tkp 12 (.agg #[.int .i64 x.kind, .int .i64 0, .int .i64 0, .string ⟨#[]⟩, .string ⟨#[]⟩, .string ⟨#[]⟩, .int .i64 0, .int .i64 0, .int .i64 0, .int .i64 0, .int .i64 0, .int .i64 0, .int .i64 0, .int .i64 0, .int .i64 0, .int .i64 0, .int .i64 0, .int .i64 0]) rfl (by kernel_rfl) q3 (fun w' hS => ?_) C0.out ?_
    · clear hS; go_simp
    try go_simp
    refine tkp 13 (.bool false) rfl (by kernel_rfl) q3 (fun w' hS => ?_) C0.out ?_
    · clear hS; go_simp
    try go_simp
    refine tkp 14 (.bool false) rfl (by kernel_rfl) q3 (fun w' hS => ?_) C0.out ?_
    · clear hS; go_simp
    try go_simp
    refine wpAnyH_done (by kernel_rfl) ?_ _
    go_wp2
    go_returns
    exact ⟨by rw [HR.out]; rfl, HQ4.out⟩
end Go.Proofs.YtngfknplljedeaaGreat
