/- Steps on places as arguments; the law's step on the program's places. -/
import Derived.Test.YtokchikihacalaaGp
import Derived.Test.YtokchikihacalaaOs
import Derived.Test.YtokchikihacalaaCw
namespace Go.Proofs.Ytokchikihacalaa
open Go.Joins Go.ChangeShapes Go.WideShapes Go.RowKit Go.Deep

def gcells (x : GS) : Array Value := #[.int .i64 x.kind, .int .i64 x.i]
/-- A slice of steps, all of it below B. -/
def GSteps (B : Nat) (v : Value) (xs : List GS) (w : World) : Prop :=
  ∃ (ao : Option Addr) (cap b off : Nat), v = .slice ao xs.length cap ∧ xs.length ≤ 9223372036854775807 ∧ (0 < xs.length → ao = some ⟨b, off, none⟩ ∧ b < B) ∧
    ∀ (i : Nat) (x : GS), xs[i]? = some x → ∀ j, j < 2 → w.cell? ⟨b, off + (i * 2 + j), none⟩ = (gcells x).toList[j]?

section
variable {H : Type} {enc : TypeId × Value → H} {w : World} {base : Nat} {held : Bool}
set_option maxRecDepth 100000 in
theorem trod_gstep {fuel : Nat} {cs : List Value} {x : DataW H × List MemPlace} (h : DataW.trod enc Try.prog w base (fun _ => true) held fuel 65 cs = some x) : ∃ s : GS, cs = (gcells s).toList := by
  obtain ⟨xs, n, _, hx, hl, hlen, hg⟩ := DataW.trod_struct Try.underlying65 h
  have h2 : cs.length = 2 := hl.trans (by kernel_rfl)
  match cs, h2 with
  | [c0, c1], _ =>
    have k1 : Try.prog.cellsOf 3 = 1 := by kernel_rfl
    have g0 := trod_at (i := 0) (off := 0) (ti := 3) (by kernel_rfl) k1 hg
    have g1 := trod_at (i := 1) (off := 1) (ti := 3) (by kernel_rfl) k1 hg
    have hl2 : xs.length = 2 := hlen
    match xs, hl2 with
    | [y0, y1], _ =>
      simp only [List.drop_zero, List.take_succ_cons, List.take_zero, List.drop_succ_cons] at g0 g1
      obtain ⟨m0, e0, _, f0⟩ := DataW.trod_int Try.underlying3 (g0.trans rfl)
      obtain ⟨m1, e1, _, f1⟩ := DataW.trod_int Try.underlying3 (g1.trans rfl)
      simp only [List.cons.injEq, and_true] at e0 e1
      subst e0 e1
      exact ⟨⟨m0, m1⟩, rfl⟩
theorem open_gsteps {fuel : Nat} {v : Value} {x : DataW H × List MemPlace} (hv : ∃ a len cap, v = .slice a len cap) (h : DataW.trod enc Try.prog w base (fun _ => true) held fuel 58 v.cells.toList = some x) :
    ∃ xs : List GS, GSteps w.heap.size v xs w := by
  obtain ⟨ao, n, cap, b, off, rfl, hn, hao, hc⟩ := open_rows (P := Try.prog) (k := 2) (R := fun cs => ∃ s : GS, cs = (gcells s).toList) Try.underlying58 (by kernel_rfl) (by omega) (fun {fuel cs x} h => trod_gstep h) hv h
  obtain ⟨xs, hl, hx⟩ := exists_list n (fun i (x : GS) => ∀ j, j < 2 → w.cell? ⟨b, off + (i * 2 + j), none⟩ = (gcells x).toList[j]?) fun i hi => by
    obtain ⟨cs, hcl, ⟨s, rfl⟩, hj⟩ := hc i hi
    exact ⟨s, hj⟩
  exact ⟨xs, ao, cap, b, off, by rw [hl], by have := hn.1; omega, fun h0 => ⟨(hao (by omega)).1, (hao (by omega)).2⟩, hx⟩
end
/-- A step among steps, as it is loaded. -/
theorem gsteps_at {w : World} {ao : Option Addr} {n cap : Nat} {xs : List GS} (h : GSteps w.heap.size (.slice ao n cap) xs w) : n = xs.length ∧ n ≤ 9223372036854775807 ∧ ∃ b off, ∀ k, k < n → ∃ x : GS, xs[k]? = some x ∧ ao = some ⟨b, off, none⟩ ∧
    ∀ W, Below w.heap.size w W → W.rangeAt b (off + k * 2) (gcells x).toList := by
  obtain ⟨ao2, cap2, b, off, e1, hl, hao, hx⟩ := h
  injection e1 with e1 e2 e3
  subst e1 e2
  refine ⟨rfl, hl, b, off, fun k hk => ?_⟩
  obtain ⟨x, hxk⟩ : ∃ x, xs[k]? = some x := ⟨_, List.getElem?_eq_getElem (by omega)⟩
  have hb := (hao (by omega)).2
  refine ⟨x, hxk, (hao (by omega)).1, fun W hW j v hv => ?_⟩
  have hj : j < 2 := (List.getElem?_eq_some_iff.1 hv).1
  have h1 := hx k x hxk j hj
  rw [← Nat.add_assoc] at h1
  exact (hW.cell (p := ⟨b, off + k * 2 + j, none⟩) hb).trans (h1.trans hv)

set_option maxRecDepth 100000 in
set_option maxHeartbeats 1000000 in
theorem lgdo_any (B p : Nat) (F : Nat → Prop) (xs : List Int) (x : GS) (w : World) (hB : B ≤ w.heap.size) (h : SL B p F xs w) :
    Calls Try.prog 33 #[.pointer (some ⟨p, 0, none⟩), .agg (gcells x)] w fun e w' => e = .returned (.tuple #[.int .i64 (gdo xs x).2.1, .bool (gdo xs x).2.2]) ∧ SLid B p F (gdo xs x).1 w w' := by
  obtain ⟨kind, i⟩ := x
  have T0 := St.new w 65 #[.int .i64 kind, .int .i64 i]
  have c0 : (w.alloc (.cells #[.int .i64 kind, .int .i64 i] 65 (0, 0))).cell? ⟨w.heap.size, 0, none⟩ = some (.int .i64 kind) := T0.cell rfl
  have c1 : (w.alloc (.cells #[.int .i64 kind, .int .i64 i] 65 (0, 0))).cell? ⟨w.heap.size, 1, none⟩ = some (.int .i64 i) := T0.cell rfl
  have hb2 : Below w.heap.size w (w.alloc (.cells #[.int .i64 kind, .int .i64 i] 65 (0, 0))) := (Below.refl _ w).alloc (Nat.le_refl _) _
  have HV := Lib.hid (h.alloc (.cells #[.int .i64 kind, .int .i64 i] 65 (0, 0)))
  have HB := Lib.hid (And.intro hB (And.intro h.inF hb2))
  have hB2 : B ≤ (w.alloc (.cells #[.int .i64 kind, .int .i64 i] 65 (0, 0))).heap.size := by simp; omega
  show Calls Try.prog 33 #[.pointer (some ⟨p, 0, none⟩), .agg #[.int .i64 kind, .int .i64 i]] w _
  by_cases k1 : kind = 1
  · subst k1
    have e : (gdo xs ⟨1, i⟩).2.1 = 0 := by unfold gdo; simp; split <;> rfl
    rw [e]
    have HC := Lib.hid (gUse_any B p F xs i _ hB2 HV.out)
    clear T0 h hB hB2 hb2 e
    go_enter Try.func33, Try.ntmps33
    go_wp2_with (go_at_call 41; go_must (with_reducible refine HC.out.mono ?_); rintro e w1 ⟨rfl, h1⟩; have H1 := Lib.hid h1; clear h1)
    go_returns
    exact ⟨rfl, H1.out.later HB.out.1 HB.out.2.1 HB.out.2.2⟩
  have d1 : (kind == 1) = false := by rw [beq_eq_false_iff_ne]; exact k1
  by_cases k2 : kind = 2
  · subst k2
    have e : (gdo xs ⟨2, i⟩).2.1 = 0 := by unfold gdo; simp; split <;> rfl
    rw [e]
    have HC := Lib.hid (gGive_any B p F xs i _ hB2 HV.out)
    clear T0 h hB hB2 hb2 e k1 d1
    go_enter Try.func33, Try.ntmps33
    go_wp2_with (go_at_call 39; go_must (with_reducible refine HC.out.mono ?_); rintro e w1 ⟨rfl, h1⟩; have H1 := Lib.hid h1; clear h1)
    go_returns
    exact ⟨rfl, H1.out.later HB.out.1 HB.out.2.1 HB.out.2.2⟩
  have d2 : (kind == 2) = false := by rw [beq_eq_false_iff_ne]; exact k2
  by_cases k3 : kind = 3
  · subst k3
    have e : gdo xs ⟨3, i⟩ = (xs.map settled, (xs.count 3 : Int), true) := by unfold gdo; simp
    rw [e]
    have HC := Lib.hid (gSettle_any B p F xs _ hB2 HV.out)
    clear T0 h hB hB2 hb2 e k1 d1 k2 d2
    go_enter Try.func33, Try.ntmps33
    go_wp2_with (go_at_call 40; go_must (with_reducible refine HC.out.mono ?_); rintro e w1 ⟨rfl, h1⟩; have H1 := Lib.hid h1; clear h1)
    go_returns
    exact ⟨rfl, H1.out.later HB.out.1 HB.out.2.1 HB.out.2.2⟩
  have d3 : (kind == 3) = false := by rw [beq_eq_false_iff_ne]; exact k3
  have e : gdo xs ⟨kind, i⟩ = gdo xs ⟨0, 0⟩ := by unfold gdo; rw [if_neg k1, if_neg k2, if_neg k3]; simp
  rw [e]
  have HC := Lib.hid (gTake_any B p F xs _ hB2 HV.out)
  clear T0 h hB hB2 hb2 e k1 k2 k3
  go_enter Try.func33, Try.ntmps33
  go_wp2_with (go_at_call 38; go_must (with_reducible refine HC.out.mono ?_); rintro e w1 ⟨rfl, h1⟩; have H1 := Lib.hid h1; clear h1)
  go_returns
  exact ⟨rfl, H1.out.later HB.out.1 HB.out.2.1 HB.out.2.2⟩
end Go.Proofs.Ytokchikihacalaa
