/- Lemmas for the laws of index. -/
import Derived.Deep.RegionHeld3
import Derived.Test.YtngfknplljedeaaGreatZr01
import Derived.Test.YtngfknplljedeaaGreatZr04
import Derived.Test.YtngfknplljedeaaGreatZrHi
namespace Go.Proofs.YtngfknplljedeaaGreat
open Go.Joins Go.RowKit
theorem below_alloc1 (w : World) (o : Obj) : Below w.heap.size w (w.alloc o) := (Below.refl _ _).alloc (Nat.le_refl _) o
theorem below_alloc2 (w : World) (o p : Obj) : Below w.heap.size w ((w.alloc o).alloc p) :=
 ((Below.refl _ _).alloc (Nat.le_refl _) o).alloc (by simp) p
theorem St.new2l (w : World) (o : Obj) (T : TypeId) (cs : Array Value) : St T (w.heap.size + 1) cs ((w.alloc o).alloc (.cells cs T (0, 0))) := by
 have := St.new (w.alloc o) T cs
 simpa using this
structure Li where
 n : Int
 least : Int
 most : Int
def Li.out (l : Li) : Bool := decide (l.n < l.least) || decide (l.n > l.most)
def Li.vs (l : Li) : List Value := [.int .i64 l.n, .int .i64 l.least, .int .i64 l.most]
set_option maxRecDepth 100000 in
theorem ainLimitsc_any (l : Li) (w : World) : Calls Tryz.prog 166 #[.agg #[.int .i64 l.n, .int .i64 l.least, .int .i64 l.most]] w fun e w' => e = .returned (.bool l.out) ∧ Below w.heap.size w w' := by
 obtain ⟨n, a, b⟩ := l
 simp only [Li.out]
 cases h1 : decide (n < a) <;> cases h2 : decide (n > b)
 all_goals go_enter Tryz.func166, Tryz.ntmps166
 all_goals go_wp2
 all_goals go_ret
 all_goals exact ⟨rfl, below_alloc1 _ _⟩
def Lis (b : Nat) (ls : List Li) (w : World) : Prop := ∀ (j : Nat) (l : Li), ls[j]? = some l →
 w.cell? ⟨b, j * 3, none⟩ = some (.int .i64 l.n) ∧ w.cell? ⟨b, j * 3 + 1, none⟩ = some (.int .i64 l.least) ∧ w.cell? ⟨b, j * 3 + 2, none⟩ = some (.int .i64 l.most)
theorem Lis.below {b : Nat} {ls : List Li} {w w' : World} (h : Lis b ls w) (hb : b < w.heap.size) (hw : Below w.heap.size w w') : Lis b ls w' := fun j l hj => by
 obtain ⟨h1, h2, h3⟩ := h j l hj
 exact ⟨(hw.cell hb).trans h1, (hw.cell hb).trans h2, (hw.cell hb).trans h3⟩
set_option maxHeartbeats 2000000 in
set_option maxRecDepth 100000 in
theorem gIndexFunc_any (b c : Nat) (ls : List Li) (w : World) (hl : ls.length ≤ 9223372036854775807) (hb : b < w.heap.size) (h : Lis b ls w) :
 Calls Tryz.prog 167 #[.slice (some ⟨b, 0, none⟩) ls.length c, .func (.func 166) #[] #[]] w fun e w' => ∃ r : Int, e = .returned (.int .i64 r) ∧ decide (r ≥ 0) = ls.any Li.out ∧ Below w.heap.size w w' := by
 have H := hI h
 clear h
 go_enter Tryz.func167, Tryz.ntmps167
 go_wp2_with fail
 go_loopw [8] (fun k wr => ∃ i : Nat, i ≤ ls.length ∧ k = .int .i64 i ∧ (∀ j l, j < i → ls[j]? = some l → l.out = false) ∧ Below w.heap.size w wr) (fun k _ => ls.length - (intOf k).toNat)
 case atStart => exact ⟨0, Nat.zero_le _, rfl, fun j l h => absurd h (Nat.not_lt_zero _), Below.refl _ _⟩
 case round =>
  obtain ⟨i, hi, rfl, hno, hbw⟩ := hrel
  have HN := hI hno
  clear hno
  by_cases hlt : i < ls.length
  · obtain ⟨l, hli⟩ : ∃ l, ls[i]? = some l := ⟨_, List.getElem?_eq_getElem hlt⟩
    obtain ⟨c0, c1, c2⟩ := (H.out.below hb hbw) i l hli
    have HL := hI hli
    clear hli
    have hdl : decide ((i : Int) < (ls.length : Int)) = true := by simpa using hlt
    have hb1 : (i : Int) < (ls.length : Int) := by omega
    have hb0 : (0 : Int) ≤ (i : Int) := by omega
    have hw2 : IntKind.i64.wrap ((i : Int) + 1) = (i : Int) + 1 := by rw [IntKind.wrap_i64]; omega
    have hk := fun W => ainLimitsc_any l W
    cases hq : l.out with
    | true =>
     rw [hq] at hk
     have HK := hI hk
     have HQ := hI hq
     clear hk hq
     go_wp2_with (go_at_call 166; go_must (refine (HK.out _).mono ?_); rintro e w1 ⟨rfl, hb1⟩)
     go_ret
     refine ⟨_, rfl, ?_, hbw.trans (hb1.mono hbw.size)⟩
     rw [List.any_eq_true.2 ⟨l, List.mem_of_getElem? HL.out, HQ.out⟩]
     simp
    | false =>
     rw [hq] at hk
     have HK := hI hk
     have HQ := hI hq
     clear hk hq
     go_wp2_with (go_at_call 166; go_must (refine (HK.out _).mono ?_); rintro e w1 ⟨rfl, hb1⟩)
     go_roundw
     case rel =>
      refine ⟨i + 1, by omega, by go_num, fun j l' hj hl' => ?_, hbw.trans (hb1.mono hbw.size)⟩
      by_cases e : j = i
      · subst e
        rw [HL.out] at hl'
        cases hl'
        exact HQ.out
      · exact HN.out j l' (by omega) hl'
     case measure => simp [intOf]; omega
  · obtain rfl : i = ls.length := by omega
    have hdl : decide ((ls.length : Int) < (ls.length : Int)) = false := by simp
    have hall : ls.any Li.out = false := by
     rw [List.any_eq_false]
     intro l hl'
     obtain ⟨j, hj⟩ := List.mem_iff_getElem?.1 hl'
     rw [HN.out j l (List.getElem?_eq_some_iff.1 hj).1 hj]
     simp
    have HA := hI hall
    clear hall
    go_wp2_with fail
    go_ret
    exact ⟨_, rfl, by rw [HA.out]; rfl, hbw⟩
set_option maxHeartbeats 2000000 in
set_option maxRecDepth 100000 in
theorem ainLimits_any (b c : Nat) (ls : List Li) (w : World) (hl : ls.length ≤ 9223372036854775807) (hb : b < w.heap.size) (h : Lis b ls w) :
 Calls Tryz.prog 135 #[.slice (some ⟨b, 0, none⟩) ls.length c] w fun e w' => e = .returned (.int .i64 (if ls.any Li.out then 14 else 0)) ∧ Below w.heap.size w w' := by
 have HI := hI (gIndexFunc_any b c ls w hl hb h)
 obtain ⟨q, hq⟩ : ∃ q, q = ls.any Li.out := ⟨_, rfl⟩
 rw [← hq] at HI ⊢
 clear hq h
 cases q
 · go_enter Tryz.func135, Tryz.ntmps135
   go_wp2_with (go_at_call 167; go_must (refine HI.out.mono ?_); rintro e w1 ⟨r, rfl, hr, hb1⟩)
   go_ret
   exact ⟨rfl, hb1⟩
 · go_enter Tryz.func135, Tryz.ntmps135
   go_wp2_with (go_at_call 167; go_must (refine HI.out.mono ?_); rintro e w1 ⟨r, rfl, hr, hb1⟩)
   go_ret
   exact ⟨rfl, hb1⟩
end Go.Proofs.YtngfknplljedeaaGreat
