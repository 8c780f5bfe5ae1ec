/- Calls: which procedures there are, their letters, which of them change something: the program and the reference. -/
import Derived.Test.YtdjnadgcjmlejaaDoorCa
import Derived.Test.YtdjnadgcjmlejaaDoorCw
import Derived.Laws.Rows
namespace Go.Proofs.YtdjnadgcjmlejaaDoor
open Go.RowKit

theorem cexists_any (p : Int) (w : World) : Calls Tryd.prog 20 #[.int .i64 p] w fun e w' => e = .returned (.bool (there p)) ∧ w = w' := by
  by_cases h : 0 ≤ p
  · have d : decide (0 ≤ p) = true := by simpa using h
    go_enter Tryd.func20, Tryd.ntmps20
    go_wp2
    all_goals go_ret
    all_goals exact ⟨by simp [there, h], rfl⟩
  · have d : decide (0 ≤ p) = false := by simpa using h
    have e0 : there p = false := by unfold there; simp; omega
    rw [e0]
    clear e0
    go_enter Tryd.func20, Tryd.ntmps20
    go_wp2
    all_goals go_ret
    all_goals exact ⟨rfl, rfl⟩
theorem cfThere_any (p : Int) (w : World) : Calls Tryd.prog 18 #[.int .i64 p] w fun e w' => e = .returned (.bool (there p)) ∧ w = w' := by
  by_cases h : 0 ≤ p
  · have d : decide (p ≥ 0) = true := by simpa using h
    go_enter Tryd.func18, Tryd.ntmps18
    go_wp2
    all_goals go_ret
    all_goals exact ⟨by simp [there, h], rfl⟩
  · have d : decide (p ≥ 0) = false := by simpa using h
    have e0 : there p = false := by unfold there; simp; omega
    rw [e0]
    clear e0
    go_enter Tryd.func18, Tryd.ntmps18
    go_wp2
    all_goals go_ret
    all_goals exact ⟨rfl, rfl⟩
/-- Does a procedure change something? -/
def chg (p : Int) : Bool := p == 2 || (decide (7 ≤ p) && decide (p ≤ 15))
theorem cChanges_any (p : Int) (w : World) : Calls Tryd.prog 9 #[.int .i64 p] w fun e w' => e = .returned (.bool (chg p)) ∧ w = w' := by
  by_cases h2 : p = 2
  · subst h2
    go_enter Tryd.func9, Tryd.ntmps9
    go_wp2
    all_goals go_ret
    all_goals exact ⟨rfl, rfl⟩
  · have d2 : (p == 2) = false := by simpa using h2
    by_cases h : 7 ≤ p
    · have d : decide (7 ≤ p) = true := by simpa using h
      have e0 : chg p = decide (p ≤ 15) := by unfold chg; rw [d2]; simp [h]
      rw [e0]
      clear e0
      go_enter Tryd.func9, Tryd.ntmps9
      go_wp2
      all_goals go_ret
      all_goals exact ⟨rfl, rfl⟩
    · have d : decide (7 ≤ p) = false := by simpa using h
      have e0 : chg p = false := by unfold chg; rw [d2]; simp; omega
      rw [e0]
      clear e0
      go_enter Tryd.func9, Tryd.ntmps9
      go_wp2
      all_goals go_ret
      all_goals exact ⟨rfl, rfl⟩
theorem cfChanges_any (p : Int) (w : World) : Calls Tryd.prog 10 #[.int .i64 p] w fun e w' => e = .returned (.bool (chg p)) ∧ w = w' := by
  by_cases h2 : p = 2
  · subst h2
    go_enter Tryd.func10, Tryd.ntmps10
    go_wp2
    all_goals go_ret
    all_goals exact ⟨rfl, rfl⟩
  · have d2 : (p == 2) = false := by simpa using h2
    by_cases h : 7 ≤ p
    · have d : decide (p ≥ 7) = true := by simpa using h
      have e0 : chg p = decide (p ≤ 15) := by unfold chg; rw [d2]; simp [h]
      rw [e0]
      clear e0
      go_enter Tryd.func10, Tryd.ntmps10
      go_wp2
      all_goals go_ret
      all_goals exact ⟨rfl, rfl⟩
    · have d : decide (p ≥ 7) = false := by simpa using h
      have e0 : chg p = false := by unfold chg; rw [d2]; simp; omega
      rw [e0]
      clear e0
      go_enter Tryd.func10, Tryd.ntmps10
      go_wp2
      all_goals go_ret
      all_goals exact ⟨rfl, rfl⟩
/-- All letters, as a row. -/
def frow : Array Value := #[.string ⟨#[]⟩, .string ⟨#[102]⟩, .string ⟨#[102, 115, 103]⟩, .string ⟨#[102, 110]⟩, .string ⟨#[102, 104]⟩, .string ⟨#[102]⟩, .string ⟨#[102, 111, 99]⟩, .string ⟨#[102, 111, 104, 100]⟩, .string ⟨#[102, 110, 104, 115, 118]⟩, .string ⟨#[102, 110, 115]⟩, .string ⟨#[102, 110, 115, 116]⟩, .string ⟨#[102, 110, 104, 115]⟩, .string ⟨#[102, 110]⟩, .string ⟨#[102, 110]⟩, .string ⟨#[102, 110, 70, 78]⟩, .string ⟨#[102, 70, 78]⟩, .string ⟨#[102, 107, 118, 99]⟩, .string ⟨#[102, 107, 118, 99]⟩, .string ⟨#[102]⟩, .string ⟨#[102]⟩, .string ⟨#[102]⟩, .string ⟨#[102, 111, 99]⟩]
theorem frow_at (n : Nat) (h : n < 22) : frow[n]? = some (.string (fstr n)) := by
  match n, h with
  | 0, _ => rfl
  | 1, _ => rfl
  | 2, _ => rfl
  | 3, _ => rfl
  | 4, _ => rfl
  | 5, _ => rfl
  | 6, _ => rfl
  | 7, _ => rfl
  | 8, _ => rfl
  | 9, _ => rfl
  | 10, _ => rfl
  | 11, _ => rfl
  | 12, _ => rfl
  | 13, _ => rfl
  | 14, _ => rfl
  | 15, _ => rfl
  | 16, _ => rfl
  | 17, _ => rfl
  | 18, _ => rfl
  | 19, _ => rfl
  | 20, _ => rfl
  | 21, _ => rfl
  | n + 22, h => omega
theorem fstr_not {p : Int} (h : there p = false) : fstr p = ⟨#[]⟩ := by unfold fstr flds; rw [h]; rfl
theorem frow_built : Tryd.prog.built 43 [(0, .string ⟨#[]⟩), (1, .string ⟨#[102]⟩), (2, .string ⟨#[102, 115, 103]⟩), (3, .string ⟨#[102, 110]⟩), (4, .string ⟨#[102, 104]⟩), (5, .string ⟨#[102]⟩), (6, .string ⟨#[102, 111, 99]⟩), (7, .string ⟨#[102, 111, 104, 100]⟩), (8, .string ⟨#[102, 110, 104, 115, 118]⟩), (9, .string ⟨#[102, 110, 115]⟩), (10, .string ⟨#[102, 110, 115, 116]⟩), (11, .string ⟨#[102, 110, 104, 115]⟩), (12, .string ⟨#[102, 110]⟩), (13, .string ⟨#[102, 110]⟩), (14, .string ⟨#[102, 110, 70, 78]⟩), (15, .string ⟨#[102, 70, 78]⟩), (16, .string ⟨#[102, 107, 118, 99]⟩), (17, .string ⟨#[102, 107, 118, 99]⟩), (18, .string ⟨#[102]⟩), (19, .string ⟨#[102]⟩), (20, .string ⟨#[102]⟩), (21, .string ⟨#[102, 111, 99]⟩)] = some frow := by kernel_rfl

set_option maxRecDepth 100000 in
set_option maxHeartbeats 1000000 in
theorem cFields_there (n : Nat) (hn : n < 22) (w : World) : Calls Tryd.prog 7 #[.int .i64 n] w fun e w' => e = .returned (.string (fstr n)) ∧ Below w.heap.size w w' := by
  have HX := fun w => cexists_any (n : Int) w
  have ht : there (n : Int) = true := by simp [there]; omega
  rw [ht] at HX
  replace HX := Lib.hid HX
  have hz : frow.size = 22 := rfl
  have h1 : frow.all (·.oneCell') = true := by kernel_rfl
  have hc := frow_at n hn
  have hb := frow_built
  obtain ⟨row, hrow⟩ : ∃ r, r = frow := ⟨_, rfl⟩
  rw [← hrow] at hz h1 hc hb
  have HZ := Lib.hid hz
  have H1 := Lib.hid h1
  have HB := Lib.hid hb
  have cc : (w.alloc (.cells row 43)).cell? ⟨w.heap.size, n, none⟩ = some (.string (fstr n)) := St.at_new hc
  obtain ⟨u, hu⟩ : ∃ u, u = fstr n := ⟨_, rfl⟩
  rw [← hu] at cc ⊢
  have b0 : (0 : Int) ≤ (n : Int) := by omega
  have b1 : (n : Int) < 22 := by omega
  clear hrow hz h1 hc hb hu ht
  go_enter Tryd.func7, Tryd.ntmps7
  go_wp2_with (first
    | (refine wpList_build_as rfl 43 _ rfl row HB.out ?_)
    | (refine wpList_store_st rfl 43 _ _ rfl w.heap.size row rfl rfl _ (St.new w 43 _) (by rw [HZ.out]; kernel_rfl) (by rw [HZ.out]; rfl) H1.out ?_; rw [alloc_row]; intro w' hw' hst'; subst hw'; clear hst')
    | (go_at_call 20; go_must (refine (HX.out _).mono ?_); rintro e w1 ⟨rfl, rfl⟩))
  go_ret
  exact ⟨rfl, below_alloc1 w _⟩
set_option maxRecDepth 100000 in
theorem cFields_not (p : Int) (w : World) (h : there p = false) : Calls Tryd.prog 7 #[.int .i64 p] w fun e w' => e = .returned (.string ⟨#[]⟩) ∧ Below w.heap.size w w' := by
  have HX := fun w => cexists_any p w
  rw [h] at HX
  replace HX := Lib.hid HX
  have hz : frow.size = 22 := rfl
  have h1 : frow.all (·.oneCell') = true := by kernel_rfl
  have hb := frow_built
  obtain ⟨row, hrow⟩ : ∃ r, r = frow := ⟨_, rfl⟩
  rw [← hrow] at hz h1 hb
  have HZ := Lib.hid hz
  have H1 := Lib.hid h1
  have HB := Lib.hid hb
  clear hrow hz h1 hb h
  go_enter Tryd.func7, Tryd.ntmps7
  go_wp2_with (first
    | (refine wpList_build_as rfl 43 _ rfl row HB.out ?_)
    | (refine wpList_store_st rfl 43 _ _ rfl w.heap.size row rfl rfl _ (St.new w 43 _) (by rw [HZ.out]; kernel_rfl) (by rw [HZ.out]; rfl) H1.out ?_; rw [alloc_row]; intro w' hw' hst'; subst hw'; clear hst')
    | (go_at_call 20; go_must (refine (HX.out _).mono ?_); rintro e w1 ⟨rfl, rfl⟩))
  go_ret
  exact ⟨rfl, below_alloc1 w _⟩
theorem cFields_any (p : Int) (w : World) : Calls Tryd.prog 7 #[.int .i64 p] w fun e w' => e = .returned (.string (fstr p)) ∧ Below w.heap.size w w' := by
  by_cases h : there p = true
  · obtain ⟨n, hn, rfl⟩ := there_cases h
    exact cFields_there n hn w
  · have h' : there p = false := by simpa using h
    rw [fstr_not h']
    exact cFields_not p w h'
set_option maxRecDepth 100000 in
theorem frow_slice (w : World) : (Instr.buildSlice 44 22 #[(0, .string ⟨#[]⟩), (1, .string ⟨#[102]⟩), (2, .string ⟨#[102, 115, 103]⟩), (3, .string ⟨#[102, 110]⟩), (4, .string ⟨#[102, 104]⟩), (5, .string ⟨#[102]⟩), (6, .string ⟨#[102, 111, 99]⟩), (7, .string ⟨#[102, 111, 104, 100]⟩), (8, .string ⟨#[102, 110, 104, 115, 118]⟩), (9, .string ⟨#[102, 110, 115]⟩), (10, .string ⟨#[102, 110, 115, 116]⟩), (11, .string ⟨#[102, 110, 104, 115]⟩), (12, .string ⟨#[102, 110]⟩), (13, .string ⟨#[102, 110]⟩), (14, .string ⟨#[102, 110, 70, 78]⟩), (15, .string ⟨#[102, 70, 78]⟩), (16, .string ⟨#[102, 107, 118, 99]⟩), (17, .string ⟨#[102, 107, 118, 99]⟩), (18, .string ⟨#[102]⟩), (19, .string ⟨#[102]⟩), (20, .string ⟨#[102]⟩), (21, .string ⟨#[102, 111, 99]⟩)]).run Tryd.prog w = .ok (.slice (some ⟨w.heap.size, 0, none⟩) 22 22) (w.alloc (.cells frow 9)) := by kernel_rfl
set_option maxRecDepth 100000 in
set_option maxHeartbeats 1000000 in
theorem cfFields_there (n : Nat) (hn : n < 22) (w : World) : Calls Tryd.prog 8 #[.int .i64 n] w fun e w' => e = .returned (.string (fstr n)) ∧ Below w.heap.size w w' := by
  have hb := frow_slice
  have hz : frow.size = 22 := rfl
  have hc := frow_at n hn
  obtain ⟨row, hrow⟩ : ∃ r, r = frow := ⟨_, rfl⟩
  rw [← hrow] at hb hc
  have HB := Lib.hid hb
  have cc : (w.alloc (.cells row 9)).cell? ⟨w.heap.size, n, none⟩ = some (.string (fstr n)) := St.at_new hc
  obtain ⟨u, hu⟩ : ∃ u, u = fstr n := ⟨_, rfl⟩
  rw [← hu] at cc ⊢
  have d1 : decide ((n : Int) < 0) = false := by simp
  have d2 : decide ((n : Int) ≥ 22) = false := by simp; omega
  have b0 : (0 : Int) ≤ (n : Int) := by omega
  have b1 : (n : Int) < 22 := by omega
  clear hrow hb hc hu hz
  go_enter Tryd.func8, Tryd.ntmps8
  go_wp2_with (first
    | (refine wpList_buildSlice_as rfl 44 9 22 _ rfl _ row (by rfl) HB.out ?_))
  go_ret
  exact ⟨rfl, below_alloc1 w _⟩
set_option maxRecDepth 100000 in
set_option maxHeartbeats 1000000 in
theorem cfFields_low (p : Int) (h : p < 0) (w : World) : Calls Tryd.prog 8 #[.int .i64 p] w fun e w' => e = .returned (.string ⟨#[]⟩) ∧ Below w.heap.size w w' := by
  have hb := frow_slice
  have hz : frow.size = 22 := rfl
  obtain ⟨row, hrow⟩ : ∃ r, r = frow := ⟨_, rfl⟩
  rw [← hrow] at hb
  have HB := Lib.hid hb
  have d : decide (p < 0) = true := by simpa using h
  clear hrow hb hz
  go_enter Tryd.func8, Tryd.ntmps8
  go_wp2_with (first
    | (refine wpList_buildSlice_as rfl 44 9 22 _ rfl _ row (by rfl) HB.out ?_))
  go_ret
  exact ⟨rfl, below_alloc1 w _⟩
set_option maxRecDepth 100000 in
set_option maxHeartbeats 1000000 in
theorem cfFields_high (p : Int) (h : 22 ≤ p) (w : World) : Calls Tryd.prog 8 #[.int .i64 p] w fun e w' => e = .returned (.string ⟨#[]⟩) ∧ Below w.heap.size w w' := by
  have hb := frow_slice
  have hz : frow.size = 22 := rfl
  obtain ⟨row, hrow⟩ : ∃ r, r = frow := ⟨_, rfl⟩
  rw [← hrow] at hb
  have HB := Lib.hid hb
  have d : decide (p < 0) = false := by simp; omega
  have d2 : decide (p ≥ 22) = true := by simpa using h
  clear hrow hb hz
  go_enter Tryd.func8, Tryd.ntmps8
  go_wp2_with (first
    | (refine wpList_buildSlice_as rfl 44 9 22 _ rfl _ row (by rfl) HB.out ?_))
  go_ret
  exact ⟨rfl, below_alloc1 w _⟩
theorem cfFields_any (p : Int) (w : World) : Calls Tryd.prog 8 #[.int .i64 p] w fun e w' => e = .returned (.string (fstr p)) ∧ Below w.heap.size w w' := by
  by_cases h : there p = true
  · obtain ⟨n, hn, rfl⟩ := there_cases h
    exact cfFields_there n hn w
  · have h' : there p = false := by simpa using h
    rw [fstr_not h']
    simp only [there, Bool.and_eq_false_iff, decide_eq_false_iff_not] at h'
    by_cases h0 : p < 0
    · exact cfFields_low p h0 w
    · exact cfFields_high p (by omega) w
end Go.Proofs.YtdjnadgcjmlejaaDoor
