/- The program's pieces: small functions. -/
import Derived.Test.YtfipojmgmmjnmaaJa
import Derived.Test.YtfipojmgmmjnmaaEq
import Derived.Test.YtfipojmgmmjnmaaCw
import Derived.WalkKit
namespace Go.Proofs.Ytfipojmgmmjnmaa
open Go.RowKit

set_option maxRecDepth 100000 in
theorem pcCount_in (n : Nat) (w : World) (hn : n ≤ 6400) : Calls Try.prog 28 #[.int .i64 n] w fun e w' => e = .returned (.int .i64 (cnt n : Int)) ∧ ∃ q, w' = w.drewN q := by
  have d1 : decide ((n : Int) < 0) = false := decide_eq_false (by omega)
  have d2 : decide ((n : Int) > 6400) = false := decide_eq_false (by omega)
  go_enter Try.func28, Try.ntmps28
  go_wp2
  all_goals
    go_ret
    refine ⟨?_, 0, rfl⟩
    show Ending.returned (Value.int _ _) = _
    congr 2
    unfold cnt
    split <;> omega
set_option maxRecDepth 100000 in
theorem pcCount_out (n : Int) (w : World) (hn : n < 0 ∨ 6400 < n) : Calls Try.prog 28 #[.int .i64 n] w fun e w' => e = .returned (.int .i64 0) ∧ ∃ q, w' = w.drewN q := by
  by_cases h : n < 0
  · have d1 : decide (n < 0) = true := decide_eq_true h
    go_enter Try.func28, Try.ntmps28
    go_wp2
    go_ret
    exact ⟨rfl, 0, rfl⟩
  · have d1 : decide (n < 0) = false := decide_eq_false h
    have d2 : decide (n > 6400) = true := decide_eq_true (by omega)
    go_enter Try.func28, Try.ntmps28
    go_wp2
    go_ret
    exact ⟨rfl, 0, rfl⟩
theorem below1 (w : World) (o : Obj) : Below w.heap.size w (w.alloc o) := (Below.refl _ w).alloc (Nat.le_refl _) o
theorem below2 (w : World) (o o' : Obj) : Below w.heap.size w ((w.alloc o).alloc o') := (below1 w o).alloc (by simp) o'
theorem below_one2 {w w1 w2 : World} {o : Obj} (h1 : Below (w.alloc o).heap.size (w.alloc o) w1) (h2 : Below w1.heap.size w1 w2) : Below (w.alloc o).heap.size (w.alloc o) w2 := h1.trans (h2.mono h1.size)
theorem cell_two (w : World) (cs : Array Value) (T : TypeId) {w2 : World} (h : w2.heap[w.heap.size]? = (w.alloc (.cells cs T (0, 0))).heap[w.heap.size]?) : ∀ (j : Nat) (v : Value), cs[j]? = some v → w2.cell? ⟨w.heap.size, j, none⟩ = some v := fun j v hv =>
  (World.cell?_of_block (a := ⟨w.heap.size, j, none⟩) h).trans ((St.new w T cs).cell hv)
theorem checked2 {w w1 w2 : World} {o : Obj} (h1 : Below (w.alloc o).heap.size (w.alloc o) w1) (h2 : Below w1.heap.size w1 w2) : Below w.heap.size w w2 := (below1 w o).trans ((below_one2 h1 h2).mono (by simp))
theorem checked3 {w w1 w2 w3 : World} {o : Obj} (h1 : Below (w.alloc o).heap.size (w.alloc o) w1) (h2 : Below w1.heap.size w1 w2) (h3 : Below w2.heap.size w2 w3) : Below w.heap.size w w3 := (checked2 h1 h2).trans (h3.mono (checked2 h1 h2).size)
/-- May pieces share these? -/
def sharedB (e q p : Int) : Bool := decide (1 ≤ e) && decide (e ≤ 4294967295) && decide (1 ≤ q) && decide (1 ≤ p) && decide (p ≤ 64)
/-- How few bytes it may have. -/
def least (part parts : Int) : Int := if parts = 1 then 0 else if part = parts - 1 then 1 else 100
def sizeB (p : Pz) : Bool := decide (least p.part p.parts ≤ (p.data.size : Int)) && decide ((p.data.size : Int) ≤ 100)
def checkB (p : Pz) : Bool := sharedB p.epoch p.seq p.parts && decide (0 ≤ p.part) && decide (p.part < p.parts) && sizeB p
theorem checkB_ok (p : Pz) : checkB p = p.ok := by
  unfold checkB Pz.ok sharedB sizeB least numsB
  rw [Bool.eq_iff_iff]
  simp only [Bool.and_eq_true, decide_eq_true_eq]
  by_cases h1 : p.parts = 1
  · by_cases h2 : p.part < p.parts - 1
    · rw [if_pos h1, if_pos h2]; simp only [decide_eq_true_eq]; omega
    · rw [if_pos h1, if_neg h2]; simp only [Bool.or_eq_true, decide_eq_true_eq]; omega
  · by_cases h2 : p.part < p.parts - 1
    · by_cases h3 : p.part = p.parts - 1
      · omega
      · rw [if_neg h1, if_neg h3, if_pos h2]; simp only [decide_eq_true_eq]; omega
    · by_cases h3 : p.part = p.parts - 1
      · rw [if_neg h1, if_pos h3, if_neg h2]; simp only [Bool.or_eq_true, decide_eq_true_eq]; omega
      · rw [if_neg h1, if_neg h3, if_neg h2]; simp only [Bool.or_eq_true, decide_eq_true_eq]; omega
set_option maxRecDepth 100000 in
theorem pcvalidShared_any (e q p : Int) (w : World) : Calls Try.prog 51 #[.agg #[.int .i64 e, .int .i64 q, .int .i64 p]] w fun r w' => r = .returned (.bool (sharedB e q p)) ∧ Below w.heap.size w w' := by
  by_cases h0 : 1 ≤ e
  · have d0 : decide (1 ≤ e) = true := decide_eq_true h0
    by_cases h1 : e ≤ 4294967295
    · have d1 : decide (e ≤ 4294967295) = true := decide_eq_true h1
      by_cases h2 : 1 ≤ q
      · have d2 : decide (1 ≤ q) = true := decide_eq_true h2
        by_cases h3 : 1 ≤ p
        · have d3 : decide (1 ≤ p) = true := decide_eq_true h3
          by_cases h4 : p ≤ 64
          · have d4 : decide (p ≤ 64) = true := decide_eq_true h4
            rw [show sharedB e q p = true from by unfold sharedB; rw [d0, d1, d2, d3, d4]; rfl]
            go_enter Try.func51, Try.ntmps51
            go_wp2
            go_ret
            exact ⟨rfl, below1 _ _⟩
          · have d4 : decide (p ≤ 64) = false := decide_eq_false h4
            rw [show sharedB e q p = false from by unfold sharedB; rw [d0, d1, d2, d3, d4]; rfl]
            go_enter Try.func51, Try.ntmps51
            go_wp2
            go_ret
            exact ⟨rfl, below1 _ _⟩
        · have d3 : decide (1 ≤ p) = false := decide_eq_false h3
          rw [show sharedB e q p = false from by unfold sharedB; rw [d0, d1, d2, d3]; rfl]
          go_enter Try.func51, Try.ntmps51
          go_wp2
          go_ret
          exact ⟨rfl, below1 _ _⟩
      · have d2 : decide (1 ≤ q) = false := decide_eq_false h2
        rw [show sharedB e q p = false from by unfold sharedB; rw [d0, d1, d2]; rfl]
        go_enter Try.func51, Try.ntmps51
        go_wp2
        go_ret
        exact ⟨rfl, below1 _ _⟩
    · have d1 : decide (e ≤ 4294967295) = false := decide_eq_false h1
      rw [show sharedB e q p = false from by unfold sharedB; rw [d0, d1]; rfl]
      go_enter Try.func51, Try.ntmps51
      go_wp2
      go_ret
      exact ⟨rfl, below1 _ _⟩
  · have d0 : decide (1 ≤ e) = false := decide_eq_false h0
    rw [show sharedB e q p = false from by unfold sharedB; rw [d0]; rfl]
    go_enter Try.func51, Try.ntmps51
    go_wp2
    go_ret
    exact ⟨rfl, below1 _ _⟩
set_option maxRecDepth 100000 in
theorem pcsharedOf_any (p : Pz) (w : World) : Calls Try.prog 54 #[.agg p.arr] w fun r w' => r = .returned (.agg #[.int .i64 p.epoch, .int .i64 p.seq, .int .i64 p.parts]) ∧ Below w.heap.size w w' := by
  obtain ⟨e, q, i, n, s⟩ := p
  dsimp only
  unfold Pz.arr
  go_enter Try.func54, Try.ntmps54
  go_wp2
  refine ret_cell (r := 2) (k := w.heap.size + 1) (T := 97) (cs := #[.int .i64 e, .int .i64 q, .int .i64 n]) Try.results54 rfl ?_ Try.underlying97 rfl (by kernel_rfl) rfl ⟨rfl, below2 _ _ _⟩
  have h := St.new (w.alloc (.cells #[.int .i64 e, .int .i64 q, .int .i64 i, .int .i64 n, .string s] 81 (0, 0))) 97 #[.int .i64 e, .int .i64 q, .int .i64 n]
  rwa [show (w.alloc (.cells #[.int .i64 e, .int .i64 q, .int .i64 i, .int .i64 n, .string s] 81 (0, 0))).heap.size = w.heap.size + 1 from by simp] at h
set_option maxRecDepth 100000 in
theorem pcvalidSize_any (p : Pz) (w : World) (hp : 1 ≤ p.parts) (hp2 : p.parts ≤ 64) : Calls Try.prog 63 #[.agg p.arr] w fun r w' => r = .returned (.bool (sizeB p)) ∧ Below w.heap.size w w' := by
  obtain ⟨e, q, i, n, s⟩ := p
  replace hp : 1 ≤ n := hp
  replace hp2 : n ≤ 64 := hp2
  unfold sizeB least Pz.arr
  dsimp only
  by_cases h1 : n = 1
  · subst h1
    rw [if_pos rfl]
    have d2 : decide ((0 : Int) ≤ (s.size : Int)) = true := decide_eq_true (by omega)
    by_cases h3 : (s.size : Int) ≤ 100
    · have d3 : decide ((s.size : Int) ≤ 100) = true := decide_eq_true h3
      rw [d2, d3]
      go_enter Try.func63, Try.ntmps63
      go_wp2
      go_ret
      exact ⟨rfl, below1 _ _⟩
    · have d3 : decide ((s.size : Int) ≤ 100) = false := decide_eq_false h3
      rw [d2, d3]
      go_enter Try.func63, Try.ntmps63
      go_wp2
      go_ret
      exact ⟨rfl, below1 _ _⟩
  · rw [if_neg h1]
    have d1 : (n == 1) = false := by rw [beq_eq_false_iff_ne]; exact h1
    by_cases h4 : i = n - 1
    · subst h4
      rw [if_pos rfl]
      by_cases h2 : (1 : Int) ≤ (s.size : Int)
      · have d2 : decide ((1 : Int) ≤ (s.size : Int)) = true := decide_eq_true h2
        by_cases h3 : (s.size : Int) ≤ 100
        · have d3 : decide ((s.size : Int) ≤ 100) = true := decide_eq_true h3
          rw [d2, d3]
          go_enter Try.func63, Try.ntmps63
          go_wp2
          go_ret
          exact ⟨rfl, below1 _ _⟩
        · have d3 : decide ((s.size : Int) ≤ 100) = false := decide_eq_false h3
          rw [d2, d3]
          go_enter Try.func63, Try.ntmps63
          go_wp2
          go_ret
          exact ⟨rfl, below1 _ _⟩
      · have d2 : decide ((1 : Int) ≤ (s.size : Int)) = false := decide_eq_false h2
        rw [d2]
        go_enter Try.func63, Try.ntmps63
        go_wp2
        go_ret
        exact ⟨rfl, below1 _ _⟩
    · rw [if_neg h4]
      have d4 : (i == n - 1) = false := by rw [beq_eq_false_iff_ne]; exact h4
      by_cases h2 : (100 : Int) ≤ (s.size : Int)
      · have d2 : decide ((100 : Int) ≤ (s.size : Int)) = true := decide_eq_true h2
        by_cases h3 : (s.size : Int) ≤ 100
        · have d3 : decide ((s.size : Int) ≤ 100) = true := decide_eq_true h3
          rw [d2, d3]
          go_enter Try.func63, Try.ntmps63
          go_wp2
          go_ret
          exact ⟨rfl, below1 _ _⟩
        · have d3 : decide ((s.size : Int) ≤ 100) = false := decide_eq_false h3
          rw [d2, d3]
          go_enter Try.func63, Try.ntmps63
          go_wp2
          go_ret
          exact ⟨rfl, below1 _ _⟩
      · have d2 : decide ((100 : Int) ≤ (s.size : Int)) = false := decide_eq_false h2
        rw [d2]
        go_enter Try.func63, Try.ntmps63
        go_wp2
        go_ret
        exact ⟨rfl, below1 _ _⟩
set_option maxRecDepth 100000 in
set_option maxHeartbeats 1000000 in
theorem pcCheck_any (p : Pz) (w : World) : Calls Try.prog 53 #[.agg p.arr] w fun r w' => r = .returned (.int .i64 (if p.ok then 0 else 14)) ∧ Below w.heap.size w w' := by
  rw [← checkB_ok]
  have HS := Lib.hid (fun W => pcsharedOf_any p W)
  have HV := Lib.hid (fun W => pcvalidShared_any p.epoch p.seq p.parts W)
  have HZ := Lib.hid (fun W a b => pcvalidSize_any p W a b)
  obtain ⟨e, q, i, n, s⟩ := p
  have hc : checkB ⟨e, q, i, n, s⟩ = (sharedB e q n && decide (0 ≤ i) && decide (i < n) && sizeB ⟨e, q, i, n, s⟩) := rfl
  rw [hc]
  dsimp only at HS HV HZ
  unfold Pz.arr at HS HZ ⊢
  dsimp only at HS HV HZ ⊢
  have HN := Lib.hid (show sharedB e q n = true → 1 ≤ n ∧ n ≤ 64 from fun h => by
    unfold sharedB at h
    simp only [Bool.and_eq_true, decide_eq_true_eq] at h
    omega)
  obtain ⟨b0, hb0⟩ : ∃ b, b = sharedB e q n := ⟨_, rfl⟩
  obtain ⟨b3, hb3⟩ : ∃ b, b = sizeB ⟨e, q, i, n, s⟩ := ⟨_, rfl⟩
  rw [← hb0] at HV HN ⊢
  rw [← hb3] at HZ ⊢
  clear hc hb0 hb3
  cases b0 with
  | false =>
    rw [show (false && decide (0 ≤ i) && decide (i < n) && b3) = false from rfl]
    go_enter Try.func53, Try.ntmps53
    go_wp2_with (first | (go_at_call 54; go_must (refine (HS.out _).mono ?_); rintro r w1 ⟨rfl, b1⟩; have B1 := Lib.hid b1; clear b1) | (go_at_call 51; go_must (refine (HV.out _).mono ?_); rintro r w2 ⟨rfl, b2⟩; have B2 := Lib.hid b2; have c2 := ((below_one2 B1.out b2).block w.heap.size (by simp)); have hc2 := cell_two w #[.int .i64 e, .int .i64 q, .int .i64 i, .int .i64 n, .string s] 81 c2; clear b2 c2))
    go_ret
    exact ⟨rfl, checked2 B1.out B2.out⟩
  | true =>
    obtain ⟨hn1, hn2⟩ := HN.out rfl
    by_cases h1 : 0 ≤ i
    · have d1 : decide (0 ≤ i) = true := decide_eq_true h1
      by_cases h2 : i < n
      · have d2 : decide (i < n) = true := decide_eq_true h2
        rw [d1, d2]
        cases b3 with
        | true =>
          rw [show (true && true && true && true) = true from rfl]
          go_enter Try.func53, Try.ntmps53
          go_wp2_with (first | (go_at_call 54; go_must (refine (HS.out _).mono ?_); rintro r w1 ⟨rfl, b1⟩; have B1 := Lib.hid b1; clear b1) | (go_at_call 51; go_must (refine (HV.out _).mono ?_); rintro r w2 ⟨rfl, b2⟩; have B2 := Lib.hid b2; have c2 := ((below_one2 B1.out b2).block w.heap.size (by simp)); have hc2 := cell_two w #[.int .i64 e, .int .i64 q, .int .i64 i, .int .i64 n, .string s] 81 c2; clear b2 c2) | (go_at_call 63; go_must (refine (HZ.out _ hn1 hn2).mono ?_); rintro r w3 ⟨rfl, b3'⟩; have B3 := Lib.hid b3'; clear b3'))
          go_ret
          exact ⟨rfl, checked3 B1.out B2.out B3.out⟩
        | false =>
          rw [show (true && true && true && false) = false from rfl]
          go_enter Try.func53, Try.ntmps53
          go_wp2_with (first | (go_at_call 54; go_must (refine (HS.out _).mono ?_); rintro r w1 ⟨rfl, b1⟩; have B1 := Lib.hid b1; clear b1) | (go_at_call 51; go_must (refine (HV.out _).mono ?_); rintro r w2 ⟨rfl, b2⟩; have B2 := Lib.hid b2; have c2 := ((below_one2 B1.out b2).block w.heap.size (by simp)); have hc2 := cell_two w #[.int .i64 e, .int .i64 q, .int .i64 i, .int .i64 n, .string s] 81 c2; clear b2 c2) | (go_at_call 63; go_must (refine (HZ.out _ hn1 hn2).mono ?_); rintro r w3 ⟨rfl, b3'⟩; have B3 := Lib.hid b3'; clear b3'))
          go_ret
          exact ⟨rfl, checked3 B1.out B2.out B3.out⟩
      · have d2 : decide (i < n) = false := decide_eq_false h2
        rw [d1, d2]
        rw [show (true && true && false && b3) = false from rfl]
        go_enter Try.func53, Try.ntmps53
        go_wp2_with (first | (go_at_call 54; go_must (refine (HS.out _).mono ?_); rintro r w1 ⟨rfl, b1⟩; have B1 := Lib.hid b1; clear b1) | (go_at_call 51; go_must (refine (HV.out _).mono ?_); rintro r w2 ⟨rfl, b2⟩; have B2 := Lib.hid b2; have c2 := ((below_one2 B1.out b2).block w.heap.size (by simp)); have hc2 := cell_two w #[.int .i64 e, .int .i64 q, .int .i64 i, .int .i64 n, .string s] 81 c2; clear b2 c2))
        go_ret
        exact ⟨rfl, checked2 B1.out B2.out⟩
    · have d1 : decide (0 ≤ i) = false := decide_eq_false h1
      rw [d1]
      rw [show (true && false && decide (i < n) && b3) = false from rfl]
      go_enter Try.func53, Try.ntmps53
      go_wp2_with (first | (go_at_call 54; go_must (refine (HS.out _).mono ?_); rintro r w1 ⟨rfl, b1⟩; have B1 := Lib.hid b1; clear b1) | (go_at_call 51; go_must (refine (HV.out _).mono ?_); rintro r w2 ⟨rfl, b2⟩; have B2 := Lib.hid b2; have c2 := ((below_one2 B1.out b2).block w.heap.size (by simp)); have hc2 := cell_two w #[.int .i64 e, .int .i64 q, .int .i64 i, .int .i64 n, .string s] 81 c2; clear b2 c2))
      go_ret
      exact ⟨rfl, checked2 B1.out B2.out⟩
end Go.Proofs.Ytfipojmgmmjnmaa
