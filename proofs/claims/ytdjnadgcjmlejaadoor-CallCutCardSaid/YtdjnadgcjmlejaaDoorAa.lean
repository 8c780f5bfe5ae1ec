/- attr: Empty, chosen, and the reference's Option, Set, Empty. -/
import Derived.Test.YtdjnadgcjmlejaaDoorLi
namespace Go.Proofs.YtdjnadgcjmlejaaDoor
open Go.Joins Go.RowKit

def Ps.val (s : Ps) : Value := .agg s.vs.toArray
def Po.val (o : Po) : Value := .agg o.vs.toArray
theorem St.cell10 {T : TypeId} {k : Nat} {v0 v1 v2 v3 v4 v5 v6 v7 v8 v9 : Value} {w : World} (h : St T k #[v0, v1, v2, v3, v4, v5, v6, v7, v8, v9] w) :
    (w.cell? ⟨k, 0, none⟩ = some v0 ∧ w.cell? ⟨k, 1, none⟩ = some v1 ∧ w.cell? ⟨k, 2, none⟩ = some v2 ∧ w.cell? ⟨k, 3, none⟩ = some v3 ∧ w.cell? ⟨k, 4, none⟩ = some v4 ∧ w.cell? ⟨k, 5, none⟩ = some v5 ∧ w.cell? ⟨k, 6, none⟩ = some v6 ∧ w.cell? ⟨k, 7, none⟩ = some v7 ∧ w.cell? ⟨k, 8, none⟩ = some v8 ∧ w.cell? ⟨k, 9, none⟩ = some v9) :=
  ⟨h.cell rfl, h.cell rfl, h.cell rfl, h.cell rfl, h.cell rfl, h.cell rfl, h.cell rfl, h.cell rfl, h.cell rfl, h.cell rfl⟩

set_option maxRecDepth 100000 in
theorem afIn_at (n most : Int) (w : World) : Calls Tryd.prog 72 #[.int .i64 n, .int .i64 most] w fun e w' => e = .returned (.bool (okIn n most)) ∧ w = w' := by
  by_cases h : 0 ≤ n
  · have d : decide (n ≥ 0) = true := by simpa using h
    go_enter Tryd.func72, Tryd.ntmps72
    go_wp2
    all_goals go_ret
    all_goals exact ⟨by simp [okIn, h], rfl⟩
  · have d : decide (n ≥ 0) = false := by simpa using h
    go_enter Tryd.func72, Tryd.ntmps72
    go_wp2
    all_goals go_ret
    all_goals exact ⟨by simp [okIn]; omega, rfl⟩
theorem afOption_any (is : Bool) (n most : Int) (w : World) : Calls Tryd.prog 49 #[.agg #[.bool is, .int .i64 n], .int .i64 most] w fun e w' => e = .returned (.bool (okPo ⟨is, n⟩ most)) ∧ Below w.heap.size w w' := by
  cases is
  · have e : okPo ⟨false, n⟩ most = (n == 0) := rfl
    rw [e]
    go_enter Tryd.func49, Tryd.ntmps49
    go_wp2
    go_ret
    exact ⟨rfl, below_alloc1 _ _⟩
  · have e : okPo ⟨true, n⟩ most = okIn n most := rfl
    rw [e]
    go_enter Tryd.func49, Tryd.ntmps49
    go_wp2_with (go_at_call 72; go_must (refine (afIn_at n most _).mono ?_); rintro e w1 ⟨rfl, rfl⟩)
    go_ret
    exact ⟨rfl, below_alloc1 _ _⟩
set_option maxHeartbeats 2000000 in
set_option maxRecDepth 100000 in
theorem afSet_any (s : Ps) (w : World) : Calls Tryd.prog 48 #[s.val] w fun e w' => e = .returned (.bool (okPs s)) ∧ Below w.heap.size w w' := by
  obtain ⟨⟨i0, n0⟩, ⟨i1, n1⟩, ⟨i2, n2⟩, ⟨i3, n3⟩, ⟨i4, n4⟩⟩ := s
  have O0 := fun w => afOption_any i0 n0 4095 w
  have O1 := fun w => afOption_any i1 n1 4294967295 w
  have O2 := fun w => afOption_any i2 n2 4294967295 w
  have O3 := fun w => afOption_any i3 n3 9223372036854775807 w
  have O4 := fun w => afOption_any i4 n4 9223372036854775807 w
  obtain ⟨q, hq⟩ : ∃ q, q = okPs ⟨⟨i0, n0⟩, ⟨i1, n1⟩, ⟨i2, n2⟩, ⟨i3, n3⟩, ⟨i4, n4⟩⟩ := ⟨_, rfl⟩
  rw [← hq]
  unfold okPs at hq
  obtain ⟨q0, hq0⟩ : ∃ q, q = okPo ⟨i0, n0⟩ 4095 := ⟨_, rfl⟩
  rw [← hq0] at O0
  obtain ⟨q1, hq1⟩ : ∃ q, q = okPo ⟨i1, n1⟩ 4294967295 := ⟨_, rfl⟩
  rw [← hq1] at O1
  obtain ⟨q2, hq2⟩ : ∃ q, q = okPo ⟨i2, n2⟩ 4294967295 := ⟨_, rfl⟩
  rw [← hq2] at O2
  obtain ⟨q3, hq3⟩ : ∃ q, q = okPo ⟨i3, n3⟩ 9223372036854775807 := ⟨_, rfl⟩
  rw [← hq3] at O3
  obtain ⟨q4, hq4⟩ : ∃ q, q = okPo ⟨i4, n4⟩ 9223372036854775807 := ⟨_, rfl⟩
  rw [← hq4] at O4
  simp only [← hq0, ← hq1, ← hq2, ← hq3, ← hq4] at hq
  clear hq0 hq1 hq2 hq3 hq4
  replace O0 := Lib.hid O0
  replace O1 := Lib.hid O1
  replace O2 := Lib.hid O2
  replace O3 := Lib.hid O3
  replace O4 := Lib.hid O4
  simp only [Ps.val, Ps.vs, Po.vs, List.cons_append, List.nil_append]
  cases q0
  · obtain rfl : q = false := by simpa using hq
    clear hq
    go_enter Tryd.func48, Tryd.ntmps48
    go_wp2_with fail
    go_must (refine (O0.out _).mono ?_)
    rintro e w1 ⟨rfl, b1⟩
    have f1 : Below w.heap.size w w1 := (below_alloc1 w _).trans (b1.mono (by simp))
    have st1 := (St.new w 28 #[.bool i0, .int .i64 n0, .bool i1, .int .i64 n1, .bool i2, .int .i64 n2, .bool i3, .int .i64 n3, .bool i4, .int .i64 n4]).below b1
    clear b1
    go_wp2_with fail
    go_ret
    exact ⟨rfl, f1⟩
  · skip
    cases q1
    · obtain rfl : q = false := by simpa using hq
      clear hq
      go_enter Tryd.func48, Tryd.ntmps48
      go_wp2_with fail
      go_must (refine (O0.out _).mono ?_)
      rintro e w1 ⟨rfl, b1⟩
      have f1 : Below w.heap.size w w1 := (below_alloc1 w _).trans (b1.mono (by simp))
      have st1 := (St.new w 28 #[.bool i0, .int .i64 n0, .bool i1, .int .i64 n1, .bool i2, .int .i64 n2, .bool i3, .int .i64 n3, .bool i4, .int .i64 n4]).below b1
      clear b1
      obtain ⟨c0, c1, c2, c3, c4, c5, c6, c7, c8, c9⟩ := st1.cell10
      go_wp2_with fail
      go_must (refine (O1.out _).mono ?_)
      rintro e w2 ⟨rfl, b2⟩
      have f2 := f1.trans (b2.mono f1.size)
      have st2 := st1.below b2
      clear b2 st1 c0 c1 c2 c3 c4 c5 c6 c7 c8 c9
      go_wp2_with fail
      go_ret
      exact ⟨rfl, f2⟩
    · skip
      cases q2
      · obtain rfl : q = false := by simpa using hq
        clear hq
        go_enter Tryd.func48, Tryd.ntmps48
        go_wp2_with fail
        go_must (refine (O0.out _).mono ?_)
        rintro e w1 ⟨rfl, b1⟩
        have f1 : Below w.heap.size w w1 := (below_alloc1 w _).trans (b1.mono (by simp))
        have st1 := (St.new w 28 #[.bool i0, .int .i64 n0, .bool i1, .int .i64 n1, .bool i2, .int .i64 n2, .bool i3, .int .i64 n3, .bool i4, .int .i64 n4]).below b1
        clear b1
        obtain ⟨c0, c1, c2, c3, c4, c5, c6, c7, c8, c9⟩ := st1.cell10
        go_wp2_with fail
        go_must (refine (O1.out _).mono ?_)
        rintro e w2 ⟨rfl, b2⟩
        have f2 := f1.trans (b2.mono f1.size)
        have st2 := st1.below b2
        clear b2 st1 c0 c1 c2 c3 c4 c5 c6 c7 c8 c9
        obtain ⟨c0, c1, c2, c3, c4, c5, c6, c7, c8, c9⟩ := st2.cell10
        go_wp2_with fail
        go_must (refine (O2.out _).mono ?_)
        rintro e w3 ⟨rfl, b3⟩
        have f3 := f2.trans (b3.mono f2.size)
        have st3 := st2.below b3
        clear b3 st2 c0 c1 c2 c3 c4 c5 c6 c7 c8 c9
        go_wp2_with fail
        go_ret
        exact ⟨rfl, f3⟩
      · skip
        cases q3
        · obtain rfl : q = false := by simpa using hq
          clear hq
          go_enter Tryd.func48, Tryd.ntmps48
          go_wp2_with fail
          go_must (refine (O0.out _).mono ?_)
          rintro e w1 ⟨rfl, b1⟩
          have f1 : Below w.heap.size w w1 := (below_alloc1 w _).trans (b1.mono (by simp))
          have st1 := (St.new w 28 #[.bool i0, .int .i64 n0, .bool i1, .int .i64 n1, .bool i2, .int .i64 n2, .bool i3, .int .i64 n3, .bool i4, .int .i64 n4]).below b1
          clear b1
          obtain ⟨c0, c1, c2, c3, c4, c5, c6, c7, c8, c9⟩ := st1.cell10
          go_wp2_with fail
          go_must (refine (O1.out _).mono ?_)
          rintro e w2 ⟨rfl, b2⟩
          have f2 := f1.trans (b2.mono f1.size)
          have st2 := st1.below b2
          clear b2 st1 c0 c1 c2 c3 c4 c5 c6 c7 c8 c9
          obtain ⟨c0, c1, c2, c3, c4, c5, c6, c7, c8, c9⟩ := st2.cell10
          go_wp2_with fail
          go_must (refine (O2.out _).mono ?_)
          rintro e w3 ⟨rfl, b3⟩
          have f3 := f2.trans (b3.mono f2.size)
          have st3 := st2.below b3
          clear b3 st2 c0 c1 c2 c3 c4 c5 c6 c7 c8 c9
          obtain ⟨c0, c1, c2, c3, c4, c5, c6, c7, c8, c9⟩ := st3.cell10
          go_wp2_with fail
          go_must (refine (O3.out _).mono ?_)
          rintro e w4 ⟨rfl, b4⟩
          have f4 := f3.trans (b4.mono f3.size)
          have st4 := st3.below b4
          clear b4 st3 c0 c1 c2 c3 c4 c5 c6 c7 c8 c9
          go_wp2_with fail
          go_ret
          exact ⟨rfl, f4⟩
        · skip
          obtain rfl : q = q4 := by simpa using hq
          clear hq
          go_enter Tryd.func48, Tryd.ntmps48
          go_wp2_with fail
          go_must (refine (O0.out _).mono ?_)
          rintro e w1 ⟨rfl, b1⟩
          have f1 : Below w.heap.size w w1 := (below_alloc1 w _).trans (b1.mono (by simp))
          have st1 := (St.new w 28 #[.bool i0, .int .i64 n0, .bool i1, .int .i64 n1, .bool i2, .int .i64 n2, .bool i3, .int .i64 n3, .bool i4, .int .i64 n4]).below b1
          clear b1
          obtain ⟨c0, c1, c2, c3, c4, c5, c6, c7, c8, c9⟩ := st1.cell10
          go_wp2_with fail
          go_must (refine (O1.out _).mono ?_)
          rintro e w2 ⟨rfl, b2⟩
          have f2 := f1.trans (b2.mono f1.size)
          have st2 := st1.below b2
          clear b2 st1 c0 c1 c2 c3 c4 c5 c6 c7 c8 c9
          obtain ⟨c0, c1, c2, c3, c4, c5, c6, c7, c8, c9⟩ := st2.cell10
          go_wp2_with fail
          go_must (refine (O2.out _).mono ?_)
          rintro e w3 ⟨rfl, b3⟩
          have f3 := f2.trans (b3.mono f2.size)
          have st3 := st2.below b3
          clear b3 st2 c0 c1 c2 c3 c4 c5 c6 c7 c8 c9
          obtain ⟨c0, c1, c2, c3, c4, c5, c6, c7, c8, c9⟩ := st3.cell10
          go_wp2_with fail
          go_must (refine (O3.out _).mono ?_)
          rintro e w4 ⟨rfl, b4⟩
          have f4 := f3.trans (b4.mono f3.size)
          have st4 := st3.below b4
          clear b4 st3 c0 c1 c2 c3 c4 c5 c6 c7 c8 c9
          obtain ⟨c0, c1, c2, c3, c4, c5, c6, c7, c8, c9⟩ := st4.cell10
          go_wp2_with fail
          go_must (refine (O4.out _).mono ?_)
          rintro e w5 ⟨rfl, b5⟩
          have f5 := f4.trans (b5.mono f4.size)
          have st5 := st4.below b5
          clear b5 st4 c0 c1 c2 c3 c4 c5 c6 c7 c8 c9
          go_wp2_with fail
          go_ret
          exact ⟨rfl, f5⟩

/-- The limits of a change's numbers. -/
def psLimits (s : Ps) : List Li := [⟨s.mode.n, 0, if s.mode.is then 4095 else 0⟩, ⟨s.uid.n, 0, if s.uid.is then 4294967295 else 0⟩, ⟨s.gid.n, 0, if s.gid.is then 4294967295 else 0⟩, ⟨s.size.n, 0, if s.size.is then 9223372036854775807 else 0⟩, ⟨s.time.n, 0, if s.time.is then 9223372036854775807 else 0⟩]
theorem li_po (is : Bool) (n most : Int) : Li.out ⟨n, 0, if is then most else 0⟩ = !okPo ⟨is, n⟩ most := by
  rw [Bool.eq_iff_iff]
  cases is
  · simp [Li.out, okPo]
    all_goals omega
  · simp [Li.out, okPo, okIn]
    all_goals omega
theorem psLimits_any (s : Ps) : (psLimits s).any Li.out = !okPs s := by
  obtain ⟨⟨i0, n0⟩, ⟨i1, n1⟩, ⟨i2, n2⟩, ⟨i3, n3⟩, ⟨i4, n4⟩⟩ := s
  simp only [psLimits, List.any_cons, List.any_nil, li_po, okPs, Bool.or_false]
  simp [Bool.or_assoc]
theorem lis5 {b : Nat} {T : TypeId} {fr : Nat × Nat} {w : World} {n0 m0 n1 m1 n2 m2 n3 m3 n4 m4 : Int}
    (h : w.heap[b]? = some (.cells #[.int .i64 n0, .int .i64 0, .int .i64 m0, .int .i64 n1, .int .i64 0, .int .i64 m1, .int .i64 n2, .int .i64 0, .int .i64 m2, .int .i64 n3, .int .i64 0, .int .i64 m3, .int .i64 n4, .int .i64 0, .int .i64 m4] T fr)) :
    Lis b [⟨n0, 0, m0⟩, ⟨n1, 0, m1⟩, ⟨n2, 0, m2⟩, ⟨n3, 0, m3⟩, ⟨n4, 0, m4⟩] w := by
  intro j l hj
  match j, hj with
  | 0, hj => cases hj; simp [World.cell?, h]
  | 1, hj => cases hj; simp [World.cell?, h]
  | 2, hj => cases hj; simp [World.cell?, h]
  | 3, hj => cases hj; simp [World.cell?, h]
  | 4, hj => cases hj; simp [World.cell?, h]
  | j + 5, hj => simp at hj
theorem aoption_at (is : Bool) (n most : Int) (w : World) : Calls Tryd.prog 86 #[.agg #[.bool is, .int .i64 n], .int .i64 most] w fun e w' => e = .returned (.agg #[.int .i64 n, .int .i64 0, .int .i64 (if is then most else 0)]) ∧ Below w.heap.size w w' :=
  aoption_any ⟨is, n⟩ most w
theorem st_step {k : Nat} {T : TypeId} {cs : Array Value} {w W W' : World} (b : Below W.heap.size W W') (t : St T k cs W) (f : Below w.heap.size w W) : St T k cs W' ∧ Below w.heap.size w W' := ⟨t.below b, f.trans (b.mono f.size)⟩
theorem st_step2 {k : Nat} {T : TypeId} {cs : Array Value} {w W W' : World} {o : Obj} (b : Below (W.alloc o).heap.size (W.alloc o) W') (t : St T k cs W) (f : Below w.heap.size w W) : St T k cs W' ∧ Below w.heap.size w W' :=
  ⟨(t.alloc o).below b, (f.alloc f.size o).trans (b.mono (by simp; have := f.size; omega))⟩

set_option maxHeartbeats 2000000 in
set_option maxRecDepth 100000 in
theorem aCheckSet_any (s : Ps) (w : World) : Calls Tryd.prog 70 #[s.val] w fun e w' => e = .returned (.int .i64 (if okPs s then 0 else 14)) ∧ Below w.heap.size w w' := by
  have hp := psLimits_any s
  obtain ⟨⟨i0, n0⟩, ⟨i1, n1⟩, ⟨i2, n2⟩, ⟨i3, n3⟩, ⟨i4, n4⟩⟩ := s
  obtain ⟨m0, hm0⟩ : ∃ m, m = (if i0 then (4095 : Int) else 0) := ⟨_, rfl⟩
  have O0 := fun w => aoption_at i0 n0 4095 w
  rw [← hm0] at O0
  obtain ⟨m1, hm1⟩ : ∃ m, m = (if i1 then (4294967295 : Int) else 0) := ⟨_, rfl⟩
  have O1 := fun w => aoption_at i1 n1 4294967295 w
  rw [← hm1] at O1
  obtain ⟨m2, hm2⟩ : ∃ m, m = (if i2 then (4294967295 : Int) else 0) := ⟨_, rfl⟩
  have O2 := fun w => aoption_at i2 n2 4294967295 w
  rw [← hm2] at O2
  obtain ⟨m3, hm3⟩ : ∃ m, m = (if i3 then (9223372036854775807 : Int) else 0) := ⟨_, rfl⟩
  have O3 := fun w => aoption_at i3 n3 9223372036854775807 w
  rw [← hm3] at O3
  obtain ⟨m4, hm4⟩ : ∃ m, m = (if i4 then (9223372036854775807 : Int) else 0) := ⟨_, rfl⟩
  have O4 := fun w => aoption_at i4 n4 9223372036854775807 w
  rw [← hm4] at O4
  simp only [psLimits, ← hm0, ← hm1, ← hm2, ← hm3, ← hm4] at hp
  clear hm0 hm1 hm2 hm3 hm4
  replace O0 := Lib.hid O0
  replace O1 := Lib.hid O1
  replace O2 := Lib.hid O2
  replace O3 := Lib.hid O3
  replace O4 := Lib.hid O4
  obtain ⟨q, hq⟩ : ∃ q, q = okPs ⟨⟨i0, n0⟩, ⟨i1, n1⟩, ⟨i2, n2⟩, ⟨i3, n3⟩, ⟨i4, n4⟩⟩ := ⟨_, rfl⟩
  rw [← hq] at hp ⊢
  simp only [Ps.val, Ps.vs, Po.vs, List.cons_append, List.nil_append]
  obtain ⟨ls, hls⟩ : ∃ ls : List Li, ls = [⟨n0, 0, m0⟩, ⟨n1, 0, m1⟩, ⟨n2, 0, m2⟩, ⟨n3, 0, m3⟩, ⟨n4, 0, m4⟩] := ⟨_, rfl⟩
  have HLI := fun b c W hb h => ainLimits_any b c [⟨n0, 0, m0⟩, ⟨n1, 0, m1⟩, ⟨n2, 0, m2⟩, ⟨n3, 0, m3⟩, ⟨n4, 0, m4⟩] W (by simp) hb h
  rw [← hls] at hp HLI
  have hz : ls.length = 5 := by rw [hls]; rfl
  rw [hp, hz] at HLI
  have hr : (if (!q) = true then (14 : Int) else 0) = if q then 0 else 14 := by cases q <;> rfl
  rw [hr] at HLI
  have HLL := Lib.hid (fun b T fr W h => hls ▸ lis5 (b := b) (T := T) (fr := fr) (w := W) (n0 := n0) (m0 := m0) (n1 := n1) (m1 := m1) (n2 := n2) (m2 := m2) (n3 := n3) (m3 := m3) (n4 := n4) (m4 := m4) h)
  obtain ⟨rr, hrr⟩ : ∃ r : Int, r = if q then 0 else 14 := ⟨_, rfl⟩
  rw [← hrr] at HLI ⊢
  replace HLI := Lib.hid HLI
  clear hp hq hls hz hr hrr
  have T0 : St 28 w.heap.size #[.bool i0, .int .i64 n0, .bool i1, .int .i64 n1, .bool i2, .int .i64 n2, .bool i3, .int .i64 n3, .bool i4, .int .i64 n4] (w.alloc (.cells #[.bool i0, .int .i64 n0, .bool i1, .int .i64 n1, .bool i2, .int .i64 n2, .bool i3, .int .i64 n3, .bool i4, .int .i64 n4] 28 (0, 0))).drew := St.new w 28 _
  have B0 : Below w.heap.size w (w.alloc (.cells #[.bool i0, .int .i64 n0, .bool i1, .int .i64 n1, .bool i2, .int .i64 n2, .bool i3, .int .i64 n3, .bool i4, .int .i64 n4] 28 (0, 0))).drew := (below_alloc1 w _).drew
  go_enter Tryd.func70, Tryd.ntmps70
  go_wp2_with fail
  go_region_held3 (fun w' => w'.cell? ⟨w.heap.size, 0, none⟩ = some (.bool i0) ∧ w'.cell? ⟨w.heap.size, 1, none⟩ = some (.int .i64 n0) ∧ w'.cell? ⟨w.heap.size, 2, none⟩ = some (.bool i1) ∧ w'.cell? ⟨w.heap.size, 3, none⟩ = some (.int .i64 n1) ∧ w'.cell? ⟨w.heap.size, 4, none⟩ = some (.bool i2) ∧ w'.cell? ⟨w.heap.size, 5, none⟩ = some (.int .i64 n2) ∧ w'.cell? ⟨w.heap.size, 6, none⟩ = some (.bool i3) ∧ w'.cell? ⟨w.heap.size, 7, none⟩ = some (.int .i64 n3) ∧ w'.cell? ⟨w.heap.size, 8, none⟩ = some (.bool i4) ∧ w'.cell? ⟨w.heap.size, 9, none⟩ = some (.int .i64 n4))
    (first | assumption | (simp; done) | go_keep)
    (first
      | (go_at_call 86; with_reducible refine (O0.out _).mono ?_; rintro e ww ⟨rfl, bb⟩; have g := st_step (k := w.heap.size) (T := 28) (cs := #[.bool i0, .int .i64 n0, .bool i1, .int .i64 n1, .bool i2, .int .i64 n2, .bool i3, .int .i64 n3, .bool i4, .int .i64 n4]) (w := w) bb (by assumption) (by assumption); have tt := g.1; have qq := tt.cell10; have ff := g.2; clear g)
      | (go_at_call 86; with_reducible refine (O1.out _).mono ?_; rintro e ww ⟨rfl, bb⟩; have g := st_step (k := w.heap.size) (T := 28) (cs := #[.bool i0, .int .i64 n0, .bool i1, .int .i64 n1, .bool i2, .int .i64 n2, .bool i3, .int .i64 n3, .bool i4, .int .i64 n4]) (w := w) bb (by assumption) (by assumption); have tt := g.1; have qq := tt.cell10; have ff := g.2; clear g)
      | (go_at_call 86; with_reducible refine (O2.out _).mono ?_; rintro e ww ⟨rfl, bb⟩; have g := st_step (k := w.heap.size) (T := 28) (cs := #[.bool i0, .int .i64 n0, .bool i1, .int .i64 n1, .bool i2, .int .i64 n2, .bool i3, .int .i64 n3, .bool i4, .int .i64 n4]) (w := w) bb (by assumption) (by assumption); have tt := g.1; have qq := tt.cell10; have ff := g.2; clear g)
      | (go_at_call 86; with_reducible refine (O3.out _).mono ?_; rintro e ww ⟨rfl, bb⟩; have g := st_step (k := w.heap.size) (T := 28) (cs := #[.bool i0, .int .i64 n0, .bool i1, .int .i64 n1, .bool i2, .int .i64 n2, .bool i3, .int .i64 n3, .bool i4, .int .i64 n4]) (w := w) bb (by assumption) (by assumption); have tt := g.1; have qq := tt.cell10; have ff := g.2; clear g)
      | (go_at_call 86; with_reducible refine (O4.out _).mono ?_; rintro e ww ⟨rfl, bb⟩; have g := st_step (k := w.heap.size) (T := 28) (cs := #[.bool i0, .int .i64 n0, .bool i1, .int .i64 n1, .bool i2, .int .i64 n2, .bool i3, .int .i64 n3, .bool i4, .int .i64 n4]) (w := w) bb (by assumption) (by assumption); have tt := g.1; have qq := tt.cell10; have ff := g.2; clear g)
      | (go_at_call 85; go_must (refine (HLI.out _ _ _ (by simp) (HLL.out _ _ _ _ (heap_alloc_new _ _))).mono ?_); rintro e ww ⟨rfl, bb⟩; have g := st_step2 (k := w.heap.size) (T := 28) (cs := #[.bool i0, .int .i64 n0, .bool i1, .int .i64 n1, .bool i2, .int .i64 n2, .bool i3, .int .i64 n3, .bool i4, .int .i64 n4]) (w := w) bb (by assumption) (by assumption); have tt := g.1; have qq := tt.cell10; have ff := g.2; clear g))
  go_wp2
  go_ret
  exact ⟨rfl, by assumption⟩
end Go.Proofs.YtdjnadgcjmlejaaDoor
