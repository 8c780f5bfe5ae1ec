/- Access bits: the program's and the reference's Access. -/
import Derived.Test.YtinhdabfiahjpaaPr
import Derived.Test.YtinhdabfiahjpaaWr
namespace Go.Proofs.Ytinhdabfiahjpaa
open Go.Joins Go.RowKit

/-- The access bits that one permission bit gives. -/
def gv (k : Int) (d : Bool) : Int := if k = 4 then 1 else if k = 2 then (if d then 28 else 12) else (if d then 2 else 32)
theorem pgiven_at (k : Int) (d : Bool) (w : World) (hk : k = 1 ∨ k = 2 ∨ k = 4) : Calls Try.prog 40 #[.int .i64 k, .bool d] w fun e w' => e = .returned (.int .i64 (gv k d)) ∧ w = w' := by
  rcases hk with rfl | rfl | rfl
  all_goals cases d
  all_goals go_enter Try.func40, Try.ntmps40
  all_goals go_wp2
  all_goals go_ret
  all_goals first
    | exact ⟨rfl, rfl⟩
    | exact ⟨congrArg (fun n => Ending.returned (Value.int .i64 n)) (show bits .or .i64 0 12 = 12 by decide +kernel), rfl⟩
    | exact ⟨congrArg (fun n => Ending.returned (Value.int .i64 n)) (show bits .or .i64 16 12 = 28 by decide +kernel), rfl⟩

def hs1 (d : Bool) (b : Int) : Int := if b % 2 = 1 then gv 1 d else 0
def hs2 (d : Bool) (b : Int) : Int := hs1 d b + if b / 2 % 2 = 1 then gv 2 d else 0
def hs4 (d : Bool) (b : Int) : Int := hs2 d b + if b / 4 % 2 = 1 then gv 4 d else 0
theorem hs4_is (d : Bool) (b : Int) : hs4 d b = pmHas d b := by
  unfold hs4 hs2 hs1 pmHas gv
  cases d
  · simp only [Bool.false_eq_true, if_false]
    repeat' split
    all_goals first | omega | (exfalso; simp_all; done)
  · simp only [if_true]
    repeat' split
    all_goals first | omega | (exfalso; simp_all; done)
theorem hs_or1 (d : Bool) : bits .or .i64 0 (gv 1 d) = gv 1 d := by cases d <;> decide +kernel
theorem hs_or2 (d : Bool) (b : Int) (h0 : 0 ≤ b) (h1 : b < 8) : bits .or .i64 (hs1 d b) (gv 2 d) = hs1 d b + gv 2 d := by
  refine upto8 (P := fun b => bits .or .i64 (hs1 d b) (gv 2 d) = hs1 d b + gv 2 d) ?_ b h0 h1
  cases d <;> decide +kernel
theorem hs_or4 (d : Bool) (b : Int) (h0 : 0 ≤ b) (h1 : b < 8) : bits .or .i64 (hs2 d b) (gv 4 d) = hs2 d b + gv 4 d := by
  refine upto8 (P := fun b => bits .or .i64 (hs2 d b) (gv 4 d) = hs2 d b + gv 4 d) ?_ b h0 h1
  cases d <;> decide +kernel
/-- A round: the bit is there, and is given for; or it isn't. -/
theorem hs_step {b k x g y : Int} {p : Prop} [Decidable p] (hk : bits .and .i64 b k = 0 ↔ ¬ p) (ho : bits .or .i64 x g = x + g) (hy : y = x + if p then g else 0) :
    ((bits .and .i64 b k != 0) = true ∧ bits .or .i64 x g = y) ∨ ((bits .and .i64 b k != 0) = false ∧ x = y) := by
  by_cases h : p
  · rw [if_pos h] at hy
    refine .inl ⟨?_, by rw [ho, hy]⟩
    have : bits .and .i64 b k ≠ 0 := fun e => (hk.1 e) h
    simpa using this
  · rw [if_neg h] at hy
    refine .inr ⟨?_, by omega⟩
    simpa using hk.2 h

set_option maxHeartbeats 4000000 in
set_option maxRecDepth 100000 in
theorem pAccess_any (a : Pa) (c : Pc) (asked : Int) (w : World) :
    Calls Try.prog 28 #[a.val, c.val, .int .i64 asked] w fun e w' => e = .returned (.int .i64 (bits .and .i64 asked (pmHas (a.ty == 2) (pmOf a c)))) ∧ Below w.heap.size w w' := by
  obtain ⟨r0, r1⟩ := pmOf_range a c
  have HB := fun w => pBits_any a c w
  obtain ⟨b, hb⟩ : ∃ b, b = pmOf a c := ⟨_, rfl⟩
  rw [← hb] at HB r0 r1 ⊢
  rw [← hs4_is]
  clear hb
  obtain ⟨ty, mode, nlink, uid, gid, size, id, gen, change, time⟩ := a
  obtain ⟨cl, seq, cu, cg⟩ := c
  simp only [Pa.val, Pc.val, Pa.vs, Pc.vs] at HB ⊢
  have HB' := Lib.hid HB
  obtain ⟨d, hd⟩ : ∃ d, d = (ty == 2) := ⟨_, rfl⟩
  obtain ⟨g1, hg1⟩ : ∃ g, g = gv 1 d := ⟨_, rfl⟩
  obtain ⟨g2, hg2⟩ : ∃ g, g = gv 2 d := ⟨_, rfl⟩
  obtain ⟨g4, hg4⟩ : ∃ g, g = gv 4 d := ⟨_, rfl⟩
  obtain ⟨x1, hx1⟩ : ∃ x, x = hs1 d b := ⟨_, rfl⟩
  obtain ⟨x2, hx2⟩ : ∃ x, x = hs2 d b := ⟨_, rfl⟩
  obtain ⟨x4, hx4⟩ : ∃ x, x = hs4 d b := ⟨_, rfl⟩
  have H1 := Lib.hid (hs_step (b := b) (k := 1) (x := 0) (g := g1) (y := x1) (p := b % 2 = 1) (bit1_iff b) (by rw [hg1, hs_or1]; omega) (by rw [hx1, hg1]; unfold hs1; omega))
  have H2 := Lib.hid (hs_step (b := b) (k := 2) (x := x1) (g := g2) (y := x2) (p := b / 2 % 2 = 1) (bit2_iff b) (by rw [hx1, hg2, hs_or2 d b r0 r1]) (by rw [hx2, hx1, hg2]; rfl))
  have H4 := Lib.hid (hs_step (b := b) (k := 4) (x := x2) (g := g4) (y := x4) (p := b / 4 % 2 = 1) (bit4_iff b) (by rw [hx2, hg4, hs_or4 d b r0 r1]) (by rw [hx4, hx2, hg4]; rfl))
  have G1 := Lib.hid (fun w => hd ▸ hg1 ▸ pgiven_at 1 d w (.inl rfl))
  have G2 := Lib.hid (fun w => hd ▸ hg2 ▸ pgiven_at 2 d w (.inr (.inl rfl)))
  have G4 := Lib.hid (fun w => hd ▸ hg4 ▸ pgiven_at 4 d w (.inr (.inr rfl)))
  rw [← hd, ← hx4]
  clear HB hg1 hg2 hg4 hx1 hx2 hx4 r0 r1
  have HD := Lib.hid hd
  clear hd
  go_enter Try.func28, Try.ntmps28
  go_wp2_with (go_at_call 22; go_must (refine (HB'.out _).mono ?_); rintro e w1 ⟨rfl, hb1⟩)
  have hbel := below_then2 hb1
  have hc0 : w1.cell? ⟨w.heap.size, 0, none⟩ = some (.int .i64 ty) := by
    rw [hb1.cell (by simp; omega)]
    simp
  clear hb1
  go_loopw [7, 9] (fun v k wr => wr = w1 ∧ ((k = .int .i64 1 ∧ v = .int .i64 0) ∨ (k = .int .i64 2 ∧ v = .int .i64 x1) ∨ (k = .int .i64 4 ∧ v = .int .i64 x2) ∨ (k = .int .i64 8 ∧ v = .int .i64 x4))) (fun _ k _ => 8 - (intOf k).toNat)
  case atStart => exact ⟨rfl, .inl ⟨rfl, rfl⟩⟩
  case round =>
    obtain ⟨rfl, hv⟩ := hrel
    rcases hv with ⟨rfl, rfl⟩ | ⟨rfl, rfl⟩ | ⟨rfl, rfl⟩ | ⟨rfl, rfl⟩
    · rcases H1.out with ⟨h1, h2⟩ | ⟨h1, h2⟩
      · have HQ := Lib.hid h2
        clear h2
        go_wp2_with (go_at_call 40; go_must (refine (G1.out _).mono ?_); rintro e w2 ⟨rfl, rfl⟩)
        go_roundw
        case rel => exact ⟨trivial, .inr (.inl ⟨rfl, by rw [HQ.out]⟩)⟩
        case measure => simp [intOf]
      · have HQ := Lib.hid h2
        clear h2
        go_wp2_with fail
        go_roundw
        case rel => exact ⟨trivial, .inr (.inl ⟨rfl, by rw [HQ.out]⟩)⟩
        case measure => simp [intOf]
    · rcases H2.out with ⟨h1, h2⟩ | ⟨h1, h2⟩
      · have HQ := Lib.hid h2
        clear h2
        go_wp2_with (go_at_call 40; go_must (refine (G2.out _).mono ?_); rintro e w2 ⟨rfl, rfl⟩)
        go_roundw
        case rel => exact ⟨trivial, .inr (.inr (.inl ⟨rfl, by rw [HQ.out]⟩))⟩
        case measure => simp [intOf]
      · have HQ := Lib.hid h2
        clear h2
        go_wp2_with fail
        go_roundw
        case rel => exact ⟨trivial, .inr (.inr (.inl ⟨rfl, by rw [HQ.out]⟩))⟩
        case measure => simp [intOf]
    · rcases H4.out with ⟨h1, h2⟩ | ⟨h1, h2⟩
      · have HQ := Lib.hid h2
        clear h2
        go_wp2_with (go_at_call 40; go_must (refine (G4.out _).mono ?_); rintro e w2 ⟨rfl, rfl⟩)
        go_roundw
        case rel => exact ⟨trivial, .inr (.inr (.inr ⟨rfl, by rw [HQ.out]⟩))⟩
        case measure => simp [intOf]
      · have HQ := Lib.hid h2
        clear h2
        go_wp2_with fail
        go_roundw
        case rel => exact ⟨trivial, .inr (.inr (.inr ⟨rfl, by rw [HQ.out]⟩))⟩
        case measure => simp [intOf]
    · go_wp2_with fail
      go_ret
      exact ⟨rfl, hbel⟩

/-- Attributes and a user, laid one behind the other. -/
def Two (k : Nat) (a : Pa) (c : Pc) (w : World) : Prop := St 40 k a.vs.toArray w ∧ St 44 (k + 1) c.vs.toArray w
theorem Two.below {k : Nat} {a : Pa} {c : Pc} {w w' : World} (h : Two k a c w) (hb : Below w.heap.size w w') : Two k a c w' := ⟨h.1.below hb, h.2.below hb⟩
theorem Two.new (a : Pa) (c : Pc) (w : World) : Two w.heap.size a c ((w.alloc (.cells a.vs.toArray 40 (0, 0))).alloc (.cells c.vs.toArray 44 (0, 0))) := by
  refine ⟨(St.new w 40 a.vs.toArray).alloc _, ?_⟩
  have := St.new (w.alloc (.cells a.vs.toArray 40 (0, 0))) 44 c.vs.toArray
  simpa using this
theorem Two.cells {k : Nat} {a : Pa} {c : Pc} {w : World} (h : Two k a c w) :
    (w.cell? ⟨k, 0, none⟩ = some (.int .i64 a.ty) ∧ w.cell? ⟨k, 1, none⟩ = some (.int .i64 a.mode) ∧ w.cell? ⟨k, 2, none⟩ = some (.int .i64 a.nlink) ∧ w.cell? ⟨k, 3, none⟩ = some (.int .i64 a.uid) ∧ w.cell? ⟨k, 4, none⟩ = some (.int .i64 a.gid) ∧
      w.cell? ⟨k, 5, none⟩ = some (.int .i64 a.size) ∧ w.cell? ⟨k, 6, none⟩ = some (.int .i64 a.id) ∧ w.cell? ⟨k, 7, none⟩ = some (.int .i64 a.gen) ∧ w.cell? ⟨k, 8, none⟩ = some (.int .i64 a.change) ∧ w.cell? ⟨k, 9, none⟩ = some (.int .i64 a.time)) ∧
    (w.cell? ⟨k + 1, 0, none⟩ = some (.int .i64 c.client) ∧ w.cell? ⟨k + 1, 1, none⟩ = some (.int .i64 c.seq) ∧ w.cell? ⟨k + 1, 2, none⟩ = some (.int .i64 c.uid) ∧ w.cell? ⟨k + 1, 3, none⟩ = some (.int .i64 c.gid)) :=
  ⟨⟨h.1.cell rfl, h.1.cell rfl, h.1.cell rfl, h.1.cell rfl, h.1.cell rfl, h.1.cell rfl, h.1.cell rfl, h.1.cell rfl, h.1.cell rfl, h.1.cell rfl⟩, h.2.cell rfl, h.2.cell rfl, h.2.cell rfl, h.2.cell rfl⟩

set_option maxHeartbeats 4000000 in
set_option maxRecDepth 100000 in
theorem pfAccess_any (a : Pa) (c : Pc) (asked : Int) (w : World) :
    Calls Try.prog 29 #[a.val, c.val, .int .i64 asked] w fun e w' => e = .returned (.int .i64 (bits .and .i64 (pmHas (a.ty == 2) (pmOf a c)) asked)) ∧ Below w.heap.size w w' := by
  have HM := fun k w => pfMay_any a c k w
  obtain ⟨b, hb⟩ : ∃ b, b = pmOf a c := ⟨_, rfl⟩
  rw [← hb] at HM ⊢
  clear hb
  obtain ⟨ty, mode, nlink, uid, gid, size, id, gen, change, time⟩ := a
  obtain ⟨cl, seq, cu, cg⟩ := c
  simp only [Pa.val, Pc.val, Pa.vs, Pc.vs] at HM ⊢
  have M1 := Lib.hid (fun w => may_1 b ▸ HM 1 w)
  have M2 := Lib.hid (fun w => may_2 b ▸ HM 2 w)
  have M4 := Lib.hid (fun w => may_4 b ▸ HM 4 w)
  clear HM
  obtain ⟨q1, hq1⟩ : ∃ q, q = decide (b % 2 = 1) := ⟨_, rfl⟩
  obtain ⟨q2, hq2⟩ : ∃ q, q = decide (b / 2 % 2 = 1) := ⟨_, rfl⟩
  obtain ⟨q4, hq4⟩ : ∃ q, q = decide (b / 4 % 2 = 1) := ⟨_, rfl⟩
  rw [← hq1] at M1
  rw [← hq2] at M2
  rw [← hq4] at M4
  have hh : pmHas (ty == 2) b = (if q4 then 1 else 0) + (if q2 then 12 else 0) + (if (ty == 2) then (if q1 then 2 else 0) + (if q2 then 16 else 0) else if q1 then 32 else 0) := by
    rw [hq1, hq2, hq4]
    simp only [decide_eq_true_eq]
    rfl
  rw [hh]
  clear hh hq1 hq2 hq4
  by_cases ht : ty = 2
  · subst ht
    cases q1 <;> cases q2 <;> cases q4
    all_goals
      go_enter Try.func29, Try.ntmps29
      go_wp2_with fail
      go_must (refine (M4.out _).mono ?_)
      rintro e w1 ⟨rfl, b1⟩
      have f1 := below_then2 b1
      have t1 := (Two.new ⟨2, mode, nlink, uid, gid, size, id, gen, change, time⟩ ⟨cl, seq, cu, cg⟩ w).below b1
      clear b1
      obtain ⟨⟨c0, c1, c2, c3, c4, c5, c6, c7, c8, c9⟩, d0, d1, d2, d3⟩ := t1.cells
      simp only [] at c0 c1 c2 c3 c4 c5 c6 c7 c8 c9 d0 d1 d2 d3
      go_wp2_with fail
      go_must (refine (M2.out _).mono ?_)
      rintro e w2 ⟨rfl, b2⟩
      have f2 := f1.trans (b2.mono f1.size)
      have t2 := t1.below b2
      clear b2 t1 c0 c1 c2 c3 c4 c5 c6 c7 c8 c9 d0 d1 d2 d3
      obtain ⟨⟨c0, c1, c2, c3, c4, c5, c6, c7, c8, c9⟩, d0, d1, d2, d3⟩ := t2.cells
      simp only [] at c0 c1 c2 c3 c4 c5 c6 c7 c8 c9 d0 d1 d2 d3
      go_wp2_with fail
      go_must (refine (M1.out _).mono ?_)
      rintro e w3 ⟨rfl, b3⟩
      have f3 := f2.trans (b3.mono f2.size)
      have t3 := t2.below b3
      clear b3 t2 c0 c1 c2 c3 c4 c5 c6 c7 c8 c9 d0 d1 d2 d3
      obtain ⟨⟨c0, c1, c2, c3, c4, c5, c6, c7, c8, c9⟩, d0, d1, d2, d3⟩ := t3.cells
      simp only [] at c0 c1 c2 c3 c4 c5 c6 c7 c8 c9 d0 d1 d2 d3
      go_wp2_with fail
      go_must (refine (M2.out _).mono ?_)
      rintro e w4 ⟨rfl, b4⟩
      have f4 := f3.trans (b4.mono f3.size)
      have t4 := t3.below b4
      clear b4 t3 c0 c1 c2 c3 c4 c5 c6 c7 c8 c9 d0 d1 d2 d3
      go_wp2_with fail
      go_ret
      exact ⟨rfl, f4⟩
  · have ht' : (ty == 2) = false := by simpa using ht
    rw [ht']
    cases q1 <;> cases q2 <;> cases q4
    all_goals
      go_enter Try.func29, Try.ntmps29
      go_wp2_with fail
      go_must (refine (M4.out _).mono ?_)
      rintro e w1 ⟨rfl, b1⟩
      have f1 := below_then2 b1
      have t1 := (Two.new ⟨ty, mode, nlink, uid, gid, size, id, gen, change, time⟩ ⟨cl, seq, cu, cg⟩ w).below b1
      clear b1
      obtain ⟨⟨c0, c1, c2, c3, c4, c5, c6, c7, c8, c9⟩, d0, d1, d2, d3⟩ := t1.cells
      simp only [] at c0 c1 c2 c3 c4 c5 c6 c7 c8 c9 d0 d1 d2 d3
      go_wp2_with fail
      go_must (refine (M2.out _).mono ?_)
      rintro e w2 ⟨rfl, b2⟩
      have f2 := f1.trans (b2.mono f1.size)
      have t2 := t1.below b2
      clear b2 t1 c0 c1 c2 c3 c4 c5 c6 c7 c8 c9 d0 d1 d2 d3
      obtain ⟨⟨c0, c1, c2, c3, c4, c5, c6, c7, c8, c9⟩, d0, d1, d2, d3⟩ := t2.cells
      simp only [] at c0 c1 c2 c3 c4 c5 c6 c7 c8 c9 d0 d1 d2 d3
      go_wp2_with fail
      go_must (refine (M1.out _).mono ?_)
      rintro e w3 ⟨rfl, b3⟩
      have f3 := f2.trans (b3.mono f2.size)
      have t3 := t2.below b3
      clear b3 t2 c0 c1 c2 c3 c4 c5 c6 c7 c8 c9 d0 d1 d2 d3
      go_wp2_with fail
      go_ret
      exact ⟨rfl, f3⟩
end Go.Proofs.Ytinhdabfiahjpaa
