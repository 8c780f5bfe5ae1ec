/- Messages: the reference's Owner and Check. -/
import Derived.Test.YtimbcombhdgjiaaDoorMr
namespace Go.Proofs.YtimbcombhdgjiaaDoor
open Go.RowKit
set_option linter.unusedSimpArgs false
set_option linter.unusedVariables false

set_option maxRecDepth 100000 in
set_option maxHeartbeats 2000000 in
theorem mfOwner_any (c s u g : Int) (w : World) : Calls Tryd.prog 19 #[.agg #[.int .i64 c, .int .i64 s, .int .i64 u, .int .i64 g]] w fun e w' => e = .returned (.bool (okOwner c s u g)) ∧ Below w.heap.size w w' := by
  have e0 : okOwner c s u g = (decide (c ≥ 1) && (decide (c ≤ 4) && (num32 s 1 && (num32 u 0 && num32 g 0)))) := by simp [okOwner, Bool.and_assoc]
  rw [e0]
  have HS := fun w => mfnum_any s 1 w
  have HU := fun w => mfnum_any u 0 w
  have HG := fun w => mfnum_any g 0 w
  obtain ⟨q1, h1⟩ : ∃ b, b = num32 s 1 := ⟨_, rfl⟩
  obtain ⟨q2, h2⟩ : ∃ b, b = num32 u 0 := ⟨_, rfl⟩
  obtain ⟨q3, h3⟩ : ∃ b, b = num32 g 0 := ⟨_, rfl⟩
  rw [← h1] at HS ⊢
  rw [← h2] at HU ⊢
  rw [← h3] at HG ⊢
  obtain ⟨b1, hb1⟩ : ∃ b, decide (c ≥ 1) = b := ⟨_, rfl⟩
  obtain ⟨b2, hb2⟩ : ∃ b, decide (c ≤ 4) = b := ⟨_, rfl⟩
  rw [hb1, hb2]
  replace HS := Lib.hid HS
  replace HU := Lib.hid HU
  replace HG := Lib.hid HG
  clear e0 h1 h2 h3
  cases b1
  · go_enter Tryd.func19, Tryd.ntmps19
    go_wp2_with (go_at_call 18; (first | (with_reducible refine (HS.out _).mono ?_) | (with_reducible refine (HU.out _).mono ?_) | (with_reducible refine (HG.out _).mono ?_)); rintro e w1 ⟨rfl, rfl⟩)
    go_ret
    exact ⟨rfl, below_one _ _⟩
  · cases b2
    · go_enter Tryd.func19, Tryd.ntmps19
      go_wp2_with (go_at_call 18; (first | (with_reducible refine (HS.out _).mono ?_) | (with_reducible refine (HU.out _).mono ?_) | (with_reducible refine (HG.out _).mono ?_)); rintro e w1 ⟨rfl, rfl⟩)
      go_ret
      exact ⟨rfl, below_one _ _⟩
    · cases q1
      · go_enter Tryd.func19, Tryd.ntmps19
        go_wp2_with (go_at_call 18; (first | (with_reducible refine (HS.out _).mono ?_) | (with_reducible refine (HU.out _).mono ?_) | (with_reducible refine (HG.out _).mono ?_)); rintro e w1 ⟨rfl, rfl⟩)
        go_ret
        exact ⟨rfl, below_one _ _⟩
      · cases q2
        · go_enter Tryd.func19, Tryd.ntmps19
          go_wp2_with (go_at_call 18; (first | (with_reducible refine (HS.out _).mono ?_) | (with_reducible refine (HU.out _).mono ?_) | (with_reducible refine (HG.out _).mono ?_)); rintro e w1 ⟨rfl, rfl⟩)
          go_ret
          exact ⟨rfl, below_one _ _⟩
        · go_enter Tryd.func19, Tryd.ntmps19
          go_wp2_with (go_at_call 18; (first | (with_reducible refine (HS.out _).mono ?_) | (with_reducible refine (HU.out _).mono ?_) | (with_reducible refine (HG.out _).mono ?_)); rintro e w1 ⟨rfl, rfl⟩)
          go_ret
          exact ⟨rfl, below_one _ _⟩

set_option maxRecDepth 100000 in
set_option maxHeartbeats 8000000 in
theorem mfCheck_any (m : Mg) (w : World) : Calls Tryd.prog 8 #[.agg m.arr] w fun e w' => e = .returned (.bool (okMg m)) ∧ Below w.heap.size w w' := by
  have e0 : okMg m = (num32 m.xid 0 && (!decide ((m.body.size : Int) > 2048) && (decide (m.body.size % 4 = 0) && (if m.ans then (decide (m.proc = 0) && (decide (m.client = 0 ∧ m.seq = 0 ∧ m.uid = 0 ∧ m.gid = 0) && (decide (m.accept ≥ 0) && (decide (m.accept ≤ 4) && ((decide (m.accept = 0) || (decide (m.body = ⟨#[]⟩) && !m.again)) && decide ((m.body.size : Int) ≤ 2024))))))
      else (decide (m.proc ≥ 0) && (decide (m.proc ≤ 21) && (okOwner m.client m.seq m.uid m.gid && (decide (m.accept = 0) && (!m.again && decide ((m.body.size : Int) ≤ 1992)))))))))) := by
    have a1 : decide (m.body.size ≤ 2048) = !decide ((m.body.size : Int) > 2048) := by
      rw [Bool.eq_iff_iff]; simp; omega
    have a2 : decide (m.body.size ≤ 2024) = decide ((m.body.size : Int) ≤ 2024) := by
      rw [Bool.eq_iff_iff]; simp; omega
    have a3 : decide (m.body.size ≤ 1992) = decide ((m.body.size : Int) ≤ 1992) := by
      rw [Bool.eq_iff_iff]; simp; omega
    have a4 : (decide (m.client = 0) && (decide (m.seq = 0) && (decide (m.uid = 0) && decide (m.gid = 0)))) = decide (m.client = 0 ∧ m.seq = 0 ∧ m.uid = 0 ∧ m.gid = 0) := by
      rw [Bool.eq_iff_iff]; simp
    unfold okMg
    rw [a1, a2, a3, ← a4]
    cases m.ans <;> simp only [Bool.and_assoc, if_true, Bool.false_eq_true, if_false, ge_iff_le]
  rw [e0]
  clear e0
  obtain ⟨xid, ans, again, proc, client, seq, uid, gid, accept, body⟩ := m
  dsimp only [Mg.arr]
  have HX := fun w => mfnum_any xid 0 w
  have HO := fun w => mfOwner_any client seq uid gid w
  have heq := fun W => eq_cred ⟨client, seq, uid, gid⟩ ⟨0, 0, 0, 0⟩ 9998 W
  have hne : ∀ W, (binOp .eql 23 (.agg #[.int .i64 client, .int .i64 seq, .int .i64 uid, .int .i64 gid]) (.agg #[.int .i64 0, .int .i64 0, .int .i64 0, .int .i64 0])).run Tryd.prog W = .ok (.bool (decide (client = 0 ∧ seq = 0 ∧ uid = 0 ∧ gid = 0))) W := by
    intro W
    rw [run_eql_struct, show (10000 : Nat) = 9998 + 2 from rfl]
    have := heq W
    dsimp only at this
    rw [this]
    rfl
  have hqg : ∀ (W : World) (x y : Operand), (eqGuard .eql 23 x y (.agg #[.int .i64 client, .int .i64 seq, .int .i64 uid, .int .i64 gid]) (.agg #[.int .i64 0, .int .i64 0, .int .i64 0, .int .i64 0])).run Tryd.prog W = .ok () W := fun W x y => run_eqGuard_agg W .eql 23 x y _ _ (by kernel_rfl)
  have hbe : decide (body = ⟨#[]⟩) = body.toList.isEmpty := by
    rw [Lib.toList_data, Bool.eq_iff_iff]
    simp only [decide_eq_true_eq, List.isEmpty_iff]
    exact ⟨fun e => by rw [e], fun e => by apply ByteArray.ext; exact Array.toList_eq_nil_iff.1 e⟩
  rw [hbe]
  have hr : decide (body.size % 4 = 0) = !(((body.size : Int) % 4) != 0) := by
    rw [Bool.eq_iff_iff]; simp; omega
  rw [hr]
  clear heq hbe hr
  have st := St.new w 25 #[.int .i64 xid, .bool ans, .bool again, .int .i64 proc, .int .i64 client, .int .i64 seq, .int .i64 uid, .int .i64 gid, .int .i64 accept, .string body]
  have c0 : (w.alloc (.cells #[.int .i64 xid, .bool ans, .bool again, .int .i64 proc, .int .i64 client, .int .i64 seq, .int .i64 uid, .int .i64 gid, .int .i64 accept, .string body] 25 (0, 0))).cell? ⟨w.heap.size, 0, none⟩ = some (.int .i64 xid) := st.cell rfl
  have c1 : (w.alloc (.cells #[.int .i64 xid, .bool ans, .bool again, .int .i64 proc, .int .i64 client, .int .i64 seq, .int .i64 uid, .int .i64 gid, .int .i64 accept, .string body] 25 (0, 0))).cell? ⟨w.heap.size, 1, none⟩ = some (.bool ans) := st.cell rfl
  have c2 : (w.alloc (.cells #[.int .i64 xid, .bool ans, .bool again, .int .i64 proc, .int .i64 client, .int .i64 seq, .int .i64 uid, .int .i64 gid, .int .i64 accept, .string body] 25 (0, 0))).cell? ⟨w.heap.size, 2, none⟩ = some (.bool again) := st.cell rfl
  have c3 : (w.alloc (.cells #[.int .i64 xid, .bool ans, .bool again, .int .i64 proc, .int .i64 client, .int .i64 seq, .int .i64 uid, .int .i64 gid, .int .i64 accept, .string body] 25 (0, 0))).cell? ⟨w.heap.size, 3, none⟩ = some (.int .i64 proc) := st.cell rfl
  have c4 : (w.alloc (.cells #[.int .i64 xid, .bool ans, .bool again, .int .i64 proc, .int .i64 client, .int .i64 seq, .int .i64 uid, .int .i64 gid, .int .i64 accept, .string body] 25 (0, 0))).cell? ⟨w.heap.size, 4, none⟩ = some (.int .i64 client) := st.cell rfl
  have c5 : (w.alloc (.cells #[.int .i64 xid, .bool ans, .bool again, .int .i64 proc, .int .i64 client, .int .i64 seq, .int .i64 uid, .int .i64 gid, .int .i64 accept, .string body] 25 (0, 0))).cell? ⟨w.heap.size, 5, none⟩ = some (.int .i64 seq) := st.cell rfl
  have c6 : (w.alloc (.cells #[.int .i64 xid, .bool ans, .bool again, .int .i64 proc, .int .i64 client, .int .i64 seq, .int .i64 uid, .int .i64 gid, .int .i64 accept, .string body] 25 (0, 0))).cell? ⟨w.heap.size, 6, none⟩ = some (.int .i64 uid) := st.cell rfl
  have c7 : (w.alloc (.cells #[.int .i64 xid, .bool ans, .bool again, .int .i64 proc, .int .i64 client, .int .i64 seq, .int .i64 uid, .int .i64 gid, .int .i64 accept, .string body] 25 (0, 0))).cell? ⟨w.heap.size, 7, none⟩ = some (.int .i64 gid) := st.cell rfl
  have c8 : (w.alloc (.cells #[.int .i64 xid, .bool ans, .bool again, .int .i64 proc, .int .i64 client, .int .i64 seq, .int .i64 uid, .int .i64 gid, .int .i64 accept, .string body] 25 (0, 0))).cell? ⟨w.heap.size, 8, none⟩ = some (.int .i64 accept) := st.cell rfl
  have c9 : (w.alloc (.cells #[.int .i64 xid, .bool ans, .bool again, .int .i64 proc, .int .i64 client, .int .i64 seq, .int .i64 uid, .int .i64 gid, .int .i64 accept, .string body] 25 (0, 0))).cell? ⟨w.heap.size, 9, none⟩ = some (.string body) := st.cell rfl
  obtain ⟨q0, hq0⟩ : ∃ b, num32 xid 0 = b := ⟨_, rfl⟩
  rw [hq0] at HX ⊢
  obtain ⟨t1, ht1⟩ : ∃ b, decide ((body.size : Int) > 2048) = b := ⟨_, rfl⟩
  rw [ht1]
  obtain ⟨t2, ht2⟩ : ∃ b, (((body.size : Int) % 4) != 0) = b := ⟨_, rfl⟩
  rw [ht2]
  obtain ⟨z0, hz0⟩ : ∃ b, decide (proc = 0) = b := ⟨_, rfl⟩
  rw [hz0]
  have kz0 : (proc == 0) = z0 := hz0
  obtain ⟨kc, hkc⟩ : ∃ b, decide (client = 0 ∧ seq = 0 ∧ uid = 0 ∧ gid = 0) = b := ⟨_, rfl⟩
  rw [hkc] at hne ⊢
  obtain ⟨g0, hg0⟩ : ∃ b, decide (accept ≥ 0) = b := ⟨_, rfl⟩
  rw [hg0]
  obtain ⟨g4, hg4⟩ : ∃ b, decide (accept ≤ 4) = b := ⟨_, rfl⟩
  rw [hg4]
  obtain ⟨za, hza⟩ : ∃ b, decide (accept = 0) = b := ⟨_, rfl⟩
  rw [hza]
  have kza : (accept == 0) = za := hza
  obtain ⟨em, hem⟩ : ∃ b, body.toList.isEmpty = b := ⟨_, rfl⟩
  rw [hem]
  obtain ⟨bs, hbs⟩ : ∃ b, decide ((body.size : Int) ≤ 2024) = b := ⟨_, rfl⟩
  rw [hbs]
  obtain ⟨p0, hp0⟩ : ∃ b, decide (proc ≥ 0) = b := ⟨_, rfl⟩
  rw [hp0]
  obtain ⟨p1, hp1⟩ : ∃ b, decide (proc ≤ 21) = b := ⟨_, rfl⟩
  rw [hp1]
  obtain ⟨ow, how⟩ : ∃ b, okOwner client seq uid gid = b := ⟨_, rfl⟩
  rw [how] at HO ⊢
  obtain ⟨bt, hbt⟩ : ∃ b, decide ((body.size : Int) ≤ 1992) = b := ⟨_, rfl⟩
  rw [hbt]
  replace HX := Lib.hid HX
  replace HO := Lib.hid HO
  have L0 := Lib.hid (below_one w (.cells #[.int .i64 xid, .bool ans, .bool again, .int .i64 proc, .int .i64 client, .int .i64 seq, .int .i64 uid, .int .i64 gid, .int .i64 accept, .string body] 25 (0, 0)))
  have ST := Lib.hid st
  clear st hq0 hkc how
  cases q0
  · try simp only [Bool.false_and, Bool.and_false, Bool.true_and, Bool.and_true, Bool.not_true, Bool.not_false, Bool.or_false, Bool.false_or, Bool.true_or, if_true, Bool.false_eq_true, if_false]
    go_enter Tryd.func8, Tryd.ntmps8
    go_wp2_with (first | (go_at_call 18; go_must (refine (HX.out _).mono ?_); rintro e w1 ⟨rfl, rfl⟩) | (go_at_call 19; go_must (refine (HO.out _).mono ?_); rintro e w1 ⟨rfl, b1⟩; have L1 := Lib.hid (L0.out.trans (b1.mono L0.out.size)); have S1 := ST.out.below b1; have x8 := S1.cell (j := 8) rfl; have x2 := S1.cell (j := 2) rfl; have x9 := S1.cell (j := 9) rfl; clear S1 b1))
    go_ret
    first | exact ⟨rfl, L1.out⟩ | exact ⟨rfl, L0.out⟩
  · cases t1
    · cases t2
      · cases ans
        · cases p0
          · try simp only [Bool.false_and, Bool.and_false, Bool.true_and, Bool.and_true, Bool.not_true, Bool.not_false, Bool.or_false, Bool.false_or, Bool.true_or, if_true, Bool.false_eq_true, if_false]
            go_enter Tryd.func8, Tryd.ntmps8
            go_wp2_with (first | (go_at_call 18; go_must (refine (HX.out _).mono ?_); rintro e w1 ⟨rfl, rfl⟩) | (go_at_call 19; go_must (refine (HO.out _).mono ?_); rintro e w1 ⟨rfl, b1⟩; have L1 := Lib.hid (L0.out.trans (b1.mono L0.out.size)); have S1 := ST.out.below b1; have x8 := S1.cell (j := 8) rfl; have x2 := S1.cell (j := 2) rfl; have x9 := S1.cell (j := 9) rfl; clear S1 b1))
            go_ret
            first | exact ⟨rfl, L1.out⟩ | exact ⟨rfl, L0.out⟩
          · cases p1
            · try simp only [Bool.false_and, Bool.and_false, Bool.true_and, Bool.and_true, Bool.not_true, Bool.not_false, Bool.or_false, Bool.false_or, Bool.true_or, if_true, Bool.false_eq_true, if_false]
              go_enter Tryd.func8, Tryd.ntmps8
              go_wp2_with (first | (go_at_call 18; go_must (refine (HX.out _).mono ?_); rintro e w1 ⟨rfl, rfl⟩) | (go_at_call 19; go_must (refine (HO.out _).mono ?_); rintro e w1 ⟨rfl, b1⟩; have L1 := Lib.hid (L0.out.trans (b1.mono L0.out.size)); have S1 := ST.out.below b1; have x8 := S1.cell (j := 8) rfl; have x2 := S1.cell (j := 2) rfl; have x9 := S1.cell (j := 9) rfl; clear S1 b1))
              go_ret
              first | exact ⟨rfl, L1.out⟩ | exact ⟨rfl, L0.out⟩
            · cases ow
              · try simp only [Bool.false_and, Bool.and_false, Bool.true_and, Bool.and_true, Bool.not_true, Bool.not_false, Bool.or_false, Bool.false_or, Bool.true_or, if_true, Bool.false_eq_true, if_false]
                go_enter Tryd.func8, Tryd.ntmps8
                go_wp2_with (first | (go_at_call 18; go_must (refine (HX.out _).mono ?_); rintro e w1 ⟨rfl, rfl⟩) | (go_at_call 19; go_must (refine (HO.out _).mono ?_); rintro e w1 ⟨rfl, b1⟩; have L1 := Lib.hid (L0.out.trans (b1.mono L0.out.size)); have S1 := ST.out.below b1; have x8 := S1.cell (j := 8) rfl; have x2 := S1.cell (j := 2) rfl; have x9 := S1.cell (j := 9) rfl; clear S1 b1))
                go_ret
                first | exact ⟨rfl, L1.out⟩ | exact ⟨rfl, L0.out⟩
              · cases za
                · try simp only [Bool.false_and, Bool.and_false, Bool.true_and, Bool.and_true, Bool.not_true, Bool.not_false, Bool.or_false, Bool.false_or, Bool.true_or, if_true, Bool.false_eq_true, if_false]
                  go_enter Tryd.func8, Tryd.ntmps8
                  go_wp2_with (first | (go_at_call 18; go_must (refine (HX.out _).mono ?_); rintro e w1 ⟨rfl, rfl⟩) | (go_at_call 19; go_must (refine (HO.out _).mono ?_); rintro e w1 ⟨rfl, b1⟩; have L1 := Lib.hid (L0.out.trans (b1.mono L0.out.size)); have S1 := ST.out.below b1; have x8 := S1.cell (j := 8) rfl; have x2 := S1.cell (j := 2) rfl; have x9 := S1.cell (j := 9) rfl; clear S1 b1))
                  go_ret
                  first | exact ⟨rfl, L1.out⟩ | exact ⟨rfl, L0.out⟩
                · cases again
                  · try simp only [Bool.false_and, Bool.and_false, Bool.true_and, Bool.and_true, Bool.not_true, Bool.not_false, Bool.or_false, Bool.false_or, Bool.true_or, if_true, Bool.false_eq_true, if_false]
                    go_enter Tryd.func8, Tryd.ntmps8
                    go_wp2_with (first | (go_at_call 18; go_must (refine (HX.out _).mono ?_); rintro e w1 ⟨rfl, rfl⟩) | (go_at_call 19; go_must (refine (HO.out _).mono ?_); rintro e w1 ⟨rfl, b1⟩; have L1 := Lib.hid (L0.out.trans (b1.mono L0.out.size)); have S1 := ST.out.below b1; have x8 := S1.cell (j := 8) rfl; have x2 := S1.cell (j := 2) rfl; have x9 := S1.cell (j := 9) rfl; clear S1 b1))
                    go_ret
                    first | exact ⟨rfl, L1.out⟩ | exact ⟨rfl, L0.out⟩
                  · try simp only [Bool.false_and, Bool.and_false, Bool.true_and, Bool.and_true, Bool.not_true, Bool.not_false, Bool.or_false, Bool.false_or, Bool.true_or, if_true, Bool.false_eq_true, if_false]
                    go_enter Tryd.func8, Tryd.ntmps8
                    go_wp2_with (first | (go_at_call 18; go_must (refine (HX.out _).mono ?_); rintro e w1 ⟨rfl, rfl⟩) | (go_at_call 19; go_must (refine (HO.out _).mono ?_); rintro e w1 ⟨rfl, b1⟩; have L1 := Lib.hid (L0.out.trans (b1.mono L0.out.size)); have S1 := ST.out.below b1; have x8 := S1.cell (j := 8) rfl; have x2 := S1.cell (j := 2) rfl; have x9 := S1.cell (j := 9) rfl; clear S1 b1))
                    go_ret
                    first | exact ⟨rfl, L1.out⟩ | exact ⟨rfl, L0.out⟩
        · cases z0
          · try simp only [Bool.false_and, Bool.and_false, Bool.true_and, Bool.and_true, Bool.not_true, Bool.not_false, Bool.or_false, Bool.false_or, Bool.true_or, if_true, Bool.false_eq_true, if_false]
            go_enter Tryd.func8, Tryd.ntmps8
            go_wp2_with (first | (go_at_call 18; go_must (refine (HX.out _).mono ?_); rintro e w1 ⟨rfl, rfl⟩) | (go_at_call 19; go_must (refine (HO.out _).mono ?_); rintro e w1 ⟨rfl, b1⟩; have L1 := Lib.hid (L0.out.trans (b1.mono L0.out.size)); have S1 := ST.out.below b1; have x8 := S1.cell (j := 8) rfl; have x2 := S1.cell (j := 2) rfl; have x9 := S1.cell (j := 9) rfl; clear S1 b1))
            go_ret
            first | exact ⟨rfl, L1.out⟩ | exact ⟨rfl, L0.out⟩
          · cases kc
            · try simp only [Bool.false_and, Bool.and_false, Bool.true_and, Bool.and_true, Bool.not_true, Bool.not_false, Bool.or_false, Bool.false_or, Bool.true_or, if_true, Bool.false_eq_true, if_false]
              go_enter Tryd.func8, Tryd.ntmps8
              go_wp2_with (first | (go_at_call 18; go_must (refine (HX.out _).mono ?_); rintro e w1 ⟨rfl, rfl⟩) | (go_at_call 19; go_must (refine (HO.out _).mono ?_); rintro e w1 ⟨rfl, b1⟩; have L1 := Lib.hid (L0.out.trans (b1.mono L0.out.size)); have S1 := ST.out.below b1; have x8 := S1.cell (j := 8) rfl; have x2 := S1.cell (j := 2) rfl; have x9 := S1.cell (j := 9) rfl; clear S1 b1))
              go_ret
              first | exact ⟨rfl, L1.out⟩ | exact ⟨rfl, L0.out⟩
            · cases g0
              · try simp only [Bool.false_and, Bool.and_false, Bool.true_and, Bool.and_true, Bool.not_true, Bool.not_false, Bool.or_false, Bool.false_or, Bool.true_or, if_true, Bool.false_eq_true, if_false]
                go_enter Tryd.func8, Tryd.ntmps8
                go_wp2_with (first | (go_at_call 18; go_must (refine (HX.out _).mono ?_); rintro e w1 ⟨rfl, rfl⟩) | (go_at_call 19; go_must (refine (HO.out _).mono ?_); rintro e w1 ⟨rfl, b1⟩; have L1 := Lib.hid (L0.out.trans (b1.mono L0.out.size)); have S1 := ST.out.below b1; have x8 := S1.cell (j := 8) rfl; have x2 := S1.cell (j := 2) rfl; have x9 := S1.cell (j := 9) rfl; clear S1 b1))
                go_ret
                first | exact ⟨rfl, L1.out⟩ | exact ⟨rfl, L0.out⟩
              · cases g4
                · try simp only [Bool.false_and, Bool.and_false, Bool.true_and, Bool.and_true, Bool.not_true, Bool.not_false, Bool.or_false, Bool.false_or, Bool.true_or, if_true, Bool.false_eq_true, if_false]
                  go_enter Tryd.func8, Tryd.ntmps8
                  go_wp2_with (first | (go_at_call 18; go_must (refine (HX.out _).mono ?_); rintro e w1 ⟨rfl, rfl⟩) | (go_at_call 19; go_must (refine (HO.out _).mono ?_); rintro e w1 ⟨rfl, b1⟩; have L1 := Lib.hid (L0.out.trans (b1.mono L0.out.size)); have S1 := ST.out.below b1; have x8 := S1.cell (j := 8) rfl; have x2 := S1.cell (j := 2) rfl; have x9 := S1.cell (j := 9) rfl; clear S1 b1))
                  go_ret
                  first | exact ⟨rfl, L1.out⟩ | exact ⟨rfl, L0.out⟩
                · cases za
                  · cases em
                    · try simp only [Bool.false_and, Bool.and_false, Bool.true_and, Bool.and_true, Bool.not_true, Bool.not_false, Bool.or_false, Bool.false_or, Bool.true_or, if_true, Bool.false_eq_true, if_false]
                      go_enter Tryd.func8, Tryd.ntmps8
                      go_wp2_with (first | (go_at_call 18; go_must (refine (HX.out _).mono ?_); rintro e w1 ⟨rfl, rfl⟩) | (go_at_call 19; go_must (refine (HO.out _).mono ?_); rintro e w1 ⟨rfl, b1⟩; have L1 := Lib.hid (L0.out.trans (b1.mono L0.out.size)); have S1 := ST.out.below b1; have x8 := S1.cell (j := 8) rfl; have x2 := S1.cell (j := 2) rfl; have x9 := S1.cell (j := 9) rfl; clear S1 b1))
                      go_ret
                      first | exact ⟨rfl, L1.out⟩ | exact ⟨rfl, L0.out⟩
                    · cases again
                      · try simp only [Bool.false_and, Bool.and_false, Bool.true_and, Bool.and_true, Bool.not_true, Bool.not_false, Bool.or_false, Bool.false_or, Bool.true_or, if_true, Bool.false_eq_true, if_false]
                        go_enter Tryd.func8, Tryd.ntmps8
                        go_wp2_with (first | (go_at_call 18; go_must (refine (HX.out _).mono ?_); rintro e w1 ⟨rfl, rfl⟩) | (go_at_call 19; go_must (refine (HO.out _).mono ?_); rintro e w1 ⟨rfl, b1⟩; have L1 := Lib.hid (L0.out.trans (b1.mono L0.out.size)); have S1 := ST.out.below b1; have x8 := S1.cell (j := 8) rfl; have x2 := S1.cell (j := 2) rfl; have x9 := S1.cell (j := 9) rfl; clear S1 b1))
                        go_ret
                        first | exact ⟨rfl, L1.out⟩ | exact ⟨rfl, L0.out⟩
                      · try simp only [Bool.false_and, Bool.and_false, Bool.true_and, Bool.and_true, Bool.not_true, Bool.not_false, Bool.or_false, Bool.false_or, Bool.true_or, if_true, Bool.false_eq_true, if_false]
                        go_enter Tryd.func8, Tryd.ntmps8
                        go_wp2_with (first | (go_at_call 18; go_must (refine (HX.out _).mono ?_); rintro e w1 ⟨rfl, rfl⟩) | (go_at_call 19; go_must (refine (HO.out _).mono ?_); rintro e w1 ⟨rfl, b1⟩; have L1 := Lib.hid (L0.out.trans (b1.mono L0.out.size)); have S1 := ST.out.below b1; have x8 := S1.cell (j := 8) rfl; have x2 := S1.cell (j := 2) rfl; have x9 := S1.cell (j := 9) rfl; clear S1 b1))
                        go_ret
                        first | exact ⟨rfl, L1.out⟩ | exact ⟨rfl, L0.out⟩
                  · try simp only [Bool.false_and, Bool.and_false, Bool.true_and, Bool.and_true, Bool.not_true, Bool.not_false, Bool.or_false, Bool.false_or, Bool.true_or, if_true, Bool.false_eq_true, if_false]
                    go_enter Tryd.func8, Tryd.ntmps8
                    go_wp2_with (first | (go_at_call 18; go_must (refine (HX.out _).mono ?_); rintro e w1 ⟨rfl, rfl⟩) | (go_at_call 19; go_must (refine (HO.out _).mono ?_); rintro e w1 ⟨rfl, b1⟩; have L1 := Lib.hid (L0.out.trans (b1.mono L0.out.size)); have S1 := ST.out.below b1; have x8 := S1.cell (j := 8) rfl; have x2 := S1.cell (j := 2) rfl; have x9 := S1.cell (j := 9) rfl; clear S1 b1))
                    go_ret
                    first | exact ⟨rfl, L1.out⟩ | exact ⟨rfl, L0.out⟩
      · try simp only [Bool.false_and, Bool.and_false, Bool.true_and, Bool.and_true, Bool.not_true, Bool.not_false, Bool.or_false, Bool.false_or, Bool.true_or, if_true, Bool.false_eq_true, if_false]
        go_enter Tryd.func8, Tryd.ntmps8
        go_wp2_with (first | (go_at_call 18; go_must (refine (HX.out _).mono ?_); rintro e w1 ⟨rfl, rfl⟩) | (go_at_call 19; go_must (refine (HO.out _).mono ?_); rintro e w1 ⟨rfl, b1⟩; have L1 := Lib.hid (L0.out.trans (b1.mono L0.out.size)); have S1 := ST.out.below b1; have x8 := S1.cell (j := 8) rfl; have x2 := S1.cell (j := 2) rfl; have x9 := S1.cell (j := 9) rfl; clear S1 b1))
        go_ret
        first | exact ⟨rfl, L1.out⟩ | exact ⟨rfl, L0.out⟩
    · try simp only [Bool.false_and, Bool.and_false, Bool.true_and, Bool.and_true, Bool.not_true, Bool.not_false, Bool.or_false, Bool.false_or, Bool.true_or, if_true, Bool.false_eq_true, if_false]
      go_enter Tryd.func8, Tryd.ntmps8
      go_wp2_with (first | (go_at_call 18; go_must (refine (HX.out _).mono ?_); rintro e w1 ⟨rfl, rfl⟩) | (go_at_call 19; go_must (refine (HO.out _).mono ?_); rintro e w1 ⟨rfl, b1⟩; have L1 := Lib.hid (L0.out.trans (b1.mono L0.out.size)); have S1 := ST.out.below b1; have x8 := S1.cell (j := 8) rfl; have x2 := S1.cell (j := 2) rfl; have x9 := S1.cell (j := 9) rfl; clear S1 b1))
      go_ret
      first | exact ⟨rfl, L1.out⟩ | exact ⟨rfl, L0.out⟩
end Go.Proofs.YtimbcombhdgjiaaDoor
