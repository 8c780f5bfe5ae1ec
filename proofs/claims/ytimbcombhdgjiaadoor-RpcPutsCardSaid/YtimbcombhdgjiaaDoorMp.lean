/- Messages: the program's small functions. -/
import Derived.Test.YtimbcombhdgjiaaDoorMr
namespace Go.Proofs.YtimbcombhdgjiaaDoor
open Go.RowKit
set_option linter.unusedSimpArgs false
set_option linter.unusedVariables false

theorem rcis32_any (n : Int) (w : World) : Calls Tryd.prog 20 #[.int .i64 n] w fun e w' => e = .returned (.bool (num32 n 0)) ∧ w = w' := by
  have e0 : num32 n 0 = (decide (0 ≤ n) && decide (n ≤ 4294967295)) := rfl
  rw [e0]
  clear e0
  obtain ⟨b1, hb1⟩ : ∃ b, decide (0 ≤ n) = b := ⟨_, rfl⟩
  obtain ⟨b2, hb2⟩ : ∃ b, decide (n ≤ 4294967295) = b := ⟨_, rfl⟩
  rw [hb1, hb2]
  cases b1 <;> (go_enter Tryd.func20, Tryd.ntmps20; go_wp2; go_ret; exact ⟨rfl, rfl⟩)
/-- Is there such a procedure? -/
def okProc (n : Int) : Bool := decide (0 ≤ n) && decide (n ≤ 21)
theorem rcexists_any (n : Int) (w : World) : Calls Tryd.prog 30 #[.int .i64 n] w fun e w' => e = .returned (.bool (okProc n)) ∧ w = w' := by
  unfold okProc
  obtain ⟨b1, hb1⟩ : ∃ b, decide (0 ≤ n) = b := ⟨_, rfl⟩
  obtain ⟨b2, hb2⟩ : ∃ b, decide (n ≤ 21) = b := ⟨_, rfl⟩
  rw [hb1, hb2]
  cases b1 <;> (go_enter Tryd.func30, Tryd.ntmps30; go_wp2; go_ret; exact ⟨rfl, rfl⟩)
theorem rcflag_any (b : Bool) (w : World) : Calls Tryd.prog 27 #[.bool b] w fun e w' => e = .returned (.int .i64 (if b then 1 else 0)) ∧ w = w' := by
  cases b <;> (go_enter Tryd.func27, Tryd.ntmps27; go_wp2; go_ret; exact ⟨rfl, rfl⟩)

set_option maxRecDepth 100000 in
set_option maxHeartbeats 2000000 in
theorem rcvalidCred_any (c s u g : Int) (w : World) : Calls Tryd.prog 31 #[.agg #[.int .i64 c, .int .i64 s, .int .i64 u, .int .i64 g]] w fun e w' => e = .returned (.bool (okOwner c s u g)) ∧ Below w.heap.size w w' := by
  have e1 : num32 s 1 = ((s != 0) && num32 s 0) := by
    rw [Bool.eq_iff_iff]; simp only [num32, Bool.and_eq_true, decide_eq_true_eq, bne_iff_ne]; omega
  have e0 : okOwner c s u g = (decide (1 ≤ c) && (decide (c ≤ 4) && ((s != 0) && (num32 s 0 && (num32 u 0 && num32 g 0))))) := by rw [okOwner, e1]; simp only [Bool.and_assoc]
  rw [e0]
  clear e0 e1
  have HS := fun w => rcis32_any s w
  have HU := fun w => rcis32_any u w
  have HG := fun w => rcis32_any g w
  obtain ⟨q1, h1⟩ : ∃ b, b = num32 s 0 := ⟨_, rfl⟩
  obtain ⟨q2, h2⟩ : ∃ b, b = num32 u 0 := ⟨_, rfl⟩
  obtain ⟨q3, h3⟩ : ∃ b, b = num32 g 0 := ⟨_, rfl⟩
  rw [← h1] at HS ⊢
  rw [← h2] at HU ⊢
  rw [← h3] at HG ⊢
  obtain ⟨b1, hb1⟩ : ∃ b, decide (1 ≤ c) = b := ⟨_, rfl⟩
  obtain ⟨b2, hb2⟩ : ∃ b, decide (c ≤ 4) = b := ⟨_, rfl⟩
  obtain ⟨b3, hb3⟩ : ∃ b, (s != 0) = b := ⟨_, rfl⟩
  rw [hb1, hb2, hb3]
  replace HS := Lib.hid HS
  replace HU := Lib.hid HU
  replace HG := Lib.hid HG
  clear h1 h2 h3
  cases b1
  · try simp only [Bool.false_and, Bool.and_false, Bool.true_and, Bool.and_true, Bool.not_true, Bool.not_false, Bool.or_false, Bool.false_or, Bool.true_or, if_true, Bool.false_eq_true, if_false]
    go_enter Tryd.func31, Tryd.ntmps31
    go_wp2_with (go_at_call 20; (first | (with_reducible refine (HS.out _).mono ?_) | (with_reducible refine (HU.out _).mono ?_) | (with_reducible refine (HG.out _).mono ?_)); rintro e w1 ⟨rfl, rfl⟩)
    go_ret
    exact ⟨rfl, below_one _ _⟩
  · cases b2
    · try simp only [Bool.false_and, Bool.and_false, Bool.true_and, Bool.and_true, Bool.not_true, Bool.not_false, Bool.or_false, Bool.false_or, Bool.true_or, if_true, Bool.false_eq_true, if_false]
      go_enter Tryd.func31, Tryd.ntmps31
      go_wp2_with (go_at_call 20; (first | (with_reducible refine (HS.out _).mono ?_) | (with_reducible refine (HU.out _).mono ?_) | (with_reducible refine (HG.out _).mono ?_)); rintro e w1 ⟨rfl, rfl⟩)
      go_ret
      exact ⟨rfl, below_one _ _⟩
    · cases b3
      · try simp only [Bool.false_and, Bool.and_false, Bool.true_and, Bool.and_true, Bool.not_true, Bool.not_false, Bool.or_false, Bool.false_or, Bool.true_or, if_true, Bool.false_eq_true, if_false]
        go_enter Tryd.func31, Tryd.ntmps31
        go_wp2_with (go_at_call 20; (first | (with_reducible refine (HS.out _).mono ?_) | (with_reducible refine (HU.out _).mono ?_) | (with_reducible refine (HG.out _).mono ?_)); rintro e w1 ⟨rfl, rfl⟩)
        go_ret
        exact ⟨rfl, below_one _ _⟩
      · cases q1
        · try simp only [Bool.false_and, Bool.and_false, Bool.true_and, Bool.and_true, Bool.not_true, Bool.not_false, Bool.or_false, Bool.false_or, Bool.true_or, if_true, Bool.false_eq_true, if_false]
          go_enter Tryd.func31, Tryd.ntmps31
          go_wp2_with (go_at_call 20; (first | (with_reducible refine (HS.out _).mono ?_) | (with_reducible refine (HU.out _).mono ?_) | (with_reducible refine (HG.out _).mono ?_)); rintro e w1 ⟨rfl, rfl⟩)
          go_ret
          exact ⟨rfl, below_one _ _⟩
        · cases q2
          · try simp only [Bool.false_and, Bool.and_false, Bool.true_and, Bool.and_true, Bool.not_true, Bool.not_false, Bool.or_false, Bool.false_or, Bool.true_or, if_true, Bool.false_eq_true, if_false]
            go_enter Tryd.func31, Tryd.ntmps31
            go_wp2_with (go_at_call 20; (first | (with_reducible refine (HS.out _).mono ?_) | (with_reducible refine (HU.out _).mono ?_) | (with_reducible refine (HG.out _).mono ?_)); rintro e w1 ⟨rfl, rfl⟩)
            go_ret
            exact ⟨rfl, below_one _ _⟩
          · try simp only [Bool.false_and, Bool.and_false, Bool.true_and, Bool.and_true, Bool.not_true, Bool.not_false, Bool.or_false, Bool.false_or, Bool.true_or, if_true, Bool.false_eq_true, if_false]
            go_enter Tryd.func31, Tryd.ntmps31
            go_wp2_with (go_at_call 20; (first | (with_reducible refine (HS.out _).mono ?_) | (with_reducible refine (HU.out _).mono ?_) | (with_reducible refine (HG.out _).mono ?_)); rintro e w1 ⟨rfl, rfl⟩)
            go_ret
            exact ⟨rfl, below_one _ _⟩

/-- Has a message what a call has, and nothing else? -/
def okCall (m : Mg) : Bool := !m.ans && (okProc m.proc && (okOwner m.client m.seq m.uid m.gid && (decide (m.accept = 0) && !m.again)))
/-- Has a message what a reply has, and nothing else? -/
def okReply (m : Mg) : Bool := m.ans && (decide (m.proc = 0) && (decide (m.client = 0 ∧ m.seq = 0 ∧ m.uid = 0 ∧ m.gid = 0) && (decide (m.accept = 0) || (decide (1 ≤ m.accept) && (decide (m.accept ≤ 4) && (decide (m.body = ⟨#[]⟩) && !m.again))))))

set_option maxRecDepth 100000 in
set_option maxHeartbeats 2000000 in
theorem rcvalidCall_any (m : Mg) (w : World) : Calls Tryd.prog 21 #[.agg m.arr] w fun e w' => e = .returned (.bool (okCall m)) ∧ Below w.heap.size w w' := by
  unfold okCall
  obtain ⟨xid, ans, again, proc, client, seq, uid, gid, accept, body⟩ := m
  dsimp only [Mg.arr]
  have HX := fun w => rcexists_any proc w
  have HO := fun w => rcvalidCred_any client seq uid gid w
  have st := St.new w 25 #[.int .i64 xid, .bool ans, .bool again, .int .i64 proc, .int .i64 client, .int .i64 seq, .int .i64 uid, .int .i64 gid, .int .i64 accept, .string body]
  have c1 : (w.alloc (.cells #[.int .i64 xid, .bool ans, .bool again, .int .i64 proc, .int .i64 client, .int .i64 seq, .int .i64 uid, .int .i64 gid, .int .i64 accept, .string body] 25 (0, 0))).cell? ⟨w.heap.size, 1, none⟩ = some (.bool ans) := st.cell rfl
  have c2 : (w.alloc (.cells #[.int .i64 xid, .bool ans, .bool again, .int .i64 proc, .int .i64 client, .int .i64 seq, .int .i64 uid, .int .i64 gid, .int .i64 accept, .string body] 25 (0, 0))).cell? ⟨w.heap.size, 2, none⟩ = some (.bool again) := st.cell rfl
  have c3 : (w.alloc (.cells #[.int .i64 xid, .bool ans, .bool again, .int .i64 proc, .int .i64 client, .int .i64 seq, .int .i64 uid, .int .i64 gid, .int .i64 accept, .string body] 25 (0, 0))).cell? ⟨w.heap.size, 3, none⟩ = some (.int .i64 proc) := st.cell rfl
  have c4 : (w.alloc (.cells #[.int .i64 xid, .bool ans, .bool again, .int .i64 proc, .int .i64 client, .int .i64 seq, .int .i64 uid, .int .i64 gid, .int .i64 accept, .string body] 25 (0, 0))).cell? ⟨w.heap.size, 4, none⟩ = some (.int .i64 client) := st.cell rfl
  have c5 : (w.alloc (.cells #[.int .i64 xid, .bool ans, .bool again, .int .i64 proc, .int .i64 client, .int .i64 seq, .int .i64 uid, .int .i64 gid, .int .i64 accept, .string body] 25 (0, 0))).cell? ⟨w.heap.size, 5, none⟩ = some (.int .i64 seq) := st.cell rfl
  have c6 : (w.alloc (.cells #[.int .i64 xid, .bool ans, .bool again, .int .i64 proc, .int .i64 client, .int .i64 seq, .int .i64 uid, .int .i64 gid, .int .i64 accept, .string body] 25 (0, 0))).cell? ⟨w.heap.size, 6, none⟩ = some (.int .i64 uid) := st.cell rfl
  have c7 : (w.alloc (.cells #[.int .i64 xid, .bool ans, .bool again, .int .i64 proc, .int .i64 client, .int .i64 seq, .int .i64 uid, .int .i64 gid, .int .i64 accept, .string body] 25 (0, 0))).cell? ⟨w.heap.size, 7, none⟩ = some (.int .i64 gid) := st.cell rfl
  have c8 : (w.alloc (.cells #[.int .i64 xid, .bool ans, .bool again, .int .i64 proc, .int .i64 client, .int .i64 seq, .int .i64 uid, .int .i64 gid, .int .i64 accept, .string body] 25 (0, 0))).cell? ⟨w.heap.size, 8, none⟩ = some (.int .i64 accept) := st.cell rfl
  obtain ⟨px, hpx⟩ : ∃ b, okProc proc = b := ⟨_, rfl⟩
  rw [hpx] at HX ⊢
  obtain ⟨ow, how⟩ : ∃ b, okOwner client seq uid gid = b := ⟨_, rfl⟩
  rw [how] at HO ⊢
  obtain ⟨za, hza⟩ : ∃ b, decide (accept = 0) = b := ⟨_, rfl⟩
  rw [hza]
  have kza : (accept == 0) = za := hza
  replace HX := Lib.hid HX
  replace HO := Lib.hid HO
  have L0 := Lib.hid (below_one w (.cells #[.int .i64 xid, .bool ans, .bool again, .int .i64 proc, .int .i64 client, .int .i64 seq, .int .i64 uid, .int .i64 gid, .int .i64 accept, .string body] 25 (0, 0)))
  have ST := Lib.hid st
  clear st hpx how
  cases ans
  · cases px
    · try simp only [Bool.false_and, Bool.and_false, Bool.true_and, Bool.and_true, Bool.not_true, Bool.not_false, Bool.or_false, Bool.false_or, Bool.true_or, if_true, Bool.false_eq_true, if_false]
      go_enter Tryd.func21, Tryd.ntmps21
      go_wp2_with (first | (go_at_call 30; go_must (refine (HX.out _).mono ?_); rintro e w1 ⟨rfl, rfl⟩) | (go_at_call 31; go_must (refine (HO.out _).mono ?_); rintro e w1 ⟨rfl, b1⟩; have L1 := Lib.hid (L0.out.trans (b1.mono L0.out.size)); have S1 := ST.out.below b1; have x8 := S1.cell (j := 8) rfl; have x2 := S1.cell (j := 2) rfl; clear S1 b1))
      go_ret
      first | exact ⟨rfl, L1.out⟩ | exact ⟨rfl, L0.out⟩
    · cases ow
      · try simp only [Bool.false_and, Bool.and_false, Bool.true_and, Bool.and_true, Bool.not_true, Bool.not_false, Bool.or_false, Bool.false_or, Bool.true_or, if_true, Bool.false_eq_true, if_false]
        go_enter Tryd.func21, Tryd.ntmps21
        go_wp2_with (first | (go_at_call 30; go_must (refine (HX.out _).mono ?_); rintro e w1 ⟨rfl, rfl⟩) | (go_at_call 31; go_must (refine (HO.out _).mono ?_); rintro e w1 ⟨rfl, b1⟩; have L1 := Lib.hid (L0.out.trans (b1.mono L0.out.size)); have S1 := ST.out.below b1; have x8 := S1.cell (j := 8) rfl; have x2 := S1.cell (j := 2) rfl; clear S1 b1))
        go_ret
        first | exact ⟨rfl, L1.out⟩ | exact ⟨rfl, L0.out⟩
      · cases za
        · try simp only [Bool.false_and, Bool.and_false, Bool.true_and, Bool.and_true, Bool.not_true, Bool.not_false, Bool.or_false, Bool.false_or, Bool.true_or, if_true, Bool.false_eq_true, if_false]
          go_enter Tryd.func21, Tryd.ntmps21
          go_wp2_with (first | (go_at_call 30; go_must (refine (HX.out _).mono ?_); rintro e w1 ⟨rfl, rfl⟩) | (go_at_call 31; go_must (refine (HO.out _).mono ?_); rintro e w1 ⟨rfl, b1⟩; have L1 := Lib.hid (L0.out.trans (b1.mono L0.out.size)); have S1 := ST.out.below b1; have x8 := S1.cell (j := 8) rfl; have x2 := S1.cell (j := 2) rfl; clear S1 b1))
          go_ret
          first | exact ⟨rfl, L1.out⟩ | exact ⟨rfl, L0.out⟩
        · try simp only [Bool.false_and, Bool.and_false, Bool.true_and, Bool.and_true, Bool.not_true, Bool.not_false, Bool.or_false, Bool.false_or, Bool.true_or, if_true, Bool.false_eq_true, if_false]
          go_enter Tryd.func21, Tryd.ntmps21
          go_wp2_with (first | (go_at_call 30; go_must (refine (HX.out _).mono ?_); rintro e w1 ⟨rfl, rfl⟩) | (go_at_call 31; go_must (refine (HO.out _).mono ?_); rintro e w1 ⟨rfl, b1⟩; have L1 := Lib.hid (L0.out.trans (b1.mono L0.out.size)); have S1 := ST.out.below b1; have x8 := S1.cell (j := 8) rfl; have x2 := S1.cell (j := 2) rfl; clear S1 b1))
          go_ret
          first | exact ⟨rfl, L1.out⟩ | exact ⟨rfl, L0.out⟩
  · try simp only [Bool.false_and, Bool.and_false, Bool.true_and, Bool.and_true, Bool.not_true, Bool.not_false, Bool.or_false, Bool.false_or, Bool.true_or, if_true, Bool.false_eq_true, if_false]
    go_enter Tryd.func21, Tryd.ntmps21
    go_wp2_with (first | (go_at_call 30; go_must (refine (HX.out _).mono ?_); rintro e w1 ⟨rfl, rfl⟩) | (go_at_call 31; go_must (refine (HO.out _).mono ?_); rintro e w1 ⟨rfl, b1⟩; have L1 := Lib.hid (L0.out.trans (b1.mono L0.out.size)); have S1 := ST.out.below b1; have x8 := S1.cell (j := 8) rfl; have x2 := S1.cell (j := 2) rfl; clear S1 b1))
    go_ret
    first | exact ⟨rfl, L1.out⟩ | exact ⟨rfl, L0.out⟩

set_option maxRecDepth 100000 in
set_option maxHeartbeats 4000000 in
theorem rcvalidReply_any (m : Mg) (w : World) : Calls Tryd.prog 22 #[.agg m.arr] w fun e w' => e = .returned (.bool (okReply m)) ∧ Below w.heap.size w w' := by
  unfold okReply
  obtain ⟨xid, ans, again, proc, client, seq, uid, gid, accept, body⟩ := m
  dsimp only [Mg.arr]
  have heq := fun W => eq_cred ⟨client, seq, uid, gid⟩ ⟨0, 0, 0, 0⟩ 9998 W
  have hne : ∀ W, (binOp .neq 23 (.agg #[.int .i64 client, .int .i64 seq, .int .i64 uid, .int .i64 gid]) (.agg #[.int .i64 0, .int .i64 0, .int .i64 0, .int .i64 0])).run Tryd.prog W = .ok (.bool (!decide (client = 0 ∧ seq = 0 ∧ uid = 0 ∧ gid = 0))) W := by
    intro W
    rw [run_neq_struct, show (10000 : Nat) = 9998 + 2 from rfl]
    have := heq W
    dsimp only at this
    rw [this]
    rfl
  have hqg : ∀ (W : World) (x y : Operand), (eqGuard .neq 23 x y (.agg #[.int .i64 client, .int .i64 seq, .int .i64 uid, .int .i64 gid]) (.agg #[.int .i64 0, .int .i64 0, .int .i64 0, .int .i64 0])).run Tryd.prog W = .ok () W := fun W x y => run_eqGuard_agg W .neq 23 x y _ _ (by kernel_rfl)
  have hbe : decide (body = ⟨#[]⟩) = body.toList.isEmpty := by
    rw [Lib.toList_data, Bool.eq_iff_iff]
    simp only [decide_eq_true_eq, List.isEmpty_iff]
    exact ⟨fun e => by rw [e], fun e => by apply ByteArray.ext; exact Array.toList_eq_nil_iff.1 e⟩
  rw [hbe]
  clear heq hbe
  have st := St.new w 25 #[.int .i64 xid, .bool ans, .bool again, .int .i64 proc, .int .i64 client, .int .i64 seq, .int .i64 uid, .int .i64 gid, .int .i64 accept, .string body]
  have c1 : (w.alloc (.cells #[.int .i64 xid, .bool ans, .bool again, .int .i64 proc, .int .i64 client, .int .i64 seq, .int .i64 uid, .int .i64 gid, .int .i64 accept, .string body] 25 (0, 0))).cell? ⟨w.heap.size, 1, none⟩ = some (.bool ans) := st.cell rfl
  have c2 : (w.alloc (.cells #[.int .i64 xid, .bool ans, .bool again, .int .i64 proc, .int .i64 client, .int .i64 seq, .int .i64 uid, .int .i64 gid, .int .i64 accept, .string body] 25 (0, 0))).cell? ⟨w.heap.size, 2, none⟩ = some (.bool again) := st.cell rfl
  have c3 : (w.alloc (.cells #[.int .i64 xid, .bool ans, .bool again, .int .i64 proc, .int .i64 client, .int .i64 seq, .int .i64 uid, .int .i64 gid, .int .i64 accept, .string body] 25 (0, 0))).cell? ⟨w.heap.size, 3, none⟩ = some (.int .i64 proc) := st.cell rfl
  have c4 : (w.alloc (.cells #[.int .i64 xid, .bool ans, .bool again, .int .i64 proc, .int .i64 client, .int .i64 seq, .int .i64 uid, .int .i64 gid, .int .i64 accept, .string body] 25 (0, 0))).cell? ⟨w.heap.size, 4, none⟩ = some (.int .i64 client) := st.cell rfl
  have c5 : (w.alloc (.cells #[.int .i64 xid, .bool ans, .bool again, .int .i64 proc, .int .i64 client, .int .i64 seq, .int .i64 uid, .int .i64 gid, .int .i64 accept, .string body] 25 (0, 0))).cell? ⟨w.heap.size, 5, none⟩ = some (.int .i64 seq) := st.cell rfl
  have c6 : (w.alloc (.cells #[.int .i64 xid, .bool ans, .bool again, .int .i64 proc, .int .i64 client, .int .i64 seq, .int .i64 uid, .int .i64 gid, .int .i64 accept, .string body] 25 (0, 0))).cell? ⟨w.heap.size, 6, none⟩ = some (.int .i64 uid) := st.cell rfl
  have c7 : (w.alloc (.cells #[.int .i64 xid, .bool ans, .bool again, .int .i64 proc, .int .i64 client, .int .i64 seq, .int .i64 uid, .int .i64 gid, .int .i64 accept, .string body] 25 (0, 0))).cell? ⟨w.heap.size, 7, none⟩ = some (.int .i64 gid) := st.cell rfl
  have c8 : (w.alloc (.cells #[.int .i64 xid, .bool ans, .bool again, .int .i64 proc, .int .i64 client, .int .i64 seq, .int .i64 uid, .int .i64 gid, .int .i64 accept, .string body] 25 (0, 0))).cell? ⟨w.heap.size, 8, none⟩ = some (.int .i64 accept) := st.cell rfl
  have c9 : (w.alloc (.cells #[.int .i64 xid, .bool ans, .bool again, .int .i64 proc, .int .i64 client, .int .i64 seq, .int .i64 uid, .int .i64 gid, .int .i64 accept, .string body] 25 (0, 0))).cell? ⟨w.heap.size, 9, none⟩ = some (.string body) := st.cell rfl
  obtain ⟨z0, hz0⟩ : ∃ b, decide (proc = 0) = b := ⟨_, rfl⟩
  rw [hz0]
  have kz0 : (proc != 0) = !z0 := by rw [← hz0]; simp [bne, BEq.beq]
  obtain ⟨kc, hkc⟩ : ∃ b, decide (client = 0 ∧ seq = 0 ∧ uid = 0 ∧ gid = 0) = b := ⟨_, rfl⟩
  rw [hkc] at hne ⊢
  obtain ⟨za, hza⟩ : ∃ b, decide (accept = 0) = b := ⟨_, rfl⟩
  rw [hza]
  have kza : (accept == 0) = za := hza
  obtain ⟨g1, hg1⟩ : ∃ b, decide (1 ≤ accept) = b := ⟨_, rfl⟩
  rw [hg1]
  obtain ⟨g4, hg4⟩ : ∃ b, decide (accept ≤ 4) = b := ⟨_, rfl⟩
  rw [hg4]
  obtain ⟨em, hem⟩ : ∃ b, body.toList.isEmpty = b := ⟨_, rfl⟩
  rw [hem]
  have L0 := Lib.hid (below_one w (.cells #[.int .i64 xid, .bool ans, .bool again, .int .i64 proc, .int .i64 client, .int .i64 seq, .int .i64 uid, .int .i64 gid, .int .i64 accept, .string body] 25 (0, 0)))
  clear st hkc
  cases ans
  · try simp only [Bool.false_and, Bool.and_false, Bool.true_and, Bool.and_true, Bool.not_true, Bool.not_false, Bool.or_false, Bool.false_or, Bool.true_or, if_true, Bool.false_eq_true, if_false]
    try simp only [Bool.not_true, Bool.not_false] at hne kz0
    go_enter Tryd.func22, Tryd.ntmps22
    go_wp2
    go_ret
    exact ⟨rfl, L0.out⟩
  · cases z0
    · try simp only [Bool.false_and, Bool.and_false, Bool.true_and, Bool.and_true, Bool.not_true, Bool.not_false, Bool.or_false, Bool.false_or, Bool.true_or, if_true, Bool.false_eq_true, if_false]
      try simp only [Bool.not_true, Bool.not_false] at hne kz0
      go_enter Tryd.func22, Tryd.ntmps22
      go_wp2
      go_ret
      exact ⟨rfl, L0.out⟩
    · cases kc
      · try simp only [Bool.false_and, Bool.and_false, Bool.true_and, Bool.and_true, Bool.not_true, Bool.not_false, Bool.or_false, Bool.false_or, Bool.true_or, if_true, Bool.false_eq_true, if_false]
        try simp only [Bool.not_true, Bool.not_false] at hne kz0
        go_enter Tryd.func22, Tryd.ntmps22
        go_wp2
        go_ret
        exact ⟨rfl, L0.out⟩
      · cases za
        · cases g1
          · try simp only [Bool.false_and, Bool.and_false, Bool.true_and, Bool.and_true, Bool.not_true, Bool.not_false, Bool.or_false, Bool.false_or, Bool.true_or, if_true, Bool.false_eq_true, if_false]
            try simp only [Bool.not_true, Bool.not_false] at hne kz0
            go_enter Tryd.func22, Tryd.ntmps22
            go_wp2
            go_ret
            exact ⟨rfl, L0.out⟩
          · cases g4
            · try simp only [Bool.false_and, Bool.and_false, Bool.true_and, Bool.and_true, Bool.not_true, Bool.not_false, Bool.or_false, Bool.false_or, Bool.true_or, if_true, Bool.false_eq_true, if_false]
              try simp only [Bool.not_true, Bool.not_false] at hne kz0
              go_enter Tryd.func22, Tryd.ntmps22
              go_wp2
              go_ret
              exact ⟨rfl, L0.out⟩
            · cases em
              · try simp only [Bool.false_and, Bool.and_false, Bool.true_and, Bool.and_true, Bool.not_true, Bool.not_false, Bool.or_false, Bool.false_or, Bool.true_or, if_true, Bool.false_eq_true, if_false]
                try simp only [Bool.not_true, Bool.not_false] at hne kz0
                go_enter Tryd.func22, Tryd.ntmps22
                go_wp2
                go_ret
                exact ⟨rfl, L0.out⟩
              · try simp only [Bool.false_and, Bool.and_false, Bool.true_and, Bool.and_true, Bool.not_true, Bool.not_false, Bool.or_false, Bool.false_or, Bool.true_or, if_true, Bool.false_eq_true, if_false]
                try simp only [Bool.not_true, Bool.not_false] at hne kz0
                go_enter Tryd.func22, Tryd.ntmps22
                go_wp2
                go_ret
                exact ⟨rfl, L0.out⟩
        · try simp only [Bool.false_and, Bool.and_false, Bool.true_and, Bool.and_true, Bool.not_true, Bool.not_false, Bool.or_false, Bool.false_or, Bool.true_or, if_true, Bool.false_eq_true, if_false]
          try simp only [Bool.not_true, Bool.not_false] at hne kz0
          go_enter Tryd.func22, Tryd.ntmps22
          go_wp2
          go_ret
          exact ⟨rfl, L0.out⟩
end Go.Proofs.YtimbcombhdgjiaaDoor
