/- Permission bits: the program's and the reference's Bits and May. -/
import Derived.Test.YtinhdabfiahjpaaOa
import Derived.Test.YtinhdabfiahjpaaPm
import Derived.Test.YtinhdabfiahjpaaSt
namespace Go.Proofs.Ytinhdabfiahjpaa
open Go.Joins Go.RowKit

def Pa.val (a : Pa) : Value := .agg a.vs.toArray
def Pc.val (c : Pc) : Value := .agg c.vs.toArray
def pmOf (a : Pa) (c : Pc) : Int := pmBits a.mode a.uid a.gid c.uid c.gid
theorem pmOf_range (a : Pa) (c : Pc) : 0 ≤ pmOf a c ∧ pmOf a c < 8 := pmBits_range _ _ _ _ _

theorem below_alloc2 (w : World) (o p : Obj) : Below w.heap.size w ((w.alloc o).alloc p) :=
  ((Below.refl _ _).alloc (Nat.le_refl _) o).alloc (by simp) p

set_option maxRecDepth 100000 in
theorem pfBits_any (a : Pa) (c : Pc) (w : World) :
    Calls Try.prog 23 #[a.val, c.val] w fun e w' => e = .returned (.int .i64 (pmOf a c)) ∧ Below w.heap.size w w' := by
  obtain ⟨ty, mode, nlink, uid, gid, size, id, gen, change, time⟩ := a
  obtain ⟨cl, seq, cu, cg⟩ := c
  simp only [Pa.val, Pc.val, Pa.vs, Pc.vs, pmOf, pmBits]
  by_cases h1 : cu = 0
  · rw [if_pos h1]
    go_enter Try.func23, Try.ntmps23
    go_wp2
    go_ret
    exact ⟨rfl, below_alloc2 _ _ _⟩
  · rw [if_neg h1]
    by_cases h2 : cu = uid
    · rw [if_pos h2]
      subst h2
      have e := and_7 (mode / 64)
      go_enter Try.func23, Try.ntmps23
      go_wp2
      go_ret
      exact ⟨by rw [← e]; rfl, below_alloc2 _ _ _⟩
    · rw [if_neg h2]
      by_cases h3 : cg = gid
      · rw [if_pos h3]
        subst h3
        have e := and_7 (mode / 8)
        go_enter Try.func23, Try.ntmps23
        go_wp2
        go_ret
        exact ⟨by rw [← e]; rfl, below_alloc2 _ _ _⟩
      · rw [if_neg h3]
        have e := and_7 mode
        go_enter Try.func23, Try.ntmps23
        go_wp2
        go_ret
        exact ⟨by rw [← e]; rfl, below_alloc2 _ _ _⟩

set_option maxRecDepth 100000 in
theorem pBits_any (a : Pa) (c : Pc) (w : World) :
    Calls Try.prog 22 #[a.val, c.val] w fun e w' => e = .returned (.int .i64 (pmOf a c)) ∧ Below w.heap.size w w' := by
  obtain ⟨ty, mode, nlink, uid, gid, size, id, gen, change, time⟩ := a
  obtain ⟨cl, seq, cu, cg⟩ := c
  simp only [Pa.val, Pc.val, Pa.vs, Pc.vs, pmOf, pmBits]
  by_cases h1 : cu = 0
  · rw [if_pos h1]
    go_enter Try.func22, Try.ntmps22
    go_wp2
    go_ret
    exact ⟨rfl, below_alloc2 _ _ _⟩
  · rw [if_neg h1]
    by_cases h2 : cu = uid
    · rw [if_pos h2]
      subst h2
      have e := and_7 (mode / 64)
      go_enter Try.func22, Try.ntmps22
      go_wp2
      go_ret
      exact ⟨by rw [← e]; rfl, below_alloc2 _ _ _⟩
    · rw [if_neg h2]
      by_cases h3 : cg = gid
      · rw [if_pos h3]
        subst h3
        have e := and_7 (mode / 8)
        go_enter Try.func22, Try.ntmps22
        go_wp2
        go_ret
        exact ⟨by rw [← e]; rfl, below_alloc2 _ _ _⟩
      · rw [if_neg h3]
        have e := and_7 mode
        go_enter Try.func22, Try.ntmps22
        go_wp2
        go_ret
        exact ⟨by rw [← e]; rfl, below_alloc2 _ _ _⟩

set_option maxRecDepth 100000 in
theorem pOwns_any (a : Pa) (c : Pc) (w : World) :
    Calls Try.prog 26 #[a.val, c.val] w fun e w' => e = .returned (.bool (decide (c.uid = 0 ∨ c.uid = a.uid))) ∧ Below w.heap.size w w' := by
  obtain ⟨ty, mode, nlink, uid, gid, size, id, gen, change, time⟩ := a
  obtain ⟨cl, seq, cu, cg⟩ := c
  simp only [Pa.val, Pc.val, Pa.vs, Pc.vs]
  by_cases h1 : cu = 0
  · go_enter Try.func26, Try.ntmps26
    go_wp2
    go_ret
    exact ⟨by simp [h1], below_alloc2 _ _ _⟩
  · by_cases h2 : cu = uid
    · subst h2
      go_enter Try.func26, Try.ntmps26
      go_wp2
      go_ret
      exact ⟨by simp, below_alloc2 _ _ _⟩
    · go_enter Try.func26, Try.ntmps26
      go_wp2
      go_ret
      exact ⟨by simp [h1, h2], below_alloc2 _ _ _⟩

theorem below_then2 {w w1 : World} {o p : Obj} (h : Below ((w.alloc o).alloc p).heap.size ((w.alloc o).alloc p) w1) : Below w.heap.size w w1 :=
  (below_alloc2 w o p).trans (h.mono (below_alloc2 w o p).size)

set_option maxRecDepth 100000 in
theorem pMay_any (a : Pa) (c : Pc) (want : Int) (w : World) :
    Calls Try.prog 24 #[a.val, c.val, .int .i64 want] w fun e w' => e = .returned (.bool (pmMay (pmOf a c) want)) ∧ Below w.heap.size w w' := by
  obtain ⟨r0, r1⟩ := pmOf_range a c
  have hm := pmMay_andNot (pmOf a c) want r0 r1
  have HB := fun w => pBits_any a c w
  obtain ⟨b, hb⟩ : ∃ b, b = pmOf a c := ⟨_, rfl⟩
  rw [← hb] at hm HB ⊢
  clear hb r0 r1
  obtain ⟨ty, mode, nlink, uid, gid, size, id, gen, change, time⟩ := a
  obtain ⟨cl, seq, cu, cg⟩ := c
  simp only [Pa.val, Pc.val, Pa.vs, Pc.vs] at HB ⊢
  have HB' := Lib.hid HB
  have HM := Lib.hid hm
  clear HB hm
  go_enter Try.func24, Try.ntmps24
  go_wp2_with (go_at_call 22; go_must (refine (HB'.out _).mono ?_); rintro e w1 ⟨rfl, hb1⟩)
  go_ret
  exact ⟨by rw [← HM.out]; rfl, below_then2 hb1⟩

/-- One of the three bits: is it wanted and missing? -/
theorem may_step {want b : Int} (k : Int) (P : Int → Prop) (hk : ∀ n, bits .and .i64 n k = 0 ↔ ¬ P n) :
    ((bits .and .i64 want k != 0) = true ∧ (bits .and .i64 b k == 0) = true ∧ ¬ (P want → P b)) ∨ (((bits .and .i64 want k != 0) = false ∨ ((bits .and .i64 want k != 0) = true ∧ (bits .and .i64 b k == 0) = false)) ∧ (P want → P b)) := by
  have h1 := hk want
  have h2 := hk b
  by_cases g1 : bits .and .i64 want k = 0
  · exact .inr ⟨.inl (by simp [g1]), fun h => absurd h (h1.1 g1)⟩
  · by_cases g2 : bits .and .i64 b k = 0
    · exact .inl ⟨by simp [g1], by simp [g2], fun h => (h2.1 g2) (h (Classical.byContradiction fun n => g1 (h1.2 n)))⟩
    · exact .inr ⟨.inr ⟨by simp [g1], by simp [g2]⟩, fun _ => Classical.byContradiction fun n => g2 (h2.2 n)⟩

set_option maxHeartbeats 2000000 in
set_option maxRecDepth 100000 in
theorem pfMay_any (a : Pa) (c : Pc) (want : Int) (w : World) :
    Calls Try.prog 25 #[a.val, c.val, .int .i64 want] w fun e w' => e = .returned (.bool (pmMay (pmOf a c) want)) ∧ Below w.heap.size w w' := by
  have HB := fun w => pfBits_any a c w
  obtain ⟨b, hb⟩ : ∃ b, b = pmOf a c := ⟨_, rfl⟩
  rw [← hb] at HB ⊢
  clear hb
  obtain ⟨ty, mode, nlink, uid, gid, size, id, gen, change, time⟩ := a
  obtain ⟨cl, seq, cu, cg⟩ := c
  simp only [Pa.val, Pc.val, Pa.vs, Pc.vs] at HB ⊢
  have HB' := Lib.hid HB
  have H1 := Lib.hid (may_step (want := want) (b := b) 1 _ bit1_iff)
  have H2 := Lib.hid (may_step (want := want) (b := b) 2 _ bit2_iff)
  have H4 := Lib.hid (may_step (want := want) (b := b) 4 _ bit4_iff)
  have HF := Lib.hid (show ¬ ((want % 2 = 1 → b % 2 = 1) ∧ (want / 2 % 2 = 1 → b / 2 % 2 = 1) ∧ (want / 4 % 2 = 1 → b / 4 % 2 = 1)) → Value.bool false = .bool (pmMay b want) from fun h => by simp only [pmMay, decide_eq_false h])
  have HT := Lib.hid (show ((want % 2 = 1 → b % 2 = 1) ∧ (want / 2 % 2 = 1 → b / 2 % 2 = 1) ∧ (want / 4 % 2 = 1 → b / 4 % 2 = 1)) → Value.bool true = .bool (pmMay b want) from fun h => by simp only [pmMay, decide_eq_true h])
  clear HB
  go_enter Try.func25, Try.ntmps25
  go_wp2_with (go_at_call 23; go_must (refine (HB'.out _).mono ?_); rintro e w1 ⟨rfl, hb1⟩)
  have hbel := below_then2 hb1
  clear hb1
  go_loopw [8] (fun v wr => wr = w1 ∧ (v = .int .i64 1 ∨ (v = .int .i64 2 ∧ (want % 2 = 1 → b % 2 = 1)) ∨ (v = .int .i64 4 ∧ (want % 2 = 1 → b % 2 = 1) ∧ (want / 2 % 2 = 1 → b / 2 % 2 = 1)) ∨
      (v = .int .i64 8 ∧ (want % 2 = 1 → b % 2 = 1) ∧ (want / 2 % 2 = 1 → b / 2 % 2 = 1) ∧ (want / 4 % 2 = 1 → b / 4 % 2 = 1)))) (fun v _ => 8 - (intOf v).toNat)
  case atStart => exact ⟨rfl, .inl rfl⟩
  case round =>
    obtain ⟨rfl, hv⟩ := hrel
    rcases hv with rfl | ⟨rfl, hv⟩ | ⟨rfl, hv⟩ | ⟨rfl, hv⟩
    · rcases H1.out with ⟨h1, h2, h3⟩ | ⟨h1 | ⟨h1, h2⟩, h3⟩
      · have HV := Lib.hid h3
        clear h3
        go_wp2_with fail
        go_ret
        exact ⟨congrArg _ (HF.out fun h => HV.out h.1), hbel⟩
      · have HV := Lib.hid h3
        clear h3
        go_wp2_with fail
        go_roundw
        case rel => exact ⟨trivial, .inr (.inl ⟨rfl, HV.out⟩)⟩
        case measure => simp [intOf]
      · have HV := Lib.hid h3
        clear h3
        go_wp2_with fail
        go_roundw
        case rel => exact ⟨trivial, .inr (.inl ⟨rfl, HV.out⟩)⟩
        case measure => simp [intOf]
    · have HV0 := Lib.hid hv
      clear hv
      rcases H2.out with ⟨h1, h2, h3⟩ | ⟨h1 | ⟨h1, h2⟩, h3⟩
      · have HV := Lib.hid h3
        clear h3
        go_wp2_with fail
        go_ret
        exact ⟨congrArg _ (HF.out fun h => HV.out h.2.1), hbel⟩
      · have HV := Lib.hid h3
        clear h3
        go_wp2_with fail
        go_roundw
        case rel => exact ⟨trivial, .inr (.inr (.inl ⟨rfl, HV0.out, HV.out⟩))⟩
        case measure => simp [intOf]
      · have HV := Lib.hid h3
        clear h3
        go_wp2_with fail
        go_roundw
        case rel => exact ⟨trivial, .inr (.inr (.inl ⟨rfl, HV0.out, HV.out⟩))⟩
        case measure => simp [intOf]
    · have HV0 := Lib.hid hv
      clear hv
      rcases H4.out with ⟨h1, h2, h3⟩ | ⟨h1 | ⟨h1, h2⟩, h3⟩
      · have HV := Lib.hid h3
        clear h3
        go_wp2_with fail
        go_ret
        exact ⟨congrArg _ (HF.out fun h => HV.out h.2.2), hbel⟩
      · have HV := Lib.hid h3
        clear h3
        go_wp2_with fail
        go_roundw
        case rel => exact ⟨trivial, .inr (.inr (.inr ⟨rfl, HV0.out.1, HV0.out.2, HV.out⟩))⟩
        case measure => simp [intOf]
      · have HV := Lib.hid h3
        clear h3
        go_wp2_with fail
        go_roundw
        case rel => exact ⟨trivial, .inr (.inr (.inr ⟨rfl, HV0.out.1, HV0.out.2, HV.out⟩))⟩
        case measure => simp [intOf]
    · have HV0 := Lib.hid hv
      clear hv
      go_wp2_with fail
      go_ret
      exact ⟨congrArg _ (HT.out HV0.out), hbel⟩
end Go.Proofs.Ytinhdabfiahjpaa
