/- The program's disk: New; Image. -/
import Derived.Test.YtfipojmgmmjnmaaPdk
namespace Go.Proofs.Ytfipojmgmmjnmaa
open Go.RowKit

theorem made_same (z : Array Value) (c : Value) (s : Nat) (hz : z = Array.replicate s c) (hs : 0 < s) (k : Nat) : (madeCells z k).toList = List.replicate k c := by
  subst hz
  apply List.ext_getElem?
  intro j
  by_cases h : j < k
  · have h2 : j % s < s := Nat.mod_lt _ hs
    simp [madeCells, h, getElem!_pos, h2]
  · simp [madeCells, h]
theorem sector_zero : Try.zeroCells87 = Array.replicate 128 (.int .u8 0) := by kernel_rfl
theorem infoSector : (Try.prog.info? 87).map (fun i => (i.zero, i.size, i.bytes)) = some (some (.agg Try.zeroCells87), 128, 128) := by kernel_rfl
theorem infoInt2 : (Try.prog.info? 3).map (fun i => (i.zero, i.size, i.bytes)) = some (some (.int .i64 0), 1, 8) := by kernel_rfl
theorem infoStr2 : (Try.prog.info? 9).map (fun i => (i.zero, i.size, i.bytes)) = some (some (.string ⟨#[]⟩), 1, 16) := by kernel_rfl
theorem tb_noughts (n : Nat) : tb (noughts n) = List.replicate n (.int .u8 0) := by
  rw [List.eq_replicate_iff]
  refine ⟨by rw [tb_length, noughts_size], fun v hv => ?_⟩
  unfold tb bc noughts at hv
  obtain ⟨b, hb, rfl⟩ := List.mem_map.1 hv
  simp at hb
  rw [hb.2]
  rfl
theorem blank_nil : blank ⟨#[]⟩ = noughts 128 := by
  apply ByteArray.ext
  simp [blank, noughts, ByteArray.size]
theorem scells_new (n : Nat) : scells (List.replicate n (blank ⟨#[]⟩)) = List.replicate (n * 128) (.int .u8 0) := by
  rw [List.eq_replicate_iff]
  refine ⟨?_, fun v hv => ?_⟩
  · rw [scells_length _ fun x hx => by rw [(List.mem_replicate.1 hx).2, blank_nil, noughts_size], List.length_replicate]
  · obtain ⟨x, hx, hv⟩ := List.mem_flatMap.1 hv
    rw [(List.mem_replicate.1 hx).2, blank_nil, tb_noughts] at hv
    exact (List.mem_replicate.1 hv).2
theorem lcells_new (n : Nat) : lcells n [] = List.replicate n (.int .i64 0) := by
  rw [List.eq_replicate_iff]
  refine ⟨lcells_length _ _, fun v hv => ?_⟩
  obtain ⟨i, _, rfl⟩ := List.mem_map.1 hv
  rfl
theorem step_make {P : Program} {ops : Array Oper} {o : Oper} {a : Act} {w : World} {K : Act → World → Prop} {Q : Exit → Act → World → Prop} {E : Prop} (hg : o.guard = none) (t e : TypeId) (x y : Operand) (ho : o.op = .makeSlice t x y) (i : TypeInfo) (z : Value) (size : Nat)
    (ht : P.underlying t = some (.slice e)) (hi : P.info? e = some i) (hz : i.zero = some z) (hs : i.size = size) (n : Nat) (hx : a.eval x = .int .i64 (n : Int)) (hy : a.eval y = .int .i64 (n : Int)) (hbytes : (i.bytes : Int) * n ≤ 281474976710656) (h63 : (n : Int) ≤ 9223372036854775807)
    (hK : K (a.put o.dst (.slice (some ⟨w.heap.size, 0, none⟩) n n)) (w.alloc (.cells (madeCells z.cells (n * size)) e))) : if Region.wanted o (yielded ops a.tmps) = true then Oper.wp P o a w K Q else E := by
  subst hs
  have hw : Region.wanted o (yielded ops a.tmps) = true := by simp [Region.wanted, hg]
  rw [if_pos hw]
  have hrun := run_make (P := P) w t e i z ht hi hz .i64 .i64 n n (by omega) (Int.le_refl _) hbytes h63
  simp only [Int.toNat_natCast] at hrun
  unfold Oper.wp execOp
  simp only [ho, hx, hy, Sem.run_bind, hrun, Result.andThen_ok]
  exact hK
set_option maxRecDepth 100000 in
theorem dNew_bad (n : Int) (w : World) (hn : n < 1 ∨ 65536 < n) : Calls Try.prog 11 #[.int .i64 n] w fun e w' => e = .returned (.tuple #[.pointer none, .int .i64 3]) ∧ w = w' := by
  by_cases h1 : n < 1
  · have d1 : decide (n < 1) = true := decide_eq_true h1
    go_enter Try.func11, Try.ntmps11
    go_wp2
    go_ret2
    exact ⟨rfl, rfl⟩
  · have d1 : decide (n < 1) = false := decide_eq_false h1
    have d2 : decide (n > 65536) = true := decide_eq_true (by omega)
    go_enter Try.func11, Try.ntmps11
    go_wp2
    go_ret2
    exact ⟨rfl, rfl⟩
/-- A new disk lies there. -/
theorem PD_new (n : Nat) (h1 : 1 ≤ n) (hn : n ≤ 65536) (w w1 : World) (a b : Nat) (ha : w.heap.size ≤ a) (hb : w.heap.size ≤ b) (hab : a ≠ b) (ha2 : a < w.heap.size + 2) (hb2 : b < w.heap.size + 2) (hs : w1.heap.size = w.heap.size + 2)
    (ka : w1.heap[a]? = some (.cells (madeCells Try.zeroCells87 (n * 128)) 87 (0, 0))) (kb : w1.heap[b]? = some (.cells (madeCells #[.int .i64 0] n) 3 (0, 0))) :
    PD w.heap.size (w.heap.size + 2) (fun j => w.heap.size ≤ j ∧ j < (w1.alloc (.cells (pcs (.slice (some ⟨a, 0, none⟩) n n) (.slice none 0 0) (.slice (some ⟨b, 0, none⟩) n n) false 0 (DS.new n)) 65 (0, 0))).heap.size) (DS.new n) (w1.alloc (.cells (pcs (.slice (some ⟨a, 0, none⟩) n n) (.slice none 0 0) (.slice (some ⟨b, 0, none⟩) n n) false 0 (DS.new n)) 65 (0, 0))) := by
  have hl : (DS.new n).kept.length = n := by simp [DS.new]
  have hk : w1.ownsRow w.heap.size 87 128 (.slice (some ⟨a, 0, none⟩) n n) n (scells (DS.new n).kept) := by
    have e : scells (DS.new n).kept = (madeCells Try.zeroCells87 (n * 128)).toList := by
      rw [made_same _ _ 128 sector_zero (by decide)]
      exact scells_new n
    refine ⟨by rw [e]; simp [size_madeCells], .inr ⟨a, n, _, rfl, ha, ka, Nat.le_refl _, by unfold maxLen; omega, size_madeCells _ _, ?_⟩⟩
    rw [e, List.take_of_length_le (by simp [size_madeCells])]
  have hlr : w1.ownsRow w.heap.size 3 1 (.slice (some ⟨b, 0, none⟩) n n) n (lcells n []) := by
    have e : lcells n [] = (madeCells #[.int .i64 0] n).toList := by
      rw [toList_madeCells_one]
      exact lcells_new n
    refine ⟨by rw [lcells_length]; omega, .inr ⟨b, n, _, rfl, hb, kb, Nat.le_refl _, by unfold maxLen; omega, by rw [size_madeCells]; omega, ?_⟩⟩
    rw [e, List.take_of_length_le (by simp [size_madeCells])]
  refine ⟨_, _, _, false, 0, ⟨St.new1 w1 65 _ _ hs, .inr ⟨rfl, rfl⟩, ⟨rfl, by simp [DS.new], ?_, by simp [DS.new], (show (-1 : Int) ≤ -1 from by decide), (show (-1 : Int) ≤ 9223372036854775807 from by decide)⟩, by rw [hl]; exact ⟨h1, hn⟩, ?_, World.ownsRow_nil _ _ _ _, ?_, ?_, by simp [Value.ownBlock], ?_, by simp [Value.ownBlock], ?_, by simp [Value.ownBlock], by omega⟩, ?_, ?_, ?_, by simp [Value.ownBlock], ?_⟩
  · intro x hx
    rw [(List.mem_replicate.1 hx).2, blank_nil, noughts_size]
  · rw [hl]; exact hk.alloc _
  · rw [hl]; exact hlr.alloc _
  · simp [Value.ownBlock]; omega
  · simp [Value.ownBlock]; omega
  · intro j hj; simp [Value.ownBlock] at hj ⊢; omega
  · intro j hj; exact hj
  · simp [hs]
  · intro j hj; simp [Value.ownBlock] at hj; subst hj; simp [hs]; omega
  · intro j hj; simp [Value.ownBlock] at hj; subst hj; simp [hs]; omega
end Go.Proofs.Ytfipojmgmmjnmaa
