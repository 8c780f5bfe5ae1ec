/- Several texts in one: Pdj Pdk Pdl Pdm Pdn. -/
import Derived.Laws.OwnMore
import Derived.Test.YtikeckmbfgidhaaDoorZz13
/- The program's disk: Barrier; Crash. -/
namespace Go.Proofs.YtikeckmbfgidhaaDoor
open Go.RowKit

end Go.Proofs.YtikeckmbfgidhaaDoor

/- The program's disk: Crash. -/
namespace Go.Proofs.YtikeckmbfgidhaaDoor
open Go.RowKit

theorem St.new1 (w : World) (T : TypeId) (cs : Array Value) (n : Nat) (h : w.heap.size = n) : St T n cs (w.alloc (.cells cs T (0, 0))) := h ▸ St.new w T cs
/-- Which places are named. -/
def bcells (m : Nat) (ks : List Int) : List Value := (List.range m).map fun (k : Nat) => Value.bool (decide ((k : Int) ∈ ks))
theorem bcells_length (m : Nat) (ks : List Int) : (bcells m ks).length = m := by simp [bcells]
theorem bcells_at (m : Nat) (ks : List Int) (k : Nat) (h : k < m) : (bcells m ks)[k]? = some (.bool (decide ((k : Int) ∈ ks))) := by simp [bcells, h]
theorem bcells_none (m : Nat) : (madeCells #[Value.bool false] m).toList = bcells m [] := by
  rw [toList_madeCells_one]
  apply List.ext_getElem?
  intro k
  by_cases h : k < m
  · rw [bcells_at m [] k h]
    simp [h]
  · rw [List.getElem?_eq_none (by simp; omega), List.getElem?_eq_none (by rw [bcells_length]; omega)]
theorem bcells_in (m : Nat) (ks : List Int) (y : Nat) (h : y < m) : bcells m (ks ++ [(y : Int)]) = (bcells m ks).set y (.bool true) := by
  apply List.ext_getElem?
  intro k
  by_cases hk : k < m
  · rw [bcells_at m _ k hk, List.getElem?_set]
    by_cases e : y = k
    · subst e
      rw [if_pos rfl, if_pos (by rw [bcells_length]; exact h)]
      simp
    · rw [if_neg e, bcells_at m ks k hk]
      have : ((k : Int) ∈ ks ++ [(y : Int)]) ↔ (k : Int) ∈ ks := by
        simp only [List.mem_append, List.mem_singleton]
        constructor
        · rintro (h | h)
          · exact h
          · omega
        · exact .inl
      simp only [this]
  · rw [List.getElem?_eq_none (by rw [bcells_length]; omega), List.getElem?_eq_none (by rw [List.length_set, bcells_length]; omega)]
theorem bcells_out (m : Nat) (ks : List Int) (y : Int) (h : ¬ (0 ≤ y ∧ y < m)) : bcells m (ks ++ [y]) = bcells m ks := by
  unfold bcells
  apply List.map_congr_left
  intro k hk
  have hk := List.mem_range.1 hk
  have : ((k : Int) ∈ ks ++ [y]) ↔ (k : Int) ∈ ks := by
    simp only [List.mem_append, List.mem_singleton]
    constructor
    · rintro (e | e)
      · exact e
      · omega
    · exact .inl
  simp only [this]
theorem wpList_make {P : Program} {ops : Array Oper} {rest : List Oper} {o : Oper} {a : Act} {w : World} {Q : Exit → Act → World → Prop} (hgd : o.guard = none) (t e : TypeId) (x y : Operand) (ho : o.op = .makeSlice t x y) (i : TypeInfo) (z : Value) (size : Nat)
    (ht : P.underlying t = some (.slice e)) (hi : P.info? e = some i) (hz : i.zero = some z) (hs : i.size = size) (n : Nat) (hx : a.eval x = .int .i64 (n : Int)) (hy : a.eval y = .int .i64 (n : Int)) (hbytes : (i.bytes : Int) * n ≤ 281474976710656) (h63 : (n : Int) ≤ 9223372036854775807)
    (h : wpList P ops Q rest (a.put o.dst (.slice (some ⟨w.heap.size, 0, none⟩) n n)) (w.alloc (.cells (madeCells z.cells (n * size)) e))) : wpList P ops Q (o :: rest) a w := by
  subst hs
  refine wpList_plain hgd fun K hK => ?_
  have hrun := run_make (P := P) w t e i z ht hi hz .i64 .i64 n n (by omega) (Int.le_refl _) hbytes h63
  simp only [Int.toNat_natCast] at hrun
  unfold Oper.wp execOp
  simp only [ho, hx, hy, Sem.run_bind, hrun, Result.andThen_ok]
  exact hK _ _ h
theorem infoBool : (Tryd.prog.info? 4).map (fun i => (i.zero, i.size, i.bytes)) = some (some (.bool false), 1, 1) := by kernel_rfl
end Go.Proofs.YtikeckmbfgidhaaDoor

/- The program's disk: New; Image. -/
namespace Go.Proofs.YtikeckmbfgidhaaDoor
open Go.RowKit

theorem made_same (z : Array Value) (c : Value) (s : Nat) (hz : z = Array.replicate s c) (hs : 0 < s) (k : Nat) : (madeCells z k).toList = List.replicate k c := by
  subst hz
  apply List.ext_getElem?
  intro j
  by_cases h : j < k
  · have h2 : j % s < s := Nat.mod_lt _ hs
    simp [madeCells, h, getElem!_pos, h2]
  · simp [madeCells, h]
theorem sector_zero : Tryd.zeroCells60 = Array.replicate 128 (.int .u8 0) := by kernel_rfl
theorem infoSector : (Tryd.prog.info? 60).map (fun i => (i.zero, i.size, i.bytes)) = some (some (.agg Tryd.zeroCells60), 128, 128) := by kernel_rfl
theorem infoInt2 : (Tryd.prog.info? 3).map (fun i => (i.zero, i.size, i.bytes)) = some (some (.int .i64 0), 1, 8) := by kernel_rfl
theorem infoStr2 : (Tryd.prog.info? 9).map (fun i => (i.zero, i.size, i.bytes)) = some (some (.string ⟨#[]⟩), 1, 16) := by kernel_rfl
theorem tb_noughts (n : Nat) : tb (noughts n) = List.replicate n (.int .u8 0) := by
  rw [List.eq_replicate_iff]
  refine ⟨by rw [tb_length, noughts_size], fun v hv => ?_⟩
  unfold tb bc noughts at hv
  obtain ⟨b, hb, rfl⟩ := List.mem_map.1 hv
  simp at hb
  rw [hb.2]
  rfl
theorem blank_nil : blank ⟨#[]⟩ = noughts 128 := by
  apply ByteArray.ext
  simp [blank, noughts, ByteArray.size]
theorem scells_new (n : Nat) : scells (List.replicate n (blank ⟨#[]⟩)) = List.replicate (n * 128) (.int .u8 0) := by
  rw [List.eq_replicate_iff]
  refine ⟨?_, fun v hv => ?_⟩
  · rw [scells_length _ fun x hx => by rw [(List.mem_replicate.1 hx).2, blank_nil, noughts_size], List.length_replicate]
  · obtain ⟨x, hx, hv⟩ := List.mem_flatMap.1 hv
    rw [(List.mem_replicate.1 hx).2, blank_nil, tb_noughts] at hv
    exact (List.mem_replicate.1 hv).2
theorem lcells_new (n : Nat) : lcells n [] = List.replicate n (.int .i64 0) := by
  rw [List.eq_replicate_iff]
  refine ⟨lcells_length _ _, fun v hv => ?_⟩
  obtain ⟨i, _, rfl⟩ := List.mem_map.1 hv
  rfl
theorem step_make {P : Program} {ops : Array Oper} {o : Oper} {a : Act} {w : World} {K : Act → World → Prop} {Q : Exit → Act → World → Prop} {E : Prop} (hg : o.guard = none) (t e : TypeId) (x y : Operand) (ho : o.op = .makeSlice t x y) (i : TypeInfo) (z : Value) (size : Nat)
    (ht : P.underlying t = some (.slice e)) (hi : P.info? e = some i) (hz : i.zero = some z) (hs : i.size = size) (n : Nat) (hx : a.eval x = .int .i64 (n : Int)) (hy : a.eval y = .int .i64 (n : Int)) (hbytes : (i.bytes : Int) * n ≤ 281474976710656) (h63 : (n : Int) ≤ 9223372036854775807)
    (hK : K (a.put o.dst (.slice (some ⟨w.heap.size, 0, none⟩) n n)) (w.alloc (.cells (madeCells z.cells (n * size)) e))) : if Region.wanted o (yielded ops a.tmps) = true then Oper.wp P o a w K Q else E := by
  subst hs
  have hw : Region.wanted o (yielded ops a.tmps) = true := by simp [Region.wanted, hg]
  rw [if_pos hw]
  have hrun := run_make (P := P) w t e i z ht hi hz .i64 .i64 n n (by omega) (Int.le_refl _) hbytes h63
  simp only [Int.toNat_natCast] at hrun
  unfold Oper.wp execOp
  simp only [ho, hx, hy, Sem.run_bind, hrun, Result.andThen_ok]
  exact hK
set_option maxRecDepth 100000 in
theorem dNew_bad (n : Int) (w : World) (hn : n < 1 ∨ 65536 < n) : Calls Tryd.prog 9 #[.int .i64 n] w fun e w' => e = .returned (.tuple #[.pointer none, .int .i64 3]) ∧ w = w' := by
  by_cases h1 : n < 1
  · have d1 : decide (n < 1) = true := decide_eq_true h1
    go_enter Tryd.func9, Tryd.ntmps9
    go_wp2
    go_ret2
    exact ⟨rfl, rfl⟩
  · have d1 : decide (n < 1) = false := decide_eq_false h1
    have d2 : decide (n > 65536) = true := decide_eq_true (by omega)
    go_enter Tryd.func9, Tryd.ntmps9
    go_wp2
    go_ret2
    exact ⟨rfl, rfl⟩
/-- A new disk lies there. -/
theorem PD_new (n : Nat) (h1 : 1 ≤ n) (hn : n ≤ 65536) (w w1 : World) (a b : Nat) (ha : w.heap.size ≤ a) (hb : w.heap.size ≤ b) (hab : a ≠ b) (ha2 : a < w.heap.size + 2) (hb2 : b < w.heap.size + 2) (hs : w1.heap.size = w.heap.size + 2)
    (ka : w1.heap[a]? = some (.cells (madeCells Tryd.zeroCells60 (n * 128)) 60 (0, 0))) (kb : w1.heap[b]? = some (.cells (madeCells #[.int .i64 0] n) 3 (0, 0))) :
    PD w.heap.size (w.heap.size + 2) (fun j => w.heap.size ≤ j ∧ j < (w1.alloc (.cells (pcs (.slice (some ⟨a, 0, none⟩) n n) (.slice none 0 0) (.slice (some ⟨b, 0, none⟩) n n) false 0 (DS.new n)) 56 (0, 0))).heap.size) (DS.new n) (w1.alloc (.cells (pcs (.slice (some ⟨a, 0, none⟩) n n) (.slice none 0 0) (.slice (some ⟨b, 0, none⟩) n n) false 0 (DS.new n)) 56 (0, 0))) := by
  have hl : (DS.new n).kept.length = n := by simp [DS.new]
  have hk : w1.ownsRow w.heap.size 60 128 (.slice (some ⟨a, 0, none⟩) n n) n (scells (DS.new n).kept) := by
    have e : scells (DS.new n).kept = (madeCells Tryd.zeroCells60 (n * 128)).toList := by
      rw [made_same _ _ 128 sector_zero (by decide)]
      exact scells_new n
    refine ⟨by rw [e]; simp [size_madeCells], .inr ⟨a, n, _, rfl, ha, ka, Nat.le_refl _, by unfold maxLen; omega, size_madeCells _ _, ?_⟩⟩
    rw [e, List.take_of_length_le (by simp [size_madeCells])]
  have hlr : w1.ownsRow w.heap.size 3 1 (.slice (some ⟨b, 0, none⟩) n n) n (lcells n []) := by
    have e : lcells n [] = (madeCells #[.int .i64 0] n).toList := by
      rw [toList_madeCells_one]
      exact lcells_new n
    refine ⟨by rw [lcells_length]; omega, .inr ⟨b, n, _, rfl, hb, kb, Nat.le_refl _, by unfold maxLen; omega, by rw [size_madeCells]; omega, ?_⟩⟩
    rw [e, List.take_of_length_le (by simp [size_madeCells])]
  refine ⟨_, _, _, false, 0, ⟨St.new1 w1 56 _ _ hs, .inr ⟨rfl, rfl⟩, ⟨rfl, by simp [DS.new], ?_, by simp [DS.new], (show (-1 : Int) ≤ -1 from by decide), (show (-1 : Int) ≤ 9223372036854775807 from by decide)⟩, by rw [hl]; exact ⟨h1, hn⟩, ?_, World.ownsRow_nil _ _ _ _, ?_, ?_, by simp [Value.ownBlock], ?_, by simp [Value.ownBlock], ?_, by simp [Value.ownBlock], by omega⟩, ?_, ?_, ?_, by simp [Value.ownBlock], ?_⟩
  · intro x hx
    rw [(List.mem_replicate.1 hx).2, blank_nil, noughts_size]
  · rw [hl]; exact hk.alloc _
  · rw [hl]; exact hlr.alloc _
  · simp [Value.ownBlock]; omega
  · simp [Value.ownBlock]; omega
  · intro j hj; simp [Value.ownBlock] at hj ⊢; omega
  · intro j hj; exact hj
  · simp [hs]
  · intro j hj; simp [Value.ownBlock] at hj; subst hj; simp [hs]; omega
  · intro j hj; simp [Value.ownBlock] at hj; subst hj; simp [hs]; omega
end Go.Proofs.YtikeckmbfgidhaaDoor

/- The program's disk: New's walk; Image. -/
namespace Go.Proofs.YtikeckmbfgidhaaDoor
open Go.RowKit

set_option maxRecDepth 100000 in
set_option maxHeartbeats 1000000 in
theorem dNew_ok (n : Nat) (w : World) (h1 : 1 ≤ n) (hn : n ≤ 65536) : Calls Tryd.prog 9 #[.int .i64 n] w fun e w' => ∃ p, e = .returned (.tuple #[.pointer (some ⟨p, 0, none⟩), .int .i64 0]) ∧ PD w.heap.size p (fun j => w.heap.size ≤ j ∧ j < w'.heap.size) (DS.new n) w' ∧ Below w.heap.size w w' := by
  obtain ⟨i1, hi1, hz1, hs1, hy1⟩ := info_parts infoSector
  obtain ⟨i2, hi2, hz2, hs2, hy2⟩ := info_parts infoInt2
  have hb1 : (i1.bytes : Int) * (n : Int) ≤ 281474976710656 := by rw [hy1]; have : ((128 : Nat) : Int) = 128 := rfl; omega
  have hb2 : (i2.bytes : Int) * (n : Int) ≤ 281474976710656 := by rw [hy2]; have : ((8 : Nat) : Int) = 8 := rfl; omega
  have hn63 : (n : Int) ≤ 9223372036854775807 := by omega
  have d1 : decide ((n : Int) < 1) = false := decide_eq_false (by omega)
  have d2 : decide ((n : Int) > 65536) = false := decide_eq_false (by omega)
  have HN := Lib.hid (And.intro h1 hn)
  clear h1 hn
  go_enter Tryd.func9, Tryd.ntmps9
  go_wp2_with fail
  refine wp_region_held (S := fun _ => True) (by kernel_rfl) ?_
  change wpAnyH _ _ _ _ _ _ _ _ (World.drew _)
  obtain ⟨WD, hWD⟩ : ∃ WD, WD = World.drew w := ⟨_, rfl⟩
  rw [← hWD]
  have hWs : WD.heap.size = w.heap.size := by rw [hWD]; rfl
  have HB := Lib.hid (show Below w.heap.size w WD from by rw [hWD]; exact (Below.refl _ w).drew)
  clear hWD
  refine wpAnyH_take (i := 0) (v := (.int .i64 n)) rfl (by kernel_rfl) (by kernel_rfl) (by kernel_rfl) (fun _ _ _ h => h) (Or.inl ⟨by rfl, fun w' _ => ?_⟩) trivial ?_
  · go_simp
  refine wpAnyH_take (i := 2) (v := (.int .i64 n)) rfl (by kernel_rfl) (by kernel_rfl) (by kernel_rfl) (fun _ _ _ h => h) (Or.inl ⟨by rfl, fun w' _ => ?_⟩) trivial ?_
  · go_simp
  refine wpAnyH_ready (rs := [1, 3]) (by kernel_rfl) (by simp) ?_
  refine AllReadyH.cons rfl (fun K hK => ?_) ?_
  · refine step_make rfl 45 60 (.tmp 10) (.tmp 10) rfl i1 (.agg Tryd.zeroCells60) 128 Tryd.underlying45 hi1 hz1 hs1 n (by simp [Act.eval, Act.put]) (by simp [Act.eval, Act.put]) hb1 hn63 ?_
    go_simp
    refine hK.out _ _ trivial (fun S1 => ?_)
    clear hK K S1
    refine wpAnyH_ready (rs := [3]) (by kernel_rfl) (by simp) ?_
    refine AllReadyH.cons rfl (fun K hK => ?_) AllReadyH.nil
    refine step_make rfl 46 3 (.tmp 12) (.tmp 12) rfl i2 (.int .i64 0) 1 Tryd.underlying46 hi2 hz2 hs2 n (by simp [Act.eval]) (by simp [Act.eval]) hb2 hn63 ?_
    go_simp
    refine hK.out _ _ trivial (fun S1 => ?_)
    clear hK K S1
    refine wpAnyH_ready (rs := [4]) (by kernel_rfl) (by simp) ?_
    refine AllReadyH.cons rfl (fun K hK => ?_) AllReadyH.nil
    go_simp
    refine hK.out _ _ trivial (fun S1 => ?_)
    clear hK K S1
    refine wpAnyH_ready (rs := [5]) (by kernel_rfl) (by simp) ?_
    refine AllReadyH.cons rfl (fun K hK => ?_) AllReadyH.nil
    go_simp
    refine hK.out _ _ trivial (fun S1 => ?_)
    clear hK K S1
    refine wpAnyH_ready (rs := [6]) (by kernel_rfl) (by simp) ?_
    refine AllReadyH.cons rfl (fun K hK => ?_) AllReadyH.nil
    go_simp
    refine hK.out _ _ trivial (fun S1 => ?_)
    clear hK K S1
    refine wpAnyH_ready (rs := [7]) (by kernel_rfl) (by simp) ?_
    refine AllReadyH.cons rfl (fun K hK => ?_) AllReadyH.nil
    go_simp
    refine hK.out _ _ trivial (fun S1 => ?_)
    clear hK K S1
    refine wpAnyH_done (by kernel_rfl) ?_ _
    have kx : ((WD.alloc (.cells (madeCells Tryd.zeroCells60 (n * 128)) 60 (0, 0))).alloc (.cells (madeCells #[.int .i64 0] n) 3 (0, 0))).heap[w.heap.size]? = some (.cells (madeCells Tryd.zeroCells60 (n * 128)) 60 (0, 0)) := (Below.heap_alloc _ (.cells (madeCells #[.int .i64 0] n) 3 (0, 0)) _ (by simp [hWs])).trans (by have h := heap_alloc_new WD (.cells (madeCells Tryd.zeroCells60 (n * 128)) 60 (0, 0)); rwa [hWs] at h)
    have ky : ((WD.alloc (.cells (madeCells Tryd.zeroCells60 (n * 128)) 60 (0, 0))).alloc (.cells (madeCells #[.int .i64 0] n) 3 (0, 0))).heap[w.heap.size + 1]? = some (.cells (madeCells #[.int .i64 0] n) 3 (0, 0)) := by
      have h := heap_alloc_new (WD.alloc (.cells (madeCells Tryd.zeroCells60 (n * 128)) 60 (0, 0))) (.cells (madeCells #[.int .i64 0] n) 3 (0, 0))
      rwa [show (WD.alloc (.cells (madeCells Tryd.zeroCells60 (n * 128)) 60 (0, 0))).heap.size = w.heap.size + 1 from by simp [hWs]] at h
    have hbw : Below w.heap.size w ((WD.alloc (.cells (madeCells Tryd.zeroCells60 (n * 128)) 60 (0, 0))).alloc (.cells (madeCells #[.int .i64 0] n) 3 (0, 0))) := (HB.out.alloc (by omega) _).alloc (by simp [hWs]) _
    have hP := PD_new n HN.out.1 HN.out.2 w ((WD.alloc (.cells (madeCells Tryd.zeroCells60 (n * 128)) 60 (0, 0))).alloc (.cells (madeCells #[.int .i64 0] n) 3 (0, 0))) w.heap.size (w.heap.size + 1) (by omega) (by omega) (by omega) (by omega) (by omega) (by simp [hWs]) kx ky
    have HP := Lib.hid hP
    have HBW := Lib.hid (hbw.alloc (o := .cells (pcs (.slice (some ⟨w.heap.size, 0, none⟩) n n) (.slice none 0 0) (.slice (some ⟨(w.heap.size + 1), 0, none⟩) n n) false 0 (DS.new n)) 56 (0, 0)) (by simp [hWs]; omega))
    clear kx ky hbw hP
    go_wp2_with fail
    go_ret2
    exact ⟨_, rfl, HP.out, HBW.out⟩
  refine AllReadyH.cons rfl (fun K hK => ?_) AllReadyH.nil
  refine step_make rfl 46 3 (.tmp 12) (.tmp 12) rfl i2 (.int .i64 0) 1 Tryd.underlying46 hi2 hz2 hs2 n (by simp [Act.eval, Act.put]) (by simp [Act.eval, Act.put]) hb2 hn63 ?_
  go_simp
  refine hK.out _ _ trivial (fun S1 => ?_)
  clear hK K S1
  refine wpAnyH_ready (rs := [1]) (by kernel_rfl) (by simp) ?_
  refine AllReadyH.cons rfl (fun K hK => ?_) AllReadyH.nil
  refine step_make rfl 45 60 (.tmp 10) (.tmp 10) rfl i1 (.agg Tryd.zeroCells60) 128 Tryd.underlying45 hi1 hz1 hs1 n (by simp [Act.eval]) (by simp [Act.eval]) hb1 hn63 ?_
  go_simp
  refine hK.out _ _ trivial (fun S1 => ?_)
  clear hK K S1
  refine wpAnyH_ready (rs := [4]) (by kernel_rfl) (by simp) ?_
  refine AllReadyH.cons rfl (fun K hK => ?_) AllReadyH.nil
  go_simp
  refine hK.out _ _ trivial (fun S1 => ?_)
  clear hK K S1
  refine wpAnyH_ready (rs := [5]) (by kernel_rfl) (by simp) ?_
  refine AllReadyH.cons rfl (fun K hK => ?_) AllReadyH.nil
  go_simp
  refine hK.out _ _ trivial (fun S1 => ?_)
  clear hK K S1
  refine wpAnyH_ready (rs := [6]) (by kernel_rfl) (by simp) ?_
  refine AllReadyH.cons rfl (fun K hK => ?_) AllReadyH.nil
  go_simp
  refine hK.out _ _ trivial (fun S1 => ?_)
  clear hK K S1
  refine wpAnyH_ready (rs := [7]) (by kernel_rfl) (by simp) ?_
  refine AllReadyH.cons rfl (fun K hK => ?_) AllReadyH.nil
  go_simp
  refine hK.out _ _ trivial (fun S1 => ?_)
  clear hK K S1
  refine wpAnyH_done (by kernel_rfl) ?_ _
  have kx : ((WD.alloc (.cells (madeCells #[.int .i64 0] n) 3 (0, 0))).alloc (.cells (madeCells Tryd.zeroCells60 (n * 128)) 60 (0, 0))).heap[w.heap.size]? = some (.cells (madeCells #[.int .i64 0] n) 3 (0, 0)) := (Below.heap_alloc _ (.cells (madeCells Tryd.zeroCells60 (n * 128)) 60 (0, 0)) _ (by simp [hWs])).trans (by have h := heap_alloc_new WD (.cells (madeCells #[.int .i64 0] n) 3 (0, 0)); rwa [hWs] at h)
  have ky : ((WD.alloc (.cells (madeCells #[.int .i64 0] n) 3 (0, 0))).alloc (.cells (madeCells Tryd.zeroCells60 (n * 128)) 60 (0, 0))).heap[w.heap.size + 1]? = some (.cells (madeCells Tryd.zeroCells60 (n * 128)) 60 (0, 0)) := by
    have h := heap_alloc_new (WD.alloc (.cells (madeCells #[.int .i64 0] n) 3 (0, 0))) (.cells (madeCells Tryd.zeroCells60 (n * 128)) 60 (0, 0))
    rwa [show (WD.alloc (.cells (madeCells #[.int .i64 0] n) 3 (0, 0))).heap.size = w.heap.size + 1 from by simp [hWs]] at h
  have hbw : Below w.heap.size w ((WD.alloc (.cells (madeCells #[.int .i64 0] n) 3 (0, 0))).alloc (.cells (madeCells Tryd.zeroCells60 (n * 128)) 60 (0, 0))) := (HB.out.alloc (by omega) _).alloc (by simp [hWs]) _
  have hP := PD_new n HN.out.1 HN.out.2 w ((WD.alloc (.cells (madeCells #[.int .i64 0] n) 3 (0, 0))).alloc (.cells (madeCells Tryd.zeroCells60 (n * 128)) 60 (0, 0))) (w.heap.size + 1) w.heap.size (by omega) (by omega) (by omega) (by omega) (by omega) (by simp [hWs]) ky kx
  have HP := Lib.hid hP
  have HBW := Lib.hid (hbw.alloc (o := .cells (pcs (.slice (some ⟨(w.heap.size + 1), 0, none⟩) n n) (.slice none 0 0) (.slice (some ⟨w.heap.size, 0, none⟩) n n) false 0 (DS.new n)) 56 (0, 0)) (by simp [hWs]; omega))
  clear kx ky hbw hP
  go_wp2_with fail
  go_ret2
  exact ⟨_, rfl, HP.out, HBW.out⟩
/-- The texts that have been laid. -/
def icells (xs : List ByteArray) (k : Nat) : List Value := (xs.take k).map Value.string ++ List.replicate (xs.length - k) (.string ⟨#[]⟩)
theorem icells_length (xs : List ByteArray) (k : Nat) (h : k ≤ xs.length) : (icells xs k).length = xs.length := by simp [icells]; omega
theorem icells_zero (xs : List ByteArray) : icells xs 0 = List.replicate xs.length (.string ⟨#[]⟩) := by simp [icells]
theorem icells_next (xs : List ByteArray) (k : Nat) (x : ByteArray) (h : xs[k]? = some x) : icells xs (k + 1) = (icells xs k).set k (.string x) := by
  obtain ⟨hk, rfl⟩ := List.getElem?_eq_some_iff.1 h
  unfold icells
  rw [List.take_succ_eq_append_getElem hk, List.map_append, List.append_assoc]
  have hl : ((xs.take k).map Value.string).length = k := by simp; omega
  rw [List.set_append_right _ _ (by omega), hl, Nat.sub_self]
  congr 1
  rw [show xs.length - k = xs.length - (k + 1) + 1 from by omega, List.replicate_succ]
  rfl
theorem icells_all (xs : List ByteArray) : icells xs xs.length = xs.map Value.string := by simp [icells]
end Go.Proofs.YtikeckmbfgidhaaDoor

/- The program's disk: no disk. -/
namespace Go.Proofs.YtikeckmbfgidhaaDoor
open Go.RowKit

/-- No disk: nil, or one that New did not make. -/
def NoD (v : Value) (w : World) : Prop := v = .pointer none ∨ ∃ p, v = .pointer (some ⟨p, 0, none⟩) ∧ St 56 p #[.slice none 0 0, .slice none 0 0, .slice none 0 0, .bool false, .int .i64 0, .bool false, .int .i64 0, .int .i64 0] w
theorem NoD.below {v : Value} {w w' : World} (h : NoD v w) (b : Below w.heap.size w w') : NoD v w' := by
  rcases h with h | ⟨p, h, hs⟩
  · exact .inl h
  · exact .inr ⟨p, h, hs.below b⟩
set_option maxRecDepth 100000 in
theorem dSize_no (v : Value) (w : World) (h : NoD v w) : Calls Tryd.prog 20 #[v] w fun e w' => e = .returned (.int .i64 0) ∧ w = w' := by
  rcases h with rfl | ⟨p, rfl, hs⟩
  · go_enter Tryd.func20, Tryd.ntmps20
    go_wp2
    go_ret
    exact ⟨rfl, rfl⟩
  · have c0 : w.cell? ⟨p, 0, none⟩ = some (.slice none 0 0) := hs.cell rfl
    clear hs
    go_enter Tryd.func20, Tryd.ntmps20
    go_wp2
    go_ret
    exact ⟨rfl, rfl⟩
set_option maxRecDepth 100000 in
theorem dmade_no (v : Value) (w : World) (h : NoD v w) : Calls Tryd.prog 36 #[v] w fun e w' => e = .returned (.bool false) ∧ w = w' := by
  have HS := Lib.hid (dSize_no v w h)
  clear h
  go_enter Tryd.func36, Tryd.ntmps36
  go_wp2_with (go_at_call 20; go_must (refine HS.out.mono ?_); rintro e w1 ⟨rfl, rfl⟩)
  go_ret
  exact ⟨rfl, rfl⟩
set_option maxRecDepth 100000 in
theorem drefusal_no (v : Value) (w : World) (h : NoD v w) : Calls Tryd.prog 21 #[v] w fun e w' => e = .returned (.int .i64 1) ∧ w = w' := by
  have HS := Lib.hid (dmade_no v w h)
  clear h
  go_enter Tryd.func21, Tryd.ntmps21
  go_wp2_with (go_at_call 36; go_must (refine HS.out.mono ?_); rintro e w1 ⟨rfl, rfl⟩)
  go_ret
  exact ⟨rfl, rfl⟩
set_option maxRecDepth 100000 in
theorem dRead_no (v : Value) (i : Int) (w : World) (h : NoD v w) : Calls Tryd.prog 11 #[v, .int .i64 i] w fun e w' => e = .returned (.tuple #[.string ⟨#[]⟩, .int .i64 1]) ∧ w = w' := by
  have HS := Lib.hid (drefusal_no v w h)
  clear h
  go_enter Tryd.func11, Tryd.ntmps11
  go_wp2_with (go_at_call 21; go_must (refine HS.out.mono ?_); rintro e w1 ⟨rfl, rfl⟩)
  go_ret2
  exact ⟨rfl, rfl⟩
set_option maxRecDepth 100000 in
theorem dWrite_no (v : Value) (i : Int) (s : ByteArray) (w : World) (h : NoD v w) : Calls Tryd.prog 19 #[v, .int .i64 i, .string s] w fun e w' => e = .returned (.int .i64 1) ∧ w = w' := by
  have HS := Lib.hid (drefusal_no v w h)
  clear h
  go_enter Tryd.func19, Tryd.ntmps19
  go_wp2_with (go_at_call 21; go_must (refine HS.out.mono ?_); rintro e w1 ⟨rfl, rfl⟩)
  go_ret
  exact ⟨rfl, rfl⟩
end Go.Proofs.YtikeckmbfgidhaaDoor
