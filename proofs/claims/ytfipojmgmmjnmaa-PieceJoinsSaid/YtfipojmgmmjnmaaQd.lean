/- The program's pieces: Cut. -/
import Derived.Test.YtfipojmgmmjnmaaQb
import Derived.Test.YtfipojmgmmjnmaaQc
namespace Go.Proofs.Ytfipojmgmmjnmaa
open Go.RowKit Go.Shelf
attribute [local go_sem] Oper.semAt_some

set_option maxRecDepth 100000 in
theorem pcCut_long (r : ByteArray) (e q : Int) (w : World) (hr : 6400 < r.size) : Calls Try.prog 27 #[.string r, .int .i64 e, .int .i64 q] w fun a w' => a = .returned (.tuple #[.slice none 0 0, .int .i64 4]) ∧ Below w.heap.size w w' := by
  have d1 : decide ((r.size : Int) > 6400) = true := decide_eq_true (by omega)
  go_enter Try.func27, Try.ntmps27
  go_wp2
  go_ret2
  exact ⟨rfl, Below.refl _ _⟩
theorem cell_al {w : World} {a : Addr} {v : Value} (h : w.cell? a = some v) (o : Obj) : (w.alloc o).cell? a = some v := by
  rw [World.cell?_alloc_lt _ _ _ (World.block_lt_of_cell? w _ h)]
  exact h
theorem shared_cnt (e q : Int) (n : Nat) (h : n ≤ 6400) : sharedB e q (cnt n : Int) = numsB e q := by
  unfold sharedB numsB
  have h1 : 1 ≤ cnt n := by unfold cnt; split <;> omega
  have h2 : cnt n ≤ 64 := by unfold cnt; split <;> omega
  rw [decide_eq_true (show (1 : Int) ≤ (cnt n : Int) by omega), decide_eq_true (show (cnt n : Int) ≤ 64 by omega), Bool.and_true, Bool.and_true]
set_option maxRecDepth 100000 in
theorem pcCut_none (r : ByteArray) (e q : Int) (w : World) (hr : r.size ≤ 6400) (hn : numsB e q = false) : Calls Try.prog 27 #[.string r, .int .i64 e, .int .i64 q] w fun a w' => a = .returned (.tuple #[.slice none 0 0, .int .i64 3]) ∧ Below w.heap.size w w' := by
  have d1 : decide ((r.size : Int) > 6400) = false := decide_eq_false (by omega)
  have HC := Lib.hid (fun W => pcCount_in r.size W hr)
  have HV := Lib.hid (fun W => pcvalidShared_any e q (cnt r.size : Int) W)
  rw [shared_cnt e q _ hr, hn] at HV
  clear hn hr
  go_enter Try.func27, Try.ntmps27
  go_wp2_with (first | (go_at_call 28; go_must (refine (HC.out _).mono ?_); rintro a w1 ⟨rfl, p1, hw1⟩; have B1 := Lib.hid (show Below w.heap.size w w1 from by rw [hw1]; exact below_drewN (Below.refl _ w) p1); clear hw1) | (go_at_call 51; go_must (refine (HV.out _).mono ?_); rintro a w2 ⟨rfl, b2⟩; have B2 := Lib.hid b2; clear b2))
  go_ret2
  refine ⟨rfl, ?_⟩
  have b := B2.out
  have b1 : Below w.heap.size w (w1.alloc (.cells #[.int .i64 e, .int .i64 q, .int .i64 (cnt r.size : Int)] 97 (0, 0))) := B1.out.alloc B1.out.size _
  exact b1.trans (b.mono b1.size)
set_option maxRecDepth 100000 in
theorem pcpieces_any (r : ByteArray) (e q m : Int) (w : World) : Calls Try.prog 52 #[.string r, .agg #[.int .i64 e, .int .i64 q, .int .i64 m]] w fun a w' =>
    a = .returned (.func (.func 61) #[] #[.pointer (some ⟨w.heap.size + 1, 0, none⟩), .pointer (some ⟨w.heap.size, 0, none⟩)]) ∧ w' = (w.alloc (.cells #[.string r] 9 (0, 0))).alloc (.cells #[.int .i64 e, .int .i64 q, .int .i64 m] 97 (0, 0)) := by
  have hmf : ∀ (fn : Fn) (first cap : Array Value) (w : World), (Instr.makeFunc fn first cap).run Try.prog w = .ok (.func fn first cap) w := fun _ _ _ _ => rfl
  go_enter Try.func52, Try.ntmps52
  go_wp2
  go_ret
  exact ⟨rfl, rfl⟩
theorem wpListIn_app {F : Fence} {n : Nat} {P : Program} (w : World) {ops : Array Oper} {rest : List Oper} {o : Oper} {a : Act} {Q : Exit → Act → World → Prop}
    (hg : o.guard = none) (s x : Operand) (t : TypeId) (hop : o.op = Op.call { callee := Callee.builtin Builtin.append, args := #[s, x], argTypes := #[t, t] })
    (base : Nat) (e : TypeId) (i : TypeInfo) (z : Value) (size bytes : Nat) (h1 : P.underlying t = some (.slice e)) (h2 : P.info? e = some i) (h3 : i.zero = some z) (h4 : i.size = size) (h5 : i.bytes = bytes) (h6 : z.cells.size = size) (h7 : 0 < size)
    (v : Value) (k : Nat) (xs : List Value) (hs : a.eval s = v) (hown : w.ownsRow base e size v k xs) (ad : Addr) (m c : Nat) (news : List Value) (hx : a.eval x = .slice (some ad) m c) (hn : news.length = m * size)
    (hc : ∀ j u, news[j]? = some u → w.cell? (ad.add j) = some u) (h1c : ∀ u ∈ news, u.oneCell' = true) (hm : 0 < m) (b1 : k + m ≤ maxLen) (b2 : (k + m) * bytes ≤ 140737488355328) (b3 : base ≤ w.heap.size)
    (hK : ∀ g cap w', w'.ownsRow base e size (.slice (some ⟨g, 0, none⟩) (k + m) cap) (k + m) (xs ++ news) → w.grownBy w' v.ownBlock → (v.ownBlock = some g ∨ g = w.heap.size) → wpListIn F n P ops Q rest (a.put o.dst (.slice (some ⟨g, 0, none⟩) (k + m) cap)) w') :
    wpListIn F n P ops Q (o :: rest) a w := by
  refine wpListIn_plain hg fun K hK' => ?_
  obtain ⟨g, cap, w', hrun, r1, r2, r3, _⟩ := run_append_lies (P := P) w t o.type base e i z size bytes h1 h2 h3 h4 h5 h6 h7 v k xs hown ad m c news hn hc h1c hm b1 b2 b3 _ rfl
  unfold Oper.wpIn
  refine ⟨by simp [Oper.about, hop, resolve, Target.leads, Sem.run_pure], ?_⟩
  rw [Oper.semAt_plain F _ _ (by rw [hop]; intro c hc'; cases hc')]
  simp [execOp, hop, resolve, invoke, builtin, hs, hx, hrun, Result.andThen]
  exact hK' _ _ (hK g cap w' r1 r2 r3)
theorem cut_keep {v : Value} {c1 : Nat} {W2 w4 : World} {X : Obj} (hne : ∀ g, v.ownBlock = some g → g ≠ c1 ∧ g ≠ c1 + 1 ∧ g ≠ c1 + 2) (hs : c1 + 3 ≤ W2.heap.size) (hg : (W2.alloc X).grownBy w4 v.ownBlock) (u : Value) : Keep2 (c1 + 1) (c1 + 2) W2 (w4.setCell ⟨c1, 0, none⟩ u) := by
  constructor
  · refine (heap_setCell_other w4 ⟨c1, 0, none⟩ (c1 + 1) u (by simp)).trans ((hg.block (c1 + 1) (by simp; omega) fun e => (hne _ e.symm).2.1 rfl).trans (Below.heap_alloc _ _ _ (by omega)))
  · refine (heap_setCell_other w4 ⟨c1, 0, none⟩ (c1 + 2) u (by simp)).trans ((hg.block (c1 + 2) (by simp; omega) fun e => (hne _ e.symm).2.2 rfl).trans (Below.heap_alloc _ _ _ (by omega)))
theorem cut_new {v : Value} {c1 g n cap : Nat} {W2 : World} {X : Obj} (hne : ∀ g, v.ownBlock = some g → g ≠ c1 ∧ g ≠ c1 + 1 ∧ g ≠ c1 + 2) (hs : c1 + 3 ≤ W2.heap.size) (hat : v.ownBlock = some g ∨ g = (W2.alloc X).heap.size) :
    ∀ g', (Value.slice (some ⟨g, 0, none⟩) n cap).ownBlock = some g' → g' ≠ c1 ∧ g' ≠ c1 + 1 ∧ g' ≠ c1 + 2 := by
  intro g' hg'
  simp only [Value.ownBlock, Option.some.injEq] at hg'
  subst hg'
  rcases hat with h | h
  · exact hne _ h
  · simp at h
    omega
theorem infoPz : (Try.prog.info? 81).map (fun i => (i.zero, i.size, i.bytes)) = some (some (.agg #[.int .i64 0, .int .i64 0, .int .i64 0, .int .i64 0, .string ⟨#[]⟩]), 5, 48) := by kernel_rfl
/-- Behind so many rounds. -/
def CutI (w0 : World) (c1 : Nat) (r : ByteArray) (e q : Int) (k : Nat) (W : World) : Prop :=
  (∃ v, Boxed W c1 67 v ∧ W.ownsRow w0.heap.size 81 5 v k (pcells (piecesTo r e q k)) ∧ (∀ g, v.ownBlock = some g → g ≠ c1 ∧ g ≠ c1 + 1 ∧ g ≠ c1 + 2)) ∧ Below w0.heap.size w0 W
theorem cutI_abides (w0 : World) (c1 S : Nat) (r : ByteArray) (e q : Int) (h1 : w0.heap.size ≤ c1) (h2 : c1 < S) : AbidesIn (c1 + 1) S (CutI w0 c1 r e q) := by
  rintro k W W' row ⟨⟨v, hv, hr, hn⟩, hb⟩ hg hrow
  refine ⟨⟨v, hv.kept hg fun e' => ?_, hr.kept hg ?_, hn⟩, hb.grown hg hb.size fun j e' => ?_⟩
  · rcases hrow c1 e'.symm with h | h <;> omega
  · rcases hr.2 with ⟨rfl, _⟩ | ⟨g, cap, cur, rfl, _, hgb, _⟩
    · exact .inl rfl
    · refine .inr fun e' => ?_
      rcases hrow g e'.symm with h | ⟨_, o, ho, hc⟩
      · exact (hn g rfl).2.1 h
      · rw [hgb] at ho
        cases ho
        cases hc
  · rcases hrow j e' with h | h <;> omega
set_option maxRecDepth 100000 in
set_option maxHeartbeats 2000000 in
theorem pcCut_do (r : ByteArray) (e q : Int) (w : World) (hr : r.size ≤ 6400) (hn : numsB e q = true) : Calls Try.prog 27 #[.string r, .int .i64 e, .int .i64 q] w fun a w' =>
    ∃ v, a = .returned (.tuple #[v, .int .i64 0]) ∧ w'.ownsRow w.heap.size 81 5 v (cnt r.size) (pcells (pieces r e q)) ∧ Below w.heap.size w w' := by
  have d1 : decide ((r.size : Int) > 6400) = false := decide_eq_false (by omega)
  have HC := Lib.hid (fun W => pcCount_in r.size W hr)
  have HV := Lib.hid (fun W => pcvalidShared_any e q (cnt r.size : Int) W)
  have hm6 : cnt r.size ≤ 64 := by unfold cnt; split <;> omega
  rw [shared_cnt e q _ hr, hn] at HV
  have HP := Lib.hid (show pieces r e q = piecesTo r e q (cnt r.size) from rfl)
  obtain ⟨m, hm⟩ : ∃ m, m = cnt r.size := ⟨_, rfl⟩
  rw [← hm] at HC HV HP hm6 ⊢
  have HM := Lib.hid hm
  clear hn hm
  refine callsIn_wide.1 (callsIn_of_wp_marks (n := 6) Try.func27 rfl trivial ?_ rfl)
  simp only [Try.ntmps27, List.size_toArray, List.length_cons, List.length_nil, Nat.reduceAdd, Nat.reduceSub, Array.replicate_succ, Array.replicate_zero, List.push_toArray, List.append_toArray, List.nil_append, List.cons_append]
  gi_wp2_with (first
    | (refine ⟨trivial, ?_⟩; gi_at_call 28; refine (callsIn_wide.2 (HC.out _)).mono ?_; rintro a w1 ⟨rfl, p1, hw1⟩; have B1 := Lib.hid (show Below w.heap.size w w1 from by rw [hw1]; exact below_drewN (Below.refl _ w) p1); clear hw1)
    | (refine ⟨trivial, ?_⟩; gi_at_call 51; refine (callsIn_wide.2 (HV.out _)).mono ?_; rintro a w2 ⟨rfl, b2⟩; have B2 := Lib.hid b2; have k2 := (b2.block w1.heap.size (by simp)); have hc2 := cell_two w1 #[.int .i64 e, .int .i64 q, .int .i64 (m : Int)] 97 k2; have u0 := cell_al (hc2 0 _ rfl) (.cells #[.slice none 0 0] 67 (0, 0)); have u1 := cell_al (hc2 1 _ rfl) (.cells #[.slice none 0 0] 67 (0, 0)); have u2 := cell_al (hc2 2 _ rfl) (.cells #[.slice none 0 0] 67 (0, 0)); clear b2 k2 hc2)
    | (refine ⟨trivial, ?_⟩; gi_at_call 52; refine (callsIn_wide.2 (pcpieces_any r e q m _)).mono ?_; rintro a w3 ⟨rfl, rfl⟩))
  have b2 : Below w.heap.size w w2 := (B1.out.alloc B1.out.size (.cells #[.int .i64 e, .int .i64 q, .int .i64 (m : Int)] 97 (0, 0))).trans (B2.out.mono (by have := B1.out.size; simp; omega))
  have hb := ((b2.alloc b2.size (.cells #[.slice none 0 0] 67 (0, 0))).alloc (by have := b2.size; simp; omega) (.cells #[.string r] 9 (0, 0))).alloc (by have := b2.size; simp; omega) (.cells #[.int .i64 e, .int .i64 q, .int .i64 (m : Int)] 97 (0, 0))
  have hbox := ((Boxed.new w2 67 (.slice none 0 0)).alloc (.cells #[.string r] 9 (0, 0))).alloc (.cells #[.int .i64 e, .int .i64 q, .int .i64 (m : Int)] 97 (0, 0))
  have hx : St 9 (w2.heap.size + 1) #[.string r] (((w2.alloc (.cells #[.slice none 0 0] 67 (0, 0))).alloc (.cells #[.string r] 9 (0, 0))).alloc (.cells #[.int .i64 e, .int .i64 q, .int .i64 (m : Int)] 97 (0, 0))) := by
    refine St.alloc ?_ _
    have h := St.new (w2.alloc (.cells #[.slice none 0 0] 67 (0, 0))) 9 #[.string r]
    rwa [show (w2.alloc (.cells #[.slice none 0 0] 67 (0, 0))).heap.size = w2.heap.size + 1 from by simp] at h
  have hs : St 97 (w2.heap.size + 2) #[.int .i64 e, .int .i64 q, .int .i64 (m : Int)] (((w2.alloc (.cells #[.slice none 0 0] 67 (0, 0))).alloc (.cells #[.string r] 9 (0, 0))).alloc (.cells #[.int .i64 e, .int .i64 q, .int .i64 (m : Int)] 97 (0, 0))) := by
    have h := St.new ((w2.alloc (.cells #[.slice none 0 0] 67 (0, 0))).alloc (.cells #[.string r] 9 (0, 0))) 97 #[.int .i64 e, .int .i64 q, .int .i64 (m : Int)]
    rwa [show ((w2.alloc (.cells #[.slice none 0 0] 67 (0, 0))).alloc (.cells #[.string r] 9 (0, 0))).heap.size = w2.heap.size + 2 from by simp] at h
  have hsz : (((w2.alloc (.cells #[.slice none 0 0] 67 (0, 0))).alloc (.cells #[.string r] 9 (0, 0))).alloc (.cells #[.int .i64 e, .int .i64 q, .int .i64 (m : Int)] 97 (0, 0))).heap.size = w2.heap.size + 3 := by simp
  generalize (((w2.alloc (.cells #[.slice none 0 0] 67 (0, 0))).alloc (.cells #[.string r] 9 (0, 0))).alloc (.cells #[.int .i64 e, .int .i64 q, .int .i64 (m : Int)] 97 (0, 0))) = W0 at hb hbox hx hs hsz ⊢
  have hwc : w.heap.size ≤ w2.heap.size := b2.size
  generalize w2.heap.size = c1 at hbox hx hs hsz hwc ⊢
  generalize w1.heap.size = c0
  clear b2 B1 B2 HC HV d1 u0 u1 u2
  obtain ⟨i0, hi, hz0, hz1, hz2⟩ := info_parts infoPz
  refine range_box rfl (by decide) (gf := 61) (lb := #[.pointer (some ⟨c1 + 1 + 1, 0, none⟩), .pointer (some ⟨c1 + 1, 0, none⟩)]) rfl trivial (enters_of Try.func61 (by kernel_rfl) rfl)
    (c1 + 1) (c1 + 2) m (by omega) (by omega) (fun k => #[.agg #[.int .i64 e, .int .i64 q, .int .i64 (k : Int), .int .i64 (m : Int), .string (chunk r k)]]) (fun _ => rfl)
    (CutI w c1 r e q) (cutI_abides w c1 _ r e q hwc (by omega)) ⟨⟨_, hbox, World.ownsRow_nil _ _ _ _, by simp [Value.ownBlock]⟩, hb⟩
    (fun l J W hJ hbW hY h0 => iter_any 5 (by decide) l (c1 + 1) (c1 + 2) r e q m (by omega) (by omega) J hJ hY W (hx.below (hbW.mono (by omega))) (hs.below (hbW.mono (by omega))) (by omega) h0)
    (fun k W => { tmps := #[.string r, .int .i64 e, .int .i64 q, undef, undef, undef, .slice none 0 0, .int .i64 0, .pointer (some ⟨c0, 0, none⟩), .pointer (some ⟨c1, 0, none⟩), .pointer (some ⟨W.heap.size, 0, none⟩), .string r, .int .i64 (r.size : Int), .bool false, .int .i64 e, .int .i64 q, .string r, .int .i64 (r.size : Int), .int .i64 (m : Int),
      .agg #[.int .i64 e, .int .i64 q, .int .i64 (m : Int)], .agg #[.int .i64 e, .int .i64 q, .int .i64 (m : Int)], .bool true, .bool false, .string r, .agg #[.int .i64 e, .int .i64 q, .int .i64 (m : Int)], .func (.func 61) #[] #[.pointer (some ⟨c1 + 1 + 1, 0, none⟩), .pointer (some ⟨c1 + 1, 0, none⟩)],
      .agg #[.int .i64 e, .int .i64 q, .int .i64 (k : Int), .int .i64 (m : Int), .string (chunk r k)], undef, undef, undef, undef, undef], defers := [] })
    (fun k => .cells #[.int .i64 e, .int .i64 q, .int .i64 (k : Int), .int .i64 (m : Int), .string (chunk r k)] 81 (0, 0)) ?assign ?body ?done
  case assign =>
    intro l k W K hK
    gi_wp2
    exact hK
  case body =>
    rintro l k W W2 hk hWs ⟨⟨v, hv, hrow, hne⟩, hbB⟩ ho hW2
    have hbx : St 81 W.heap.size #[.int .i64 e, .int .i64 q, .int .i64 (k : Int), .int .i64 (m : Int), .string (chunk r k)] W2 := ho
    have hc1 := hv.cell
    have hf1 := hv.frozen
    have x0 := hbx.cell (j := 0) rfl
    have x1 := hbx.cell (j := 1) rfl
    have x2 := hbx.cell (j := 2) rfl
    have x3 := hbx.cell (j := 3) rfl
    have x4 := hbx.cell (j := 4) rfl
    have hc2 : c1 + 3 ≤ W2.heap.size := by omega
    have hk2 : k + 1 ≤ 64 := by omega
    gi_wp2_with (gi_at_builtin; refine wpListIn_app _ rfl (.tmp 27) (.tmp 29) 67 rfl w.heap.size 81 i0 (.agg #[.int .i64 0, .int .i64 0, .int .i64 0, .int .i64 0, .string ⟨#[]⟩]) 5 48 Try.underlying67 hi hz0 hz1 hz2 rfl (by decide) v k _ rfl (hrow.alloc _) ⟨W2.heap.size, 0, none⟩ 1 1 [.int .i64 e, .int .i64 q, .int .i64 (k : Int), .int .i64 (m : Int), .string (chunk r k)] rfl rfl (World.news_of_block (w := W2.alloc _) (heap_alloc_new W2 _)) (by intro u hu; simp at hu; rcases hu with rfl | rfl | rfl | rfl | rfl <;> rfl) (by decide) (by unfold maxLen; omega) (by omega) (by have := hbB.size; simp; omega) ?_; intro g cap w4 h4 hg4 hat4; obtain ⟨a1, a2, a3, a4, a5⟩ := hv.appended (by decide) hrow hbB.size hwc h4 hg4; have hc4 := a1.cell; have hf4 := a1.frozen; have hK4 := (show Keep2 (c1 + 1) (c1 + 2) W2 (w4.setCell ⟨c1, 0, none⟩ (.slice (some ⟨g, 0, none⟩) (k + 1) cap)) from cut_keep hne hc2 hg4 _); have hN4 := (show ∀ g', (Value.slice (some ⟨g, 0, none⟩) (k + 1) cap).ownBlock = some g' → g' ≠ c1 ∧ g' ≠ c1 + 1 ∧ g' ≠ c1 + 2 from cut_new hne hc2 hat4); have A2 := Lib.hid a2; have A3 := Lib.hid a3; have A4 := Lib.hid a4; have A5 := Lib.hid a5; have K4 := Lib.hid hK4; have N4 := Lib.hid hN4; clear a1 a2 a3 a4 a5 hK4 hN4 h4 hg4 hat4)
    refine ⟨A4.out, K4.out, ⟨_, A2.out, ?_, N4.out⟩, hbB.trans A5.out⟩
    rw [piecesTo_succ, pcells_append]
    have e1 : pcells [pieceAt r e q k] = [.int .i64 e, .int .i64 q, .int .i64 (k : Int), .int .i64 (m : Int), .string (chunk r k)] := by
      rw [HM.out]
      rfl
    rw [e1]
    exact A3.out
  case done =>
    rintro D W hD ⟨⟨v, hv, hrow, hne⟩, hbB⟩ hK
    have hc1 := hv.cell
    gi_wp2
    refine ⟨by simp, .inl ⟨_, _, rfl, run_takeDeferred hK, ?_⟩⟩
    have hr2 := ownsRow_putObj hrow (.deferred none) hK rfl
    have hb2 : Below w.heap.size w (W.putObj D (.deferred none)) := hbB.grown (grownBy_putObj' W D _) hbB.size fun j e' => by cases e'; omega
    rw [← HP.out] at hr2
    exact ⟨_, results_tmp2 rfl _ _ _, _, rfl, hr2, hb2⟩
end Go.Proofs.Ytfipojmgmmjnmaa
