/- The law of mixed pieces. -/
import Derived.Test.YtfipojmgmmjnmaaQg
import Derived.StillTailTactics
namespace Go.Proofs.Ytfipojmgmmjnmaa
open Go.RowKit

theorem wpList_app0 {P : Program} {w : World} {ops : Array Oper} {rest : List Oper} {o : Oper} {a : Act} {Q : Exit → Act → World → Prop} (hgd : o.guard = none) (s x : Operand) (t : TypeId)
    (ho : o.op = .call { callee := .builtin .append, args := #[s, x], argTypes := #[t, t] })
    (base : Nat) (e : TypeId) (i : TypeInfo) (z : Value) (size bytes : Nat) (ht : P.underlying t = some (.slice e)) (hi : P.info? e = some i) (hz : i.zero = some z)
    (hsize : i.size = size) (hby : i.bytes = bytes) (hzs : z.cells.size = size) (hsz : 0 < size)
    (v : Value) (hs : a.eval s = v) (hown : w.ownsRow base e size v 0 [])
    (ad : Addr) (m c : Nat) (news : List Value) (hx : a.eval x = .slice (some ad) m c) (hl : news.length = m * size) (hnews : ∀ j u, news[j]? = some u → w.cell? (ad.add j) = some u) (h1 : ∀ u ∈ news, u.oneCell' = true)
    (hm : 0 < m) (h63 : m ≤ maxLen) (hbytes : m * bytes ≤ 140737488355328) (hbase : base ≤ w.heap.size)
    (h : ∀ g cap w', w'.ownsRow base e size (.slice (some ⟨g, 0, none⟩) m cap) m news → w.grownBy w' v.ownBlock → wpList P ops Q rest (a.put o.dst (.slice (some ⟨g, 0, none⟩) m cap)) w') : wpList P ops Q (o :: rest) a w := by
  refine wpList_append_lies w hgd s x t ho base e i z size bytes ht hi hz hsize hby hzs hsz v 0 [] hs hown ad m c news hx hl hnews h1 hm (by omega) (by simpa using hbytes) hbase _ rfl ?_
  intro g cap w' h1 h2 _ _
  rw [Nat.zero_add] at h1 ⊢
  exact h g cap w' h1 h2
theorem pcells_one (l : List Pz) : ∀ u ∈ pcells l, u.oneCell' = true := by
  intro u hu
  obtain ⟨p, _, hp⟩ := List.mem_flatMap.1 hu
  simp [Pz.arr] at hp
  rcases hp with rfl | rfl | rfl | rfl | rfl <;> rfl
theorem pcells_length : ∀ l : List Pz, (pcells l).length = l.length * 5
  | [] => rfl
  | y :: l => by
    show (y.arr.toList ++ pcells l).length = _
    rw [List.length_append, pcells_length l]
    simp [Pz.arr]
    omega
theorem pcells_set : ∀ (l : List Pz) (i : Nat) (p p' : Pz) (j : Nat) (u : Value), l[i]? = some p → p'.arr.toList = p.arr.toList.set j u → j < 5 → (pcells l).set (i * 5 + j) u = pcells (l.set i p')
  | [], i, p, p', j, u, h, _, _ => by simp at h
  | y :: l, 0, p, p', j, u, h, h2, hj => by
    obtain rfl : y = p := by simpa using h
    show (y.arr.toList ++ pcells l).set (0 * 5 + j) u = p'.arr.toList ++ pcells l
    rw [Nat.zero_mul, Nat.zero_add, List.set_append_left _ _ (by simp [Pz.arr]; omega), h2]
  | y :: l, i + 1, p, p', j, u, h, h2, hj => by
    show (y.arr.toList ++ pcells l).set ((i + 1) * 5 + j) u = y.arr.toList ++ pcells (l.set i p')
    rw [← pcells_set l i p p' j u (by simpa using h) h2 hj, List.set_append_right _ _ (by simp [Pz.arr]; omega)]
    congr 2
    simp [Pz.arr]
    omega
/-- The cells of a row of pieces that is some one's own. -/
theorem row_cells {B n : Nat} {v : Value} {xs : List Value} {w : World} (h : w.ownsRow B 81 5 v n xs) (hn : 0 < n) : ∃ g cap, v = .slice (some ⟨g, 0, none⟩) n cap ∧ g < w.heap.size ∧ n ≤ cap ∧ ∀ j u, xs[j]? = some u → w.cell? ⟨g, j, none⟩ = some u := by
  have h0 := h
  rcases h.2 with ⟨_, h0⟩ | ⟨g, cap, cur, rfl, hb, hg, hc, _⟩
  · omega
  · refine ⟨g, cap, rfl, (h0.lt g rfl).2, hc, fun j u hu => ?_⟩
    have hj := (List.getElem?_eq_some_iff.1 hu).1
    rw [h0.cellAt j (by have := h0.1; omega)]
    exact hu
theorem step_own {P : Program} {w : World} {ops : Array Oper} {o : Oper} {a : Act} {K : Act → World → Prop} {Q : Exit → Act → World → Prop} {E : Prop} (hgd : o.guard = none) (s x : Operand) (t : TypeId)
    (ho : o.op = .call { callee := .builtin .append, args := #[s, x], argTypes := #[t, t] })
    (base : Nat) (e : TypeId) (i : TypeInfo) (z : Value) (size bytes : Nat) (ht : P.underlying t = some (.slice e)) (hi : P.info? e = some i) (hz : i.zero = some z)
    (hsize : i.size = size) (hby : i.bytes = bytes) (hzs : z.cells.size = size) (hsz : 0 < size)
    (g0 n cap0 : Nat) (xs : List Value) (hs : a.eval s = .slice (some ⟨g0, 0, none⟩) n cap0) (hown : w.ownsRow base e size (.slice (some ⟨g0, 0, none⟩) n cap0) n xs)
    (ad : Addr) (m c : Nat) (news : List Value) (hx : a.eval x = .slice (some ad) m c) (hl : news.length = m * size) (hnews : ∀ j u, news[j]? = some u → w.cell? (ad.add j) = some u) (h1 : ∀ u ∈ news, u.oneCell' = true)
    (N : Nat) (hN : n + m = N) (h63 : N ≤ maxLen) (hbytes : N * bytes ≤ 140737488355328) (hbase : base ≤ w.heap.size) (ys : List Value) (hys : xs ++ news = ys)
    (h : ∀ g cap w', w'.ownsRow base e size (.slice (some ⟨g, 0, none⟩) N cap) N ys → w.grownBy w' (Value.slice (some ⟨g0, 0, none⟩) n cap0).ownBlock → K (a.put o.dst (.slice (some ⟨g, 0, none⟩) N cap)) w') :
    if Region.wanted o (yielded ops a.tmps) = true then Oper.wp P o a w K Q else E := by
  subst hN hys
  have hw : Region.wanted o (yielded ops a.tmps) = true := by simp [Region.wanted, hgd]
  rw [if_pos hw]
  refine wp_append_own w s x t ho base e i z size bytes ht hi hz hsize hby hzs hsz _ n xs hs hown ad m c news hx hl hnews h1 h63 hbytes hbase fun v' w' h2 h3 h4 => ?_
  rcases h2.2 with ⟨rfl, h0⟩ | ⟨g, cap, cur, rfl, _⟩
  · exact absurd (h4.1 rfl).1 (by simp)
  · exact h g cap w' h2 h3
theorem pcells_drop : ∀ (l : List Pz) (k : Nat), pcells (l.drop k) = (pcells l).drop (k * 5)
  | l, 0 => by simp
  | [], k + 1 => by simp [pcells]
  | y :: l, k + 1 => by
    show pcells (l.drop k) = (y.arr.toList ++ pcells l).drop ((k + 1) * 5)
    rw [pcells_drop l k, show (k + 1) * 5 = y.arr.toList.length + k * 5 from by simp [Pz.arr]; omega, List.drop_append]
    simp
theorem pcells_take (l : List Pz) (k j : Nat) (u : Value) (h : (pcells (l.take k))[j]? = some u) : (pcells l)[j]? = some u := by
  have e : pcells l = pcells (l.take k) ++ pcells (l.drop k) := by rw [← pcells_append, List.take_append_drop]
  rw [e, List.getElem?_append_left (List.getElem?_eq_some_iff.1 h).1]
  exact h
theorem pcells_erase (l : List Pz) (i : Nat) : pcells (l.take i) ++ pcells (l.drop (i + 1)) = pcells (l.eraseIdx i) := by
  rw [List.eraseIdx_eq_take_drop_succ, pcells_append]
theorem mix_new {B g m cap i j : Nat} {w3 w4 : World} {o : Obj} {L : List Pz} {p p' : Pz} {u : Value} (hB : w3.heap.size = B) (h4 : w4.ownsRow B 81 5 (.slice (some ⟨g, 0, none⟩) m cap) m (pcells L)) (hg : (w3.alloc o).grownBy w4 (Value.slice (some ⟨B, 0, none⟩) 0 0).ownBlock)
    (hL : L.length = m) (hp : L[i]? = some p) (hp' : p'.arr.toList = p.arr.toList.set j u) (hj : j < 5) :
    Below w3.heap.size w3 (w4.setCell ⟨g, i * 5 + j, none⟩ u) ∧ Pzs (fun k => B ≤ k) (.slice (some ⟨g, 0, none⟩) m cap) (L.set i p') (w4.setCell ⟨g, i * 5 + j, none⟩ u) := by
  subst hB
  have hb : Below w3.heap.size w3 w4 := ((Below.refl _ w3).alloc (Nat.le_refl _) o).grown hg (by simp) (fun k hk => by simp [Value.ownBlock] at hk; omega)
  refine ⟨hb.setCell (p := ⟨g, i * 5 + j, none⟩) (h4.lt g rfl).1 u, ?_⟩
  have h := (h4.stored (i * 5 + j) u).1
  rw [pcells_set L i p p' j u hp hp' hj] at h
  exact pzs_row h (by rw [List.length_set, hL])
theorem made_set (W : World) (a : Addr) (u : Value) : ((W.setCell a u).alloc (.cells #[] 81)).ownsRow W.heap.size 81 5 (.slice (some ⟨W.heap.size, 0, none⟩) 0 0) 0 [] := by
  have h := World.ownsRow_made (base := (W.setCell a u).heap.size) (e := 81) (size := 5) (W.setCell a u) #[] 0 (Nat.le_refl _) (by decide) (by simp)
  rwa [show (W.setCell a u).heap.size = W.heap.size from by simp [World.setCell]] at h
set_option maxRecDepth 100000 in
theorem mixed_known (r : ByteArray) (e q x i : Int) (w : World) (h : 6400 < r.size ∨ (r.size ≤ 6400 ∧ numsB e q = false)) : Calls Try.prog 8 #[.string r, .int .i64 e, .int .i64 q, .int .i64 x, .int .i64 i] w fun a w' => a = .returned (.bool true) ∧ Below w.heap.size w w' := by
  rcases h with h | ⟨h, hn⟩
  · have d1 : decide ((r.size : Int) > 6400) = true := decide_eq_true (by omega)
    go_enter Try.func8, Try.ntmps8
    go_wp2_with (go_at_call 26; go_must (refine (pcknown_any _).mono ?_); rintro a w1 ⟨rfl, b1⟩; have B1 := Lib.hid b1; clear b1)
    go_ret
    exact ⟨rfl, B1.out⟩
  · have d1 : decide ((r.size : Int) > 6400) = false := decide_eq_false (by omega)
    have HN := Lib.hid hn
    go_enter Try.func8, Try.ntmps8
    go_wp2_with (first | (go_at_call 29; go_must (refine (pkNums_any _ _ _).mono ?_); rintro a w2 ⟨h9, rfl⟩; rw [HN.out] at h9; subst h9) | (go_at_call 26; go_must (refine (pcknown_any _).mono ?_); rintro a w1 ⟨rfl, b1⟩; have B1 := Lib.hid b1; clear b1))
    go_ret
    exact ⟨rfl, B1.out⟩
set_option maxRecDepth 100000 in
set_option maxHeartbeats 1000000 in
theorem mixed_out (r : ByteArray) (e q x i : Int) (m : Nat) (w : World) (h2 : r.size ≤ 6400) (hn : numsB e q = true) (hm : m = cnt r.size)
    (h : (m < 2) ∨ (2 ≤ m ∧ i < 0) ∨ (2 ≤ m ∧ 0 ≤ i ∧ (m : Int) ≤ i) ∨ (2 ≤ m ∧ 0 ≤ i ∧ i < (m : Int) ∧ numsB x x = false)) : Calls Try.prog 8 #[.string r, .int .i64 e, .int .i64 q, .int .i64 x, .int .i64 i] w fun a w' => a = .returned (.bool true) ∧ Below w.heap.size w w' := by
  have d1 : decide ((r.size : Int) > 6400) = false := decide_eq_false (by omega)
  have HN := Lib.hid hn
  have HC := Lib.hid (fun W => pcCut_do r e q W h2 hn)
  have h1 : 1 ≤ m := by rw [hm]; exact cnt_pos _
  rw [← hm] at HC
  have d2 : ((m : Int) == 0) = false := by rw [beq_eq_false_iff_ne]; omega
  clear hm
  rcases h with h | ⟨h, h3⟩ | ⟨h, h3, h4⟩ | ⟨h, h3, h4, h5⟩
  · have d3 : decide ((m : Int) < 2) = true := decide_eq_true (by omega)
    clear h1 h
    go_enter Try.func8, Try.ntmps8
    go_wp2_with (first | (go_at_call 29; go_must (refine (pkNums_any _ _ _).mono ?_); rintro a w2 ⟨h9, rfl⟩; rw [HN.out] at h9; subst h9) | (go_at_call 27; go_must (refine (HC.out _).mono ?_); rintro a w3 ⟨v, rfl, ho, b3⟩; obtain ⟨ao, cap, hv⟩ := own_slice ho; subst hv; have B3 := Lib.hid b3; clear ho b3) | (go_at_call 26; go_must (refine (pcknown_any _).mono ?_); rintro a w1 ⟨rfl, b1⟩; have B1 := Lib.hid b1; clear b1))
    go_ret
    exact ⟨rfl, below_chain B3.out B1.out⟩
  · have d3 : decide ((m : Int) < 2) = false := decide_eq_false (by omega)
    have d4 : decide (i < 0) = true := decide_eq_true (by omega)
    clear h1 h h3
    go_enter Try.func8, Try.ntmps8
    go_wp2_with (first | (go_at_call 29; go_must (refine (pkNums_any _ _ _).mono ?_); rintro a w2 ⟨h9, rfl⟩; rw [HN.out] at h9; subst h9) | (go_at_call 27; go_must (refine (HC.out _).mono ?_); rintro a w3 ⟨v, rfl, ho, b3⟩; obtain ⟨ao, cap, hv⟩ := own_slice ho; subst hv; have B3 := Lib.hid b3; clear ho b3) | (go_at_call 26; go_must (refine (pcknown_any _).mono ?_); rintro a w1 ⟨rfl, b1⟩; have B1 := Lib.hid b1; clear b1))
    go_ret
    exact ⟨rfl, below_chain B3.out B1.out⟩
  · have d3 : decide ((m : Int) < 2) = false := decide_eq_false (by omega)
    have d4 : decide (i < 0) = false := decide_eq_false (by omega)
    have d5 : decide (i ≥ (m : Int)) = true := decide_eq_true (by omega)
    clear h1 h h3 h4
    go_enter Try.func8, Try.ntmps8
    go_wp2_with (first | (go_at_call 29; go_must (refine (pkNums_any _ _ _).mono ?_); rintro a w2 ⟨h9, rfl⟩; rw [HN.out] at h9; subst h9) | (go_at_call 27; go_must (refine (HC.out _).mono ?_); rintro a w3 ⟨v, rfl, ho, b3⟩; obtain ⟨ao, cap, hv⟩ := own_slice ho; subst hv; have B3 := Lib.hid b3; clear ho b3) | (go_at_call 26; go_must (refine (pcknown_any _).mono ?_); rintro a w1 ⟨rfl, b1⟩; have B1 := Lib.hid b1; clear b1))
    go_ret
    exact ⟨rfl, below_chain B3.out B1.out⟩
  · have d3 : decide ((m : Int) < 2) = false := decide_eq_false (by omega)
    have d4 : decide (i < 0) = false := decide_eq_false (by omega)
    have d5 : decide (i ≥ (m : Int)) = false := decide_eq_false (by omega)
    have HX := Lib.hid h5
    clear h1 h h3 h4 h5
    go_enter Try.func8, Try.ntmps8
    go_wp2_with (first | (go_at_call 29; go_must (refine (pkNums_any _ _ _).mono ?_); rintro a w2 ⟨h9, rfl⟩; (first | rw [HN.out] at h9 | rw [HX.out] at h9); subst h9) | (go_at_call 27; go_must (refine (HC.out _).mono ?_); rintro a w3 ⟨v, rfl, ho, b3⟩; obtain ⟨ao, cap, hv⟩ := own_slice ho; subst hv; have B3 := Lib.hid b3; clear ho b3) | (go_at_call 26; go_must (refine (pcknown_any _).mono ?_); rintro a w1 ⟨rfl, b1⟩; have B1 := Lib.hid b1; clear b1))
    go_ret
    exact ⟨rfl, below_chain B3.out B1.out⟩
set_option maxRecDepth 100000 in
set_option maxHeartbeats 2000000 in
theorem mixed_do (r : ByteArray) (e q x : Int) (i m : Nat) (w : World) (L : List Pz) (p : Pz) (bx bq : Bool) (ra rb : ByteArray) (ca cb : Int) (HC : Hid (∀ W, Calls Try.prog 27 #[.string r, .int .i64 e, .int .i64 q] W fun a w' =>
    ∃ v, a = .returned (.tuple #[v, .int .i64 0]) ∧ w'.ownsRow W.heap.size 81 5 v m (pcells L) ∧ Below W.heap.size W w')) (h2 : r.size ≤ 6400) (hn : numsB e q = true) (hx : numsB x x = true) (hL : L.length = m) (hp : L[i]? = some p)
    (hm : 2 ≤ m) (hm6 : m ≤ 64) (hi : i < m) (HA : Hid (joinedPair (L.set i { p with epoch := x }) = (ra, ca))) (HB : Hid (joinedPair (L.set i { p with seq := x }) = (rb, cb))) (HD : Hid (joinedPair (L.eraseIdx i) = (⟨#[]⟩, 14)))
    (d10 : (ca == 0) = bx) (d11 : (x == e) = bx) (d12 : (cb == 0) = bq) (d13 : (x == q) = bq) : Calls Try.prog 8 #[.string r, .int .i64 e, .int .i64 q, .int .i64 x, .int .i64 (i : Int)] w fun a w' => a = .returned (.bool true) ∧ Below w.heap.size w w' := by
  have d1 : decide ((r.size : Int) > 6400) = false := decide_eq_false (by omega)
  have HN := Lib.hid hn
  have HX := Lib.hid hx
  have d2 : ((m : Int) == 0) = false := by rw [beq_eq_false_iff_ne]; omega
  have d3 : decide ((m : Int) < 2) = false := decide_eq_false (by omega)
  have d4 : decide ((i : Int) < 0) = false := decide_eq_false (by omega)
  have d5 : decide ((i : Int) ≥ (m : Int)) = false := decide_eq_false (by omega)
  have hlen : (pcells L).length = m * 5 := by rw [pcells_length, hL]
  obtain ⟨iz, hiz, hz0, hz1, hz2⟩ := info_parts infoPz
  have HP := Lib.hid hp
  have HL := Lib.hid hL
  clear hn hx hL hp h2
  go_enter Try.func8, Try.ntmps8
  go_wp2_with (first
    | (go_at_call 29; go_must (refine (pkNums_any _ _ _).mono ?_); rintro a w2 ⟨h9, rfl⟩; (first | rw [HN.out] at h9 | rw [HX.out] at h9); subst h9)
    | (go_at_call 27; go_must (refine (HC.out _).mono ?_); rintro a w3 ⟨v, rfl, ho, b3⟩; obtain ⟨bb, kk, hv, hbb, hkk, hcl⟩ := row_cells ho (by omega); subst hv; have B3 := Lib.hid b3; have C3 := Lib.hid hcl; have O3 := Lib.hid (World.ownsRow_made (base := w3.heap.size) (e := 81) (size := 5) w3 #[] 0 (Nat.le_refl _) (by decide) (by simp)); clear ho b3 hcl)
    | (at_builtin; refine wpList_app0 rfl (.tmp 65) (.tmp 66) 67 rfl w3.heap.size 81 iz (.agg #[.int .i64 0, .int .i64 0, .int .i64 0, .int .i64 0, .string ⟨#[]⟩]) 5 48 Try.underlying67 hiz hz0 hz1 hz2 rfl (by decide) _ (by simp [Act.eval]) O3.out ⟨bb, 0, none⟩ m kk (pcells L) (by simp [Act.eval]) hlen (fun j u hu => by rw [Addr.add_mid, Nat.zero_add]; exact cell_al (C3.out j u hu) _) (pcells_one L) (by omega) (by unfold maxLen; omega) (by omega) (by simp) ?_; intro g cap w4 h4 hg4; have c4 := (h4.cellAt (i * 5) (by omega)).trans (pcells_at L i p HP.out 0 _ rfl); have f4 := h4.frozenAt (i * 5); have hs4 := (mix_new (p' := { p with epoch := x }) (j := 0) (u := .int .i64 x) rfl h4 hg4 HL.out HP.out rfl (by decide)); have B4 := Lib.hid (show Below w3.heap.size w3 (w4.setCell ⟨g, i * 5, none⟩ (.int .i64 x)) from hs4.1); have P4 := Lib.hid (show Pzs _ _ _ (w4.setCell ⟨g, i * 5, none⟩ (.int .i64 x)) from hs4.2); clear h4 hg4 hs4)
    | (at_builtin; refine wpList_app0 rfl (.tmp 73) (.tmp 74) 67 rfl w4.heap.size 81 iz (.agg #[.int .i64 0, .int .i64 0, .int .i64 0, .int .i64 0, .string ⟨#[]⟩]) 5 48 Try.underlying67 hiz hz0 hz1 hz2 rfl (by decide) _ (by simp [Act.eval]) (made_set w4 _ _) ⟨bb, 0, none⟩ m kk (pcells L) (by simp [Act.eval]) hlen (fun j u hu => by rw [Addr.add_mid, Nat.zero_add]; exact cell_al ((B4.out.cell (p := ⟨bb, j, none⟩) hbb).trans (C3.out j u hu)) _) (pcells_one L) (by omega) (by unfold maxLen; omega) (by omega) (by simp [World.setCell]) ?_; intro g2 cap2 w6 h6 hg6; have c6 := (h6.cellAt (i * 5 + 1) (by omega)).trans (pcells_at L i p HP.out 1 _ rfl); have f6 := h6.frozenAt (i * 5 + 1); have hs6 := (mix_new (p' := { p with seq := x }) (j := 1) (u := .int .i64 x) (by simp [World.setCell]) h6 hg6 HL.out HP.out rfl (by decide)); have B6 := Lib.hid hs6.1; have P6 := Lib.hid hs6.2; clear h6 hg6 hs6)
    | (go_at_call 30; with_reducible refine (pcJoin_any _ _ _ (P4.out.below B6.out)).mono ?_; rintro a w7 ⟨h7, b7⟩; rw [HA.out] at h7; subst h7; have B7 := Lib.hid b7; clear b7)
    | (go_at_call 30; with_reducible refine (pcJoin_any _ _ _ (P6.out.below B7.out)).mono ?_; rintro a w8 ⟨h8, b8⟩; rw [HB.out] at h8; subst h8; have B8 := Lib.hid (below_chain (below_chain (below_chain B4.out B6.out) B7.out) b8); clear b8))
  have C8 := Lib.hid (fun j u (hu : (pcells L)[j]? = some u) => (B8.out.cell (p := ⟨bb, j, none⟩) hbb).trans (C3.out j u hu))
  have hb8 : bb < w8.heap.size := Nat.lt_of_lt_of_le hbb B8.out.size
  have O8 := Lib.hid (World.ownsRow_made (base := w8.heap.size) (e := 81) (size := 5) w8 #[] 0 (Nat.le_refl _) (by decide) (by simp))
  have hik : i ≤ kk := by omega
  have ht5 : (pcells (L.take i)).length = i * 5 := by rw [pcells_length, List.length_take, HL.out]; congr 1; omega
  have hd5 : (pcells (L.drop (i + 1))).length = (m - (i + 1)) * 5 := by rw [pcells_length, List.length_drop, HL.out]
  have he5 : (L.eraseIdx i).length = m - 1 := by rw [List.length_eraseIdx, HL.out, if_pos hi]
  obtain ⟨k1, hk1⟩ : ∃ k1, k1 = i + 1 := ⟨_, rfl⟩
  have hwr : IntKind.i64.wrap ((i : Int) + 1) = (k1 : Int) := by rw [IntKind.wrap_i64]; omega
  have hkm : k1 ≤ m := by omega
  have KE := Lib.hid hk1
  rw [← hk1] at hd5
  by_cases hkk1 : kk = k1
  · subst hkk1
    have hm0 : m - kk = 0 := by omega
    have DN := Lib.hid (show pcells (L.take i) ++ [] = pcells (L.eraseIdx i) from by
      rw [← pcells_erase, ← hk1, List.drop_eq_nil_of_le (by rw [HL.out]; omega)]
      rfl)
    have hk1' : i + 1 ≤ kk := by omega
    have hk1'' : kk ≤ i + 1 := by omega
    clear hk1
    go_region_law (first
      | (refine step_own rfl (.tmp 92) (.tmp 95) 67 rfl w8.heap.size 81 iz (.agg #[.int .i64 0, .int .i64 0, .int .i64 0, .int .i64 0, .string ⟨#[]⟩]) 5 48 Try.underlying67 hiz hz0 hz1 hz2 rfl (by decide) w8.heap.size 0 0 [] (by simp [Act.eval]) (World.ownsRow.drew O8.out) ⟨bb, 0, none⟩ i kk (pcells (L.take i)) (by simp [Act.eval]) ht5 (fun j u hu => by rw [Addr.add_mid, Nat.zero_add]; exact cell_al (C8.out j u (pcells_take L i j u hu)) _) (pcells_one _) i (by omega) (by unfold maxLen; omega) (by omega) (by simp) _ rfl ?_; intro g3 cap3 w9 h9 hg9; have H9 := Lib.hid h9; have B9 := Lib.hid (show Below w8.heap.size w8 w9 from ((Below.refl _ w8).alloc (Nat.le_refl _) _).drew.grown hg9 (by simp) (fun k hk => by simp [Value.ownBlock] at hk; omega)); clear h9 hg9)
      | (go_simp; go_at_call 30; with_reducible refine (pcJoin_any _ _ _ P10.out).mono ?_; rintro a w11 ⟨h11, b11⟩; rw [HD.out] at h11; subst h11; have B11 := Lib.hid (below_chain (below_chain B8.out B10.out) b11); clear b11)
      | (refine step_own rfl (.tmp 96) (.tmp 100) 67 rfl w8.heap.size 81 iz (.agg #[.int .i64 0, .int .i64 0, .int .i64 0, .int .i64 0, .string ⟨#[]⟩]) 5 48 Try.underlying67 hiz hz0 hz1 hz2 rfl (by decide) g3 i cap3 (pcells (L.take i)) (by simp [Act.eval]) H9.out ⟨bb, 0, none⟩ 0 0 [] (by simp [Act.eval]) (by simp) (fun j u hu => by simp at hu) (by first | exact pcells_one _ | simp) (m - 1) (by omega) (by unfold maxLen; omega) (by omega) B9.out.size (pcells (L.eraseIdx i)) DN.out ?_; intro g4 cap4 w10 h10 hg10; have P10 := Lib.hid (pzs_row h10 he5.symm); have B10 := Lib.hid (show Below w8.heap.size w8 w10 from B9.out.grown hg10 B9.out.size (fun k hk => (H9.out.lt k hk).1)); clear h10 hg10))
    all_goals
      go_wp2_with (go_at_call 26; go_must (refine (pcknown_any _).mono ?_); rintro a w12 ⟨rfl, b12⟩; have B12 := Lib.hid b12; clear b12)
      go_ret
      exact ⟨rfl, below_chain (below_chain B3.out B11.out) B12.out⟩
  · have DN := Lib.hid (show pcells (L.take i) ++ pcells (L.drop k1) = pcells (L.eraseIdx i) from by rw [hk1, pcells_erase])
    have hk1' : i + 1 ≤ k1 := by omega
    have hk1'' : k1 ≤ i + 1 := by omega
    clear hk1
    go_region_law (first
      | (refine step_own rfl (.tmp 92) (.tmp 95) 67 rfl w8.heap.size 81 iz (.agg #[.int .i64 0, .int .i64 0, .int .i64 0, .int .i64 0, .string ⟨#[]⟩]) 5 48 Try.underlying67 hiz hz0 hz1 hz2 rfl (by decide) w8.heap.size 0 0 [] (by simp [Act.eval]) (World.ownsRow.drew O8.out) ⟨bb, 0, none⟩ i kk (pcells (L.take i)) (by simp [Act.eval]) ht5 (fun j u hu => by rw [Addr.add_mid, Nat.zero_add]; exact cell_al (C8.out j u (pcells_take L i j u hu)) _) (pcells_one _) i (by omega) (by unfold maxLen; omega) (by omega) (by simp) _ rfl ?_; intro g3 cap3 w9 h9 hg9; have H9 := Lib.hid h9; have B9 := Lib.hid (show Below w8.heap.size w8 w9 from ((Below.refl _ w8).alloc (Nat.le_refl _) _).drew.grown hg9 (by simp) (fun k hk => by simp [Value.ownBlock] at hk; omega)); clear h9 hg9)
      | (go_simp; go_at_call 30; with_reducible refine (pcJoin_any _ _ _ P10.out).mono ?_; rintro a w11 ⟨h11, b11⟩; rw [HD.out] at h11; subst h11; have B11 := Lib.hid (below_chain (below_chain B8.out B10.out) b11); clear b11)
      | (refine step_own rfl (.tmp 96) (.tmp 100) 67 rfl w8.heap.size 81 iz (.agg #[.int .i64 0, .int .i64 0, .int .i64 0, .int .i64 0, .string ⟨#[]⟩]) 5 48 Try.underlying67 hiz hz0 hz1 hz2 rfl (by decide) g3 i cap3 (pcells (L.take i)) (by simp [Act.eval]) H9.out ⟨bb, k1 * 5, none⟩ (m - k1) (kk - k1) (pcells (L.drop k1)) (by simp [Act.eval]) hd5 (fun j u hu => by rw [Addr.add_mid]; rw [pcells_drop, List.getElem?_drop] at hu; exact (B9.out.cell (p := ⟨bb, k1 * 5 + j, none⟩) hb8).trans (C8.out _ u hu)) (by first | exact pcells_one _ | simp) (m - 1) (by omega) (by unfold maxLen; omega) (by omega) B9.out.size (pcells (L.eraseIdx i)) DN.out ?_; intro g4 cap4 w10 h10 hg10; have P10 := Lib.hid (pzs_row h10 he5.symm); have B10 := Lib.hid (show Below w8.heap.size w8 w10 from B9.out.grown hg10 B9.out.size (fun k hk => (H9.out.lt k hk).1)); clear h10 hg10))
    all_goals
      go_wp2_with (go_at_call 26; go_must (refine (pcknown_any _).mono ?_); rintro a w12 ⟨rfl, b12⟩; have B12 := Lib.hid b12; clear b12)
      go_ret
      exact ⟨rfl, below_chain (below_chain B3.out B11.out) B12.out⟩
theorem pair_ok (xs : List Pz) : ((joinedPair xs).2 == 0) = (joined xs).isSome := by
  unfold joinedPair
  cases joined xs <;> rfl
theorem mixed_any (r : ByteArray) (e q x i : Int) (w : World) : Calls Try.prog 8 #[.string r, .int .i64 e, .int .i64 q, .int .i64 x, .int .i64 i] w fun a w' => a = .returned (.bool true) ∧ Below w.heap.size w w' := by
  by_cases h1 : 6400 < r.size
  · exact mixed_known r e q x i w (.inl h1)
  have h1 : r.size ≤ 6400 := by omega
  cases hn : numsB e q with
  | false => exact mixed_known r e q x i w (.inr ⟨h1, hn⟩)
  | true =>
    by_cases h2 : 2 ≤ cnt r.size
    · by_cases h3 : i < 0
      · exact mixed_out r e q x i _ w h1 hn rfl (.inr (.inl ⟨h2, h3⟩))
      · by_cases h4 : (cnt r.size : Int) ≤ i
        · exact mixed_out r e q x i _ w h1 hn rfl (.inr (.inr (.inl ⟨h2, by omega, h4⟩)))
        · cases hx : numsB x x with
          | false => exact mixed_out r e q x i _ w h1 hn rfl (.inr (.inr (.inr ⟨h2, by omega, by omega, hx⟩)))
          | true =>
            obtain ⟨k, rfl⟩ : ∃ k : Nat, i = (k : Int) := ⟨i.toNat, by omega⟩
            have hk : k < cnt r.size := by omega
            refine mixed_do r e q x k (cnt r.size) w (pieces r e q) (pieceAt r e q k) (decide (x = e)) (decide (x = q)) _ _ _ _ (Lib.hid fun W => pcCut_do r e q W h1 hn) h1 hn hx (pieces_len r e q) (pieces_at r e q k hk) h2 (cnt_most _ h1) hk
              (Lib.hid (show _ = ((joinedPair _).1, (joinedPair _).2) from rfl)) (Lib.hid (show _ = ((joinedPair _).1, (joinedPair _).2) from rfl)) (Lib.hid ?_) ?_ ?_ ?_ ?_
            · unfold joinedPair
              rw [missing_one r e q k h2 hk]
            · rw [pair_ok, mixed_epoch r e q x k hn h1 hx h2 hk]
            · rw [Bool.eq_iff_iff]; simp
            · rw [pair_ok, mixed_seq r e q x k hn h1 hx h2 hk]
            · rw [Bool.eq_iff_iff]; simp
    · exact mixed_out r e q x i _ w h1 hn rfl (.inl (by omega))
end Go.Proofs.Ytfipojmgmmjnmaa
