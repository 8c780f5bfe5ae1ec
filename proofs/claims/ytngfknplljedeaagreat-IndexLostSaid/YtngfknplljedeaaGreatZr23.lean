/- Lemmas for the laws of index. -/
import Derived.Deep.Cut
import Derived.Deep.RegionHeld3
import Derived.Deep.WholeRow
import Derived.Laws.AppendOwnNone
import Derived.StillTailTactics
import Derived.Test.YtngfknplljedeaaGreatZr10
import Derived.Test.YtngfknplljedeaaGreatZrHi
namespace Go.Proofs.YtngfknplljedeaaGreat
open Go.RowKit
set_option maxRecDepth 100000 in
set_option maxHeartbeats 1000000 in
theorem ixInts_any {o1 o2 : Nat → Prop} (va vb : Value) (xs ys : List Int) (w : World) (ha : Ints o1 va xs w) (hb : Ints o2 vb ys w) :
 Calls Tryz.prog 34 #[va, vb] w fun e w' => e = .returned (.bool (decide (xs = ys))) ∧ Below w.heap.size w w' := by
 obtain ⟨ao, ac, ab, ai, rfl, hal, hao, hac⟩ := ha
 obtain ⟨bo, bc, bb, bi, rfl, hbl, hbo, hbc⟩ := hb
 by_cases hl : xs.length = ys.length
 · obtain ⟨n, hn⟩ : ∃ n, n = xs.length := ⟨_, rfl⟩
   have hm : ys.length = n := by omega
   have HD := hI (show xs = ys ↔ ∀ i, i < n → xs[i]? = ys[i]? from ⟨fun h i _ => by rw [h], fun h => List.ext_getElem? fun i => by
    by_cases hi : i < n
    · exact h i hi
    · rw [List.getElem?_eq_none (by omega), List.getElem?_eq_none (by omega)]⟩)
   have HA := hI (show ∀ i, i < n → ∃ x, xs[i]? = some x ∧ ao = some ⟨ab, ai, none⟩ ∧ w.cell? ⟨ab, ai + i, none⟩ = some (.int .i64 x) from fun i hi => ⟨xs[i]'(by omega), List.getElem?_eq_getElem _, (hao (by omega)).1, hac i _ (List.getElem?_eq_getElem _)⟩)
   have HB := hI (show ∀ i, i < n → ∃ x, ys[i]? = some x ∧ bo = some ⟨bb, bi, none⟩ ∧ w.cell? ⟨bb, bi + i, none⟩ = some (.int .i64 x) from fun i hi => ⟨ys[i]'(by omega), List.getElem?_eq_getElem _, (hbo (by omega)).1, hbc i _ (List.getElem?_eq_getElem _)⟩)
   rw [hm, ← hn]
   obtain ⟨d, hd⟩ : ∃ d, d = decide (xs = ys) := ⟨_, rfl⟩
   rw [← hd]
   have HE := hI hd
   have hnn : n ≤ 9223372036854775807 := by have := hal.1; omega
   clear hd hal hao hac hbl hbo hbc hl hn hm
   go_enter Tryz.func34, Tryz.ntmps34
   go_wp2_with fail
   go_loopw [5] (fun v wr => ∃ i q : Nat, i ≤ n ∧ v = .int .i64 i ∧ (∀ j, j < i → xs[j]? = ys[j]?) ∧ wr = w.drewN q) (fun v _ => n - (intOf v).toNat)
   case atStart => exact ⟨0, 0, Nat.zero_le _, rfl, fun j h => absurd h (Nat.not_lt_zero _), rfl⟩
   case round =>
    obtain ⟨i, q, hi, rfl, heq, rfl⟩ := hrel
    have HQ := hI heq
    clear heq
    by_cases hlt : i < n
    · obtain ⟨x, hx, rfl, cx⟩ := HA.out i hlt
      obtain ⟨y, hy, rfl, cy⟩ := HB.out i hlt
      have hb0 : (0 : Int) ≤ (i : Int) := by omega
      have hb1 : (i : Int) < (n : Int) := by omega
      have HX := hI (And.intro hx hy)
      clear hx hy
      by_cases hxy : x = y
      · have dxy : (x == y) = true := beq_iff_eq.2 hxy
        have HXY := hI hxy
        clear hxy
        go_wp2_with fail
        go_quiet (fail)
        go_wp2_with fail
        go_roundw
        case rel => exact ⟨i + 1, _, by omega, by go_num, fun j hj => by
         by_cases e : j = i
         · subst e; rw [HX.out.1, HX.out.2, HXY.out]
         · exact HQ.out j (by omega), rfl⟩
        case measure => simp [intOf]; omega
      · have dxy : (x == y) = false := beq_eq_false_iff_ne.2 hxy
        have HXY := hI hxy
        clear hxy
        go_wp2_with fail
        go_quiet (fail)
        go_wp2_with fail
        go_ret
        refine ⟨?_, below_drewN (below_drewN (Below.refl _ _) _) _⟩
        rw [HE.out, decide_eq_false (fun e => HXY.out (by
         have := (HD.out.1 e) i hlt
         rw [HX.out.1, HX.out.2] at this
         exact Option.some.inj this))]
        rfl
    · obtain rfl : n = i := by omega
      go_wp2_with fail
      go_ret
      refine ⟨?_, below_drewN (Below.refl _ _) _⟩
      rw [HE.out, decide_eq_true (HD.out.2 HQ.out)]
      rfl
 · have hne : ((xs.length : Int) == (ys.length : Int)) = false := by
    rw [beq_eq_false_iff_ne]
    omega
   have HE := hI (show decide (xs = ys) = false from decide_eq_false fun e => hl (by rw [e]))
   obtain ⟨n, hn⟩ : ∃ n, n = xs.length := ⟨_, rfl⟩
   obtain ⟨m, hm⟩ : ∃ n, n = ys.length := ⟨_, rfl⟩
   rw [← hn, ← hm] at hne ⊢
   obtain ⟨d, hd⟩ : ∃ d, d = decide (xs = ys) := ⟨_, rfl⟩
   rw [← hd]
   have HR := hI (show d = false from hd.trans HE.out)
   clear hd hn hm hl hal hbl hao hbo hac hbc
   go_enter Tryz.func34, Tryz.ntmps34
   go_wp2_with fail
   go_ret
   exact ⟨by rw [HR.out]; rfl, Below.refl _ _⟩
def isLost (a b : CA) (s : Nat) : Bool := a.blocks.any (fun x => decide (x.slot = (s : Int))) && !b.blocks.any (fun x => decide (x.slot = (s : Int)))
def lostTo (a b : CA) (n : Nat) : List Int := ((List.range n).filter (isLost a b)).map fun (s : Nat) => (s : Int)
def CA.lost (a b : CA) : List Int := lostTo a b 65536
theorem lostTo_succ (a b : CA) (n : Nat) : lostTo a b (n + 1) = lostTo a b n ++ (if isLost a b n then [(n : Int)] else []) := by
 unfold lostTo
 rw [List.range_succ, List.filter_append, List.map_append]
 cases h : isLost a b n <;> simp [h]
theorem nodup_le {α : Type} [DecidableEq α] : ∀ {l m : List α}, l.Nodup → (∀ x ∈ l, x ∈ m) → l.length ≤ m.length
 | [], m, _, _ => Nat.zero_le _
 | x :: l, m, hn, hs => by
  rw [List.nodup_cons] at hn
  have hx := hs x List.mem_cons_self
  have := nodup_le (l := l) (m := m.erase x) hn.2 fun y hy => (List.mem_erase_of_ne (by rintro rfl; exact hn.1 hy)).2 (hs y (List.mem_cons_of_mem _ hy))
  rw [List.length_erase_of_mem hx] at this
  have h0 : 0 < m.length := List.length_pos_of_mem hx
  rw [List.length_cons]
  omega
theorem lostTo_nodup (a b : CA) (n : Nat) : (lostTo a b n).Nodup := by
 unfold lostTo List.Nodup
 rw [List.pairwise_map]
 have : ((List.range n).filter (isLost a b)).Pairwise (· < ·) := List.Pairwise.filter _ List.pairwise_lt_range
 exact this.imp fun {x y} h e => by omega
theorem lostTo_slots (a b : CA) (n : Nat) : ∀ x ∈ lostTo a b n, x ∈ a.blocks.map (·.slot) := by
 intro x hx
 unfold lostTo at hx
 obtain ⟨s, hs, rfl⟩ := List.mem_map.1 hx
 have := (List.mem_filter.1 hs).2
 unfold isLost at this
 rw [Bool.and_eq_true] at this
 obtain ⟨y, hy, e⟩ := List.any_eq_true.1 this.1
 exact List.mem_map.2 ⟨y, hy, of_decide_eq_true e⟩
theorem lostTo_length (a b : CA) (n : Nat) : (lostTo a b n).length ≤ a.blocks.length := by
 have := nodup_le (lostTo_nodup a b n) (lostTo_slots a b n)
 rwa [List.length_map] at this
theorem lostTo_full (a b : CA) (n : Nat) (h : ¬ (lostTo a b n).length < a.blocks.length) : ∀ d, lostTo a b (n + d) = lostTo a b n
 | 0 => rfl
 | d + 1 => by
  have ih := lostTo_full a b n h d
  have := lostTo_length a b (n + d + 1)
  rw [← Nat.add_assoc, lostTo_succ, ih] at *
  cases hl : isLost a b (n + d) with
  | false => simp
  | true =>
   rw [hl] at this
   simp at this
   omega
theorem anyTo {α : Type} (p : α → Bool) (xs : List α) (i : Nat) (x : α) (h : xs[i]? = some x) : (xs.take (i + 1)).any p = ((xs.take i).any p || p x) := by
 rw [take_one xs i x h]
 simp
set_option maxRecDepth 100000 in
set_option maxHeartbeats 4000000 in
theorem ixLost_any (cs ds : List Value) (ca cb : CA) (w : World) (h : CAt w.heap.size cs ca w) (h' : CAt w.heap.size ds cb w) (hm : ca.blocks.length ≤ 1073741823) :
 Calls Tryz.prog 36 #[.agg cs.toArray, .agg ds.toArray] w fun e w' => (∃ v, e = .returned v ∧ Ints (fun j => w.heap.size ≤ j) v (ca.lost cb) w') ∧ Below w.heap.size w w' := by
 obtain ⟨i0, hiz, hz0, hz1, hz2⟩ := info_parts Tryz.infoInt
 obtain ⟨v1, v2, v3, v4, rfl, r1, r2, r3, r4⟩ := h
 obtain ⟨u1, u2, u3, u4, rfl, t1, t2, t3, t4⟩ := h'
 obtain ⟨ao, cap, b, off, rfl, hl, hx⟩ := r4.walk
 obtain ⟨ao', cap', b', off', rfl, hl', hx'⟩ := t4.walk
 obtain ⟨n, hnn⟩ : ∃ n, n = ca.blocks.length := ⟨_, rfl⟩
 obtain ⟨m, hmm⟩ : ∃ n, n = cb.blocks.length := ⟨_, rfl⟩
 rw [← hnn] at hl hx hm ⊢
 rw [← hmm] at hl' hx' ⊢
 obtain ⟨w1, hw1⟩ : ∃ w1, w1 = (w.alloc (.cells #[v1, v2, v3, .slice ao n cap] 27 (0, 0))).alloc (.cells #[u1, u2, u3, .slice ao' m cap'] 27 (0, 0)) := ⟨_, rfl⟩
 have hb1 : Below w.heap.size w w1 := by rw [hw1]; exact ((Below.refl _ w).alloc (Nat.le_refl _) _).alloc (by simp) _
 have hs1 : w1.heap.size = w.heap.size + 1 + 1 := by rw [hw1]; simp
 have hst : St 27 w.heap.size #[v1, v2, v3, .slice ao n cap] w1 := by rw [hw1]; exact (St.new w 27 _).alloc _
 have hst' : St 27 (w.heap.size + 1) #[u1, u2, u3, .slice ao' m cap'] w1 := by
  rw [hw1, show w.heap.size + 1 = (w.alloc (.cells #[v1, v2, v3, .slice ao n cap] 27 (0, 0))).heap.size from by simp]; exact St.new _ _ _
 have HX := hI (show ∀ W, Below w1.heap.size w1 W → ∀ i, i < n → ∃ x : Bk, ca.blocks[i]? = some x ∧ ao = some ⟨b, off, none⟩ ∧ W.rangeAt b (off + i * 3) x.vs from fun W hW i hi => by
  obtain ⟨x, e1, e2, e3, e4⟩ := hx i hi
  exact ⟨x, e1, e2, fun j u hu => ((hb1.trans (hW.mono hb1.size)).cell (p := ⟨b, off + i * 3 + j, none⟩) e3).trans (e4 j u hu)⟩)
 have HX' := hI (show ∀ W, Below w1.heap.size w1 W → ∀ i, i < m → ∃ x : Bk, cb.blocks[i]? = some x ∧ ao' = some ⟨b', off', none⟩ ∧ W.rangeAt b' (off' + i * 3) x.vs from fun W hW i hi => by
  obtain ⟨x, e1, e2, e3, e4⟩ := hx' i hi
  exact ⟨x, e1, e2, fun j u hu => ((hb1.trans (hW.mono hb1.size)).cell (p := ⟨b', off' + i * 3 + j, none⟩) e3).trans (e4 j u hu)⟩)
 have HCb := hI (show ∀ W, Below w1.heap.size w1 W → W.cell? ⟨w.heap.size, 3, none⟩ = some (.slice ao n cap) ∧ W.cell? ⟨w.heap.size + 1, 3, none⟩ = some (.slice ao' m cap') from fun W hW => ⟨(hst.below hW).cell rfl, (hst'.below hW).cell rfl⟩)
 have HW1 := hI hw1
 have HB1 := hI hb1
 have HN := hI (And.intro hnn hmm)
 clear hx hx' r1 r2 r3 r4 t1 t2 t3 t4 hb1 hw1 hst hst' hnn hmm
 show Calls Tryz.prog 36 #[.agg #[v1, v2, v3, .slice ao n cap], .agg #[u1, u2, u3, .slice ao' m cap']] w _
 go_enter Tryz.func36, Tryz.ntmps36
 go_wp2_with fail
 rw [← HW1.out]
 go_loopw [5, 6] (fun o c wr => ∃ (s : Nat) (vv : Value), s ≤ 65536 ∧ c = .int .i64 s ∧ vv = o ∧ wr.ownsRow w1.heap.size 3 1 vv (lostTo ca cb s).length ((lostTo ca cb s).map (Value.int .i64)) ∧ Below w1.heap.size w1 wr) (fun _ c _ => 65536 - (intOf c).toNat)
 case atStart => exact ⟨0, .slice none 0 0, Nat.zero_le _, rfl, rfl, World.ownsRow_nil _ _ _ _, Below.refl _ _⟩
 case round =>
  obtain ⟨s, vv, hs, rfl, rfl, hrow, hbel⟩ := hrel
  have HRow := hI hrow
  have HB := hI hbel
  have hsz := hbel.size
  obtain ⟨e1, e2⟩ := HCb.out wr hbel
  obtain ⟨q, hq⟩ : ∃ q, q = (lostTo ca cb s).length := ⟨_, rfl⟩
  have hqn : q ≤ n := by rw [hq, HN.out.1]; exact lostTo_length _ _ _
  rw [← hq] at HRow
  obtain ⟨oa, oc, rfl⟩ := own_slice HRow.out
  have HQ := hI hq
  clear hrow hbel hq
  by_cases hs6 : s ≤ 65535
  · have d1 : decide ((s : Int) ≤ 65535) = true := decide_eq_true (by omega)
    by_cases hq2 : q < n
    · have d2 : decide ((q : Int) < (n : Int)) = true := decide_eq_true (by omega)
      go_wp2_with fail
      obtain ⟨W0, hW0⟩ : ∃ W, W = wr := ⟨_, rfl⟩
      have f1 : W0.cell? ⟨w.heap.size, 3, none⟩ = some (.slice ao n cap) := by rw [hW0]; exact e1
      have f2 : W0.cell? ⟨w.heap.size + 1, 3, none⟩ = some (.slice ao' m cap') := by rw [hW0]; exact e2
      rw [← hW0] at HRow HB hsz ⊢
      clear e1 e2 hW0
      go_loopw [7, 9] (fun a c wq => ∃ i : Nat, i ≤ n ∧ c = .int .i64 i ∧ a = .bool ((ca.blocks.take i).any (fun x => decide (x.slot = (s : Int)))) ∧ wq = W0) (fun _ c _ => n - (intOf c).toNat)
      case atStart => exact ⟨0, Nat.zero_le _, rfl, rfl, rfl⟩
      case round =>
       obtain ⟨i, hi, rfl, rfl, rfl⟩ := hrel
       by_cases hlt : i < n
       · obtain ⟨x, hxi, rfl, hr⟩ := HX.out wr HB.out i hlt
         have HTk := hI (anyTo (fun x => decide (x.slot = (s : Int))) ca.blocks i x hxi)
         obtain ⟨x0, x1, x2⟩ := x
         obtain ⟨p, hp⟩ : ∃ p, p = (ca.blocks.take i).any (fun x => decide (x.slot = (s : Int))) := ⟨_, rfl⟩
         rw [← hp] at HTk ⊢
         have c2 : wr.cell? ⟨b, off + i * 3 + 2, none⟩ = some (.int .i64 x2) := hr 2 _ rfl
         have k0 : (0 : Int) ≤ (i : Int) := by omega
         have k1 : (i : Int) < (n : Int) := by omega
         clear hr hxi hp
         cases p with
         | true =>
          go_wp2_with fail
          go_roundw
          case rel => exact ⟨i + 1, hlt, by go_num, by rw [HTk.out]; rfl, by first | rfl | trivial⟩
          case measure => simp [intOf]; omega
         | false =>
          by_cases hz : x2 = (s : Int)
          · have d : (x2 == (s : Int)) = true := by rw [beq_iff_eq]; exact hz
            have HZ := hI hz
            clear hz
            go_wp2_with fail
            go_roundw
            case rel => exact ⟨i + 1, hlt, by go_num, by rw [HTk.out]; simp [HZ.out], by first | rfl | trivial⟩
            case measure => simp [intOf]; omega
          · have d : (x2 == (s : Int)) = false := by rw [beq_eq_false_iff_ne]; exact hz
            have HZ := hI hz
            clear hz
            go_wp2_with fail
            go_roundw
            case rel => exact ⟨i + 1, hlt, by go_num, by rw [HTk.out]; simp [HZ.out], by first | rfl | trivial⟩
            case measure => simp [intOf]; omega
       · obtain rfl : i = n := by omega
         have hA0 : (ca.blocks.take i).any (fun x => decide (x.slot = (s : Int))) = ca.blocks.any (fun x => decide (x.slot = (s : Int))) := by rw [HN.out.1, List.take_length]
         rw [hA0]
         obtain ⟨pa, hpa⟩ : ∃ p, p = ca.blocks.any (fun x => decide (x.slot = (s : Int))) := ⟨_, rfl⟩
         rw [← hpa]
         have HPA := hI hpa
         clear hpa hA0
         have HRow2 := hI HRow.out
         cases pa with
         | false =>
          have HLs := hI (show isLost ca cb s = false from by unfold isLost; rw [← HPA.out]; rfl)
          have HSx := hI (lostTo_succ ca cb s)
          rw [HLs.out] at HSx
          go_wp2_with fail
          go_loopw [8, 10] (fun bb c wq => ∃ i : Nat, i = 0 ∧ c = .int .i64 i ∧ bb = .bool false ∧ wq = wr) (fun _ c _ => m - (intOf c).toNat)
          case atStart => exact ⟨0, rfl, rfl, rfl, rfl⟩
          case round =>
           obtain ⟨j, hj, rfl, rfl, rfl⟩ := hrel
           go_wp2_with fail
           all_goals (
            go_roundw
            case rel => exact ⟨s + 1, _, by omega, by go_num, rfl, by rw [HSx.out]; simp only [Bool.false_eq_true, if_false, List.append_nil]; rw [← HQ.out]; exact HRow2.out, HB.out⟩
            case measure => simp [intOf]; omega)
         | true =>
          go_wp2_with fail
          go_loopw [8, 10] (fun bb c wq => ∃ i : Nat, i ≤ m ∧ c = .int .i64 i ∧ bb = .bool ((cb.blocks.take i).any (fun x => decide (x.slot = (s : Int)))) ∧ wq = wr) (fun _ c _ => m - (intOf c).toNat)
          case atStart => exact ⟨0, Nat.zero_le _, rfl, rfl, rfl⟩
          case round =>
           obtain ⟨j, hj, rfl, rfl, rfl⟩ := hrel
           by_cases hlt2 : j < m
           · obtain ⟨x, hxi, rfl, hr⟩ := HX'.out wr HB.out j hlt2
             have HTk := hI (anyTo (fun x => decide (x.slot = (s : Int))) cb.blocks j x hxi)
             obtain ⟨x0, x1, x2⟩ := x
             obtain ⟨p, hp⟩ : ∃ p, p = (cb.blocks.take j).any (fun x => decide (x.slot = (s : Int))) := ⟨_, rfl⟩
             rw [← hp] at HTk ⊢
             have c2 : wr.cell? ⟨b', off' + j * 3 + 2, none⟩ = some (.int .i64 x2) := hr 2 _ rfl
             have k0 : (0 : Int) ≤ (j : Int) := by omega
             have k1 : (j : Int) < (m : Int) := by omega
             clear hr hxi hp
             cases p with
             | true =>
              go_wp2_with fail
              go_roundw
              case rel => exact ⟨j + 1, hlt2, by go_num, by rw [HTk.out]; rfl, by first | rfl | trivial⟩
              case measure => simp [intOf]; omega
             | false =>
              by_cases hz : x2 = (s : Int)
              · have d : (x2 == (s : Int)) = true := by rw [beq_iff_eq]; exact hz
                have HZ := hI hz
                clear hz
                go_wp2_with fail
                go_roundw
                case rel => exact ⟨j + 1, hlt2, by go_num, by rw [HTk.out]; simp [HZ.out], by first | rfl | trivial⟩
                case measure => simp [intOf]; omega
              · have d : (x2 == (s : Int)) = false := by rw [beq_eq_false_iff_ne]; exact hz
                have HZ := hI hz
                clear hz
                go_wp2_with fail
                go_roundw
                case rel => exact ⟨j + 1, hlt2, by go_num, by rw [HTk.out]; simp [HZ.out], by first | rfl | trivial⟩
                case measure => simp [intOf]; omega
           · obtain rfl : j = m := by omega
             have hB0 : (cb.blocks.take j).any (fun x => decide (x.slot = (s : Int))) = cb.blocks.any (fun x => decide (x.slot = (s : Int))) := by rw [HN.out.2, List.take_length]
             rw [hB0]
             obtain ⟨pb, hpb⟩ : ∃ p, p = cb.blocks.any (fun x => decide (x.slot = (s : Int))) := ⟨_, rfl⟩
             rw [← hpb]
             have HLs := hI (show isLost ca cb s = !pb from by unfold isLost; rw [← HPA.out, ← hpb]; rfl)
             have HSx := hI (lostTo_succ ca cb s)
             rw [HLs.out] at HSx
             clear hpb hB0
             cases pb with
             | true =>
              go_wp2_with fail
              go_roundw
              case rel => exact ⟨s + 1, _, by omega, by go_num, rfl, by rw [HSx.out]; simp only [Bool.not_true, Bool.false_eq_true, if_false, List.append_nil]; rw [← HQ.out]; exact HRow2.out, HB.out⟩
              case measure => simp [intOf]; omega
             | false =>
              go_wp2_with (first
               | (at_builtin; go_must (refine wpList_append_lies _ rfl (.tmp 67) (.tmp 69) 71 rfl w1.heap.size 3 i0 (.int .i64 0) 1 8 Tryz.underlying71 hiz hz0 hz1 hz2 rfl (by decide) (.slice oa q oc) q _ (by simp [Act.eval]) (HRow2.out.alloc _) ⟨wr.heap.size, 0, none⟩ 1 1 [.int .i64 s] (by simp [Act.eval]) rfl (World.news_of_block (heap_alloc_new wr _)) (by intro u hu; simp at hu; subst hu; rfl) (by decide) (by unfold maxLen; omega) (by omega) (by simp; omega) (wr.heap.size + 1) (by simp) ?_); intro g cap6 w6 h1 hg _ _; have H6 := hI h1; have B6 := hI (Below.grown (HB.out.alloc hsz _) hg (by simp; omega) (fun k hk => (World.ownsRow.lt HRow2.out k hk).1)); clear h1 hg))
              go_roundw
              case rel =>
               refine ⟨s + 1, _, by omega, by go_num, rfl, ?_, B6.out⟩
               rw [HSx.out]
               simp only [Bool.not_false, if_true, List.length_append, List.length_singleton, List.map_append, List.map_singleton]
               rw [← HQ.out]
               exact H6.out
              case measure => simp [intOf]; omega
    · have d2 : decide ((q : Int) < (n : Int)) = false := decide_eq_false (by omega)
      have HFull := hI (show ca.lost cb = lostTo ca cb s from by
       have := lostTo_full ca cb s (by rw [← HQ.out, ← HN.out.1]; exact hq2) (65536 - s)
       rwa [show s + (65536 - s) = 65536 from by omega] at this)
      go_wp2_with fail
      go_ret
      refine ⟨⟨_, rfl, ?_⟩, HB1.out.trans (HB.out.mono HB1.out.size)⟩
      rw [HFull.out]
      exact (ints_row HRow.out HQ.out).imp fun j hj => by omega
  · obtain rfl : s = 65536 := by omega
    have d1 : decide (((65536 : Nat) : Int) ≤ 65535) = false := decide_eq_false (by omega)
    go_wp2_with fail
    go_ret
    refine ⟨⟨_, rfl, ?_⟩, HB1.out.trans (HB.out.mono HB1.out.size)⟩
    exact (ints_row HRow.out HQ.out).imp fun j hj => by omega
end Go.Proofs.YtngfknplljedeaaGreat
