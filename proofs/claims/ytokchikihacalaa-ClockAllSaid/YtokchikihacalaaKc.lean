/- The reference's Victim. -/
import Derived.Test.YtokchikihacalaaKb
import Derived.Deep.RegionHeld3
import Derived.Deep.RegionLaw
namespace Go.Proofs.Ytokchikihacalaa
open Go.RowKit

/-- Is a key marked, in memory? -/
def isMark (w : World) (g k : Nat) : Bool := match w.cell? ⟨g, k * 2 + 1, none⟩ with
  | some (.bool b) => b
  | _ => false
/-- How many are. -/
def kmarks (v : Value) (w : World) : Nat := match v with
  | .slice (some a) n _ => (List.range n).countP (isMark w a.block)
  | _ => 0
theorem countP_range (l : List (ByteArray × Bool)) (f : Nat → Bool) (h : ∀ k x, l[k]? = some x → f k = x.2) : (List.range l.length).countP f = l.countP (·.2) := by
  have e : (List.range l.length).map f = l.map (·.2) := by
    apply List.ext_getElem (by simp)
    intro i h1 h2
    simp only [List.getElem_map, List.getElem_range]
    exact h i _ (List.getElem?_eq_getElem (by simpa using h2))
  have e1 : (List.range l.length).countP f = ((List.range l.length).map f).countP id := by rw [List.countP_map]; rfl
  have e2 : l.countP (·.2) = (l.map (·.2)).countP id := by rw [List.countP_map]; rfl
  rw [e1, e2, e]
theorem KRow.marks {B : Nat} {v : Value} {l : List (ByteArray × Bool)} {w : World} (h : KRow B v l w) : kmarks v w = l.countP (·.2) := by
  rcases h.2 with ⟨rfl, h0⟩ | ⟨g, cap, cur, rfl, _⟩
  · have e := List.length_eq_zero_iff.1 h0
    subst e
    rfl
  · show (List.range l.length).countP (isMark w g) = _
    refine countP_range l _ fun k x hx => ?_
    have hk := (List.getElem?_eq_some_iff.1 hx).1
    have := (World.ownsRow.cellAt h (k * 2 + 1) (by omega)).trans (kcells_at l k x hx).2
    unfold isMark
    rw [this]
/-- An empty row that was just made. -/
theorem own_empty {w : World} {B g : Nat} {e : TypeId} {size : Nat} (h : w.heap[g]? = some (.cells #[] e (0, 0))) (hB : B ≤ g) : w.ownsRow B e size (.slice (some ⟨g, 0, none⟩) 0 0) 0 [] := by
  refine ⟨by simp, .inr ⟨g, 0, #[], rfl, hB, h, Nat.le_refl _, by decide, by simp, by simp⟩⟩

set_option maxRecDepth 100000 in
set_option maxHeartbeats 2000000 in
theorem rkVictim_any {B : Nat} (v : Value) (l : List (ByteArray × Bool)) (w : World) (hl0 : 0 < l.length) (hlm : l.length ≤ 1073741824) (h : KRow B v l w) :
    Calls Try.prog 19 #[v] w fun e w' => ∃ v' s m, e = .returned (.tuple #[v', .string s]) ∧ (kspin l)[0]? = some (s, m) ∧ KRow w.heap.size v' (kspin l) w' ∧ Below w.heap.size w w' := by
  obtain ⟨iz, hiz, hz0, hz1, hz2⟩ := info_parts Try.infoKey
  have hown : (w.alloc (.cells #[] 76 (0, 0))).ownsRow w.heap.size 76 2 (.slice (some ⟨w.heap.size, 0, none⟩) 0 0) 0 [] := own_empty (heap_alloc_new w _) (Nat.le_refl _)
  have hb1 : Below w.heap.size w (w.alloc (.cells #[] 76 (0, 0))) := (Below.refl _ w).alloc (Nat.le_refl _) _
  have HO := Lib.hid hown
  have HR := Lib.hid (show (w.alloc (.cells #[] 76 (0, 0))).ownsRow B 76 2 v l.length (kcells l) from h.below hb1)
  have HS := Lib.hid (show ∀ w2, (w.alloc (.cells #[] 76 (0, 0))).grownBy w2 (some w.heap.size) → Below w.heap.size w w2 from fun w2 hg => hb1.grown hg (by simp) (fun k hk => by cases hk; exact Nat.le_refl _))
  obtain ⟨n, hn⟩ : ∃ n, n = l.length := ⟨_, rfl⟩
  have HN := Lib.hid hn
  rw [← hn] at HR hlm
  have HH := Lib.hid (rot_head l hl0)
  have HC := Lib.hid (show ∀ j s, j < lead l → (rot l j)[0]? = some (s, true) → rot l (j + 1) = (rot l j).tail ++ [(s, false)] ∧ (rot l (j + 1)).countP (·.2) < (rot l j).countP (·.2) from fun j s hj hs => by
    have hjl : j < l.length := Nat.lt_of_lt_of_le hj (lead_le l)
    rw [rot_first l j hjl] at hs
    exact ⟨rot_succ l j s hjl hs, rot_count l j s hjl hs⟩)
  have HL := Lib.hid (rot_length l)
  have hn1 : 1 ≤ n := by omega
  clear hown hb1 h hn hl0
  go_enter Try.func19, Try.ntmps19
  go_wp2_with (at_builtin; (with_reducible show wpList _ _ _ ({ dst := some 8, op := _, .. } :: _) _ _); refine wpList_copy_row rfl (.tmp 6) (.tmp 7) 27 rfl w.heap.size 76 iz (.agg #[.string ⟨#[]⟩, .bool false]) 2 24 Try.underlying27 hiz hz0 hz1 hz2 rfl (by decide) _ _ (by simp [Act.eval]) HO.out _ n v (kcells l) (by simp [Act.eval]) HR.out (kcells_one l) (by unfold maxLen; omega) (by omega) (by simp) ?_; intro g cap w2 h1 hg; have H1 := Lib.hid (show KRow w.heap.size (.slice (some ⟨g, 0, none⟩) n cap) (rot l 0) w2 by rw [rot_zero]; show World.ownsRow _ _ _ _ _ _ _; rw [← HN.out]; exact h1); have B2 := Lib.hid (HS.out _ hg); clear h1 hg)
  go_loopw [4] (fun o wr => ∃ (j : Nat) (vv : Value), vv = o ∧ j ≤ lead l ∧ KRow w.heap.size vv (rot l j) wr ∧ Below w.heap.size w wr) (fun o wr => kmarks o wr)
  case atStart => exact ⟨0, _, rfl, Nat.zero_le _, H1.out, B2.out⟩
  case round =>
    obtain ⟨j, vo, rfl, hj, hr, hb⟩ := hrel
    obtain ⟨s, hs⟩ := HH.out j hj
    have hlen := HL.out j
    obtain ⟨g3, cap3, hv, _, _, hc⟩ := own_some hr (by rw [hlen, ← HN.out]; omega)
    rw [hlen, ← HN.out] at hv
    obtain ⟨k0, k1⟩ := kcells_at _ _ _ hs
    have c0 : wr.cell? ⟨g3, 0, none⟩ = some (.string s) := hc _ _ k0
    have c1 : wr.cell? ⟨g3, 1, none⟩ = some (.bool (decide (j < lead l))) := hc _ _ k1
    have HB := Lib.hid hb
    have HR2 := Lib.hid hr
    have HSS := Lib.hid hs
    by_cases hjl : j < lead l
    · have d0 : decide (j < lead l) = true := decide_eq_true hjl
      rw [d0] at c1
      obtain ⟨e1, e2⟩ := HC.out j s hjl (by rw [hs, d0])
      have E1 := Lib.hid e1
      have E2 := Lib.hid e2
      subst hv
      have hsz := hb.size
      have hr' : wr.ownsRow w.heap.size 76 2 (.slice (some ⟨g3, 0, none⟩) n cap3) n (kcells (rot l j)) := by have := hr; unfold KRow at this; rw [hlen, ← HN.out] at this; exact this
      clear hr hb hs e1 e2 hc k0 k1 d0 hlen HH HC HL H1 B2 HO HS HR
      go_wp2_with fail
      have hg3 : g3 < wr.heap.size := (World.ownsRow.lt hr' g3 rfl).2
      have b0 : (wr.alloc (.cells #[.string s, .bool false] 76 (0, 0))).cell? ⟨wr.heap.size, 0, none⟩ = some (.string s) := (St.new wr 76 #[.string s, .bool false]).cell rfl
      have b1 : (wr.alloc (.cells #[.string s, .bool false] 76 (0, 0))).cell? ⟨wr.heap.size, 1, none⟩ = some (.bool false) := (St.new wr 76 #[.string s, .bool false]).cell rfl
      have hz : (wr.alloc (.cells #[.string s, .bool false] 76 (0, 0))).heap.size = wr.heap.size + 1 := by simp
      have BW := Lib.hid (show Below wr.heap.size wr (wr.alloc (.cells #[.string s, .bool false] 76 (0, 0))) from (Below.refl _ wr).alloc (Nat.le_refl _) _)
      have SW := Lib.hid (St.new wr 76 #[.string s, .bool false])
      generalize (wr.alloc (.cells #[.string s, .bool false] 76 (0, 0))) = W at b0 b1 hz BW SW ⊢
      have hc1 : 1 ≤ cap3 := by
        rcases hr'.2 with ⟨h0, _⟩ | ⟨_, _, _, h0, _, _, h1, _⟩
        · cases h0
        · injection h0 with _ _ h0; omega
      have hcn : n ≤ cap3 := by
        rcases hr'.2 with ⟨h0, _⟩ | ⟨_, _, _, h0, _, _, h1, _⟩
        · cases h0
        · injection h0 with _ _ h0; omega
      have HM := Lib.hid (KRow.marks HR2.out)
      have H6 := Lib.hid (show ∀ (g5 cap5 : Nat) (w5 : World), w5.ownsRow w.heap.size 76 2 (.slice (some ⟨g5, 0, none⟩) n cap5) n (kcells (rot l (j + 1))) → KRow w.heap.size (.slice (some ⟨g5, 0, none⟩) n cap5) (rot l (j + 1)) w5 from fun g5 cap5 w5 h => by
        show World.ownsRow _ _ _ _ _ _ _
        rw [rot_length, ← HN.out]
        exact h)
      have TL := Lib.hid (show (kcells (rot l j).tail).length = (n - 1) * 2 by rw [kcells_length, List.length_tail, rot_length, ← HN.out])
      have EK := Lib.hid (show kcells (rot l j).tail ++ [.string s, .bool false] = kcells (rot l (j + 1)) by rw [E1.out, kcells_append]; rfl)
      have OA := Lib.hid (show (W.alloc (.cells #[] 76 (0, 0))).ownsRow w.heap.size 76 2 (.slice (some ⟨wr.heap.size + 1, 0, none⟩) 0 0) 0 [] from own_empty (by rw [← hz]; exact heap_alloc_new W _) (by omega))
      have OB := Lib.hid (show ((W.alloc (.cells #[] 76 (0, 0))).alloc (.cells #[.string s, .bool false] 76 (0, 0))).ownsRow w.heap.size 76 2 (.slice (some ⟨wr.heap.size + 1, 0, none⟩) 0 0) 0 [] from own_empty ((Below.heap_alloc _ _ _ (by simp [hz])).trans (by rw [← hz]; exact heap_alloc_new W _)) (by omega))
      have OC := Lib.hid (show ((W.alloc (.cells #[.string s, .bool false] 76 (0, 0))).alloc (.cells #[] 76 (0, 0))).ownsRow w.heap.size 76 2 (.slice (some ⟨wr.heap.size + 2, 0, none⟩) 0 0) 0 [] from own_empty (by have := heap_alloc_new (W.alloc (.cells #[.string s, .bool false] 76 (0, 0))) (.cells #[] 76 (0, 0)); simp only [World.size_alloc, hz] at this; exact this) (by omega))
      have LB := Lib.hid (show ((W.alloc (.cells #[] 76 (0, 0))).alloc (.cells #[.string s, .bool false] 76 (0, 0))).heap[wr.heap.size + 2]? = some (.cells #[.string s, .bool false] 76 (0, 0)) by have := heap_alloc_new (W.alloc (.cells #[] 76 (0, 0))) (.cells #[.string s, .bool false] 76 (0, 0)); simp only [World.size_alloc, hz] at this; exact this)
      have LC := Lib.hid (show ((W.alloc (.cells #[.string s, .bool false] 76 (0, 0))).alloc (.cells #[] 76 (0, 0))).heap[wr.heap.size + 1]? = some (.cells #[.string s, .bool false] 76 (0, 0)) from (Below.heap_alloc _ _ _ (by simp [hz])).trans (by rw [← hz]; exact heap_alloc_new W _))
      have BA := Lib.hid (show Below wr.heap.size wr (W.alloc (.cells #[] 76 (0, 0))) from BW.out.alloc BW.out.size _)
      have BB := Lib.hid (show Below wr.heap.size wr ((W.alloc (.cells #[] 76 (0, 0))).alloc (.cells #[.string s, .bool false] 76 (0, 0))) from BA.out.alloc BA.out.size _)
      have BC := Lib.hid (show Below wr.heap.size wr ((W.alloc (.cells #[.string s, .bool false] 76 (0, 0))).alloc (.cells #[] 76 (0, 0))) from (BW.out.alloc BW.out.size _).alloc (by simp; omega) _)
      have SA := Lib.hid (SW.out.alloc (.cells #[] 76 (0, 0)))
      have SB := Lib.hid (SA.out.alloc (.cells #[.string s, .bool false] 76 (0, 0)))
      have SC := Lib.hid ((SW.out.alloc (.cells #[.string s, .bool false] 76 (0, 0))).alloc (.cells #[] 76 (0, 0)))
      have q2 : (1 : Int) ≤ (n : Int) := by omega
      by_cases hcap : cap3 = 1
      · subst hcap
        have hn0 : n = 1 := by omega
        have SRC := Lib.hid (show ∀ X, Below wr.heap.size wr X → ∀ (i : Nat) u, (kcells (rot l j).tail)[i]? = some u → X.cell? ((⟨g3, 0, none⟩ : Addr).add i) = some u from fun X _ i u hu => by
          have := (List.getElem?_eq_some_iff.1 hu).1
          rw [TL.out, hn0] at this
          omega)
        subst hn0
        have TL := Lib.hid (show (kcells (rot l j).tail).length = 0 * 2 from TL.out)
        clear hr'
        go_region_law (first
          | (refine step_own rfl (.tmp 18) (.tmp 20) 27 rfl w.heap.size 76 iz (.agg #[.string ⟨#[]⟩, .bool false]) 2 24 Try.underlying27 hiz hz0 hz1 hz2 rfl (by decide) (wr.heap.size + 1) 0 0 [] (by simp [Act.eval]) (World.ownsRow.drew OA.out) ⟨g3, 0, none⟩ 0 0 (kcells (rot l j).tail) (by simp [Act.eval]) TL.out (fun j u hu => SRC.out _ ((BA.out).drew) j u hu) (kcells_one _) 0 (by omega) (by unfold maxLen; omega) (by omega) (Nat.le_trans hsz (BA.out).size) _ rfl ?_; intro g4 cap4 w4 h4 hg4; have H4 := Lib.hid h4; have B4 := Lib.hid (BA.out.drew.grown hg4 (BA.out).size (fun k hk => by simp [Value.ownBlock] at hk; omega)); have st4 := (hg4.block wr.heap.size (lt_of_block SA.out) (by simp [Value.ownBlock])).trans SA.out; have y0 := St.cell (T := 76) (j := 0) st4 rfl; have y1 := St.cell (T := 76) (j := 1) st4 rfl; have s4 := B4.out.size; clear h4 hg4 st4)
          | (refine step_own rfl (.tmp 18) (.tmp 20) 27 rfl w.heap.size 76 iz (.agg #[.string ⟨#[]⟩, .bool false]) 2 24 Try.underlying27 hiz hz0 hz1 hz2 rfl (by decide) (wr.heap.size + 1) 0 0 [] (by simp [Act.eval]) (World.ownsRow.drew OB.out) ⟨g3, 0, none⟩ 0 0 (kcells (rot l j).tail) (by simp [Act.eval]) TL.out (fun j u hu => SRC.out _ ((BB.out).drew) j u hu) (kcells_one _) 0 (by omega) (by unfold maxLen; omega) (by omega) (Nat.le_trans hsz (BB.out).size) _ rfl ?_; intro g4 cap4 w4 h4 hg4; have H4 := Lib.hid h4; have B4 := Lib.hid (BB.out.drew.grown hg4 (BB.out).size (fun k hk => by simp [Value.ownBlock] at hk; omega)); have st4 := (hg4.block wr.heap.size (lt_of_block SB.out) (by simp [Value.ownBlock])).trans SB.out; have y0 := St.cell (T := 76) (j := 0) st4 rfl; have y1 := St.cell (T := 76) (j := 1) st4 rfl; have L4 := Lib.hid ((hg4.block (wr.heap.size + 2) (lt_of_block LB.out) (by simp [Value.ownBlock])).trans LB.out); have s4 := B4.out.size; clear h4 hg4 st4)
          | (refine step_own rfl (.tmp 18) (.tmp 20) 27 rfl w.heap.size 76 iz (.agg #[.string ⟨#[]⟩, .bool false]) 2 24 Try.underlying27 hiz hz0 hz1 hz2 rfl (by decide) (wr.heap.size + 2) 0 0 [] (by simp [Act.eval]) (World.ownsRow.drew OC.out) ⟨g3, 0, none⟩ 0 0 (kcells (rot l j).tail) (by simp [Act.eval]) TL.out (fun j u hu => SRC.out _ ((BC.out).drew) j u hu) (kcells_one _) 0 (by omega) (by unfold maxLen; omega) (by omega) (Nat.le_trans hsz (BC.out).size) _ rfl ?_; intro g4 cap4 w4 h4 hg4; have H4 := Lib.hid h4; have B4 := Lib.hid (BC.out.drew.grown hg4 (BC.out).size (fun k hk => by simp [Value.ownBlock] at hk; omega)); have st4 := (hg4.block wr.heap.size (lt_of_block SC.out) (by simp [Value.ownBlock])).trans SC.out; have y0 := St.cell (T := 76) (j := 0) st4 rfl; have y1 := St.cell (T := 76) (j := 1) st4 rfl; have L4 := Lib.hid ((hg4.block (wr.heap.size + 1) (lt_of_block LC.out) (by simp [Value.ownBlock])).trans LC.out); have s4 := B4.out.size; clear h4 hg4 st4)
          | (refine step_own rfl (.tmp 21) (.tmp 23) 27 rfl w.heap.size 76 iz (.agg #[.string ⟨#[]⟩, .bool false]) 2 24 Try.underlying27 hiz hz0 hz1 hz2 rfl (by decide) g4 0 cap4 (kcells (rot l j).tail) (by simp [Act.eval]) ((H4.out.alloc _)) ⟨w4.heap.size, 0, none⟩ 1 1 [.string s, .bool false] (by simp [Act.eval]) rfl (World.news_of_block (heap_alloc_new w4 _)) (by intro u hu; simp at hu; rcases hu with rfl | rfl <;> rfl) 1 (by omega) (by unfold maxLen; omega) (by omega) (by simp; omega) (kcells (rot l (j + 1))) EK.out ?_; intro g5 cap5 w5 h5 hg5; have H5 := Lib.hid h5; have B5 := Lib.hid ((Below.alloc (HB.out.trans (B4.out.mono hsz)) (Nat.le_trans hsz s4) _).grown hg5 (by simp; omega) (fun k hk => (H4.out.lt k hk).1)); clear h5 hg5)
          | (refine step_own rfl (.tmp 21) (.tmp 23) 27 rfl w.heap.size 76 iz (.agg #[.string ⟨#[]⟩, .bool false]) 2 24 Try.underlying27 hiz hz0 hz1 hz2 rfl (by decide) g4 0 cap4 (kcells (rot l j).tail) (by simp [Act.eval]) (H4.out) ⟨wr.heap.size + 2, 0, none⟩ 1 1 [.string s, .bool false] (by simp [Act.eval]) rfl (World.news_of_block L4.out) (by intro u hu; simp at hu; rcases hu with rfl | rfl <;> rfl) 1 (by omega) (by unfold maxLen; omega) (by omega) (Nat.le_trans hsz s4) (kcells (rot l (j + 1))) EK.out ?_; intro g5 cap5 w5 h5 hg5; have H5 := Lib.hid h5; have B5 := Lib.hid ((HB.out.trans (B4.out.mono hsz)).grown hg5 (Nat.le_trans hsz s4) (fun k hk => (H4.out.lt k hk).1)); clear h5 hg5)
          | (refine step_own rfl (.tmp 21) (.tmp 23) 27 rfl w.heap.size 76 iz (.agg #[.string ⟨#[]⟩, .bool false]) 2 24 Try.underlying27 hiz hz0 hz1 hz2 rfl (by decide) g4 0 cap4 (kcells (rot l j).tail) (by simp [Act.eval]) (H4.out) ⟨wr.heap.size + 1, 0, none⟩ 1 1 [.string s, .bool false] (by simp [Act.eval]) rfl (World.news_of_block L4.out) (by intro u hu; simp at hu; rcases hu with rfl | rfl <;> rfl) 1 (by omega) (by unfold maxLen; omega) (by omega) (Nat.le_trans hsz s4) (kcells (rot l (j + 1))) EK.out ?_; intro g5 cap5 w5 h5 hg5; have H5 := Lib.hid h5; have B5 := Lib.hid ((HB.out.trans (B4.out.mono hsz)).grown hg5 (Nat.le_trans hsz s4) (fun k hk => (H4.out.lt k hk).1)); clear h5 hg5))
        all_goals
          go_simp
          refine ⟨?_, ?measure⟩
          (repeat apply Exists.intro)
          refine ⟨?rel, rfl⟩
          case rel => exact ⟨j + 1, _, rfl, by omega, H6.out _ _ _ H5.out, B5.out⟩
          case measure =>
            show kmarks (.slice (some ⟨g5, 0, none⟩) _ cap5) w5 < kmarks (.slice (some ⟨g3, 0, none⟩) _ _) wr
            rw [HM.out, KRow.marks (H6.out _ _ _ H5.out)]; exact E2.out
      · have q1 : (1 : Int) < (cap3 : Int) := by omega
        have SRC := Lib.hid (show ∀ X, Below wr.heap.size wr X → ∀ (i : Nat) u, (kcells (rot l j).tail)[i]? = some u → X.cell? ((⟨g3, 2, none⟩ : Addr).add i) = some u from fun X hX i u hu => by
          rw [← kcells_tail, List.getElem?_drop] at hu
          have hi := (List.getElem?_eq_some_iff.1 hu).1
          rw [hr'.1] at hi
          rw [Addr.add_mid]
          exact (hX.cell (p := ⟨g3, 2 + i, none⟩) hg3).trans ((hr'.cellAt (2 + i) hi).trans hu))
        clear hr'
        go_region_law (first
          | (refine step_own rfl (.tmp 18) (.tmp 20) 27 rfl w.heap.size 76 iz (.agg #[.string ⟨#[]⟩, .bool false]) 2 24 Try.underlying27 hiz hz0 hz1 hz2 rfl (by decide) (wr.heap.size + 1) 0 0 [] (by simp [Act.eval]) (World.ownsRow.drew OA.out) ⟨g3, 2, none⟩ (n - 1) (cap3 - 1) (kcells (rot l j).tail) (by simp [Act.eval]) TL.out (fun j u hu => SRC.out _ ((BA.out).drew) j u hu) (kcells_one _) (n - 1) (by omega) (by unfold maxLen; omega) (by omega) (Nat.le_trans hsz (BA.out).size) _ rfl ?_; intro g4 cap4 w4 h4 hg4; have H4 := Lib.hid h4; have B4 := Lib.hid (BA.out.drew.grown hg4 (BA.out).size (fun k hk => by simp [Value.ownBlock] at hk; omega)); have st4 := (hg4.block wr.heap.size (lt_of_block SA.out) (by simp [Value.ownBlock])).trans SA.out; have y0 := St.cell (T := 76) (j := 0) st4 rfl; have y1 := St.cell (T := 76) (j := 1) st4 rfl; have s4 := B4.out.size; clear h4 hg4 st4)
          | (refine step_own rfl (.tmp 18) (.tmp 20) 27 rfl w.heap.size 76 iz (.agg #[.string ⟨#[]⟩, .bool false]) 2 24 Try.underlying27 hiz hz0 hz1 hz2 rfl (by decide) (wr.heap.size + 1) 0 0 [] (by simp [Act.eval]) (World.ownsRow.drew OB.out) ⟨g3, 2, none⟩ (n - 1) (cap3 - 1) (kcells (rot l j).tail) (by simp [Act.eval]) TL.out (fun j u hu => SRC.out _ ((BB.out).drew) j u hu) (kcells_one _) (n - 1) (by omega) (by unfold maxLen; omega) (by omega) (Nat.le_trans hsz (BB.out).size) _ rfl ?_; intro g4 cap4 w4 h4 hg4; have H4 := Lib.hid h4; have B4 := Lib.hid (BB.out.drew.grown hg4 (BB.out).size (fun k hk => by simp [Value.ownBlock] at hk; omega)); have st4 := (hg4.block wr.heap.size (lt_of_block SB.out) (by simp [Value.ownBlock])).trans SB.out; have y0 := St.cell (T := 76) (j := 0) st4 rfl; have y1 := St.cell (T := 76) (j := 1) st4 rfl; have L4 := Lib.hid ((hg4.block (wr.heap.size + 2) (lt_of_block LB.out) (by simp [Value.ownBlock])).trans LB.out); have s4 := B4.out.size; clear h4 hg4 st4)
          | (refine step_own rfl (.tmp 18) (.tmp 20) 27 rfl w.heap.size 76 iz (.agg #[.string ⟨#[]⟩, .bool false]) 2 24 Try.underlying27 hiz hz0 hz1 hz2 rfl (by decide) (wr.heap.size + 2) 0 0 [] (by simp [Act.eval]) (World.ownsRow.drew OC.out) ⟨g3, 2, none⟩ (n - 1) (cap3 - 1) (kcells (rot l j).tail) (by simp [Act.eval]) TL.out (fun j u hu => SRC.out _ ((BC.out).drew) j u hu) (kcells_one _) (n - 1) (by omega) (by unfold maxLen; omega) (by omega) (Nat.le_trans hsz (BC.out).size) _ rfl ?_; intro g4 cap4 w4 h4 hg4; have H4 := Lib.hid h4; have B4 := Lib.hid (BC.out.drew.grown hg4 (BC.out).size (fun k hk => by simp [Value.ownBlock] at hk; omega)); have st4 := (hg4.block wr.heap.size (lt_of_block SC.out) (by simp [Value.ownBlock])).trans SC.out; have y0 := St.cell (T := 76) (j := 0) st4 rfl; have y1 := St.cell (T := 76) (j := 1) st4 rfl; have L4 := Lib.hid ((hg4.block (wr.heap.size + 1) (lt_of_block LC.out) (by simp [Value.ownBlock])).trans LC.out); have s4 := B4.out.size; clear h4 hg4 st4)
          | (refine step_own rfl (.tmp 21) (.tmp 23) 27 rfl w.heap.size 76 iz (.agg #[.string ⟨#[]⟩, .bool false]) 2 24 Try.underlying27 hiz hz0 hz1 hz2 rfl (by decide) g4 (n - 1) cap4 (kcells (rot l j).tail) (by simp [Act.eval]) ((H4.out.alloc _)) ⟨w4.heap.size, 0, none⟩ 1 1 [.string s, .bool false] (by simp [Act.eval]) rfl (World.news_of_block (heap_alloc_new w4 _)) (by intro u hu; simp at hu; rcases hu with rfl | rfl <;> rfl) n (by omega) (by unfold maxLen; omega) (by omega) (by simp; omega) (kcells (rot l (j + 1))) EK.out ?_; intro g5 cap5 w5 h5 hg5; have H5 := Lib.hid h5; have B5 := Lib.hid ((Below.alloc (HB.out.trans (B4.out.mono hsz)) (Nat.le_trans hsz s4) _).grown hg5 (by simp; omega) (fun k hk => (H4.out.lt k hk).1)); clear h5 hg5)
          | (refine step_own rfl (.tmp 21) (.tmp 23) 27 rfl w.heap.size 76 iz (.agg #[.string ⟨#[]⟩, .bool false]) 2 24 Try.underlying27 hiz hz0 hz1 hz2 rfl (by decide) g4 (n - 1) cap4 (kcells (rot l j).tail) (by simp [Act.eval]) (H4.out) ⟨wr.heap.size + 2, 0, none⟩ 1 1 [.string s, .bool false] (by simp [Act.eval]) rfl (World.news_of_block L4.out) (by intro u hu; simp at hu; rcases hu with rfl | rfl <;> rfl) n (by omega) (by unfold maxLen; omega) (by omega) (Nat.le_trans hsz s4) (kcells (rot l (j + 1))) EK.out ?_; intro g5 cap5 w5 h5 hg5; have H5 := Lib.hid h5; have B5 := Lib.hid ((HB.out.trans (B4.out.mono hsz)).grown hg5 (Nat.le_trans hsz s4) (fun k hk => (H4.out.lt k hk).1)); clear h5 hg5)
          | (refine step_own rfl (.tmp 21) (.tmp 23) 27 rfl w.heap.size 76 iz (.agg #[.string ⟨#[]⟩, .bool false]) 2 24 Try.underlying27 hiz hz0 hz1 hz2 rfl (by decide) g4 (n - 1) cap4 (kcells (rot l j).tail) (by simp [Act.eval]) (H4.out) ⟨wr.heap.size + 1, 0, none⟩ 1 1 [.string s, .bool false] (by simp [Act.eval]) rfl (World.news_of_block L4.out) (by intro u hu; simp at hu; rcases hu with rfl | rfl <;> rfl) n (by omega) (by unfold maxLen; omega) (by omega) (Nat.le_trans hsz s4) (kcells (rot l (j + 1))) EK.out ?_; intro g5 cap5 w5 h5 hg5; have H5 := Lib.hid h5; have B5 := Lib.hid ((HB.out.trans (B4.out.mono hsz)).grown hg5 (Nat.le_trans hsz s4) (fun k hk => (H4.out.lt k hk).1)); clear h5 hg5))
        all_goals
          go_simp
          refine ⟨?_, ?measure⟩
          (repeat apply Exists.intro)
          refine ⟨?rel, rfl⟩
          case rel => exact ⟨j + 1, _, rfl, by omega, H6.out _ _ _ H5.out, B5.out⟩
          case measure =>
            show kmarks (.slice (some ⟨g5, 0, none⟩) _ cap5) w5 < kmarks (.slice (some ⟨g3, 0, none⟩) _ _) wr
            rw [HM.out, KRow.marks (H6.out _ _ _ H5.out)]; exact E2.out
    · have d0 : decide (j < lead l) = false := decide_eq_false hjl
      rw [d0] at c1
      have hje : j = lead l := by omega
      have HJ := Lib.hid hje
      subst hv
      clear hr hb hs hc k0 k1 hje hjl HH HC
      go_wp2_with fail
      go_quiet (fail)
      go_wp2_with fail
      go_returns
      refine ⟨_, s, decide (j < lead l), rfl, ?_, ?_, below_drewN HB.out _⟩
      · rw [show kspin l = rot l j from by unfold kspin; rw [← HJ.out]]
        exact HSS.out
      · have h := HR2.out
        rw [HJ.out] at h
        exact h
end Go.Proofs.Ytokchikihacalaa
