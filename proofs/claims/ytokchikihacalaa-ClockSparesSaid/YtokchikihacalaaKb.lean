/- Rows of keys; the reference's Place, Drop. -/
import Derived.Test.YtokchikihacalaaKa
import Derived.Test.YtokchikihacalaaIn
import Derived.Test.YtokchikihacalaaRo
import Derived.Handy
import Derived.Deep.DeepMust
import Derived.Deep.QuietTactic
import Derived.Lib.Strings
namespace Go.Proofs.Ytokchikihacalaa
open Go.RowKit

/-- The cells of keys. -/
def kcells (l : List (ByteArray × Bool)) : List Value := l.flatMap fun x => [.string x.1, .bool x.2]
theorem kcells_length : ∀ l : List (ByteArray × Bool), (kcells l).length = l.length * 2
  | [] => rfl
  | x :: l => by
    show (kcells l).length + 1 + 1 = (l.length + 1) * 2
    rw [kcells_length l]
    omega
theorem kcells_append (l k : List (ByteArray × Bool)) : kcells (l ++ k) = kcells l ++ kcells k := by simp [kcells]
theorem kcells_at : ∀ (l : List (ByteArray × Bool)) (i : Nat) (x : ByteArray × Bool), l[i]? = some x → (kcells l)[i * 2]? = some (.string x.1) ∧ (kcells l)[i * 2 + 1]? = some (.bool x.2)
  | [], i, x, h => by simp at h
  | y :: l, 0, x, h => by
    obtain rfl : y = x := by simpa using h
    exact ⟨rfl, rfl⟩
  | y :: l, i + 1, x, h => by
    have := kcells_at l i x (by simpa using h)
    rw [show (i + 1) * 2 = i * 2 + 2 from by omega]
    exact this
theorem kcells_mark : ∀ (l : List (ByteArray × Bool)) (i : Nat) (s : ByteArray) (b : Bool), l[i]? = some (s, b) → (kcells l).set (i * 2 + 1) (.bool true) = kcells (l.set i (s, true))
  | [], i, s, b, h => by simp at h
  | y :: l, 0, s, b, h => by
    obtain rfl : y = (s, b) := by simpa using h
    rfl
  | y :: l, i + 1, s, b, h => by
    rw [show (i + 1) * 2 + 1 = (i * 2 + 1) + 2 from by omega]
    show .string y.1 :: .bool y.2 :: (kcells l).set (i * 2 + 1) (.bool true) = .string y.1 :: .bool y.2 :: kcells (l.set i (s, true))
    rw [kcells_mark l i s b (by simpa using h)]
theorem kcells_tail : ∀ l : List (ByteArray × Bool), (kcells l).drop 2 = kcells l.tail
  | [] => rfl
  | _ :: _ => rfl
theorem kcells_one (l : List (ByteArray × Bool)) : ∀ u ∈ kcells l, u.oneCell' = true := by
  intro u hu
  obtain ⟨p, _, hp⟩ := List.mem_flatMap.1 hu
  simp at hp
  rcases hp with rfl | rfl <;> rfl
/-- Keys in a row of one's own. -/
def KRow (B : Nat) (v : Value) (l : List (ByteArray × Bool)) (w : World) : Prop := w.ownsRow B 76 2 v l.length (kcells l)
theorem KRow.walk {B : Nat} {v : Value} {l : List (ByteArray × Bool)} {w : World} (h : KRow B v l w) : ∃ (ao : Option Addr) (cap g : Nat), v = .slice ao l.length cap ∧ l.length ≤ 9223372036854775807 ∧
    ∀ k, k < l.length → ∃ x, l[k]? = some x ∧ ao = some ⟨g, 0, none⟩ ∧ w.cell? ⟨g, k * 2, none⟩ = some (.string x.1) ∧ w.cell? ⟨g, k * 2 + 1, none⟩ = some (.bool x.2) := by
  have hl := own_len h
  rcases h.2 with ⟨rfl, h0⟩ | ⟨g, cap, cur, rfl, _⟩
  · exact ⟨none, 0, 0, by rw [h0], hl, fun k hk => by omega⟩
  · refine ⟨some ⟨g, 0, none⟩, cap, g, rfl, hl, fun k hk => ?_⟩
    have hx : l[k]? = some l[k] := List.getElem?_eq_getElem hk
    obtain ⟨h1, h2⟩ := kcells_at l k _ hx
    refine ⟨_, hx, rfl, ?_, ?_⟩
    · rw [World.ownsRow.cellAt h (k * 2) (by omega)]; exact h1
    · rw [World.ownsRow.cellAt h (k * 2 + 1) (by omega)]; exact h2
theorem KRow.drewN {B : Nat} {v : Value} {l : List (ByteArray × Bool)} {w : World} (h : KRow B v l w) (q : Nat) : KRow B v l (w.drewN q) := h
theorem KRow.below {B : Nat} {v : Value} {l : List (ByteArray × Bool)} {w w' : World} (h : KRow B v l w) (hb : Below w.heap.size w w') : KRow B v l w' := (Frm.of_below (F := fun _ => False) hb).own h fun _ _ e => e
theorem Try.infoKey : (Try.prog.info? 76).map (fun i => (i.zero, i.size, i.bytes)) = some (some (.agg #[.string ⟨#[]⟩, .bool false]), 2, 24) := by kernel_rfl
theorem str_eq {x y : ByteArray} (h : x = y) : (x.toList == y.toList) = true := by rw [h]; simp
theorem str_ne {x y : ByteArray} (h : x ≠ y) : (x.toList == y.toList) = false := by
  have : ¬ x.toList = y.toList := by
    rw [Lib.toList_data, Lib.toList_data]
    intro e
    exact h (ByteArray.ext (Array.toList_inj.1 e))
  simpa using this

set_option maxRecDepth 100000 in
theorem rkPlace_any {B : Nat} (v : Value) (l : List (ByteArray × Bool)) (s : ByteArray) (w : World) (h : KRow B v l w) :
    Calls Try.prog 16 #[v, .string s] w fun e w' => e = .returned (.int .i64 (plc s l)) ∧ w = w' := by
  obtain ⟨ao, cap, g, rfl, hl, hx⟩ := h.walk
  obtain ⟨n, hn⟩ : ∃ n, n = l.length := ⟨_, rfl⟩
  rw [← hn] at hl hx ⊢
  obtain ⟨r, hr⟩ : ∃ r : Int, r = plc s l := ⟨_, rfl⟩
  rw [← hr]
  have HN := Lib.hid (show s ∉ (keys l).take n → r = -1 from fun h => by rw [hn, show l.length = (keys l).length from by simp [keys], List.take_length] at h; rw [hr, plc_none s l h])
  have HA := Lib.hid (show ∀ (i : Nat) x, l[i]? = some x → x.1 = s → s ∉ (keys l).take i → r = i from fun i x h1 h2 h3 => by rw [hr, plc_at s l i x h1 h2 h3])
  have HX := Lib.hid hx
  have HT := Lib.hid (notMem_key s l)
  clear hx h hn hr
  go_enter Try.func16, Try.ntmps16
  go_wp2
  go_loop [5] (fun d => ∃ i : Nat, i ≤ n ∧ d = .int .i64 i ∧ s ∉ (keys l).take i) (fun d => n - (intOf d).toNat)
  case atStart => exact ⟨0, Nat.zero_le _, rfl, by simp⟩
  case round =>
    obtain ⟨i, hi, rfl, hm⟩ := hrel
    have HM := Lib.hid hm
    clear hm
    by_cases hlt : i < n
    · obtain ⟨x, hxi, rfl, c0, _⟩ := HX.out i hlt
      have HS := Lib.hid hxi
      clear hxi
      have b0 : (0 : Int) ≤ (i : Int) := by omega
      have b1 : (i : Int) < (n : Int) := by omega
      by_cases hk : x.1 = s
      · have d0 := str_eq hk
        have HK := Lib.hid hk
        clear hk
        go_wp2
        go_ret
        exact ⟨by rw [HA.out i x HS.out HK.out HM.out]; rfl, rfl⟩
      · have d0 := str_ne hk
        have HK := Lib.hid hk
        clear hk
        go_wp2
        go_round
        case rel => exact ⟨i + 1, by omega, by go_num, HT.out i x HS.out HM.out HK.out⟩
        case measure => simp [intOf]; omega
    · obtain rfl : i = n := by omega
      go_wp2
      go_ret
      exact ⟨by rw [HN.out HM.out]; rfl, rfl⟩

theorem kdrop_at (l : List (ByteArray × Bool)) (s : ByteArray) (i : Nat) (x : ByteArray × Bool) (h : l[i]? = some x) : kdrop (l.take (i + 1)) s = kdrop (l.take i) s ++ (if x.1 = s then [] else [x]) := by
  rw [take_succ_at l i x h]
  unfold kdrop
  rw [List.filter_append]
  congr 1
  by_cases e : x.1 = s
  · rw [if_pos e]; simp [e]
  · rw [if_neg e]; simp [e]
theorem kdrop_le (l : List (ByteArray × Bool)) (s : ByteArray) : (kdrop l s).length ≤ l.length := List.length_filter_le _ _

set_option maxRecDepth 100000 in
set_option maxHeartbeats 1000000 in
theorem rkDrop_any {B : Nat} (v : Value) (l : List (ByteArray × Bool)) (s : ByteArray) (w : World) (hlm : l.length ≤ 1073741824) (h : KRow B v l w) :
    Calls Try.prog 17 #[v, .string s] w fun e w' => ∃ v', e = .returned v' ∧ KRow w.heap.size v' (kdrop l s) w' ∧ Below w.heap.size w w' := by
  obtain ⟨iz, hiz, hz0, hz1, hz2⟩ := info_parts Try.infoKey
  have hgb : ∀ g, v.ownBlock = some g → g < w.heap.size := fun g hg => (World.ownsRow.lt h g hg).2
  obtain ⟨ao, cap, g, rfl, hl, hx⟩ := h.walk
  obtain ⟨n, hn⟩ : ∃ n, n = l.length := ⟨_, rfl⟩
  rw [← hn] at hl hx hlm ⊢
  have HG := Lib.hid (show ao = some ⟨g, 0, none⟩ → g < w.heap.size from fun e => hgb g (by rw [e]; rfl))
  have HN := Lib.hid hn
  have HX := Lib.hid hx
  have HT := Lib.hid (kdrop_at l s)
  have HLe := Lib.hid (show ∀ i, (kdrop (l.take i) s).length ≤ i from fun i => Nat.le_trans (kdrop_le _ _) (by rw [List.length_take]; omega))
  clear hx h hn hgb
  go_enter Try.func17, Try.ntmps17
  go_wp2_with fail
  go_loopw [5, 6] (fun o c wr => ∃ (i : Nat) (vv : Value), vv = o ∧ i ≤ n ∧ c = .int .i64 i ∧ KRow w.heap.size vv (kdrop (l.take i) s) wr ∧ Below w.heap.size w wr) (fun _ c _ => n - (intOf c).toNat)
  case atStart => exact ⟨0, _, rfl, Nat.zero_le _, rfl, World.ownsRow_nil _ _ _ _, Below.refl _ _⟩
  case round =>
    obtain ⟨i, vo, rfl, hi, rfl, hr, hb⟩ := hrel
    have HR := Lib.hid hr
    have HB := Lib.hid hb
    by_cases hlt : i < n
    · obtain ⟨x, hxi, rfl, c0, c1⟩ := HX.out i hlt
      have hgl := HG.out rfl
      have c0 : wr.cell? ⟨g, i * 2, none⟩ = some (.string x.1) := (hb.cell (p := ⟨g, i * 2, none⟩) hgl).trans c0
      have c1 : wr.cell? ⟨g, i * 2 + 1, none⟩ = some (.bool x.2) := (hb.cell (p := ⟨g, i * 2 + 1, none⟩) hgl).trans c1
      have HS := Lib.hid (HT.out i x hxi)
      have b0 : (0 : Int) ≤ (i : Int) := by omega
      have b1 : (i : Int) < (n : Int) := by omega
      have hsz := hb.size
      by_cases hk : x.1 = s
      · have d0 := str_eq hk
        have HK := Lib.hid hk
        clear hk hr hb hxi
        go_wp2_with fail
        go_roundw
        case rel => exact ⟨i + 1, _, rfl, by omega, by go_num, by rw [HS.out, if_pos HK.out, List.append_nil]; exact HR.out, HB.out⟩
        case measure => simp [intOf]; omega
      · have d0 := str_ne hk
        have hle := HLe.out i
        have hr' : wr.ownsRow w.heap.size 76 2 vo (kdrop (l.take i) s).length (kcells (kdrop (l.take i) s)) := hr
        have HC := Lib.hid (show wr.rangeAt g (i * 2) [.string x.1, .bool x.2] from fun j u hu => by
          match j, hu with
          | 0, hu => simp at hu; subst hu; exact c0
          | 1, hu => simp at hu; subst hu; exact c1)
        have HS2 := Lib.hid (show ∀ v' w2, w2.ownsRow w.heap.size 76 2 v' ((kdrop (l.take i) s).length + 1) (kcells (kdrop (l.take i) s) ++ [.string x.1, .bool x.2]) → KRow w.heap.size v' (kdrop (l.take (i + 1)) s) w2 from fun v' w2 h => by
          show World.ownsRow _ _ _ _ _ _ _
          rw [HS.out, if_neg hk, List.length_append, kcells_append]
          exact h)
        generalize kdrop (l.take i) s = dd at hr' hle HS2
        clear hk hr hb hxi HS
        go_wp2_with (first
          | ((with_reducible show wpList _ _ _ ({ dst := _, op := .load _ (.tmp 23), .. } :: _) _ _); refine wpList_load_mid rfl 76 (.tmp 23) rfl g (i * 2) (by simp [Act.eval]) [.string x.1, .bool x.2] _ HC.out Try.underlying76 rfl (by kernel_rfl) ?_)
          | (at_builtin; go_must (refine wpList_append_own _ rfl (.tmp 20) (.tmp 25) 27 rfl w.heap.size 76 iz (.agg #[.string ⟨#[]⟩, .bool false]) 2 24 Try.underlying27 hiz hz0 hz1 hz2 rfl (by decide) vo dd.length _ (by simp [Act.eval]) (hr'.alloc _) ⟨wr.heap.size, 0, none⟩ 1 1 [.string x.1, .bool x.2] (by simp [Act.eval]) rfl (World.news_of_block (heap_alloc_new wr _)) (by intro u hu; simp at hu; rcases hu with rfl | rfl <;> rfl) (by unfold maxLen; omega) (by omega) (by simp; omega) ?_); intro v' w2 h1 hg _; have H1 := Lib.hid (HS2.out _ _ h1); have B2 := Lib.hid (Below.grown (HB.out.alloc (by omega) _) hg (by simp; omega) (fun j hj => (hr'.lt j hj).1)); clear h1 hg))
        go_roundw
        case rel => exact ⟨i + 1, _, rfl, by omega, by go_num, H1.out, B2.out⟩
        case measure => simp [intOf]; omega
    · obtain rfl : i = n := by omega
      clear hr hb
      go_wp2_with fail
      go_ret
      refine ⟨_, rfl, ?_, HB.out⟩
      have h := HR.out
      rw [HN.out, List.take_length] at h
      exact h

theorem KRow.mark {B g n cap : Nat} {l : List (ByteArray × Bool)} {w : World} (h : w.ownsRow B 76 2 (.slice (some ⟨g, 0, none⟩) n cap) n (kcells l)) (i : Nat) (s : ByteArray) (b : Bool) (hi : l[i]? = some (s, b)) :
    (w.setCell ⟨g, i * 2 + 1, none⟩ (.bool true)).ownsRow B 76 2 (.slice (some ⟨g, 0, none⟩) n cap) n (kcells (l.set i (s, true))) := by
  rw [← kcells_mark l i s b hi]
  exact (World.ownsRow.stored h _ _).1

set_option maxRecDepth 100000 in
set_option maxHeartbeats 1000000 in
theorem rkTouch_any {B : Nat} (v : Value) (l : List (ByteArray × Bool)) (s : ByteArray) (w : World) (hlm : l.length ≤ 1073741824) (h : KRow B v l w) :
    Calls Try.prog 14 #[v, .string s] w fun e w' => ∃ v', e = .returned v' ∧ KRow w.heap.size v' (ktouch l s) w' ∧ Below w.heap.size w w' := by
  obtain ⟨iz, hiz, hz0, hz1, hz2⟩ := info_parts Try.infoKey
  have hown : (w.alloc (.cells #[] 76 (0, 0))).ownsRow w.heap.size 76 2 (.slice (some ⟨w.heap.size, 0, none⟩) 0 0) 0 [] :=
    World.ownsRow_made (base := w.heap.size) (e := 76) (size := 2) w #[] 0 (Nat.le_refl _) (by decide) (by simp)
  have hb1 : Below w.heap.size w (w.alloc (.cells #[] 76 (0, 0))) := (Below.refl _ w).alloc (Nat.le_refl _) _
  have HO := Lib.hid hown
  have HR := Lib.hid (show (w.alloc (.cells #[] 76 (0, 0))).ownsRow B 76 2 v l.length (kcells l) from h.below hb1)
  have HPl := Lib.hid (fun W (hW : Below w.heap.size w W) => rkPlace_any v l s W (h.below hW))
  have HS := Lib.hid (show ∀ w2, (w.alloc (.cells #[] 76 (0, 0))).grownBy w2 (some w.heap.size) → Below w.heap.size w w2 from fun w2 hg => hb1.grown hg (by simp) (fun k hk => by cases hk; exact Nat.le_refl _))
  obtain ⟨n, hn⟩ : ∃ n, n = l.length := ⟨_, rfl⟩
  have HN := Lib.hid hn
  rw [← hn] at HR hlm
  obtain ⟨pl, hpl⟩ : ∃ pl, pl = plc s l := ⟨_, rfl⟩
  have hc := plc_cases s l
  rw [← hpl] at hc HPl
  have HT := Lib.hid (show ktouch l s = if pl < 0 then l ++ [(s, true)] else l.set pl.toNat (s, true) by unfold ktouch; rw [hpl])
  clear hown hb1 h hn hpl
  rcases hc with ⟨rfl, _⟩ | ⟨i, b, rfl, hil, hib⟩
  · have HT2 := Lib.hid (show ktouch l s = l ++ [(s, true)] by rw [HT.out, if_pos (by omega)])
    clear HT
    go_enter Try.func14, Try.ntmps14
    go_wp2_with (first
      | (at_builtin; (with_reducible show wpList _ _ _ ({ dst := some 9, op := _, .. } :: _) _ _); refine wpList_copy_row rfl (.tmp 7) (.tmp 8) 27 rfl w.heap.size 76 iz (.agg #[.string ⟨#[]⟩, .bool false]) 2 24 Try.underlying27 hiz hz0 hz1 hz2 rfl (by decide) _ _ (by simp [Act.eval]) HO.out _ n v (kcells l) (by simp [Act.eval]) HR.out (kcells_one l) (by unfold maxLen; omega) (by omega) (by simp) ?_; intro g cap w2 h1 hg; have H1 := Lib.hid h1; have B2 := Lib.hid (HS.out _ hg); have s2 := B2.out.size; clear h1 hg)
      | (at_builtin; go_must (refine wpList_append_own _ rfl (.tmp 20) (.tmp 23) 27 rfl w.heap.size 76 iz (.agg #[.string ⟨#[]⟩, .bool false]) 2 24 Try.underlying27 hiz hz0 hz1 hz2 rfl (by decide) _ n (kcells l) (by simp [Act.eval]) (H1.out.alloc _) ⟨w2.heap.size, 0, none⟩ 1 1 [.string s, .bool true] (by simp [Act.eval]) rfl (World.news_of_block (heap_alloc_new w2 _)) (by intro u hu; simp at hu; rcases hu with rfl | rfl <;> rfl) (by unfold maxLen; omega) (by omega) (by simp; omega) ?_); intro v' w3 h1 hg _; have H3 := Lib.hid h1; have B3 := Lib.hid (Below.grown (B2.out.alloc (by omega) _) hg (by simp; omega) (fun j hj => (H1.out.lt j hj).1)); clear h1 hg)
      | (go_at_call 16; go_must (with_reducible refine (HPl.out _ B2.out).mono ?_); rintro e w4 ⟨rfl, rfl⟩))
    go_ret
    refine ⟨_, rfl, ?_, B3.out⟩
    show World.ownsRow _ _ _ _ _ _ _
    rw [HT2.out, List.length_append, kcells_append, ← HN.out]
    exact H3.out
  · have HT2 := Lib.hid (show ktouch l s = l.set i (s, true) by rw [HT.out, if_neg (by omega)]; rfl)
    have HI := Lib.hid hib
    rw [← HN.out] at hil
    have i0 : (0 : Int) ≤ (i : Int) := by omega
    have i1 : (i : Int) < (n : Int) := by omega
    have i2 : decide ((i : Int) ≥ 0) = true := decide_eq_true i0
    clear HT hib
    go_enter Try.func14, Try.ntmps14
    go_wp2_with (first
      | (at_builtin; (with_reducible show wpList _ _ _ ({ dst := some 9, op := _, .. } :: _) _ _); refine wpList_copy_row rfl (.tmp 7) (.tmp 8) 27 rfl w.heap.size 76 iz (.agg #[.string ⟨#[]⟩, .bool false]) 2 24 Try.underlying27 hiz hz0 hz1 hz2 rfl (by decide) _ _ (by simp [Act.eval]) HO.out _ n v (kcells l) (by simp [Act.eval]) HR.out (kcells_one l) (by unfold maxLen; omega) (by omega) (by simp) ?_; intro g cap w2 h1 hg; have H1 := Lib.hid h1; have B2 := Lib.hid (HS.out _ hg); have c2 := (h1.cellAt (i * 2 + 1) (by omega)).trans (kcells_at l i _ HI.out).2; have f2 := h1.frozenAt (i * 2 + 1); clear h1 hg)
      | (go_at_call 16; go_must (with_reducible refine (HPl.out _ B2.out).mono ?_); rintro e w4 ⟨rfl, rfl⟩))
    go_ret
    refine ⟨_, rfl, ?_, B2.out.setCell (H1.out.lt g rfl).1 _⟩
    show World.ownsRow _ _ _ _ _ _ _
    rw [HT2.out, List.length_set, ← HN.out]
    exact KRow.mark H1.out i s b HI.out
end Go.Proofs.Ytokchikihacalaa
