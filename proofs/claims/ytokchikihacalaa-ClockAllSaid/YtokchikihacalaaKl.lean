/- The law of all keys. -/
import Derived.Test.YtokchikihacalaaKj
import Derived.Test.YtokchikihacalaaKq
import Derived.Test.YtokchikihacalaaKd
import Derived.Test.YtokchikihacalaaGc
namespace Go.Proofs.Ytokchikihacalaa
open Go.RowKit

/-- A clock of numbers, seen from the law. -/
def KN (w : World) (p n : Nat) (l : List (Int × Bool)) (wr : World) : Prop := ∃ F, CLN w.heap.size p F l wr ∧ l.length ≤ n ∧ Below w.heap.size w wr
theorem KN.bel {w : World} {p n : Nat} {l : List (Int × Bool)} {wr : World} (h : KN w p n l wr) : Below w.heap.size w wr := by
  obtain ⟨_, _, _, h⟩ := h
  exact h
theorem KN.nodup {w : World} {p n : Nat} {l : List (Int × Bool)} {wr : World} (h : KN w p n l wr) : (keys l).Nodup := by
  obtain ⟨_, h, _⟩ := h
  exact h.nodup
theorem KN.drewN {w : World} {p n : Nat} {l : List (Int × Bool)} {wr : World} (h : KN w p n l wr) (q : Nat) : KN w p n l (wr.drewN q) := by
  obtain ⟨F, h1, h2, h3⟩ := h
  exact ⟨F, h1.drewN q, h2, below_drewN h3 q⟩
theorem KN.below {w : World} {p n : Nat} {l : List (Int × Bool)} {wr w' : World} (h : KN w p n l wr) (b : Below wr.heap.size wr w') : KN w p n l w' := by
  obtain ⟨F, h1, h2, h3⟩ := h
  exact ⟨F, h1.below b, h2, h3.trans (b.mono h3.size)⟩
theorem ktn_le {α : Type} [DecidableEq α] (l : List (α × Bool)) (s : α) : (ktouch l s).length ≤ l.length + 1 := by
  unfold ktouch
  split <;> simp
theorem KN.touch {w : World} {p n : Nat} {l : List (Int × Bool)} {wr : World} (h : KN w p n l wr) (hn : n ≤ 1073741824) (s : Int) (hz : -9223372036854775808 ≤ s ∧ s ≤ 9223372036854775807) :
    Calls Try.prog 25 #[.pointer (some ⟨p, 0, none⟩), .int .i64 s] wr fun e w' => e = .returned (.tuple #[]) ∧ KN w p (n + 1) (ktouch l s) w' := by
  obtain ⟨F, h1, h2, h3⟩ := h
  exact (kTouch_anyN w.heap.size p F l s hz wr h3.size (by omega) h1).mono fun e w1 ⟨he, hs⟩ => ⟨he, _, hs.1, by have := ktn_le l s; omega, h3.trans (hs.below h3.size fun j hj => (h1.inF j hj).1)⟩
theorem KN.len {w : World} {p n : Nat} {l : List (Int × Bool)} {wr : World} (h : KN w p n l wr) :
    Calls Try.prog 26 #[.pointer (some ⟨p, 0, none⟩)] wr fun e w' => e = .returned (.int .i64 (l.length : Int)) ∧ ∃ q, w' = wr.drewN q := by
  obtain ⟨F, h1, h2, h3⟩ := h
  exact kLen_anyN _ p F l wr h1
theorem KN.no {w : World} {p n : Nat} {l : List (Int × Bool)} {wr : World} (h : KN w p n l wr) (h0 : l.length = 0) :
    Calls Try.prog 27 #[.pointer (some ⟨p, 0, none⟩)] wr fun e w' => e = .returned (.tuple #[.int .i64 (vicN l), .bool false]) ∧ KN w p n l w' := by
  obtain ⟨F, h1, h2, h3⟩ := h
  have e := List.length_eq_zero_iff.1 h0
  subst e
  exact (kVictim_anyN w.heap.size p F [] wr h3.size (by simp) h1).mono fun e w1 ⟨he, hs⟩ => ⟨he, _, hs.1, by simp, h3.trans (hs.below h3.size fun j hj => (h1.inF j hj).1)⟩
/-- .. and the row of what was told. -/
def KT (w : World) (p n : Nat) (l : List (Int × Bool)) (vv : Value) (told : List Int) (wr : World) : Prop := ∃ F, CLN w.heap.size p F l wr ∧ l.length ≤ n ∧ Below w.heap.size w wr ∧ NRow w.heap.size vv told wr ∧ ∀ g, vv.ownBlock = some g → ¬ F g
theorem KT.kn {w : World} {p n : Nat} {l : List (Int × Bool)} {vv : Value} {told : List Int} {wr : World} (h : KT w p n l vv told wr) : KN w p n l wr := by
  obtain ⟨F, h1, h2, h3, _⟩ := h
  exact ⟨F, h1, h2, h3⟩
theorem KT.row {w : World} {p n : Nat} {l : List (Int × Bool)} {vv : Value} {told : List Int} {wr : World} (h : KT w p n l vv told wr) : NRow w.heap.size vv told wr := by
  obtain ⟨_, _, _, _, h, _⟩ := h
  exact h
theorem KT.start {w : World} {p n : Nat} {l : List (Int × Bool)} {wr : World} (h : KN w p n l wr) : KT w p n l (.slice none 0 0) [] wr := by
  obtain ⟨F, h1, h2, h3⟩ := h
  exact ⟨F, h1, h2, h3, World.ownsRow_nil _ _ _ _, fun g hg => by simp [Value.ownBlock] at hg⟩
/-- Behind a method of the clock: the row is as it was. -/
theorem KT.next {w : World} {vv : Value} {told : List Int} {F : Nat → Prop} {wr w' : World} (hr : NRow w.heap.size vv told wr) (hd : ∀ g, vv.ownBlock = some g → ¬ F g) (f : Frm F wr w') : NRow w.heap.size vv told w' ∧ ∀ g, vv.ownBlock = some g → ¬ Grow F wr w' g :=
  ⟨f.own hr hd, fun g hg h => by
    have h1 := (World.ownsRow.lt hr g hg).2
    rcases h with h | h
    · exact hd g hg h
    · omega⟩
/-- The first one is told, and goes. -/
theorem KT.tell {w : World} {p n : Nat} {l : List (Int × Bool)} {vv : Value} {told : List Int} {wr : World} (h : KT w p n l vv told wr) (hn : n ≤ 1073741824) (h0 : 0 < l.length) : ∃ (v : Int) (l' : List (Int × Bool)), (told ++ [v] ++ keys l').Perm (told ++ keys l) ∧ l'.length + 1 = l.length ∧
    Calls Try.prog 27 #[.pointer (some ⟨p, 0, none⟩)] wr fun e w' => e = .returned (.tuple #[.int .i64 v, .bool true]) ∧
      Calls Try.prog 28 #[.pointer (some ⟨p, 0, none⟩), .int .i64 v] w' fun e w2 => e = .returned (.bool true) ∧
        Calls Try.prog 29 #[.pointer (some ⟨p, 0, none⟩), .int .i64 v] w2 fun e w3 => e = .returned (.bool false) ∧ KT w p n l' vv told w3 := by
  have hnd := h.kn.nodup
  obtain ⟨F, h1, h2, h3, h4, h5⟩ := h
  obtain ⟨v, m, hv⟩ := vic_some l h0
  obtain ⟨hm, hnm, hp, hl⟩ := told_step l hnd told v m hv
  have hsl : (kspin l).length = l.length := rot_length l _
  have ev : vicN l = v := by unfold vicN; rw [hv]; rfl
  refine ⟨v, kdrop (kspin l) v, hp, hl, (kVictim_anyN w.heap.size p F l wr h3.size (by omega) h1).mono fun e w1 ⟨he, hs⟩ => ⟨by rw [he, ev, decide_eq_true h0], ?_⟩⟩
  have b1 : Below w.heap.size w w1 := h3.trans (hs.below h3.size fun j hj => (h1.inF j hj).1)
  obtain ⟨r1, r2⟩ := KT.next h4 h5 hs.2
  refine (kDrop_anyN w.heap.size p _ (kspin l) v (hs.1.small v hm) w1 b1.size (by omega) hs.1).mono fun e w2 ⟨he, hs2⟩ => ⟨by rw [he, (inK_iff v _).2 hm], ?_⟩
  have b2 : Below w.heap.size w w2 := b1.trans (hs2.below b1.size fun j hj => (hs.1.inF j hj).1)
  obtain ⟨r3, r4⟩ := KT.next r1 r2 hs2.2
  have e3 : inK v (kdrop (kspin l) v) = false := by
    cases hi : inK v (kdrop (kspin l) v) with
    | false => rfl
    | true => exact absurd ((inK_iff v _).1 hi) hnm
  refine (kHas_anyN w.heap.size p _ _ v (hs.1.small v hm) w2 hs2.1).mono fun e w3 ⟨he, q, hq⟩ => ⟨by rw [he, e3], ?_⟩
  subst hq
  exact ⟨_, hs2.1.drewN q, by omega, below_drewN b2 q, r3.drewN q, r4⟩
/-- What was told is written down. -/
theorem KT.more {w : World} {p n : Nat} {l : List (Int × Bool)} {vv : Value} {told : List Int} {w3 w4 : World} {g cap k : Nat} {x : Int} {o : Obj} (h : KT w p n l vv told w3) (hk : told.length = k) (h1 : w4.ownsRow w.heap.size 3 1 (.slice (some ⟨g, 0, none⟩) (k + 1) cap) (k + 1) (told.map (Value.int .i64) ++ [.int .i64 x])) (hg : (w3.alloc o).grownBy w4 vv.ownBlock) (hat : vv.ownBlock = some g ∨ g = w3.heap.size + 1) :
    KT w p n l (.slice (some ⟨g, 0, none⟩) (k + 1) cap) (told ++ [x]) w4 := by
  obtain ⟨F, c1, c2, c3, c4, c5⟩ := h
  have hs : w3.heap.size ≤ (w3.alloc o).heap.size := by simp
  have f : Frm (fun j => vv.ownBlock = some j) w3 w4 := ((Frm.refl _ w3).alloc o).grown hg fun j hj => .inl hj
  refine ⟨F, c1.keep f fun j hj hv => c5 j hv hj, c2, ?_, ?_, ?_⟩
  · exact Below.grown (c3.alloc c3.size o) hg (Nat.le_trans c3.size hs) (fun j hj => (World.ownsRow.lt c4 j hj).1)
  · show World.ownsRow _ _ _ _ _ _ _
    rw [List.length_append, List.map_append, hk]
    exact h1
  · intro j hj hF
    obtain rfl : g = j := by simpa [Value.ownBlock] using hj
    rcases hat with h | h
    · exact c5 g h hF
    · have := (c1.inF g hF).2
      omega

set_option maxRecDepth 100000 in
set_option maxHeartbeats 4000000 in
theorem kall_any (v : Value) (ks : List Int) (w : World) (hx : Ints (fun j => j < w.heap.size) v ks w) (hi64 : ∀ y ∈ ks, -9223372036854775808 ≤ y ∧ y ≤ 9223372036854775807) :
    Calls Try.prog 5 #[v] w fun e w' => e = .returned (.bool true) ∧ Below w.heap.size w w' := by
  obtain ⟨i0, hi, hz0, hz1, hz2⟩ := info_parts Try.infoInt
  have hx' := fun W (hW : Below w.heap.size w W) => ints_walk (hx.below hW)
  obtain ⟨ao, cap, b, off, rfl, ⟨hl, _⟩, hao, hcs⟩ := hx
  obtain ⟨m, hm⟩ : ∃ m, m = ks.length := ⟨_, rfl⟩
  rw [← hm] at hl hao ⊢
  have HM := Lib.hid hm
  have HX := Lib.hid (show ∀ W, Below w.heap.size w W → ∀ k, k < m → ∃ x, ks[k]? = some x ∧ ao = some ⟨b, off, none⟩ ∧ W.cell? ⟨b, off + k, none⟩ = some (.int .i64 x) ∧ -9223372036854775808 ≤ x ∧ x ≤ 9223372036854775807 from fun W hW k hk => by
    have e : ks[k]? = some (ks[k]'(by omega)) := List.getElem?_eq_getElem (by omega)
    obtain ⟨e1, e2, e3⟩ := hao (by omega)
    exact ⟨_, e, e1, (hW.cell (p := ⟨b, off + k, none⟩) e3).trans (hcs k _ e), hi64 _ (List.mem_of_getElem? e)⟩)
  have HK := Lib.hid (fun W (hW : Below w.heap.size w W) => (lkknown_any W).mono (R' := fun e w' => e = .returned (.bool true) ∧ Below w.heap.size w w') fun e w' ⟨he, hb⟩ => ⟨he, hW.trans (hb.mono hW.size)⟩)
  have HK0 := Lib.hid (lkknown_any w)
  have HNew := Lib.hid (kNew_anyN w)
  clear hx' hao hcs hm
  by_cases g1 : 60 < m
  · have d1 : decide ((m : Int) > 60) = true := decide_eq_true (by omega)
    clear g1 HX HNew HK
    go_enter Try.func5, Try.ntmps5
    go_wp2_with (go_at_call 11; go_must (with_reducible refine HK0.out.mono ?_); rintro e w2 ⟨rfl, b2⟩)
    go_ret
    exact ⟨rfl, b2⟩
  have d1 : decide ((m : Int) > 60) = false := decide_eq_false (by omega)
  clear HK0
  go_enter Try.func5, Try.ntmps5
  go_wp2_with (go_at_call 24; go_must (with_reducible refine HNew.out.mono ?_); rintro e w1 ⟨p, rfl, hp, b1⟩; have P0 := Lib.hid (show KN w p 0 [] w1 from ⟨_, hp, by simp, b1⟩); clear hp b1)
  clear HNew d1
  go_loopw [4] (fun c wr => ∃ (i : Nat) (l : List (Int × Bool)), i ≤ m ∧ c = .int .i64 i ∧ KN w p i l wr ∧ ∀ (j : Nat) (x : Int), j < i → ks[j]? = some x → x ∈ keys l) (fun c _ => m - (intOf c).toNat)
  case atStart => exact ⟨0, [], Nat.zero_le _, rfl, P0.out, fun j x h => by omega⟩
  case round =>
    obtain ⟨i, l, hile, rfl, hC, hin⟩ := hrel
    have HI := Lib.hid hin
    clear hin
    by_cases hlt : i < m
    · obtain ⟨x, hxk, rfl, c0, hz⟩ := HX.out wr hC.bel i hlt
      have HXK := Lib.hid hxk
      have hb0 : (0 : Int) ≤ (i : Int) := by omega
      have hb1 : (i : Int) < (m : Int) := by omega
      have HT := Lib.hid (hC.touch (by omega) x hz)
      have HKT := Lib.hid (keys_touch l x)
      clear hC hxk HK P0 HX
      go_wp2_with (go_at_call 25; go_must (with_reducible refine HT.out.mono ?_); rintro e w2 ⟨rfl, h2⟩; have H2 := Lib.hid h2; clear h2)
      go_roundw
      case rel =>
        refine ⟨i + 1, _, by omega, by go_num, H2.out, fun j y hj hy => ?_⟩
        by_cases hji : j = i
        · subst hji
          rw [HXK.out] at hy
          cases hy
          exact HKT.out.1
        · exact HKT.out.2 y (HI.out j y (by omega) hy)
      case measure => simp [intOf]; omega
    · obtain rfl : i = m := by omega
      have HLen := Lib.hid hC.len
      have hlm : l.length ≤ i := by obtain ⟨_, _, h, _⟩ := hC; exact h
      have HND := Lib.hid hC.nodup
      have HCD := Lib.hid (fun q => hC.drewN q)
      obtain ⟨n, hn⟩ : ∃ n, n = l.length := ⟨_, rfl⟩
      rw [← hn] at HLen hlm
      have HN := Lib.hid hn
      have hsz := hC.bel.size
      clear hC P0 hn
      go_wp2_with (go_at_call 26; go_must (with_reducible refine HLen.out.mono ?_); rintro e w2 ⟨rfl, q, rfl⟩)
      have H2 := Lib.hid (HCD.out q)
      clear HCD HLen
      generalize wr.drewN q = W0 at H2 ⊢
      go_loopw [6, 7, 8, 9] (fun t c _ _ wr => ∃ (j : Nat) (vv : Value) (told : List Int) (l2 : List (Int × Bool)), vv = t ∧ j ≤ n ∧ c = .int .i64 j ∧ KT w p i l2 vv told wr ∧ told.length = j ∧ l2.length + j = n ∧ (told ++ keys l2).Perm (keys l)) (fun _ c _ _ _ => n - (intOf c).toNat)
      case atStart => exact ⟨0, _, [], l, rfl, Nat.zero_le _, rfl, KT.start H2.out, rfl, HN.out.symm, List.Perm.refl _⟩
      case round =>
        obtain ⟨j, vv, told, l2, rfl, hj, rfl, hT, htl, hll, hpm⟩ := hrel
        have HPM := Lib.hid hpm
        have HTL := Lib.hid htl
        have HLL := Lib.hid hll
        by_cases hlt2 : j < n
        · have hb1 : (j : Int) < (n : Int) := by omega
          obtain ⟨v, l3, hp3, hl3, hd⟩ := hT.tell (by omega) (by omega)
          have HD := Lib.hid hd
          have HP3 := Lib.hid hp3
          have HL3 := Lib.hid hl3
          have hji : j ≤ 1073741824 := by omega
          have HMo := Lib.hid (fun W (h : KT w p i l3 vv told W) g cap x W' o => h.more (g := g) (cap := cap) (x := x) (w4 := W') (o := o) htl)
          have HRo := Lib.hid (fun W (h : KT w p i l3 vv told W) => (show W.ownsRow w.heap.size 3 1 vv j (told.map (Value.int .i64)) from by have := h.row; unfold NRow at this; rw [htl] at this; exact this))
          have HSi := Lib.hid (fun W (h : KT w p i l3 vv told W) => h.kn.bel.size)
          clear hT htl hll hpm hp3 hl3 hd HX HK
          go_wp2_with (first
            | (go_at_call 27; go_must (with_reducible refine HD.out.mono ?_); rintro e w3 ⟨rfl, h3⟩; have H3 := Lib.hid h3; clear h3)
            | (go_at_call 28; go_must (with_reducible refine H3.out.mono ?_); rintro e w4 ⟨rfl, h4⟩; have H4 := Lib.hid h4; clear h4)
            | (go_at_call 29; go_must (with_reducible refine H4.out.mono ?_); rintro e w5 ⟨rfl, h5⟩; have H5 := Lib.hid h5; have s5 := HSi.out _ h5; clear h5)
            | (at_builtin; go_must (refine wpList_append_lies _ rfl (.tmp 57) (.tmp 59) 43 rfl w.heap.size 3 i0 (.int .i64 0) 1 8 Try.underlying43 hi hz0 hz1 hz2 rfl (by decide) vv j _ (by simp [Act.eval]) ((HRo.out _ H5.out).alloc _) ⟨w5.heap.size, 0, none⟩ 1 1 [.int .i64 v] (by simp [Act.eval]) rfl (World.news_of_block (heap_alloc_new w5 _)) (by intro u hu; simp at hu; subst hu; rfl) (by decide) (by unfold maxLen; omega) (by omega) (by simp; omega) (w5.heap.size + 1) (by simp) ?_); intro g cap w6 h1 hg hat _; have H6 := Lib.hid (HMo.out _ H5.out g cap v w6 _ h1 hg hat); clear h1 hg hat))
          go_roundw
          case rel => exact ⟨j + 1, _, told ++ [v], l3, rfl, by omega, by go_num, H6.out, by simp [HTL.out], by have := HL3.out; have := HLL.out; omega, HP3.out.trans HPM.out⟩
          case measure => simp [intOf]; omega
        · obtain rfl : j = n := by omega
          have hl0 : l2.length = 0 := by omega
          have hpk : told.Perm (keys l) := by
            have e := List.length_eq_zero_iff.1 hl0
            rw [e] at hpm
            simpa [keys] using hpm
          have HON := Lib.hid (show ∀ (k : Nat) (x : Int), k < i → ks[k]? = some x → told.count x = 1 from fun k x hk hx => told_once ks told l HND.out hpk x (HI.out k x hk hx))
          have HV := Lib.hid (fun W (h : KN w p i l2 W) => h.no hl0)
          have HL0 := Lib.hid (fun W (h : KN w p i l2 W) => (show Calls Try.prog 26 #[.pointer (some ⟨p, 0, none⟩)] W fun e w' => e = .returned (.int .i64 0) ∧ ∃ q, w' = W.drewN q from by have := h.len; rw [hl0] at this; exact this))
          have HKN := Lib.hid hT.kn
          obtain ⟨ao3, cap3, b3, off3, rfl, hl3, hat3⟩ := ints_walk hT.row.ints
          rw [htl] at hl3 hat3 ⊢
          have HAT := Lib.hid hat3
          have HCT := Lib.hid (count_at)
          have HTT := Lib.hid (show told.take j = told by rw [← htl, List.take_length])
          clear hT htl hll hpm hl0 hpk hat3 HPM HLL HN H2
          go_wp2_with fail
          obtain ⟨wq, rfl⟩ : ∃ wq : World, wq = wr := ⟨_, rfl⟩
          go_loopw [10, 11, 12] (fun c _ _ wr => ∃ k : Nat, k ≤ i ∧ c = .int .i64 k ∧ ∃ q, wr = wq.drewN q) (fun c _ _ _ => i - (intOf c).toNat)
          case atStart => exact ⟨0, Nat.zero_le _, rfl, 0, rfl⟩
          case round =>
            obtain ⟨k, hk, rfl, q1, hwr⟩ := hrel
            by_cases hlt3 : k < i
            · have hkb : Below w.heap.size w wr := by rw [hwr]; exact (HKN.out.drewN q1).bel
              obtain ⟨x, hxk, rfl, c0, _⟩ := HX.out wr hkb k hlt3
              have HO1 := Lib.hid (HON.out k x hlt3 hxk)
              have hb1 : (k : Int) < (i : Int) := by omega
              have hb0 : (0 : Int) ≤ (k : Int) := by omega
              have HWR := Lib.hid hwr
              clear hkb hxk hwr
              go_wp2_with fail
              obtain ⟨wo, rfl⟩ : ∃ wo : World, wo = wr := ⟨_, rfl⟩
              go_loopw [11, 12] (fun a c wr => ∃ t2 n2 : Nat, t2 ≤ j ∧ c = .int .i64 t2 ∧ a = .int .i64 n2 ∧ n2 = (told.take t2).count x ∧ n2 ≤ t2 ∧ ∃ q, wr = wo.drewN q) (fun _ c _ => j - (intOf c).toNat)
              case atStart => exact ⟨0, 0, Nat.zero_le _, rfl, rfl, by simp, by omega, 0, rfl⟩
              case round =>
                obtain ⟨t2, n2, ht2, rfl, rfl, hn2, hnt, q2, hwr2⟩ := hrel
                have HN2 := Lib.hid hn2
                have HWR2 := Lib.hid hwr2
                have c0 : wr.cell? ⟨b, off + k, none⟩ = some (.int .i64 x) := by rw [hwr2]; exact c0
                clear hn2
                by_cases hlt4 : t2 < j
                · obtain ⟨y, hyt, rfl, cy⟩ := HAT.out t2 hlt4
                  have cy : wr.cell? ⟨b3, off3 + t2, none⟩ = some (.int .i64 y) := by rw [hwr2, HWR.out]; exact cy
                  have HC1 := Lib.hid (HCT.out x told t2 y hyt)
                  have hb2 : (0 : Int) ≤ (t2 : Int) := by omega
                  have hb3 : (t2 : Int) < (j : Int) := by omega
                  clear hyt hwr2
                  by_cases hyx : y = x
                  · have d0 : (y == x) = true := by rw [beq_iff_eq]; exact hyx
                    have HYX := Lib.hid hyx
                    clear hyx
                    go_wp2_with fail
                    go_quiet (fail)
                    go_wp2_with fail
                    go_roundw
                    case rel => exact ⟨t2 + 1, n2 + 1, by omega, by go_num, by go_num, by rw [HC1.out, if_pos HYX.out, ← HN2.out], by omega, _, by rw [HWR2.out]; exact World.drewN_drewN _ _ _⟩
                    case measure => simp [intOf]; omega
                  · have d0 : (y == x) = false := by rw [beq_eq_false_iff_ne]; exact hyx
                    have HYX := Lib.hid hyx
                    clear hyx
                    go_wp2_with fail
                    go_quiet (fail)
                    go_wp2_with fail
                    go_roundw
                    case rel => exact ⟨t2 + 1, n2, by omega, by go_num, rfl, by rw [HC1.out, if_neg HYX.out, ← HN2.out, Nat.add_zero], by omega, _, by rw [HWR2.out]; exact World.drewN_drewN _ _ _⟩
                    case measure => simp [intOf]; omega
                · obtain rfl : t2 = j := by omega
                  have e1 : n2 = 1 := by rw [HN2.out, HTT.out, HO1.out]
                  subst e1
                  clear hwr2
                  go_wp2_with fail
                  go_roundw
                  case rel => exact ⟨k + 1, by omega, by go_num, _, by rw [HWR2.out, HWR.out]; exact World.drewN_drewN _ _ _⟩
                  case measure => simp [intOf]; omega
            · obtain rfl : k = i := by omega
              have HKr := Lib.hid (show KN w p k l2 wr by rw [hwr]; exact HKN.out.drewN q1)
              have HKK := Lib.hid (fun W q (h : KN w p k l2 W) => HK.out (W.drewN q) (h.drewN q).bel)
              clear hwr
              go_wp2_with (first
                | (go_at_call 27; go_must (with_reducible refine (HV.out _ HKr.out).mono ?_); rintro e w7 ⟨rfl, h7⟩; have H7 := Lib.hid h7; clear h7)
                | (go_at_call 26; go_must (with_reducible refine (HL0.out _ H7.out).mono ?_); rintro e w8 ⟨rfl, q8, rfl⟩)
                | (go_at_call 11; go_must (with_reducible refine (HKK.out _ _ H7.out).mono ?_); rintro e w9 ⟨rfl, b9⟩))
              go_ret
              exact ⟨rfl, b9⟩
end Go.Proofs.Ytokchikihacalaa
