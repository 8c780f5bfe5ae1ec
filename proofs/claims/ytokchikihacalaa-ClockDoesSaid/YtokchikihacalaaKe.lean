/- Steps on a clock as arguments; the reference's Large; both do a step. -/
import Derived.Test.YtokchikihacalaaKd
import Derived.Test.YtokchikihacalaaOs
import Derived.Deep.Onto
namespace Go.Proofs.Ytokchikihacalaa
open Go.Joins Go.ChangeShapes Go.WideShapes Go.RowKit Go.Deep

/-- A step. -/
structure KS where
  kind : Int
  s : ByteArray
def ksc (x : KS) : List Value := [.int .i64 x.kind, .string x.s]
/-- A slice of steps, all of it below B. -/
def KSteps (B : Nat) (v : Value) (xs : List KS) (w : World) : Prop :=
  ∃ (ao : Option Addr) (cap b off : Nat), v = .slice ao xs.length cap ∧ xs.length ≤ 9223372036854775807 ∧ (0 < xs.length → ao = some ⟨b, off, none⟩ ∧ b < B) ∧
    ∀ (i : Nat) (x : KS), xs[i]? = some x → x.s.size ≤ 9223372036854775807 ∧ w.cell? ⟨b, off + i * 2, none⟩ = some (.int .i64 x.kind) ∧ w.cell? ⟨b, off + i * 2 + 1, none⟩ = some (.string x.s)

section
variable {H : Type} {enc : TypeId × Value → H} {w : World} {base : Nat} {held : Bool}
set_option maxRecDepth 100000 in
theorem trod_kstep {fuel : Nat} {cs : List Value} {x : DataW H × List MemPlace} (h : DataW.trod enc Try.prog w base (fun _ => true) held fuel 29 cs = some x) : ∃ s : KS, cs = ksc s ∧ s.s.size ≤ 9223372036854775807 := by
  obtain ⟨xs, n, _, hx, hl, hlen, hg⟩ := DataW.trod_struct Try.underlying29 h
  have h2 : cs.length = 2 := hl.trans (by kernel_rfl)
  match cs, h2 with
  | [c0, c1], _ =>
    have k1 : Try.prog.cellsOf 3 = 1 := by kernel_rfl
    have k2 : Try.prog.cellsOf 9 = 1 := by kernel_rfl
    have g0 := trod_at (i := 0) (off := 0) (ti := 3) (by kernel_rfl) k1 hg
    have g1 := trod_at (i := 1) (off := 1) (ti := 9) (by kernel_rfl) k2 hg
    have hl2 : xs.length = 2 := hlen
    match xs, hl2 with
    | [y0, y1], _ =>
      simp only [List.drop_zero, List.take_succ_cons, List.take_zero, List.drop_succ_cons] at g0 g1
      obtain ⟨m0, e0, _, f0⟩ := DataW.trod_int Try.underlying3 (g0.trans rfl)
      obtain ⟨m1, e1, _, f1⟩ := DataW.trod_string Try.underlying9 (g1.trans rfl)
      simp only [List.cons.injEq, and_true] at e0 e1
      subst e0 e1
      unfold maxLen at f1
      exact ⟨⟨m0, m1⟩, rfl, f1⟩
theorem open_ksteps {fuel : Nat} {v : Value} {x : DataW H × List MemPlace} (hv : ∃ a len cap, v = .slice a len cap) (h : DataW.trod enc Try.prog w base (fun _ => true) held fuel 22 v.cells.toList = some x) :
    ∃ xs : List KS, KSteps w.heap.size v xs w := by
  obtain ⟨ao, n, cap, b, off, rfl, hn, hao, hc⟩ := open_rows (P := Try.prog) (k := 2) (R := fun cs => ∃ s : KS, cs = ksc s ∧ s.s.size ≤ 9223372036854775807) Try.underlying22 (by kernel_rfl) (by omega) (fun {fuel cs x} h => trod_kstep h) hv h
  obtain ⟨xs, hl, hx⟩ := exists_list n (fun i (x : KS) => x.s.size ≤ 9223372036854775807 ∧ w.cell? ⟨b, off + i * 2, none⟩ = some (.int .i64 x.kind) ∧ w.cell? ⟨b, off + i * 2 + 1, none⟩ = some (.string x.s)) fun i hi => by
    obtain ⟨cs, hcl, ⟨s, rfl, hs⟩, hj⟩ := hc i hi
    exact ⟨s, hs, hj 0 (by omega), hj 1 (by omega)⟩
  exact ⟨xs, ao, cap, b, off, by rw [hl], by have := hn.1; omega, fun h0 => ⟨(hao (by omega)).1, (hao (by omega)).2⟩, hx⟩
end

def bigK (x : KS) : Bool := decide (100 < x.s.size)
/-- Are there too many steps, or too long keys? -/
def largeK (xs : List KS) : Bool := (xs.take 80).any bigK || decide (80 < xs.length)
theorem anyK_succ (xs : List KS) (k : Nat) (x : KS) (h : xs[k]? = some x) : (xs.take (k + 1)).any bigK = ((xs.take k).any bigK || bigK x) := by
  rw [take_succ_at xs k x h, List.any_append]
  simp
theorem largeK_of (xs : List KS) (k : Nat) (hk : k < 80) (h : (xs.take (k + 1)).any bigK = true) : largeK xs = true := by
  unfold largeK
  rw [Bool.or_eq_true]
  left
  rw [List.any_eq_true] at h ⊢
  obtain ⟨x, hx, hb⟩ := h
  refine ⟨x, ?_, hb⟩
  have e : xs.take (k + 1) = (xs.take 80).take (k + 1) := by rw [List.take_take, Nat.min_eq_left (by omega)]
  rw [e] at hx
  exact List.mem_of_mem_take hx

set_option maxRecDepth 100000 in
set_option maxHeartbeats 1000000 in
theorem rkLarge_any (B : Nat) (v : Value) (xs : List KS) (w : World) (h : KSteps B v xs w) :
    Calls Try.prog 10 #[v] w fun e w' => e = .returned (.bool (largeK xs)) ∧ w = w' := by
  obtain ⟨ao, cap, b, off, rfl, hl, hao, hx⟩ := h
  obtain ⟨n, hn⟩ : ∃ n, n = xs.length := ⟨_, rfl⟩
  obtain ⟨r, hr⟩ : ∃ r, r = largeK xs := ⟨_, rfl⟩
  have HR := Lib.hid hr
  have HN := Lib.hid hn
  have HX := Lib.hid (show ∀ k, k < n → ∃ (x : KS), xs[k]? = some x ∧ ao = some ⟨b, off, none⟩ ∧ w.cell? ⟨b, off + k * 2 + 1, none⟩ = some (.string x.s) from fun k hk => by
    obtain ⟨x, hxk⟩ : ∃ x, xs[k]? = some x := ⟨_, List.getElem?_eq_getElem (by omega)⟩
    exact ⟨x, hxk, (hao (by omega)).1, (hx k x hxk).2.2⟩)
  rw [← hr, ← hn]
  rw [← hn] at hl
  clear hx hao hr hn
  go_enter Try.func10, Try.ntmps10
  go_wp2
  go_loop [3] (fun c => ∃ k : Nat, k ≤ n ∧ k ≤ 80 ∧ c = .int .i64 k ∧ (xs.take k).any bigK = false) (fun c => n - (intOf c).toNat)
  case atStart => exact ⟨0, Nat.zero_le _, by omega, rfl, rfl⟩
  case round =>
    obtain ⟨k, hk, hk6, rfl, hany⟩ := hrel
    have HA := Lib.hid hany
    clear hany
    by_cases hlt : k < n
    · by_cases h80 : k < 80
      · obtain ⟨x, hxk, rfl, c2⟩ := HX.out k hlt
        have HK := Lib.hid (anyK_succ xs k x hxk)
        have i0 : (0 : Int) ≤ (k : Int) := by omega
        have i1 : (k : Int) < (n : Int) := by omega
        have j1 : decide ((k : Int) < 80) = true := decide_eq_true (by omega)
        clear hxk
        by_cases hs : 100 < x.s.size
        · have d1 : decide ((x.s.size : Int) > 100) = true := decide_eq_true (by omega)
          have HS := Lib.hid (show bigK x = true by unfold bigK; rw [decide_eq_true hs])
          clear hs
          go_wp2
          go_ret
          refine ⟨?_, rfl⟩
          rw [show r = true from by rw [HR.out]; exact largeK_of xs k h80 (by rw [HK.out, HS.out]; simp)]
          rfl
        · have d1 : decide ((x.s.size : Int) > 100) = false := decide_eq_false (by omega)
          have HS := Lib.hid (show bigK x = false by unfold bigK; rw [decide_eq_false hs])
          clear hs
          go_wp2
          go_round
          case rel => exact ⟨k + 1, by omega, by omega, by go_num, by rw [HK.out, HS.out, HA.out]; rfl⟩
          case measure => simp [intOf]; omega
      · obtain rfl : k = 80 := by omega
        have j1 : decide ((80 : Int) < 80) = false := by decide
        have i0 : decide (80 < n) = true := decide_eq_true hlt
        have i1 : decide ((n : Int) > 80) = true := decide_eq_true (by omega)
        go_wp2
        go_ret
        refine ⟨?_, rfl⟩
        rw [show r = true from by rw [HR.out]; unfold largeK; rw [decide_eq_true (by rw [← HN.out]; exact hlt), Bool.or_true]]
        rfl
    · obtain rfl : k = n := by omega
      have i1 : decide ((k : Int) > 80) = false := decide_eq_false (by omega)
      go_wp2
      go_ret
      refine ⟨?_, rfl⟩
      rw [show r = false from by
        rw [HR.out]; unfold largeK
        have hA := HA.out
        rw [HN.out, List.take_of_length_le (Nat.le_refl _)] at hA
        rw [List.take_of_length_le (by rw [← HN.out]; exact hk6), hA, decide_eq_false (by rw [← HN.out]; omega)]; rfl]
      rfl

/-- The clock and the law's row of keys tell the same. -/
def KB (w : World) (p n : Nat) (v : Value) (wr : World) : Prop :=
  ∃ l F, CL w.heap.size p F l wr ∧ KRow w.heap.size v l wr ∧ l.length ≤ n ∧ (∀ j, v.ownBlock = some j → ¬ F j) ∧ Below w.heap.size w wr
theorem KB.bel {w : World} {p n : Nat} {v : Value} {wr : World} (h : KB w p n v wr) : Below w.heap.size w wr := by
  obtain ⟨_, _, _, _, _, _, h⟩ := h
  exact h
theorem KB.size {w : World} {p n : Nat} {v : Value} {wr : World} (h : KB w p n v wr) : w.heap.size ≤ wr.heap.size := h.bel.size
theorem KB.below {w : World} {p n : Nat} {v : Value} {wr w' : World} (h : KB w p n v wr) (b : Below wr.heap.size wr w') : KB w p n v w' := by
  obtain ⟨l, F, h1, h2, h3, h4, h5⟩ := h
  exact ⟨l, F, h1.below b, h2.below b, h3, h4, h5.trans (b.mono h5.size)⟩
theorem ktouch_le {α : Type} [DecidableEq α] (l : List (α × Bool)) (s : α) : (ktouch l s).length ≤ l.length + 1 := by
  unfold ktouch
  split <;> simp
theorem kspin_le {α : Type} (l : List (α × Bool)) : (kspin l).length = l.length := rot_length l _
/-- What a method of the clock, and then a function of the reference, leave. -/
theorem KB.after {w : World} {p m : Nat} {v' : Value} {wr w1 w2 : World} {l l' : List (ByteArray × Bool)} {F : Nat → Prop} (h1 : CL w.heap.size p F l wr) (h5 : Below w.heap.size w wr) (hs : CLid w.heap.size p F l' wr w1) (hr : KRow w1.heap.size v' l' w2) (hb : Below w1.heap.size w1 w2) (hm : l'.length ≤ m) : KB w p m v' w2 := by
  have hF := h1.inF
  have hb1 : Below w.heap.size w w1 := h5.trans (hs.below h5.size fun j hj => (hF j hj).1)
  refine ⟨l', Grow F wr w1, hs.1.below hb, World.ownsRow.mono hr (Nat.le_trans h5.size hs.2.size), hm, fun j hj hg => ?_, hb1.trans (hb.mono hb1.size)⟩
  have h6 := (World.ownsRow.lt hr j hj).1
  have h7 := hs.2.size
  rcases hg with hg | hg
  · have := hF j hg; omega
  · omega
theorem KB.touch {w : World} {p n : Nat} {v : Value} {wr : World} (h : KB w p n v wr) (hn : n ≤ 1073741824) (s : ByteArray) (hz : s.size ≤ 9223372036854775807) :
    Calls Try.prog 13 #[.pointer (some ⟨p, 0, none⟩), .string s] wr fun e w' => e = .returned (.tuple #[]) ∧ Below w.heap.size w w' ∧
      Calls Try.prog 14 #[v, .string s] w' fun e w'' => ∃ v', e = .returned v' ∧ KB w p (n + 1) v' w'' := by
  obtain ⟨l, F, h1, h2, h3, h4, h5⟩ := h
  refine (kTouch_any w.heap.size p F l s hz wr h5.size (by omega) h1).mono fun e w1 ⟨he, hs⟩ => ⟨he, h5.trans (hs.below h5.size fun j hj => (h1.inF j hj).1), ?_⟩
  exact (rkTouch_any v l s w1 (by omega) (hs.2.own h2 h4 : KRow w.heap.size v l w1)).mono fun e w2 ⟨v', he, hr, hb⟩ => ⟨v', he, KB.after h1 h5 hs hr hb (by have := ktouch_le l s; omega)⟩
theorem KB.drop {w : World} {p n : Nat} {v : Value} {wr : World} (h : KB w p n v wr) (hn : n ≤ 1073741824) (s : ByteArray) (hz : s.size ≤ 9223372036854775807) : ∃ (b : Bool) (z : Int), decide (z ≥ 0) = b ∧
    Calls Try.prog 15 #[.pointer (some ⟨p, 0, none⟩), .string s] wr fun e w' => e = .returned (.bool b) ∧ Below w.heap.size w w' ∧
      (Calls Try.prog 16 #[v, .string s] w' fun e w'' => e = .returned (.int .i64 z) ∧ w' = w'') ∧
      Calls Try.prog 17 #[v, .string s] w' fun e w'' => ∃ v', e = .returned v' ∧ KB w p n v' w'' := by
  obtain ⟨l, F, h1, h2, h3, h4, h5⟩ := h
  refine ⟨inK s l, plc s l, inK_plc s l, (kDrop_any w.heap.size p F l s hz wr h5.size (by omega) h1).mono fun e w1 ⟨he, hs⟩ => ⟨he, h5.trans (hs.below h5.size fun j hj => (h1.inF j hj).1), rkPlace_any v l s w1 (hs.2.own h2 h4 : KRow w.heap.size v l w1), ?_⟩⟩
  exact (rkDrop_any v l s w1 (by omega) (hs.2.own h2 h4 : KRow w.heap.size v l w1)).mono fun e w2 ⟨v', he, hr, hb⟩ => ⟨v', he, KB.after h1 h5 hs hr hb (by have := kdrop_le l s; omega)⟩
theorem KB.victim {w : World} {p n : Nat} {v : Value} {wr : World} (h : KB w p n v wr) (hn : n ≤ 1073741824) : ∃ (ao : Option Addr) (m cap : Nat) (s : ByteArray), v = .slice ao m cap ∧ (m = 0 → s = ⟨#[]⟩) ∧
    Calls Try.prog 18 #[.pointer (some ⟨p, 0, none⟩)] wr fun e w' => e = .returned (.tuple #[.string s, .bool (decide (0 < m))]) ∧ Below w.heap.size w w' ∧
      (m = 0 → KB w p n v w') ∧ (0 < m → Calls Try.prog 19 #[v] w' fun e w'' => ∃ v', e = .returned (.tuple #[v', .string s]) ∧ KB w p n v' w'') := by
  obtain ⟨l, F, h1, h2, h3, h4, h5⟩ := h
  obtain ⟨ao, cap, g, hv, _⟩ := h2.walk
  refine ⟨ao, l.length, cap, vic l, hv, fun h0 => ?_, (kVictim_any w.heap.size p F l wr h5.size (by omega) h1).mono fun e w1 ⟨he, hs⟩ => ⟨he, h5.trans (hs.below h5.size fun j hj => (h1.inF j hj).1), fun h0 => ?_, fun h0 => ?_⟩⟩
  · rw [List.length_eq_zero_iff.1 h0]; rfl
  · have e := List.length_eq_zero_iff.1 h0
    subst e
    refine ⟨[], Grow F wr w1, hs.1, (hs.2.own h2 h4 : KRow w.heap.size v [] w1), by simp, fun j hj hg => ?_, h5.trans (hs.below h5.size fun j hj => (h1.inF j hj).1)⟩
    have h6 := World.ownsRow.lt h2 j hj
    rcases hg with hg | hg
    · exact h4 j hj hg
    · omega
  · exact (rkVictim_any v l w1 h0 (by omega) (hs.2.own h2 h4 : KRow w.heap.size v l w1)).mono fun e w2 ⟨v', s, m, he, hsm, hr, hb⟩ => ⟨v', by rw [he]; unfold vic; rw [hsm]; rfl, KB.after h1 h5 hs hr hb (by rw [kspin_le]; exact h3)⟩
theorem KB.same {w : World} {p n : Nat} {v : Value} {wr : World} (h : KB w p n v wr) : Calls Try.prog 20 #[.pointer (some ⟨p, 0, none⟩), v] wr fun e w' => e = .returned (.bool true) ∧ KB w p n v w' := by
  have h0 := h
  obtain ⟨l, F, h1, h2, h3, h4, h5⟩ := h
  exact (lksame_any _ p F l v _ wr h1 h2).mono fun e w' ⟨he, hb⟩ => ⟨he, h0.below hb⟩
theorem KB.last {w : World} {p n : Nat} {v : Value} {wr : World} (h : KB w p n v wr) (s : ByteArray) (hz : s.size ≤ 9223372036854775807) : ∃ (b : Bool) (z : Int), decide (z ≥ 0) = b ∧
    (Calls Try.prog 21 #[.pointer (some ⟨p, 0, none⟩), .string s] wr fun e w' => e = .returned (.bool b) ∧ ∃ q, w' = wr.drewN q) ∧
    ∀ q, Calls Try.prog 16 #[v, .string s] (wr.drewN q) fun e w' => e = .returned (.int .i64 z) ∧ wr.drewN q = w' := by
  obtain ⟨l, F, h1, h2, h3, h4, h5⟩ := h
  exact ⟨inK s l, plc s l, inK_plc s l, kHas_any _ p F l s hz wr h1, fun q => rkPlace_any v l s _ (h2.drewN q)⟩
end Go.Proofs.Ytokchikihacalaa
