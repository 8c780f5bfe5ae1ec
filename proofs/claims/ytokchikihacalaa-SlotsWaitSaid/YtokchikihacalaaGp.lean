/- The program's places as they lie in memory; what the laws ask of them. -/
import Derived.Test.YtokchikihacalaaGc
import Derived.Test.YtokchikihacalaaGrp
import Derived.Laws.LoneSync
namespace Go.Proofs.Ytokchikihacalaa
open Go.RowKit

/-- At block p lie the program's places xs, whose row is v; no place ahead of m is asked any more whether it is free. -/
structure SL0 (B p : Nat) (v : Value) (m : Nat) (xs : List Int) (w : World) : Prop where
  st : St 100 p #[v, .int .i64 m, .int .i64 0, .int .i64 (xs.count 1 : Nat), .int .i64 (xs.count 2 : Nat), .int .i64 (xs.count 3 : Nat)] w
  row : w.ownsRow B 93 1 v xs.length (xs.map (Value.int .u8))
  np : v.ownBlock ≠ some p
  bp : B ≤ p
  pos : 1 ≤ xs.length ∧ xs.length ≤ 65536
  ok : gok xs
/-- None of the first m is free. -/
def Lst (m : Nat) (xs : List Int) : Prop := m ≤ xs.length ∧ 1 ∉ xs.take m
theorem Lst.set {m : Nat} {xs : List Int} (h : Lst m xs) (k : Nat) (b : Int) (hb : b ≠ 1) : Lst m (xs.set k b) := by
  refine ⟨by rw [List.length_set]; exact h.1, fun hm => ?_⟩
  rw [List.take_set] at hm
  rcases List.mem_or_eq_of_mem_set hm with h1 | h1
  · exact h.2 h1
  · exact hb h1.symm
theorem Lst.settle {m k : Nat} {xs : List Int} (h : Lst m (setl k xs)) (z : Nat) (hz : z ≤ m ∧ z ≤ k) : Lst z (setl (k + 1) xs) := by
  have hl : (setl (k + 1) xs).length = xs.length := setl_length _ _
  have hl2 : (setl k xs).length = xs.length := setl_length _ _
  refine ⟨by rw [hl]; have := h.1; omega, fun hm => h.2 ?_⟩
  have hz2 : z ≤ xs.length := by have := h.1; omega
  have e : (setl (k + 1) xs).take z = (setl k xs).take z := by
    unfold setl
    rw [List.take_append_of_le_length (by simp; omega), List.take_append_of_le_length (by simp; omega), ← List.map_take, ← List.map_take, List.take_take, List.take_take, Nat.min_eq_left (by omega), Nat.min_eq_left (by omega)]
  rw [e] at hm
  have e2 : (setl k xs).take m = (setl k xs).take z ++ ((setl k xs).take m).drop z := by
    have := List.take_append_drop z ((setl k xs).take m)
    rw [List.take_take, Nat.min_eq_left hz.1] at this
    exact this.symm
  rw [e2]
  exact List.mem_append_left _ hm
/-- At block p lie the program's places, all of them in F. -/
def SL (B p : Nat) (F : Nat → Prop) (xs : List Int) (w : World) : Prop :=
  ∃ v m, SL0 B p v m xs w ∧ (∀ j, F j → B ≤ j ∧ j < w.heap.size) ∧ F p ∧ (∀ j, v.ownBlock = some j → F j) ∧ Lst m xs
/-- What a method of them leaves. -/
def SLid (B p : Nat) (F : Nat → Prop) (xs : List Int) (w w' : World) : Prop := SL B p (Grow F w w') xs w' ∧ Frm F w w'
theorem SL.keep {B p : Nat} {F G : Nat → Prop} {xs : List Int} {w w' : World} (h : SL B p F xs w) (f : Frm G w w') (hd : ∀ j, F j → ¬ G j) : SL B p F xs w' := by
  obtain ⟨v, m, h0, hF, h1, h2, h3⟩ := h
  exact ⟨v, m, ⟨f.st h0.st (hd _ h1), f.own h0.row fun k hk => hd _ (h2 k hk), h0.np, h0.bp, h0.pos, h0.ok⟩, fun j hj => ⟨(hF j hj).1, Nat.lt_of_lt_of_le (hF j hj).2 f.size⟩, h1, h2, h3⟩
theorem SL.inF {B p : Nat} {F : Nat → Prop} {xs : List Int} {w : World} (h : SL B p F xs w) : ∀ j, F j → B ≤ j ∧ j < w.heap.size := by
  obtain ⟨_, _, _, hF, _⟩ := h
  exact hF
theorem SL.posn {B p : Nat} {F : Nat → Prop} {xs : List Int} {w : World} (h : SL B p F xs w) : 1 ≤ xs.length ∧ xs.length ≤ 65536 := by
  obtain ⟨_, _, h0, _⟩ := h
  exact h0.pos
theorem SL.wide {B p : Nat} {F G : Nat → Prop} {xs : List Int} {w : World} (h : SL B p F xs w) (hf : ∀ j, F j → G j) (hg : ∀ j, G j → B ≤ j ∧ j < w.heap.size) : SL B p G xs w := by
  obtain ⟨v, m, h0, hF, h1, h2, h3⟩ := h
  exact ⟨v, m, h0, hg, hf _ h1, fun j hj => hf _ (h2 j hj), h3⟩
theorem SL.alloc {B p : Nat} {F : Nat → Prop} {xs : List Int} {w : World} (h : SL B p F xs w) (o : Obj) : SL B p F xs (w.alloc o) := h.keep (G := fun _ => False) ((Frm.refl _ w).alloc o) fun _ _ e => e
theorem SL.drewN {B p : Nat} {F : Nat → Prop} {xs : List Int} {w : World} (h : SL B p F xs w) (q : Nat) : SL B p F xs (w.drewN q) := h.keep (G := fun _ => False) ((Frm.refl _ w).drewN q) fun _ _ e => e
theorem SL.below {B p : Nat} {F : Nat → Prop} {xs : List Int} {w w' : World} (h : SL B p F xs w) (b : Below w.heap.size w w') : SL B p F xs w' := h.keep (G := fun _ => False) (Frm.of_below b) fun _ _ e => e
theorem SLid.same {B p : Nat} {F : Nat → Prop} {xs : List Int} {w : World} (h : SL B p F xs w) : SLid B p F xs w w :=
  ⟨h.wide (fun _ e => .inl e) (fun j hj => by rcases hj with hj | hj; exact h.inF j hj; omega), Frm.refl _ _⟩
theorem SLid.later {B p : Nat} {F : Nat → Prop} {xs : List Int} {w w1 w' : World} (hB : B ≤ w.heap.size) (hF : ∀ j, F j → B ≤ j ∧ j < w.heap.size) (b : Below w.heap.size w w1) (h : SLid B p F xs w1 w') : SLid B p F xs w w' := by
  obtain ⟨h0, f⟩ := h
  have hs := b.size
  refine ⟨h0.wide (fun j hj => by rcases hj with hj | hj; exact .inl hj; exact .inr ⟨by omega, hj.2⟩) fun j hj => ?_, (Frm.of_below b).next f⟩
  have := f.size
  rcases hj with hj | hj
  · have := hF j hj; omega
  · omega
theorem SLid.drewN {B p : Nat} {F : Nat → Prop} {xs : List Int} {w w' : World} (h : SLid B p F xs w w') (q : Nat) : SLid B p F xs w (w'.drewN q) := ⟨h.1.drewN q, h.2.drewN q⟩
theorem SLid.below {B p : Nat} {F : Nat → Prop} {xs : List Int} {w w' : World} (h : SLid B p F xs w w') (hB : B ≤ w.heap.size) (hF : ∀ j, F j → B ≤ j) : Below B w w' := h.2.below hB hF

/-- What is told of a place. -/
def stateAt (xs : List Int) (i : Int) : Int := if 0 ≤ i ∧ i < xs.length then xs.getD i.toNat 0 else 0

theorem SLid.mk' {B p : Nat} {F : Nat → Prop} {v : Value} {m : Nat} {xs : List Int} {w w' : World} (hB : B ≤ w.heap.size) (hF : ∀ j, F j → B ≤ j ∧ j < w.heap.size) (hp : F p) (h : SL0 B p v m xs w') (hl : Lst m xs) (f : Frm F w w') (hk : ∀ j, v.ownBlock = some j → F j) : SLid B p F xs w w' :=
  ⟨⟨v, m, h, fun j hj => by
      rcases hj with hj | hj
      · exact ⟨(hF j hj).1, Nat.lt_of_lt_of_le (hF j hj).2 f.size⟩
      · have := h.bp; have := (hF p hp).1; omega,
    .inl hp, fun j hj => .inl (hk j hj), hl⟩, f⟩
theorem SL0.same {B p : Nat} {v : Value} {m : Nat} {xs : List Int} {w w' : World} (h : SL0 B p v m xs w) (f : Frm (fun _ => False) w w') : SL0 B p v m xs w' := ⟨f.st h.st id, f.own h.row fun _ _ => id, h.np, h.bp, h.pos, h.ok⟩
theorem SL0.at1 {B p : Nat} {v : Value} {m : Nat} {xs : List Int} {w : World} (h : SL0 B p v m xs w) : w.cell? ⟨p, 1, none⟩ = some (.int .i64 m) := h.st.cell rfl
/-- 'least' is stored. -/
theorem SL0.least {B p : Nat} {v : Value} {m : Nat} {xs : List Int} {w : World} (h : SL0 B p v m xs w) (z : Nat) : SL0 B p v z xs (w.setCell ⟨p, 1, none⟩ (.int .i64 z)) :=
  ⟨h.st.set 1 _, (Frm.setCell (Frm.refl (fun j => j = p) w) (p := ⟨p, 1, none⟩) (.inl rfl) _).own h.row fun j hj e => h.np (by rw [← e]; exact hj), h.np, h.bp, h.pos, h.ok⟩
/-- '(*sync/atomic.Int64).Add(d)', '.Load()'. -/
theorem g64_add (a : Addr) (n d : Int) (w : World) (h0 : -9223372036854775808 ≤ n + d) (h1 : n + d ≤ 9223372036854775807) (hc : w.cell? a = some (.int .i64 n)) (hz : w.frozen? a = false) :
    Calls Try.prog 60 #[.pointer (some a), .int .i64 d] w fun e w' => e = .returned (.int .i64 (n + d)) ∧ w.setCell a (.int .i64 (n + d)) = w' := by
  have hs : IntKind.i64.wrap (n + d) = n + d := IntWalk.i64_in _ (by omega)
  have hadd := run_call_add (P := Try.prog) Try.func64 (by kernel_rfl) (by kernel_rfl) (by kernel_rfl) .i64 (by kernel_rfl) (y := d) (s := n + d) hc hz (by simp [go_sem, hs])
  clear hs
  go_enter Try.func60, Try.ntmps60
  go_wp2
  go_ret
  exact ⟨rfl, rfl⟩
theorem g64_is (a : Addr) (n : Int) (w : World) (hc : w.cell? a = some (.int .i64 n)) : Calls Try.prog 59 #[.pointer (some a)] w fun e w' => e = .returned (.int .i64 n) ∧ w' = w := by
  have hl := run_call_load (P := Try.prog) Try.func63 (by kernel_rfl) (by kernel_rfl) (by kernel_rfl) .i64 (by kernel_rfl) hc
  go_enter Try.func59, Try.ntmps59
  go_wp2
  go_ret
  exact ⟨rfl, rfl⟩
set_option maxRecDepth 100000 in
theorem gState_at {B p : Nat} {v : Value} {m : Nat} {xs : List Int} (i : Int) {w : World} (h : SL0 B p v m xs w) : Calls Try.prog 37 #[.pointer (some ⟨p, 0, none⟩), .int .i64 i] w fun e w' => e = .returned (.int .i64 (stateAt xs i)) ∧ w' = w := by
  obtain ⟨g, cap, hv, _, _, hat⟩ := own_some h.row (by have := h.pos; omega)
  obtain ⟨n, hn⟩ : ∃ n, n = xs.length := ⟨_, rfl⟩
  rw [← hn] at hv
  have c0 : w.cell? ⟨p, 0, none⟩ = some (.slice (some ⟨g, 0, none⟩) n cap) := by rw [← hv]; exact h.st.cell rfl
  unfold stateAt
  by_cases h0 : 0 ≤ i
  · have d0 : decide (i < 0) = false := decide_eq_false (by omega)
    by_cases h1 : i < n
    · obtain ⟨k, rfl⟩ : ∃ k : Nat, i = k := ⟨i.toNat, by omega⟩
      have d1 : decide ((k : Int) ≥ (n : Int)) = false := decide_eq_false (by omega)
      have hx : xs[k]? = some (xs[k]'(by omega)) := List.getElem?_eq_getElem (by omega)
      have c1 : w.cell? ⟨g, k, none⟩ = some (.int .u8 (xs[k]'(by omega))) := hat k _ (by rw [List.getElem?_map, hx]; rfl)
      rw [if_pos (by omega), show xs.getD (k : Int).toNat 0 = xs[k]'(by omega) from by simp [List.getD, hx]]
      have hok := h.ok _ (List.mem_of_getElem? hx)
      generalize xs[k]'(by omega) = x at c1 hok ⊢
      have hw : IntKind.i64.wrap x = x := IntWalk.i64_in _ (by omega)
      clear h hat hx hn hok
      go_enter Try.func37, Try.ntmps37
      go_wp2
      go_returns
      exact ⟨rfl, rfl⟩
    · have d1 : decide (i ≥ (n : Int)) = true := decide_eq_true (by omega)
      rw [if_neg (by omega)]
      clear h hat hn
      go_enter Try.func37, Try.ntmps37
      go_wp2
      go_returns
      exact ⟨rfl, rfl⟩
  · have d0 : decide (i < 0) = true := decide_eq_true (by omega)
    rw [if_neg (by omega)]
    clear h hat hn
    go_enter Try.func37, Try.ntmps37
    go_wp2
    go_returns
    exact ⟨rfl, rfl⟩
theorem gcount_at {B p : Nat} {v : Value} {m : Nat} {xs : List Int} {w : World} (k : Int) (hk : k = 1 ∨ k = 2 ∨ k = 3) (h : SL0 B p v m xs w) : Calls Try.prog 53 #[.pointer (some ⟨p, 0, none⟩), .int .u8 k] w fun e w' => e = .returned (.int .i64 (xs.count k : Nat)) ∧ w' = w := by
  have hc := count_le k xs
  have hp := h.pos
  have hw : IntKind.i64.wrap (xs.count k : Nat) = (xs.count k : Nat) := IntWalk.i64_in _ (by omega)
  rcases hk with rfl | rfl | rfl
  · have H1 := Lib.hid (g64_is ⟨p, 3, none⟩ (xs.count 1 : Nat) w (h.st.cell rfl))
    clear h hc hp
    go_enter Try.func53, Try.ntmps53
    go_wp2_with (go_at_call 59; go_must (with_reducible refine H1.out.mono ?_); rintro e w1 ⟨rfl, rfl⟩)
    go_returns
    exact ⟨rfl, rfl⟩
  · have H1 := Lib.hid (g64_is ⟨p, 4, none⟩ (xs.count 2 : Nat) w (h.st.cell rfl))
    clear h hc hp
    go_enter Try.func53, Try.ntmps53
    go_wp2_with (go_at_call 59; go_must (with_reducible refine H1.out.mono ?_); rintro e w1 ⟨rfl, rfl⟩)
    go_returns
    exact ⟨rfl, rfl⟩
  · have H1 := Lib.hid (g64_is ⟨p, 5, none⟩ (xs.count 3 : Nat) w (h.st.cell rfl))
    clear h hc hp
    go_enter Try.func53, Try.ntmps53
    go_wp2_with (go_at_call 59; go_must (with_reducible refine H1.out.mono ?_); rintro e w1 ⟨rfl, rfl⟩)
    go_returns
    exact ⟨rfl, rfl⟩
set_option maxRecDepth 100000 in
theorem gCount_at {B p : Nat} {v : Value} {m : Nat} {xs : List Int} {w : World} (h : SL0 B p v m xs w) : Calls Try.prog 35 #[.pointer (some ⟨p, 0, none⟩)] w fun e w' => e = .returned (.tuple #[.int .i64 (xs.count 1 : Nat), .int .i64 (xs.count 2 : Nat), .int .i64 (xs.count 3 : Nat)]) ∧ ∃ q, w' = w.drewN q := by
  have H1 := Lib.hid (gcount_at 1 (by omega) h)
  have H2 := Lib.hid (gcount_at 2 (by omega) h)
  have H3 := Lib.hid (gcount_at 3 (by omega) h)
  clear h
  go_enter Try.func35, Try.ntmps35
  go_wp2_with (go_at_call 53; go_must (first | with_reducible refine H1.out.mono ?_ | with_reducible refine H2.out.mono ?_ | with_reducible refine H3.out.mono ?_); rintro e w1 ⟨rfl, rfl⟩)
  go_returns
  exact ⟨rfl, 0, rfl⟩
theorem g64_put (a : Addr) (n d : Int) (w : World) (hc : w.cell? a = some (.int .i64 n)) (hz : w.frozen? a = false) :
    Calls Try.prog 50 #[.pointer (some a), .int .i64 d] w fun e w' => e = .returned (.tuple #[]) ∧ w.setCell a (.int .i64 d) = w' := by
  have hst := run_call_store (P := Try.prog) Try.func58 (by kernel_rfl) (by kernel_rfl) (by kernel_rfl) (by kernel_rfl) (k := .i64) (y := d) hc hz
  go_enter Try.func50, Try.ntmps50
  go_wp2
  refine bodyPost_end (results_none rfl _ _ _) rfl ?_
  exact ⟨rfl, rfl⟩
theorem own_lower {w : World} {A B : Nat} {e : TypeId} {size : Nat} {v : Value} {n : Nat} {xs : List Value} (h : w.ownsRow A e size v n xs) (hB : B ≤ A) : w.ownsRow B e size v n xs :=
  ⟨h.1, h.2.imp id fun ⟨g, cap, cur, a, b, c⟩ => ⟨g, cap, cur, a, Nat.le_trans hB b, c⟩⟩
set_option maxRecDepth 100000 in
theorem gNew_ok (n : Nat) (w : World) (h1 : 1 ≤ n) (h2 : n ≤ 65536) : Calls Try.prog 32 #[.int .i64 (n : Int)] w fun e w' => ∃ p, e = .returned (.tuple #[.pointer (some ⟨p, 0, none⟩), .int .i64 0]) ∧ SL w.heap.size p (fun j => w.heap.size ≤ j ∧ j < w'.heap.size) (List.replicate n 1) w' ∧ Below w.heap.size w w' := by
  have HR := Lib.hid (gRepeat_any w.heap.size 1 n 1 (w.alloc (.cells #[.int .u8 1] 93 (0, 0))) ((St.new w 93 #[.int .u8 1]).cell rfl) (by simp) h1 h2)
  have hz : (w.alloc (.cells #[.int .u8 1] 93 (0, 0))).heap.size = w.heap.size + 1 := by simp
  rw [hz] at HR
  have d0 : decide ((n : Int) < 1) = false := decide_eq_false (by omega)
  have d1 : decide ((n : Int) > 65536) = false := decide_eq_false (by omega)
  have HP := Lib.hid (show ∀ w2, Below (w.heap.size + 1) (w.alloc (.cells #[.int .u8 1] 93 (0, 0))) w2 → w2.ownsRow (w.heap.size + 1) 93 1 (.slice (some ⟨w.heap.size + 1, 0, none⟩) n n) n (List.replicate n (.int .u8 1)) →
      Calls Try.prog 50 #[.pointer (some ⟨w2.heap.size, 3, none⟩), .int .i64 (n : Int)] (w2.alloc (.cells #[.slice (some ⟨w.heap.size + 1, 0, none⟩) n n, .int .i64 0, .int .i64 0, .int .i64 0, .int .i64 0, .int .i64 0] 100 (0, 0))) fun e w' => e = .returned (.tuple #[]) ∧ SL w.heap.size w2.heap.size (fun j => w.heap.size ≤ j ∧ j < w'.heap.size) (List.replicate n 1) w' ∧ Below w.heap.size w w' from fun w2 hb ho => by
    have st := St.new w2 100 #[.slice (some ⟨w.heap.size + 1, 0, none⟩) n n, .int .i64 0, .int .i64 0, .int .i64 0, .int .i64 0, .int .i64 0]
    refine (g64_put _ 0 (n : Int) _ (st.cell rfl) (st.free _)).mono fun e w' ⟨he, hw⟩ => ⟨he, ?_⟩
    subst hw
    have hs2 : w.heap.size + 1 ≤ w2.heap.size := by have := hb.size; simp at this; omega
    have f1 : Frm (fun j => j = w2.heap.size) w2 ((w2.alloc (.cells #[.slice (some ⟨w.heap.size + 1, 0, none⟩) n n, .int .i64 0, .int .i64 0, .int .i64 0, .int .i64 0, .int .i64 0] 100 (0, 0))).setCell ⟨w2.heap.size, 3, none⟩ (.int .i64 (n : Int))) :=
      ((Frm.refl (fun j => j = w2.heap.size) w2).alloc _).setCell (p := ⟨w2.heap.size, 3, none⟩) (.inl rfl) _
    have hlt := (World.ownsRow.lt ho (w.heap.size + 1) rfl).2
    have hsz : ((w2.alloc (.cells #[.slice (some ⟨w.heap.size + 1, 0, none⟩) n n, .int .i64 0, .int .i64 0, .int .i64 0, .int .i64 0, .int .i64 0] 100 (0, 0))).setCell ⟨w2.heap.size, 3, none⟩ (.int .i64 (n : Int))).heap.size = w2.heap.size + 1 := by simp [World.setCell]
    refine ⟨⟨.slice (some ⟨w.heap.size + 1, 0, none⟩) n n, 0, ⟨?_, ?_, ?_, by omega, by simp; omega, gok_new n⟩, fun j hj => hj, by rw [hsz]; omega, fun j hj => ?_, ⟨Nat.zero_le _, by simp⟩⟩, ?_⟩
    · have := st.set 3 (.int .i64 (n : Int))
      rw [List.count_replicate, List.count_replicate, List.count_replicate]
      exact this
    · rw [List.length_replicate, List.map_replicate]
      exact own_lower (f1.own ho fun k hk => by simp [Value.ownBlock] at hk; omega) (by omega)
    · intro e; simp [Value.ownBlock] at e; omega
    · rw [hsz]; simp [Value.ownBlock] at hj; omega
    · have b1 : Below w.heap.size w w2 := ((Below.refl _ w).alloc (Nat.le_refl _) _).trans (hb.mono (by omega))
      exact b1.trans (f1.below (by omega) fun j hj => by omega))
  clear hz
  go_enter Try.func32, Try.ntmps32
  go_wp2_with first
    | (go_at_call 49; go_must (with_reducible refine HR.out.mono ?_); rintro e w2 ⟨rfl, ho, hb⟩; have HO := Lib.hid ho; have HB := Lib.hid hb; clear ho hb)
    | (go_at_call 50; go_must (with_reducible refine (HP.out _ HB.out HO.out).mono ?_); rintro e w3 ⟨rfl, hs, hb⟩)
  go_returns
  exact ⟨_, rfl, hs, hb⟩
theorem gNew_bad (n : Int) (w : World) (h : n < 1 ∨ 65536 < n) : Calls Try.prog 32 #[.int .i64 n] w fun e w' => e = .returned (.tuple #[.pointer none, .int .i64 3]) ∧ w = w' := by
  by_cases h1 : n < 1
  · have d0 : decide (n < 1) = true := decide_eq_true h1
    clear h
    go_enter Try.func32, Try.ntmps32
    go_wp2
    go_returns
    exact ⟨rfl, rfl⟩
  · have d0 : decide (n < 1) = false := decide_eq_false h1
    have d1 : decide (n > 65536) = true := decide_eq_true (by omega)
    clear h
    go_enter Try.func32, Try.ntmps32
    go_wp2
    go_returns
    exact ⟨rfl, rfl⟩
/-- What 'move' does. -/
def gmv (xs : List Int) (i a b : Int) : List Int := if isAt xs i a then xs.set i.toNat b else xs
theorem isAt_state (xs : List Int) (i a : Int) (ha : a = 1 ∨ a = 2 ∨ a = 3) : isAt xs i a = decide (stateAt xs i = a) := by
  unfold isAt stateAt
  by_cases h : 0 ≤ i ∧ i < xs.length
  · rw [if_pos h, decide_eq_true h.1, decide_eq_true h.2]; rfl
  · rw [if_neg h, decide_eq_false (show ¬ (0 : Int) = a by omega)]
    by_cases h0 : 0 ≤ i
    · rw [decide_eq_false (show ¬ i < xs.length from fun e => h ⟨h0, e⟩)]; simp
    · rw [decide_eq_false h0]; rfl
theorem count_set_at (xs : List Int) (k : Nat) (a b c : Int) (h : xs[k]? = some a) : (xs.set k b).count c = xs.count c - (if a = c then 1 else 0) + (if b = c then 1 else 0) := by
  obtain ⟨hk, e⟩ := List.getElem?_eq_some_iff.1 h
  rw [List.count_set hk, e]
  simp only [beq_iff_eq]
theorem count_pos_at (xs : List Int) (k : Nat) (a : Int) (h : xs[k]? = some a) : 1 ≤ xs.count a := List.count_pos_iff.2 (List.mem_of_getElem? h)
/-- A place that is a gets b. -/
theorem SL0.moved {B p : Nat} {g n cap m : Nat} {xs : List Int} {w : World} (h : SL0 B p (.slice (some ⟨g, 0, none⟩) n cap) m xs w) (k : Nat) (a b : Int) (hk : xs[k]? = some a) (ha : a = 1 ∨ a = 2 ∨ a = 3) (hb : b = 1 ∨ b = 2 ∨ b = 3) (hab : a ≠ b) :
    SL0 B p (.slice (some ⟨g, 0, none⟩) n cap) m (xs.set k b) (((w.setCell ⟨g, k, none⟩ (.int .u8 b)).setCell ⟨p, a.toNat + 2, none⟩ (.int .i64 ((xs.count a : Nat) - 1))).setCell ⟨p, b.toNat + 2, none⟩ (.int .i64 ((xs.count b : Nat) + 1))) := by
  have hg : p ≠ g := fun e => h.np (by rw [e]; rfl)
  have hl : (xs.set k b).length = xs.length := List.length_set
  have ca : ((xs.set k b).count a : Int) = (xs.count a : Nat) - 1 := by
    have := count_pos_at xs k a hk
    rw [count_set_at xs k a b a hk, if_pos rfl, if_neg (fun e => hab e.symm)]; omega
  have cb : ((xs.set k b).count b : Int) = (xs.count b : Nat) + 1 := by
    rw [count_set_at xs k a b b hk, if_neg hab, if_pos rfl]; omega
  have cc : ∀ c, c ≠ a → c ≠ b → (xs.set k b).count c = xs.count c := fun c h1 h2 => by
    rw [count_set_at xs k a b c hk, if_neg (fun e => h1 e.symm), if_neg (fun e => h2 e.symm)]; rfl
  have f : Frm (fun j => j = p) (w.setCell ⟨g, k, none⟩ (.int .u8 b)) (((w.setCell ⟨g, k, none⟩ (.int .u8 b)).setCell ⟨p, a.toNat + 2, none⟩ (.int .i64 ((xs.count a : Nat) - 1))).setCell ⟨p, b.toNat + 2, none⟩ (.int .i64 ((xs.count b : Nat) + 1))) :=
    ((Frm.refl (fun j => j = p) _).setCell (p := ⟨p, a.toNat + 2, none⟩) (.inl rfl) _).setCell (p := ⟨p, b.toNat + 2, none⟩) (.inl rfl) _
  have hn : n = xs.length := by
    rcases h.row.2 with ⟨h0, _⟩ | ⟨g, cap, cur, h0, _⟩
    · injection h0 with h1 h2; cases h1
    · injection h0
  subst hn
  have hr := (World.ownsRow.stored h.row k (.int .u8 b)).1
  have hst := ((h.st.other g k (.int .u8 b) (fun e => hg e.symm)).set (a.toNat + 2) (.int .i64 ((xs.count a : Nat) - 1))).set (b.toNat + 2) (.int .i64 ((xs.count b : Nat) + 1))
  refine ⟨?_, ?_, h.np, h.bp, by rw [hl]; exact h.pos, gok_set xs h.ok k b hb⟩
  · rw [← ca, ← cb] at hst ⊢
    rcases ha with rfl | rfl | rfl <;> rcases hb with rfl | rfl | rfl <;> first | exact absurd rfl hab | skip
    · rw [cc 3 (by decide) (by decide)]; exact hst
    · rw [cc 2 (by decide) (by decide)]; exact hst
    · rw [cc 3 (by decide) (by decide)]; exact hst
    · rw [cc 1 (by decide) (by decide)]; exact hst
    · rw [cc 2 (by decide) (by decide)]; exact hst
    · rw [cc 1 (by decide) (by decide)]; exact hst
  · rw [hl, List.map_set]
    exact f.own hr fun j hj e => h.np (by rw [← e]; exact hj)
set_option maxRecDepth 100000 in
theorem gturn_1 {B p : Nat} {v : Value} {m : Nat} {xs : List Int} (i : Int) {w : World} (h : SL0 B p v m xs w) : Calls Try.prog 54 #[.pointer (some ⟨p, 0, none⟩), .int .i64 i, .int .u8 1, .int .u8 2] w fun e w' => e = .returned (.bool (isAt xs i 1)) ∧ SL0 B p v m (gmv xs i 1 2) w' ∧ Frm (fun j => j = p ∨ v.ownBlock = some j) w w' := by
  have H := Lib.hid (gState_at i h)
  have E := isAt_state xs i 1 (by omega)
  unfold gmv
  rw [E]
  by_cases hs : stateAt xs i = 1
  · have hi : isAt xs i 1 = true := by rw [E, decide_eq_true hs]
    obtain ⟨k, rfl, hk⟩ := isAt_nat hi
    have hx : xs[k]? = some 1 := by
      unfold stateAt at hs
      rw [if_pos (by omega)] at hs
      rw [← hs, List.getElem?_eq_getElem hk]
      simp [List.getD, hk]
    rw [decide_eq_true hs, if_pos rfl, Int.toNat_natCast]
    obtain ⟨g, cap, hv, _, _, hat⟩ := own_some h.row (by omega)
    obtain ⟨n, hn⟩ : ∃ n, n = xs.length := ⟨_, rfl⟩
    rw [← hn] at hv
    subst hv
    have c0 : w.cell? ⟨p, 0, none⟩ = some (.slice (some ⟨g, 0, none⟩) n cap) := h.st.cell rfl
    have c1 : w.cell? ⟨g, k, none⟩ = some (.int .u8 1) := hat k _ (by rw [List.getElem?_map, hx]; rfl)
    have z1 : w.frozen? ⟨g, k, none⟩ = false := by
      have hr := h.row
      rw [← hn] at hr
      exact World.ownsRow.frozenAt hr k
    have hgp : p ≠ g := fun e => h.np (by rw [e]; rfl)
    have hM := h.moved k 1 2 hx (by omega) (by omega) (by decide)
    have hc := count_le 1 xs
    have hc2 := count_le 2 xs
    have hp := h.pos
    have st1 := h.st.other g k (.int .u8 2) (fun e => hgp e.symm)
    have A1 := Lib.hid (g64_add ⟨p, 3, none⟩ (xs.count 1 : Nat) (-1) (w.setCell ⟨g, k, none⟩ (.int .u8 2)) (by omega) (by omega) (st1.cell rfl) (st1.free _))
    have st2 := st1.set 3 (.int .i64 ((xs.count 1 : Nat) + -1))
    have A2 := Lib.hid (g64_add ⟨p, 4, none⟩ (xs.count 2 : Nat) 1 ((w.setCell ⟨g, k, none⟩ (.int .u8 2)).setCell ⟨p, 3, none⟩ (.int .i64 ((xs.count 1 : Nat) + -1))) (by omega) (by omega) (st2.cell rfl) (st2.free _))
    have HM := Lib.hid (show SL0 B p (.slice (some ⟨g, 0, none⟩) n cap) m (xs.set k 2) (((w.setCell ⟨g, k, none⟩ (.int .u8 2)).setCell ⟨p, 3, none⟩ (.int .i64 ((xs.count 1 : Nat) + -1))).setCell ⟨p, 4, none⟩ (.int .i64 ((xs.count 2 : Nat) + 1))) from hM)
    have HF := Lib.hid (show Frm (fun j => j = p ∨ (Value.slice (some ⟨g, 0, none⟩) n cap).ownBlock = some j) w (((w.setCell ⟨g, k, none⟩ (.int .u8 2)).setCell ⟨p, 3, none⟩ (.int .i64 ((xs.count 1 : Nat) + -1))).setCell ⟨p, 4, none⟩ (.int .i64 ((xs.count 2 : Nat) + 1))) from
      (((Frm.refl _ w).setCell (p := ⟨g, k, none⟩) (.inl (.inr rfl)) _).setCell (p := ⟨p, 3, none⟩) (.inl (.inl rfl)) _).setCell (p := ⟨p, 4, none⟩) (.inl (.inl rfl)) _)
    have d0 : (stateAt xs k != 1) = false := by rw [hs]; simp
    have b0 : (0 : Int) ≤ (k : Int) := by omega
    have d1 : (k : Int) < (n : Int) := by omega
    clear h hat hM hc hc2 hp st1 st2 hx hk hi E hgp hs hn
    generalize stateAt xs k = t at *
    go_enter Try.func54, Try.ntmps54
    go_wp2_with first | (go_at_call 37; go_must (with_reducible refine H.out.mono ?_); rintro e w1 ⟨rfl, rfl⟩) | (go_at_call 60; go_must (first | with_reducible refine A1.out.mono ?_ | with_reducible refine A2.out.mono ?_); rintro e w1 ⟨rfl, rfl⟩)
    go_returns
    exact ⟨rfl, HM.out, HF.out⟩
  · have d0 : (stateAt xs i != 1) = true := bne_iff_ne.2 hs
    rw [decide_eq_false hs, if_neg (by simp)]
    have HH := Lib.hid h
    clear h E hs
    generalize stateAt xs i = t at *
    go_enter Try.func54, Try.ntmps54
    go_wp2_with (go_at_call 37; go_must (with_reducible refine H.out.mono ?_); rintro e w1 ⟨rfl, rfl⟩)
    go_returns
    exact ⟨rfl, HH.out, Frm.refl _ _⟩
set_option maxRecDepth 100000 in
theorem gturn_2 {B p : Nat} {v : Value} {m : Nat} {xs : List Int} (i : Int) {w : World} (h : SL0 B p v m xs w) : Calls Try.prog 54 #[.pointer (some ⟨p, 0, none⟩), .int .i64 i, .int .u8 2, .int .u8 3] w fun e w' => e = .returned (.bool (isAt xs i 2)) ∧ SL0 B p v m (gmv xs i 2 3) w' ∧ Frm (fun j => j = p ∨ v.ownBlock = some j) w w' := by
  have H := Lib.hid (gState_at i h)
  have E := isAt_state xs i 2 (by omega)
  unfold gmv
  rw [E]
  by_cases hs : stateAt xs i = 2
  · have hi : isAt xs i 2 = true := by rw [E, decide_eq_true hs]
    obtain ⟨k, rfl, hk⟩ := isAt_nat hi
    have hx : xs[k]? = some 2 := by
      unfold stateAt at hs
      rw [if_pos (by omega)] at hs
      rw [← hs, List.getElem?_eq_getElem hk]
      simp [List.getD, hk]
    rw [decide_eq_true hs, if_pos rfl, Int.toNat_natCast]
    obtain ⟨g, cap, hv, _, _, hat⟩ := own_some h.row (by omega)
    obtain ⟨n, hn⟩ : ∃ n, n = xs.length := ⟨_, rfl⟩
    rw [← hn] at hv
    subst hv
    have c0 : w.cell? ⟨p, 0, none⟩ = some (.slice (some ⟨g, 0, none⟩) n cap) := h.st.cell rfl
    have c1 : w.cell? ⟨g, k, none⟩ = some (.int .u8 2) := hat k _ (by rw [List.getElem?_map, hx]; rfl)
    have z1 : w.frozen? ⟨g, k, none⟩ = false := by
      have hr := h.row
      rw [← hn] at hr
      exact World.ownsRow.frozenAt hr k
    have hgp : p ≠ g := fun e => h.np (by rw [e]; rfl)
    have hM := h.moved k 2 3 hx (by omega) (by omega) (by decide)
    have hc := count_le 2 xs
    have hc2 := count_le 3 xs
    have hp := h.pos
    have st1 := h.st.other g k (.int .u8 3) (fun e => hgp e.symm)
    have A1 := Lib.hid (g64_add ⟨p, 4, none⟩ (xs.count 2 : Nat) (-1) (w.setCell ⟨g, k, none⟩ (.int .u8 3)) (by omega) (by omega) (st1.cell rfl) (st1.free _))
    have st2 := st1.set 4 (.int .i64 ((xs.count 2 : Nat) + -1))
    have A2 := Lib.hid (g64_add ⟨p, 5, none⟩ (xs.count 3 : Nat) 1 ((w.setCell ⟨g, k, none⟩ (.int .u8 3)).setCell ⟨p, 4, none⟩ (.int .i64 ((xs.count 2 : Nat) + -1))) (by omega) (by omega) (st2.cell rfl) (st2.free _))
    have HM := Lib.hid (show SL0 B p (.slice (some ⟨g, 0, none⟩) n cap) m (xs.set k 3) (((w.setCell ⟨g, k, none⟩ (.int .u8 3)).setCell ⟨p, 4, none⟩ (.int .i64 ((xs.count 2 : Nat) + -1))).setCell ⟨p, 5, none⟩ (.int .i64 ((xs.count 3 : Nat) + 1))) from hM)
    have HF := Lib.hid (show Frm (fun j => j = p ∨ (Value.slice (some ⟨g, 0, none⟩) n cap).ownBlock = some j) w (((w.setCell ⟨g, k, none⟩ (.int .u8 3)).setCell ⟨p, 4, none⟩ (.int .i64 ((xs.count 2 : Nat) + -1))).setCell ⟨p, 5, none⟩ (.int .i64 ((xs.count 3 : Nat) + 1))) from
      (((Frm.refl _ w).setCell (p := ⟨g, k, none⟩) (.inl (.inr rfl)) _).setCell (p := ⟨p, 4, none⟩) (.inl (.inl rfl)) _).setCell (p := ⟨p, 5, none⟩) (.inl (.inl rfl)) _)
    have d0 : (stateAt xs k != 2) = false := by rw [hs]; simp
    have b0 : (0 : Int) ≤ (k : Int) := by omega
    have d1 : (k : Int) < (n : Int) := by omega
    clear h hat hM hc hc2 hp st1 st2 hx hk hi E hgp hs hn
    generalize stateAt xs k = t at *
    go_enter Try.func54, Try.ntmps54
    go_wp2_with first | (go_at_call 37; go_must (with_reducible refine H.out.mono ?_); rintro e w1 ⟨rfl, rfl⟩) | (go_at_call 60; go_must (first | with_reducible refine A1.out.mono ?_ | with_reducible refine A2.out.mono ?_); rintro e w1 ⟨rfl, rfl⟩)
    go_returns
    exact ⟨rfl, HM.out, HF.out⟩
  · have d0 : (stateAt xs i != 2) = true := bne_iff_ne.2 hs
    rw [decide_eq_false hs, if_neg (by simp)]
    have HH := Lib.hid h
    clear h E hs
    generalize stateAt xs i = t at *
    go_enter Try.func54, Try.ntmps54
    go_wp2_with (go_at_call 37; go_must (with_reducible refine H.out.mono ?_); rintro e w1 ⟨rfl, rfl⟩)
    go_returns
    exact ⟨rfl, HH.out, Frm.refl _ _⟩
set_option maxRecDepth 100000 in
theorem gturn_3 {B p : Nat} {v : Value} {m : Nat} {xs : List Int} (i : Int) {w : World} (h : SL0 B p v m xs w) : Calls Try.prog 54 #[.pointer (some ⟨p, 0, none⟩), .int .i64 i, .int .u8 3, .int .u8 1] w fun e w' => e = .returned (.bool (isAt xs i 3)) ∧ SL0 B p v m (gmv xs i 3 1) w' ∧ Frm (fun j => j = p ∨ v.ownBlock = some j) w w' := by
  have H := Lib.hid (gState_at i h)
  have E := isAt_state xs i 3 (by omega)
  unfold gmv
  rw [E]
  by_cases hs : stateAt xs i = 3
  · have hi : isAt xs i 3 = true := by rw [E, decide_eq_true hs]
    obtain ⟨k, rfl, hk⟩ := isAt_nat hi
    have hx : xs[k]? = some 3 := by
      unfold stateAt at hs
      rw [if_pos (by omega)] at hs
      rw [← hs, List.getElem?_eq_getElem hk]
      simp [List.getD, hk]
    rw [decide_eq_true hs, if_pos rfl, Int.toNat_natCast]
    obtain ⟨g, cap, hv, _, _, hat⟩ := own_some h.row (by omega)
    obtain ⟨n, hn⟩ : ∃ n, n = xs.length := ⟨_, rfl⟩
    rw [← hn] at hv
    subst hv
    have c0 : w.cell? ⟨p, 0, none⟩ = some (.slice (some ⟨g, 0, none⟩) n cap) := h.st.cell rfl
    have c1 : w.cell? ⟨g, k, none⟩ = some (.int .u8 3) := hat k _ (by rw [List.getElem?_map, hx]; rfl)
    have z1 : w.frozen? ⟨g, k, none⟩ = false := by
      have hr := h.row
      rw [← hn] at hr
      exact World.ownsRow.frozenAt hr k
    have hgp : p ≠ g := fun e => h.np (by rw [e]; rfl)
    have hM := h.moved k 3 1 hx (by omega) (by omega) (by decide)
    have hc := count_le 3 xs
    have hc2 := count_le 1 xs
    have hp := h.pos
    have st1 := h.st.other g k (.int .u8 1) (fun e => hgp e.symm)
    have A1 := Lib.hid (g64_add ⟨p, 5, none⟩ (xs.count 3 : Nat) (-1) (w.setCell ⟨g, k, none⟩ (.int .u8 1)) (by omega) (by omega) (st1.cell rfl) (st1.free _))
    have st2 := st1.set 5 (.int .i64 ((xs.count 3 : Nat) + -1))
    have A2 := Lib.hid (g64_add ⟨p, 3, none⟩ (xs.count 1 : Nat) 1 ((w.setCell ⟨g, k, none⟩ (.int .u8 1)).setCell ⟨p, 5, none⟩ (.int .i64 ((xs.count 3 : Nat) + -1))) (by omega) (by omega) (st2.cell rfl) (st2.free _))
    have HM := Lib.hid (show SL0 B p (.slice (some ⟨g, 0, none⟩) n cap) m (xs.set k 1) (((w.setCell ⟨g, k, none⟩ (.int .u8 1)).setCell ⟨p, 5, none⟩ (.int .i64 ((xs.count 3 : Nat) + -1))).setCell ⟨p, 3, none⟩ (.int .i64 ((xs.count 1 : Nat) + 1))) from hM)
    have HF := Lib.hid (show Frm (fun j => j = p ∨ (Value.slice (some ⟨g, 0, none⟩) n cap).ownBlock = some j) w (((w.setCell ⟨g, k, none⟩ (.int .u8 1)).setCell ⟨p, 5, none⟩ (.int .i64 ((xs.count 3 : Nat) + -1))).setCell ⟨p, 3, none⟩ (.int .i64 ((xs.count 1 : Nat) + 1))) from
      (((Frm.refl _ w).setCell (p := ⟨g, k, none⟩) (.inl (.inr rfl)) _).setCell (p := ⟨p, 5, none⟩) (.inl (.inl rfl)) _).setCell (p := ⟨p, 3, none⟩) (.inl (.inl rfl)) _)
    have d0 : (stateAt xs k != 3) = false := by rw [hs]; simp
    have b0 : (0 : Int) ≤ (k : Int) := by omega
    have d1 : (k : Int) < (n : Int) := by omega
    clear h hat hM hc hc2 hp st1 st2 hx hk hi E hgp hs hn
    generalize stateAt xs k = t at *
    go_enter Try.func54, Try.ntmps54
    go_wp2_with first | (go_at_call 37; go_must (with_reducible refine H.out.mono ?_); rintro e w1 ⟨rfl, rfl⟩) | (go_at_call 60; go_must (first | with_reducible refine A1.out.mono ?_ | with_reducible refine A2.out.mono ?_); rintro e w1 ⟨rfl, rfl⟩)
    go_returns
    exact ⟨rfl, HM.out, HF.out⟩
  · have d0 : (stateAt xs i != 3) = true := bne_iff_ne.2 hs
    rw [decide_eq_false hs, if_neg (by simp)]
    have HH := Lib.hid h
    clear h E hs
    generalize stateAt xs i = t at *
    go_enter Try.func54, Try.ntmps54
    go_wp2_with (go_at_call 37; go_must (with_reducible refine H.out.mono ?_); rintro e w1 ⟨rfl, rfl⟩)
    go_returns
    exact ⟨rfl, HH.out, Frm.refl _ _⟩
theorem gdo_take (xs : List Int) : gdo xs ⟨0, 0⟩ = if lea 1 xs < 0 then (xs, 0, false) else (xs.set (lea 1 xs).toNat 2, lea 1 xs, true) := by unfold gdo; simp
theorem SL0.walk {B p : Nat} {v : Value} {m : Nat} {xs : List Int} {w : World} (h : SL0 B p v m xs w) : ∃ g cap, v = .slice (some ⟨g, 0, none⟩) xs.length cap := by
  obtain ⟨g, cap, hv, _, _, hat⟩ := own_some h.row (by have := h.pos; omega)
  exact ⟨g, cap, hv⟩
theorem gUse_at {B p : Nat} {v : Value} {m : Nat} {xs : List Int} (i : Int) {w : World} (h : SL0 B p v m xs w) : Calls Try.prog 41 #[.pointer (some ⟨p, 0, none⟩), .int .i64 i] w fun e w' => e = .returned (.bool (isAt xs i 1)) ∧ SL0 B p v m (gmv xs i 1 2) w' ∧ Frm (fun j => j = p ∨ v.ownBlock = some j) w w' := by
  have H := Lib.hid (gturn_1 i h)
  clear h
  go_enter Try.func41, Try.ntmps41
  go_wp2_with (go_at_call 54; go_must (with_reducible refine H.out.mono ?_); rintro e w1 ⟨rfl, hs, hf⟩)
  go_returns
  exact ⟨rfl, hs, hf⟩
theorem gUse_any (B p : Nat) (F : Nat → Prop) (xs : List Int) (i : Int) (w : World) (hB : B ≤ w.heap.size) (h : SL B p F xs w) :
    Calls Try.prog 41 #[.pointer (some ⟨p, 0, none⟩), .int .i64 i] w fun e w' => e = .returned (.bool (gdo xs ⟨1, i⟩).2.2) ∧ SLid B p F (gdo xs ⟨1, i⟩).1 w w' := by
  have e1 : (gdo xs ⟨1, i⟩).2.2 = isAt xs i 1 := by unfold gdo; cases hi : isAt xs i 1 <;> simp
  have e2 : (gdo xs ⟨1, i⟩).1 = gmv xs i 1 2 := by unfold gdo gmv; cases hi : isAt xs i 1 <;> simp
  rw [e1, e2]
  obtain ⟨v, m, h0, hF, h1, h2, hL⟩ := h
  refine (gUse_at i h0).mono fun e w' ⟨he, h3, f⟩ => ⟨he, SLid.mk' hB hF h1 h3 ?_ (f.wide fun j hj => ?_) h2⟩
  · unfold gmv; split
    · exact hL.set _ _ (by decide)
    · exact hL
  · rcases hj with rfl | hj
    · exact h1
    · exact h2 j hj
theorem gGive_any (B p : Nat) (F : Nat → Prop) (xs : List Int) (i : Int) (w : World) (hB : B ≤ w.heap.size) (h : SL B p F xs w) :
    Calls Try.prog 39 #[.pointer (some ⟨p, 0, none⟩), .int .i64 i] w fun e w' => e = .returned (.bool (gdo xs ⟨2, i⟩).2.2) ∧ SLid B p F (gdo xs ⟨2, i⟩).1 w w' := by
  have e1 : (gdo xs ⟨2, i⟩).2.2 = isAt xs i 2 := by unfold gdo; cases hi : isAt xs i 2 <;> simp
  have e2 : (gdo xs ⟨2, i⟩).1 = gmv xs i 2 3 := by unfold gdo gmv; cases hi : isAt xs i 2 <;> simp
  rw [e1, e2]
  obtain ⟨v, m, h0, hF, h1, h2, hL⟩ := h
  have H := Lib.hid ((gturn_2 i h0).mono fun e w' ⟨he, h3, f⟩ => (⟨he, SLid.mk' hB hF h1 h3 (by
    unfold gmv; split
    · exact hL.set _ _ (by decide)
    · exact hL) (f.wide fun j hj => by
      rcases hj with rfl | hj
      · exact h1
      · exact h2 j hj) h2⟩ : e = Ending.returned (.bool (isAt xs i 2)) ∧ SLid B p F (gmv xs i 2 3) w w'))
  clear h0 hF h1 h2 hL e1 e2
  go_enter Try.func39, Try.ntmps39
  go_wp2_with (go_at_call 54; go_must (with_reducible refine H.out.mono ?_); rintro e w1 ⟨rfl, hs⟩)
  go_returns
  exact ⟨rfl, hs⟩
set_option maxRecDepth 100000 in
theorem gSettle_any (B p : Nat) (F : Nat → Prop) (xs : List Int) (w : World) (hB : B ≤ w.heap.size) (h : SL B p F xs w) :
    Calls Try.prog 40 #[.pointer (some ⟨p, 0, none⟩)] w fun e w' => e = .returned (.int .i64 (xs.count 3 : Nat)) ∧ SLid B p F (xs.map settled) w w' := by
  obtain ⟨v, m, h0, hF, h1, h2, hL⟩ := h
  obtain ⟨g, cap, hv⟩ := h0.walk
  have hp := h0.pos
  obtain ⟨n, hn⟩ : ∃ n, n = xs.length := ⟨_, rfl⟩
  rw [← hn] at hv
  rw [← hn] at hp
  have c0 : w.cell? ⟨p, 0, none⟩ = some (.slice (some ⟨g, 0, none⟩) n cap) := by rw [← hv]; exact h0.st.cell rfl
  have HE := Lib.hid (show ∀ m wr, SL0 B p v m (setl n xs) wr → Lst m (setl n xs) → Frm (fun j => j = p ∨ v.ownBlock = some j) w wr → SLid B p F (xs.map settled) w wr from fun m wr h3 h4 f => by
    rw [hn, setl_all] at h3 h4
    refine SLid.mk' hB hF h1 h3 h4 (f.wide fun j hj => ?_) h2
    rcases hj with rfl | hj
    · exact h1
    · exact h2 j hj)
  have HC := Lib.hid (show ((xs.take n).count 3 : Int) = (xs.count 3 : Nat) from by rw [hn, List.take_length])
  have HX := Lib.hid (show ∀ i : Nat, i < n → ∃ x, xs[i]? = some x from fun i hi => ⟨_, List.getElem?_eq_getElem (by omega)⟩)
  have HMn := Lib.hid (show ∀ m i, Lst m (setl i xs) → m ≤ n from fun m i h => by have := h.1; rw [setl_length] at this; omega)
  have HT3 := Lib.hid (show ∀ (i m : Nat) wr, xs[i]? = some 3 → SL0 B p v m (setl i xs) wr → Frm (fun j => j = p ∨ v.ownBlock = some j) w wr → Calls Try.prog 54 #[.pointer (some ⟨p, 0, none⟩), .int .i64 (i : Int), .int .u8 3, .int .u8 1] wr fun e w' => e = .returned (.bool true) ∧ w'.cell? ⟨p, 1, none⟩ = some (.int .i64 m) ∧ w'.frozen? ⟨p, 1, none⟩ = false ∧ SL0 B p v m (setl (i + 1) xs) w' ∧ Frm (fun j => j = p ∨ v.ownBlock = some j) w w' from fun i m wr hx h3 f => by
    have hl := (List.getElem?_eq_some_iff.1 hx).1
    have hi : isAt (setl i xs) (i : Int) 3 = true := by
      unfold isAt
      rw [setl_length, decide_eq_true (show (0 : Int) ≤ (i : Int) by omega), decide_eq_true (show (i : Int) < (xs.length : Int) by omega), Int.toNat_natCast]
      simp [List.getD, setl_at, hx]
    refine (gturn_3 (i : Int) h3).mono fun e w' ⟨he, h4, f2⟩ => ?_
    have h5 : SL0 B p v m (setl (i + 1) xs) w' := by
      unfold gmv at h4
      rw [hi, if_pos rfl, Int.toNat_natCast] at h4
      rw [setl_succ i xs 3 hx]
      exact h4
    exact ⟨by rw [he, hi], h5.st.cell rfl, h5.st.free 1, h5, f.next f2⟩)
  have HT0 := Lib.hid (show ∀ (i m : Nat) x wr, xs[i]? = some x → x ≠ 3 → SL0 B p v m (setl i xs) wr → Frm (fun j => j = p ∨ v.ownBlock = some j) w wr → Calls Try.prog 54 #[.pointer (some ⟨p, 0, none⟩), .int .i64 (i : Int), .int .u8 3, .int .u8 1] wr fun e w' => e = .returned (.bool false) ∧ SL0 B p v m (setl (i + 1) xs) w' ∧ Frm (fun j => j = p ∨ v.ownBlock = some j) w w' from fun i m x wr hx h33 h3 f => by
    have hl := (List.getElem?_eq_some_iff.1 hx).1
    have hi : isAt (setl i xs) (i : Int) 3 = false := by
      unfold isAt
      rw [setl_length, decide_eq_true (show (0 : Int) ≤ (i : Int) by omega), decide_eq_true (show (i : Int) < (xs.length : Int) by omega), Int.toNat_natCast]
      simp [List.getD, setl_at, hx, h33]
    refine (gturn_3 (i : Int) h3).mono fun e w' ⟨he, h4, f2⟩ => ⟨by rw [he, hi], ?_, f.next f2⟩
    unfold gmv at h4
    rw [hi, if_neg (by simp)] at h4
    rw [setl_other i xs x hx h33]
    exact h4)
  have HS := Lib.hid (show ∀ (i m z : Nat) wr, SL0 B p v m (setl (i + 1) xs) wr → Lst m (setl i xs) → Frm (fun j => j = p ∨ v.ownBlock = some j) w wr → (z ≤ m ∧ z ≤ i) → SL0 B p v z (setl (i + 1) xs) (wr.setCell ⟨p, 1, none⟩ (.int .i64 z)) ∧ Lst z (setl (i + 1) xs) ∧ Frm (fun j => j = p ∨ v.ownBlock = some j) w (wr.setCell ⟨p, 1, none⟩ (.int .i64 z)) from fun i m z wr h3 h4 f hz =>
    ⟨h3.least z, h4.settle z hz, f.next ((Frm.refl _ wr).setCell (p := ⟨p, 1, none⟩) (.inl (.inl rfl)) _)⟩)
  have HT := Lib.hid (show ∀ (i : Nat) x, xs[i]? = some x → (xs.take (i + 1)).count 3 = (xs.take i).count 3 + (if x = 3 then 1 else 0) from fun i x hx => count_at 3 xs i x hx)
  have HL := Lib.hid (show ∀ i : Nat, i ≤ n → (xs.take i).count 3 ≤ i from fun i hi => Nat.le_trans (count_le 3 _) (by rw [List.length_take]; omega))
  have HO := Lib.hid (show ∀ (i m : Nat) x, xs[i]? = some x → x ≠ 3 → Lst m (setl i xs) → Lst m (setl (i + 1) xs) from fun i m x hx h33 h => by rw [setl_other i xs x hx h33]; exact h)
  have H0 := Lib.hid (show SL0 B p v m (setl 0 xs) w ∧ Lst m (setl 0 xs) from by rw [setl_zero]; exact ⟨h0, hL⟩)
  clear h0 hv hn hF h1 h2 hL
  go_enter Try.func40, Try.ntmps40
  go_wp2
  go_loopw [3, 12] (fun c d wr => ∃ i m : Nat, i ≤ n ∧ d = .int .i64 i ∧ c = .int .i64 ((xs.take i).count 3 : Nat) ∧ SL0 B p v m (setl i xs) wr ∧ Lst m (setl i xs) ∧ Frm (fun j => j = p ∨ v.ownBlock = some j) w wr) (fun _ d _ => n - (intOf d).toNat)
  case atStart => exact ⟨0, m, Nat.zero_le _, rfl, by simp, H0.out.1, H0.out.2, Frm.refl _ _⟩
  case round =>
    obtain ⟨i, m, hi, rfl, rfl, h3, h4, f⟩ := hrel
    have hmn := HMn.out m i h4
    have H3 := Lib.hid h3
    have H4 := Lib.hid h4
    have HFR := Lib.hid f
    clear h3 h4 f
    by_cases hlt : i < n
    · obtain ⟨x, hx⟩ := HX.out i hlt
      have HXX := Lib.hid hx
      clear hx
      have b0 : (0 : Int) ≤ (i : Int) := by omega
      have b1 : (i : Int) < (n : Int) := by omega
      have hcl := HL.out i hi
      obtain ⟨c, hc⟩ : ∃ c, c = (xs.take i).count 3 := ⟨_, rfl⟩
      have HCC := Lib.hid hc
      rw [← hc] at hcl ⊢
      clear hc
      by_cases h33 : x = 3
      · have HK := Lib.hid (HT3.out i m _ (by rw [HXX.out, h33]) H3.out HFR.out)
        have H33 := Lib.hid h33
        clear h33
        obtain ⟨z, hz⟩ : ∃ z, z = min m i := ⟨_, rfl⟩
        have hz1 : min (m : Int) (i : Int) = (z : Int) := by omega
        have hz2 : z ≤ m ∧ z ≤ i := by omega
        have hz3 : (if i < m then (i : Int) else (m : Int)) = (z : Int) := by split <;> omega
        clear hz
        go_wp2_with (go_at_call 54; go_must (with_reducible refine HK.out.mono ?_); rintro e w1 ⟨rfl, cz, fz, h4, f4⟩; have H5 := Lib.hid h4; have F5 := Lib.hid f4; clear h4 f4)
        obtain ⟨y1, y2, y3⟩ := HS.out i m z _ H5.out H4.out F5.out hz2
        go_round
        case rel => exact ⟨i + 1, z, by omega, by go_num, by rw [HT.out i x HXX.out, if_pos H33.out, ← HCC.out]; go_num, y1, y2, y3⟩
        case measure => simp [intOf]; omega
      · have HK := Lib.hid (HT0.out i m x _ HXX.out h33 H3.out HFR.out)
        have H33 := Lib.hid h33
        clear h33
        go_wp2_with (go_at_call 54; go_must (with_reducible refine HK.out.mono ?_); rintro e w1 ⟨rfl, h4, f4⟩; have H5 := Lib.hid h4; have F4 := Lib.hid f4; clear h4 f4)
        go_round
        case rel => exact ⟨i + 1, m, by omega, by go_num, by rw [HT.out i x HXX.out, if_neg H33.out, ← HCC.out]; rfl, H5.out, HO.out i m x HXX.out H33.out H4.out, F4.out⟩
        case measure => simp [intOf]; omega
    · obtain rfl : i = n := by omega
      go_wp2
      go_ret
      exact ⟨by rw [← HC.out]; rfl, HE.out _ _ H3.out H4.out HFR.out⟩
set_option maxRecDepth 100000 in
theorem gTake_any (B p : Nat) (F : Nat → Prop) (xs : List Int) (w : World) (hB : B ≤ w.heap.size) (h : SL B p F xs w) :
    Calls Try.prog 38 #[.pointer (some ⟨p, 0, none⟩)] w fun e w' => e = .returned (.tuple #[.int .i64 (gdo xs ⟨0, 0⟩).2.1, .bool (gdo xs ⟨0, 0⟩).2.2]) ∧ SLid B p F (gdo xs ⟨0, 0⟩).1 w w' := by
  obtain ⟨v, m, h0, hF, h1, h2, hL⟩ := h
  obtain ⟨g, cap, hv⟩ := h0.walk
  have hp := h0.pos
  obtain ⟨n, hn⟩ : ∃ n, n = xs.length := ⟨_, rfl⟩
  rw [← hn] at hv
  rw [← hn] at hp
  have HW := Lib.hid (show ∀ j, j = p ∨ v.ownBlock = some j → F j from fun j hj => by
    rcases hj with rfl | hj
    · exact h1
    · exact h2 j hj)
  -- what is told at the end
  have HE := Lib.hid (show ∀ wr, SL0 B p v n xs wr → 1 ∉ xs.take n → Frm (fun j => j = p ∨ v.ownBlock = some j) w wr → (gdo xs ⟨0, 0⟩).2.1 = 0 ∧ (gdo xs ⟨0, 0⟩).2.2 = false ∧ SLid B p F (gdo xs ⟨0, 0⟩).1 w wr from fun wr h3 h4 f => by
    have hm : 1 ∉ xs := by rw [hn, List.take_length] at h4; exact h4
    have e := lea_none 1 xs hm
    rw [gdo_take, e, if_pos (by decide)]
    exact ⟨rfl, rfl, SLid.mk' hB hF h1 h3 (show Lst n xs from ⟨by omega, h4⟩) (f.wide HW.out) h2⟩)
  have HK := Lib.hid (show ∀ (k : Nat) wr, xs[k]? = some 1 → 1 ∉ xs.take k → SL0 B p v k (xs.set k 2) wr → Frm (fun j => j = p ∨ v.ownBlock = some j) w wr → (gdo xs ⟨0, 0⟩).2.1 = k ∧ (gdo xs ⟨0, 0⟩).2.2 = true ∧ SLid B p F (gdo xs ⟨0, 0⟩).1 w wr from fun k wr hx hm h3 f => by
    have e := lea_at 1 xs k hx hm
    have hk := (List.getElem?_eq_some_iff.1 hx).1
    rw [gdo_take, e, if_neg (by omega), Int.toNat_natCast]
    exact ⟨rfl, rfl, SLid.mk' hB hF h1 h3 ((show Lst k xs from ⟨by omega, hm⟩).set k 2 (by decide)) (f.wide HW.out) h2⟩)
  have HU1 := Lib.hid (show ∀ (k : Nat) wr, xs[k]? = some 1 → SL0 B p v k xs wr → Frm (fun j => j = p ∨ v.ownBlock = some j) w wr → Calls Try.prog 41 #[.pointer (some ⟨p, 0, none⟩), .int .i64 (k : Int)] wr fun e w' => e = .returned (.bool true) ∧ w'.cell? ⟨p, 1, none⟩ = some (.int .i64 k) ∧ SL0 B p v k (xs.set k 2) w' ∧ Frm (fun j => j = p ∨ v.ownBlock = some j) w w' from fun k wr hx h3 f => by
    have hl := (List.getElem?_eq_some_iff.1 hx).1
    have hi : isAt xs (k : Int) 1 = true := by
      unfold isAt
      rw [decide_eq_true (show (0 : Int) ≤ (k : Int) by omega), decide_eq_true (show (k : Int) < (xs.length : Int) by omega), Int.toNat_natCast]
      simp [List.getD, hx]
    refine (gUse_at (k : Int) h3).mono fun e w' ⟨he, h4, f2⟩ => ?_
    unfold gmv at h4
    rw [hi, if_pos rfl, Int.toNat_natCast] at h4
    exact ⟨by rw [he, hi], h4.st.cell rfl, h4, f.next f2⟩)
  have HU0 := Lib.hid (show ∀ (k : Nat) x wr, xs[k]? = some x → x ≠ 1 → SL0 B p v k xs wr → Frm (fun j => j = p ∨ v.ownBlock = some j) w wr → Calls Try.prog 41 #[.pointer (some ⟨p, 0, none⟩), .int .i64 (k : Int)] wr fun e w' => e = .returned (.bool false) ∧ w'.cell? ⟨p, 1, none⟩ = some (.int .i64 k) ∧ w'.frozen? ⟨p, 1, none⟩ = false ∧ SL0 B p v k xs w' ∧ Frm (fun j => j = p ∨ v.ownBlock = some j) w w' from fun k x wr hx hx1 h3 f => by
    have hl := (List.getElem?_eq_some_iff.1 hx).1
    have hi : isAt xs (k : Int) 1 = false := by
      unfold isAt
      rw [decide_eq_true (show (0 : Int) ≤ (k : Int) by omega), decide_eq_true (show (k : Int) < (xs.length : Int) by omega), Int.toNat_natCast]
      simp [List.getD, hx, hx1]
    refine (gUse_at (k : Int) h3).mono fun e w' ⟨he, h4, f2⟩ => ?_
    unfold gmv at h4
    rw [hi, if_neg (by simp)] at h4
    exact ⟨by rw [he, hi], h4.st.cell rfl, h4.st.free 1, h4, f.next f2⟩)
  have HS := Lib.hid (show ∀ (k : Nat) wr, SL0 B p v k xs wr → Frm (fun j => j = p ∨ v.ownBlock = some j) w wr → SL0 B p v (k + 1) xs (wr.setCell ⟨p, 1, none⟩ (.int .i64 ((k : Int) + 1))) ∧ Frm (fun j => j = p ∨ v.ownBlock = some j) w (wr.setCell ⟨p, 1, none⟩ (.int .i64 ((k : Int) + 1))) from fun k wr h3 f =>
    ⟨h3.least (k + 1), f.next ((Frm.refl _ wr).setCell (p := ⟨p, 1, none⟩) (.inl (.inl rfl)) _)⟩)
  have HX := Lib.hid (show ∀ i : Nat, i < n → ∃ x, xs[i]? = some x from fun i hi => ⟨_, List.getElem?_eq_getElem (by omega)⟩)
  have HN := Lib.hid (notMem_succ 1 xs)
  have HC := Lib.hid (show ∀ k wr, SL0 B p v k xs wr → wr.cell? ⟨p, 0, none⟩ = some (.slice (some ⟨g, 0, none⟩) n cap) ∧ wr.cell? ⟨p, 1, none⟩ = some (.int .i64 k) from fun k wr h => ⟨by rw [← hv]; exact h.st.cell rfl, h.st.cell rfl⟩)
  have H0 := Lib.hid h0
  have hm : m ≤ n := by have := hL.1; omega
  have HL := Lib.hid hL.2
  clear h0 hv hn hF h1 h2 hL
  generalize (gdo xs ⟨0, 0⟩).2.1 = r1 at *
  generalize (gdo xs ⟨0, 0⟩).2.2 = r2 at *
  generalize (gdo xs ⟨0, 0⟩).1 = r3 at *
  go_enter Try.func38, Try.ntmps38
  go_wp2
  go_loopw [] (fun wr => ∃ k : Nat, k ≤ n ∧ SL0 B p v k xs wr ∧ 1 ∉ xs.take k ∧ Frm (fun j => j = p ∨ v.ownBlock = some j) w wr) (fun wr => n - (intOf ((wr.cell? ⟨p, 1, none⟩).getD (.int .i64 0))).toNat)
  case atStart => exact ⟨m, hm, H0.out, HL.out, Frm.refl _ _⟩
  case round =>
    obtain ⟨k, hk, h3, h4, f⟩ := hrel
    obtain ⟨c0, c1⟩ := HC.out k _ h3
    have H3 := Lib.hid h3
    have H4 := Lib.hid h4
    have HD := Lib.hid (fun q => And.intro (h3.same ((Frm.refl _ wr).drewN q)) (f.drewN q))
    clear h3 h4 f H3
    by_cases hlt : k < n
    · obtain ⟨x, hx⟩ := HX.out k hlt
      have HXX := Lib.hid hx
      clear hx
      have b1 : (k : Int) < (n : Int) := by omega
      by_cases hx1 : x = 1
      · have HXX1 := Lib.hid (show xs[k]? = some 1 from by rw [HXX.out, hx1])
        have HU := Lib.hid (fun q => HU1.out k _ HXX1.out (HD.out q).1 (HD.out q).2)
        clear hx1
        go_wp2_with fail
        go_quiet (fail)
        go_wp2_with (go_at_call 41; go_must (with_reducible refine (HU.out _).mono ?_); rintro e w1 ⟨rfl, cz, h4, f4⟩; have H5 := Lib.hid h4; have F5 := Lib.hid f4; clear h4 f4)
        obtain ⟨rfl, rfl, y3⟩ := HK.out k _ HXX1.out H4.out H5.out F5.out
        go_ret2
        exact ⟨rfl, y3⟩
      · have HX1 := Lib.hid hx1
        have HU := Lib.hid (fun q => HU0.out k x _ HXX.out hx1 (HD.out q).1 (HD.out q).2)
        clear hx1
        go_wp2_with fail
        go_quiet (fail)
        go_wp2_with (go_at_call 41; go_must (with_reducible refine (HU.out _).mono ?_); rintro e w1 ⟨rfl, cz, fz, h4, f4⟩; have H5 := Lib.hid h4; have F5 := Lib.hid f4; clear h4 f4)
        obtain ⟨y1, y2⟩ := HS.out k _ H5.out F5.out
        go_round
        case rel => exact ⟨k + 1, by omega, y1, HN.out k x HXX.out H4.out HX1.out, y2⟩
        case measure =>
          have e1 := y1.at1
          rw [e1, c1]
          simp [intOf]; omega
    · obtain rfl : k = n := by omega
      have HE2 := Lib.hid (fun q => HE.out _ (HD.out q).1 H4.out (HD.out q).2)
      go_wp2_with fail
      go_quiet (fail)
      go_wp2_with fail
      obtain ⟨rfl, rfl, y3⟩ := HE2.out nq
      go_ret2
      exact ⟨rfl, y3⟩
theorem gState_any (B p : Nat) (F : Nat → Prop) (xs : List Int) (i : Int) (w : World) (h : SL B p F xs w) :
    Calls Try.prog 37 #[.pointer (some ⟨p, 0, none⟩), .int .i64 i] w fun e w' => e = .returned (.int .i64 (stateAt xs i)) ∧ ∃ q, w' = w.drewN q := by
  obtain ⟨v, m, h0, _⟩ := h
  exact (gState_at i h0).mono fun e w' ⟨h1, h2⟩ => ⟨h1, 0, h2⟩
theorem gCount_any (B p : Nat) (F : Nat → Prop) (xs : List Int) (w : World) (h : SL B p F xs w) :
    Calls Try.prog 35 #[.pointer (some ⟨p, 0, none⟩)] w fun e w' => e = .returned (.tuple #[.int .i64 (xs.count 1 : Nat), .int .i64 (xs.count 2 : Nat), .int .i64 (xs.count 3 : Nat)]) ∧ ∃ q, w' = w.drewN q := by
  obtain ⟨v, m, h0, _⟩ := h
  exact gCount_at h0
theorem gState_none (i : Int) (w : World) : Calls Try.prog 37 #[.pointer none, .int .i64 i] w fun e w' => e = .returned (.int .i64 0) ∧ w' = w := by
  go_enter Try.func37, Try.ntmps37
  go_wp2
  go_returns
  exact ⟨rfl, rfl⟩
theorem gturn_no (i a b : Int) (ha : a = 1 ∨ a = 2 ∨ a = 3) (w : World) : Calls Try.prog 54 #[.pointer none, .int .i64 i, .int .u8 a, .int .u8 b] w fun e w' => e = .returned (.bool false) ∧ ∃ q, w' = w.drewN q := by
  have H := Lib.hid (gState_none i w)
  have d0 : ((0 : Int) != a) = true := bne_iff_ne.2 (by omega)
  have hw : IntKind.i64.wrap a = a := IntWalk.i64_in _ (by omega)
  clear ha
  go_enter Try.func54, Try.ntmps54
  go_wp2_with (go_at_call 37; go_must (with_reducible refine H.out.mono ?_); rintro e w1 ⟨rfl, rfl⟩)
  go_returns
  exact ⟨rfl, 0, rfl⟩
theorem gTake_no (w : World) : Calls Try.prog 38 #[.pointer none] w fun e w' => e = .returned (.tuple #[.int .i64 0, .bool false]) ∧ ∃ q, w' = w.drewN q := by
  go_enter Try.func38, Try.ntmps38
  go_wp2
  go_returns
  exact ⟨rfl, 0, rfl⟩
theorem gUse_no (i : Int) (w : World) : Calls Try.prog 41 #[.pointer none, .int .i64 i] w fun e w' => e = .returned (.bool false) ∧ ∃ q, w' = w.drewN q := by
  have H := Lib.hid (gturn_no i 1 2 (by omega) w)
  go_enter Try.func41, Try.ntmps41
  go_wp2_with (go_at_call 54; go_must (with_reducible refine H.out.mono ?_); rintro e w1 ⟨rfl, q, rfl⟩)
  go_returns
  exact ⟨rfl, _, rfl⟩
theorem gGive_no (i : Int) (w : World) : Calls Try.prog 39 #[.pointer none, .int .i64 i] w fun e w' => e = .returned (.bool false) ∧ ∃ q, w' = w.drewN q := by
  have H := Lib.hid (gturn_no i 2 3 (by omega) w)
  go_enter Try.func39, Try.ntmps39
  go_wp2_with (go_at_call 54; go_must (with_reducible refine H.out.mono ?_); rintro e w1 ⟨rfl, q, rfl⟩)
  go_returns
  exact ⟨rfl, _, rfl⟩
theorem gSettle_no (w : World) : Calls Try.prog 40 #[.pointer none] w fun e w' => e = .returned (.int .i64 0) ∧ ∃ q, w' = w.drewN q := by
  go_enter Try.func40, Try.ntmps40
  go_wp2
  go_returns
  exact ⟨rfl, 0, rfl⟩
theorem gState_no (i : Int) (w : World) : Calls Try.prog 37 #[.pointer none, .int .i64 i] w fun e w' => e = .returned (.int .i64 0) ∧ ∃ q, w' = w.drewN q := by
  go_enter Try.func37, Try.ntmps37
  go_wp2
  go_returns
  exact ⟨rfl, 0, rfl⟩
theorem gCount_no (w : World) : Calls Try.prog 35 #[.pointer none] w fun e w' => e = .returned (.tuple #[.int .i64 0, .int .i64 0, .int .i64 0]) ∧ ∃ q, w' = w.drewN q := by
  go_enter Try.func35, Try.ntmps35
  go_wp2
  go_returns
  exact ⟨rfl, 0, rfl⟩
end Go.Proofs.Ytokchikihacalaa
