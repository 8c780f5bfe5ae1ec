/- The reference's disk as it lies in memory; its burn, Arm, Read. -/
import Derived.Test.YtfipojmgmmjnmaaDb
namespace Go.Proofs.Ytfipojmgmmjnmaa
open Go.RowKit

/-- The cells of writes that wait. -/
def wcells (l : List (Nat × ByteArray)) : List Value := l.flatMap fun x => [Value.int .i64 (x.1 : Int), Value.string x.2]
theorem wcells_append (l m : List (Nat × ByteArray)) : wcells (l ++ m) = wcells l ++ wcells m := by simp [wcells]
theorem wcells_at : ∀ (l : List (Nat × ByteArray)) (k : Nat) (x : Nat × ByteArray), l[k]? = some x → (wcells l)[k * 2]? = some (.int .i64 (x.1 : Int)) ∧ (wcells l)[k * 2 + 1]? = some (.string x.2)
  | [], k, x, h => by simp at h
  | y :: l, 0, x, h => by
    simp at h
    subst h
    exact ⟨rfl, rfl⟩
  | y :: l, k + 1, x, h => by
    have h2 := wcells_at l k x (by simpa using h)
    have e : wcells (y :: l) = Value.int .i64 (y.1 : Int) :: Value.string y.2 :: wcells l := rfl
    rw [e]
    have e1 : (k + 1) * 2 = k * 2 + 1 + 1 := by omega
    rw [e1]
    exact h2
/-- The cells of the reference's disk. -/
def dcells (kv wv : Value) (D : DS) : Array Value := #[kv, wv, .int .i64 D.fuse, .bool D.dead, .int .i64 (D.wr : Int), .int .i64 (D.br : Int)]
/-- At block p lies the reference's disk D, whose rows are kv and wv. -/
structure RD0 (B p : Nat) (kv wv : Value) (D : DS) (w : World) : Prop where
  st : St 43 p (dcells kv wv D) w
  ok : D.ok D.kept.length
  kr : w.ownsRow B 9 1 kv D.kept.length (D.kept.map Value.string)
  wr : w.ownsRow B 51 2 wv D.wait.length (wcells D.wait)
  kp : kv.ownBlock ≠ some p
  wp : wv.ownBlock ≠ some p
  kw : ∀ j, kv.ownBlock = some j → wv.ownBlock ≠ some j
  bp : B ≤ p
/-- The same, all of it in F. -/
def RD (B p : Nat) (F : Nat → Prop) (D : DS) (w : World) : Prop :=
  ∃ kv wv, RD0 B p kv wv D w ∧ (∀ j, F j → B ≤ j ∧ j < w.heap.size) ∧ F p ∧ (∀ j, kv.ownBlock = some j → F j) ∧ (∀ j, wv.ownBlock = some j → F j)

theorem RD.keep {B p : Nat} {F G : Nat → Prop} {D : DS} {w w' : World} (h : RD B p F D w) (f : Frm G w w') (hd : ∀ j, F j → ¬ G j) : RD B p F D w' := by
  obtain ⟨kv, wv, h0, hF, h1, h2, h3⟩ := h
  exact ⟨kv, wv, ⟨f.st h0.st (hd _ h1), h0.ok, f.own h0.kr fun k hk => hd _ (h2 k hk), f.own h0.wr fun k hk => hd _ (h3 k hk), h0.kp, h0.wp, h0.kw, h0.bp⟩, fun j hj => ⟨(hF j hj).1, Nat.lt_of_lt_of_le (hF j hj).2 f.size⟩, h1, h2, h3⟩
theorem RD.drewN {B p : Nat} {F : Nat → Prop} {D : DS} {w : World} (h : RD B p F D w) (q : Nat) : RD B p F D (w.drewN q) := h.keep (G := fun _ => False) ((Frm.refl _ w).drewN q) fun _ _ e => e

set_option maxRecDepth 100000 in
theorem dkburn_zero (p : Nat) (kv wv : Value) (D : DS) (w : World) (h0 : D.fuse = 0) (h : St 43 p (dcells kv wv D) w) :
    Calls Try.prog 58 #[.pointer (some ⟨p, 0, none⟩)] w fun e w' => e = .returned (.bool true) ∧ w' = w.setCell ⟨p, 3, none⟩ (.bool true) := by
  have c2 : w.cell? ⟨p, 2, none⟩ = some (.int .i64 0) := by rw [← h0]; exact h.cell rfl
  have c3 : w.cell? ⟨p, 3, none⟩ = some (.bool D.dead) := h.cell rfl
  have f3 := h.free 3
  clear h h0
  go_enter Try.func58, Try.ntmps58
  go_wp2
  go_ret
  exact ⟨rfl, rfl⟩
set_option maxRecDepth 100000 in
theorem dkburn_pos (p : Nat) (kv wv : Value) (D : DS) (w : World) (h0 : 0 < D.fuse) (hi : D.fuse ≤ 9223372036854775807) (h : St 43 p (dcells kv wv D) w) :
    Calls Try.prog 58 #[.pointer (some ⟨p, 0, none⟩)] w fun e w' => e = .returned (.bool false) ∧ w' = w.setCell ⟨p, 2, none⟩ (.int .i64 (D.fuse - 1)) := by
  obtain ⟨f, hf⟩ : ∃ f, f = D.fuse := ⟨_, rfl⟩
  have c2 : w.cell? ⟨p, 2, none⟩ = some (.int .i64 f) := by rw [hf]; exact h.cell rfl
  have f2 := h.free 2
  rw [← hf] at h0 hi ⊢
  have d1 : (f == 0) = false := by rw [beq_eq_false_iff_ne]; omega
  clear h hf
  go_enter Try.func58, Try.ntmps58
  go_wp2
  go_ret
  exact ⟨rfl, rfl⟩
set_option maxRecDepth 100000 in
theorem dkburn_neg (p : Nat) (kv wv : Value) (D : DS) (w : World) (h0 : D.fuse < 0) (h : St 43 p (dcells kv wv D) w) :
    Calls Try.prog 58 #[.pointer (some ⟨p, 0, none⟩)] w fun e w' => e = .returned (.bool false) ∧ w = w' := by
  obtain ⟨f, hf⟩ : ∃ f, f = D.fuse := ⟨_, rfl⟩
  have c2 : w.cell? ⟨p, 2, none⟩ = some (.int .i64 f) := by rw [hf]; exact h.cell rfl
  rw [← hf] at h0
  have d1 : (f == 0) = false := by rw [beq_eq_false_iff_ne]; omega
  have d2 : decide (f > 0) = false := decide_eq_false (by omega)
  clear h hf
  go_enter Try.func58, Try.ntmps58
  go_wp2
  go_ret
  exact ⟨rfl, rfl⟩

/-- A cell of the disk's own block is set. -/
theorem RD0.fuse {B p : Nat} {kv wv : Value} {D : DS} {w : World} (h : RD0 B p kv wv D w) (f : Int) (h1 : -1 ≤ f) (h2 : f ≤ 9223372036854775807) : RD0 B p kv wv { D with fuse := f } (w.setCell ⟨p, 2, none⟩ (.int .i64 f)) :=
  ⟨h.st.set 2 _, ⟨h.ok.len, h.ok.inn, h.ok.full, h.ok.fulw, h1, h2⟩, ownsRow_setCell_other h.kr h.kp _, ownsRow_setCell_other h.wr h.wp _, h.kp, h.wp, h.kw, h.bp⟩
theorem RD0.fuse2 {B p : Nat} {kv wv : Value} {D : DS} {w : World} (h : RD0 B p kv wv D w) (g f : Int) (h1 : -1 ≤ f) (h2 : f ≤ 9223372036854775807) : RD0 B p kv wv { D with fuse := f } ((w.setCell ⟨p, 2, none⟩ (.int .i64 g)).setCell ⟨p, 2, none⟩ (.int .i64 f)) :=
  ⟨(h.st.set 2 _).set 2 _, ⟨h.ok.len, h.ok.inn, h.ok.full, h.ok.fulw, h1, h2⟩, ownsRow_setCell_other (ownsRow_setCell_other h.kr h.kp _) h.kp _, ownsRow_setCell_other (ownsRow_setCell_other h.wr h.wp _) h.wp _, h.kp, h.wp, h.kw, h.bp⟩
theorem RD0.dead {B p : Nat} {kv wv : Value} {D : DS} {w : World} (h : RD0 B p kv wv D w) (b : Bool) : RD0 B p kv wv { D with dead := b } (w.setCell ⟨p, 3, none⟩ (.bool b)) :=
  ⟨h.st.set 3 _, ⟨h.ok.len, h.ok.inn, h.ok.full, h.ok.fulw, h.ok.lo, h.ok.hi⟩, ownsRow_setCell_other h.kr h.kp _, ownsRow_setCell_other h.wr h.wp _, h.kp, h.wp, h.kw, h.bp⟩
theorem RD0.wrs {B p : Nat} {kv wv : Value} {D : DS} {w : World} (h : RD0 B p kv wv D w) (n : Nat) : RD0 B p kv wv { D with wr := n } (w.setCell ⟨p, 4, none⟩ (.int .i64 (n : Int))) :=
  ⟨h.st.set 4 _, ⟨h.ok.len, h.ok.inn, h.ok.full, h.ok.fulw, h.ok.lo, h.ok.hi⟩, ownsRow_setCell_other h.kr h.kp _, ownsRow_setCell_other h.wr h.wp _, h.kp, h.wp, h.kw, h.bp⟩
theorem RD0.brs {B p : Nat} {kv wv : Value} {D : DS} {w : World} (h : RD0 B p kv wv D w) (n : Nat) : RD0 B p kv wv { D with br := n } (w.setCell ⟨p, 5, none⟩ (.int .i64 (n : Int))) :=
  ⟨h.st.set 5 _, ⟨h.ok.len, h.ok.inn, h.ok.full, h.ok.fulw, h.ok.lo, h.ok.hi⟩, ownsRow_setCell_other h.kr h.kp _, ownsRow_setCell_other h.wr h.wp _, h.kp, h.wp, h.kw, h.bp⟩
theorem RD0.clear {B p : Nat} {kv wv : Value} {D : DS} {w : World} (h : RD0 B p kv wv D w) : RD0 B p kv (.slice none 0 0) { D with wait := [] } (w.setCell ⟨p, 1, none⟩ (.slice none 0 0)) :=
  ⟨h.st.set 1 _, ⟨h.ok.len, by simp, h.ok.full, by simp, h.ok.lo, h.ok.hi⟩, ownsRow_setCell_other h.kr h.kp _, World.ownsRow_nil _ _ _ _, h.kp, by simp [Value.ownBlock], by simp [Value.ownBlock], h.bp⟩

set_option maxRecDepth 100000 in
theorem dkArm_any (B p : Nat) (F : Nat → Prop) (D : DS) (n : Int) (w : World) (hn : n ≤ 9223372036854775807) (h : RD B p F D w) :
    Calls Try.prog 38 #[.pointer (some ⟨p, 0, none⟩), .int .i64 n] w fun e w' => e = .returned (.int .i64 (D.arm n).1) ∧ RD B p F (D.arm n).2 w' ∧ Frm F w w' := by
  obtain ⟨kv, wv, h0, hF, hp, hk, hw⟩ := h
  obtain ⟨d, hd⟩ : ∃ d, d = D.dead := ⟨_, rfl⟩
  have c3 : w.cell? ⟨p, 3, none⟩ = some (.bool d) := by rw [hd]; exact h0.st.cell rfl
  have c2 : w.cell? ⟨p, 2, none⟩ = some (.int .i64 D.fuse) := h0.st.cell rfl
  have f2 := h0.st.free 2
  have HR := Lib.hid (And.intro h0 (And.intro hF (And.intro hp (And.intro hk hw))))
  clear h0 hF hk hw
  cases d with
  | true =>
    have e : D.arm n = (30, D) := by unfold DS.arm; rw [← hd]; rfl
    rw [e]
    clear hd e c2 f2
    go_enter Try.func38, Try.ntmps38
    go_wp2
    go_ret
    exact ⟨rfl, ⟨kv, wv, HR.out⟩, Frm.refl _ _⟩
  | false =>
    have HP := Lib.hid hp
    by_cases h1 : n < 0
    · have e : D.arm n = (0, { D with fuse := -1 }) := by unfold DS.arm; rw [← hd]; simp [h1]
      rw [e]
      clear hd e hp
      go_enter Try.func38, Try.ntmps38
      go_wp2
      go_ret
      obtain ⟨h0, hF, hp, hk, hw⟩ := HR.out
      have q := h0.fuse2 n (-1) (by omega) (by omega)
      exact ⟨rfl, ⟨kv, wv, q, fun j hj => by simpa [World.setCell] using hF j hj, hp, hk, hw⟩, ((Frm.refl _ _).setCell (.inl hp) _).setCell (.inl hp) _⟩
    · have e : D.arm n = (0, { D with fuse := n }) := by unfold DS.arm; rw [← hd]; simp [h1]
      rw [e]
      have d1 : decide (n < 0) = false := decide_eq_false h1
      clear hd e hp
      go_enter Try.func38, Try.ntmps38
      go_wp2
      go_ret
      obtain ⟨h0, hF, hp, hk, hw⟩ := HR.out
      have q := h0.fuse n (by omega) (by omega)
      exact ⟨rfl, ⟨kv, wv, q, fun j hj => by simpa [World.setCell] using hF j hj, hp, hk, hw⟩, (Frm.refl _ _).setCell (.inl hp) _⟩
end Go.Proofs.Ytfipojmgmmjnmaa
