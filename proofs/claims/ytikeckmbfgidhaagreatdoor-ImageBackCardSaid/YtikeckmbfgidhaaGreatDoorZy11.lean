/- Several texts in one: Pdb. -/
import Derived.Handy
import Derived.WalkLawsBesides
import Derived.Test.YtikeckmbfgidhaaGreatDoorZy08
import Derived.Test.YtikeckmbfgidhaaGreatDoorZy09
import Derived.Test.YtikeckmbfgidhaaGreatDoorZy10
/- The program's disk as it lies in memory; its small functions. -/
namespace Go.Proofs.YtikeckmbfgidhaaGreatDoor
open Go.RowKit

/-- The cells of the program's disk. -/
def pcs (kv wv lv : Value) (is : Bool) (N : Int) (D : DS) : Array Value := #[kv, wv, lv, .bool is, .int .i64 N, .bool D.dead, .int .i64 (D.wr : Int), .int .i64 (D.br : Int)]
/-- What stands for the fuse. -/
def Fz (is : Bool) (N f : Int) : Prop := (is = true ∧ N = f ∧ 0 ≤ f) ∨ (is = false ∧ f = -1)
/-- At block p lies the program's disk D, whose rows are kv, wv and lv. -/
structure PD0 (B p : Nat) (kv wv lv : Value) (is : Bool) (N : Int) (D : DS) (w : World) : Prop where
  st : St 48 p (pcs kv wv lv is N D) w
  fz : Fz is N D.fuse
  ok : D.ok D.kept.length
  pos : 1 ≤ D.kept.length ∧ D.kept.length ≤ 65536
  kr : w.ownsRow B 74 128 kv D.kept.length (scells D.kept)
  wr : w.ownsRow B 76 129 wv D.wait.length (qcells D.wait)
  lr : w.ownsRow B 3 1 lv D.kept.length (lcells D.kept.length D.wait)
  kp : kv.ownBlock ≠ some p
  wp : wv.ownBlock ≠ some p
  lp : lv.ownBlock ≠ some p
  kw : ∀ j, kv.ownBlock = some j → wv.ownBlock ≠ some j
  kl : ∀ j, kv.ownBlock = some j → lv.ownBlock ≠ some j
  wl : ∀ j, wv.ownBlock = some j → lv.ownBlock ≠ some j
  bp : B ≤ p
/-- At block p lies the program's disk D, all of it in F. -/
def PD (B p : Nat) (F : Nat → Prop) (D : DS) (w : World) : Prop :=
  ∃ kv wv lv is N, PD0 B p kv wv lv is N D w ∧ (∀ j, F j → B ≤ j ∧ j < w.heap.size) ∧ F p ∧ (∀ j, kv.ownBlock = some j → F j) ∧ (∀ j, wv.ownBlock = some j → F j) ∧ (∀ j, lv.ownBlock = some j → F j)
/-- What a method of it leaves. -/
def PDid (B p : Nat) (F : Nat → Prop) (D : DS) (w w' : World) : Prop := PD B p (Grow F w w') D w' ∧ Frm F w w'
theorem PD.keep {B p : Nat} {F G : Nat → Prop} {D : DS} {w w' : World} (h : PD B p F D w) (f : Frm G w w') (hd : ∀ j, F j → ¬ G j) : PD B p F D w' := by
  obtain ⟨kv, wv, lv, is, N, h0, hF, h1, h2, h3, h4⟩ := h
  exact ⟨kv, wv, lv, is, N, ⟨f.st h0.st (hd _ h1), h0.fz, h0.ok, h0.pos, f.own h0.kr fun k hk => hd _ (h2 k hk), f.own h0.wr fun k hk => hd _ (h3 k hk), f.own h0.lr fun k hk => hd _ (h4 k hk), h0.kp, h0.wp, h0.lp, h0.kw, h0.kl, h0.wl, h0.bp⟩,
    fun j hj => ⟨(hF j hj).1, Nat.lt_of_lt_of_le (hF j hj).2 f.size⟩, h1, h2, h3, h4⟩
theorem PD.inF {B p : Nat} {F : Nat → Prop} {D : DS} {w : World} (h : PD B p F D w) : ∀ j, F j → B ≤ j ∧ j < w.heap.size := by
  obtain ⟨_, _, _, _, _, _, hF, _⟩ := h
  exact hF
theorem PD.oks {B p : Nat} {F : Nat → Prop} {D : DS} {w : World} (h : PD B p F D w) : D.ok D.kept.length := by
  obtain ⟨_, _, _, _, _, h0, _⟩ := h
  exact h0.ok
theorem PD.wide {B p : Nat} {F G : Nat → Prop} {D : DS} {w : World} (h : PD B p F D w) (hf : ∀ j, F j → G j) (hg : ∀ j, G j → B ≤ j ∧ j < w.heap.size) : PD B p G D w := by
  obtain ⟨kv, wv, lv, is, N, h0, hF, h1, h2, h3, h4⟩ := h
  exact ⟨kv, wv, lv, is, N, h0, hg, hf _ h1, fun j hj => hf _ (h2 j hj), fun j hj => hf _ (h3 j hj), fun j hj => hf _ (h4 j hj)⟩
theorem PDid.same {B p : Nat} {F : Nat → Prop} {D : DS} {w : World} (h : PD B p F D w) : PDid B p F D w w :=
  ⟨h.wide (fun _ e => .inl e) (fun j hj => by rcases hj with hj | hj; exact h.inF j hj; omega), Frm.refl _ _⟩
theorem PDid.mk' {B p : Nat} {F : Nat → Prop} {kv wv lv : Value} {is : Bool} {N : Int} {D : DS} {w w' : World} (hB : B ≤ w.heap.size) (hF : ∀ j, F j → B ≤ j ∧ j < w.heap.size) (hp : F p) (h : PD0 B p kv wv lv is N D w') (f : Frm F w w')
    (hk : ∀ j, kv.ownBlock = some j → F j ∨ w.heap.size ≤ j) (hw : ∀ j, wv.ownBlock = some j → F j ∨ w.heap.size ≤ j) (hl : ∀ j, lv.ownBlock = some j → F j ∨ w.heap.size ≤ j) : PDid B p F D w w' :=
  ⟨⟨kv, wv, lv, is, N, h, fun j hj => by
      rcases hj with hj | hj
      · exact ⟨(hF j hj).1, Nat.lt_of_lt_of_le (hF j hj).2 f.size⟩
      · omega,
    .inl hp, fun j hj => (hk j hj).imp id fun e => ⟨e, (h.kr.lt j hj).2⟩, fun j hj => (hw j hj).imp id fun e => ⟨e, (h.wr.lt j hj).2⟩, fun j hj => (hl j hj).imp id fun e => ⟨e, (h.lr.lt j hj).2⟩⟩, f⟩

/-- A cell of the disk's own block is set, none of the rows'. -/
theorem PD0.put {B p : Nat} {kv wv lv : Value} {is : Bool} {N : Int} {D : DS} {w : World} (h : PD0 B p kv wv lv is N D w) (is' : Bool) (N' : Int) (D' : DS) (j : Nat) (v : Value) (e1 : D'.kept = D.kept) (e2 : D'.wait = D.wait) (hc : (pcs kv wv lv is N D).setIfInBounds j v = pcs kv wv lv is' N' D')
    (hf : Fz is' N' D'.fuse) (h1 : -1 ≤ D'.fuse) (h2 : D'.fuse ≤ 9223372036854775807) : PD0 B p kv wv lv is' N' D' (w.setCell ⟨p, j, none⟩ v) := by
  refine ⟨hc ▸ h.st.set j v, hf, ⟨rfl, by rw [e1, e2]; exact h.ok.inn, by rw [e1]; exact h.ok.full, by rw [e2]; exact h.ok.fulw, h1, h2⟩, by rw [e1]; exact h.pos, ?_, ?_, ?_, h.kp, h.wp, h.lp, h.kw, h.kl, h.wl, h.bp⟩
  · rw [e1]; exact ownsRow_setCell_other h.kr h.kp _
  · rw [e2]; exact ownsRow_setCell_other h.wr h.wp _
  · rw [e1, e2]; exact ownsRow_setCell_other h.lr h.lp _

set_option maxRecDepth 100000 in
theorem dSize_at {B p : Nat} {kv wv lv : Value} {is : Bool} {N : Int} {D : DS} {w : World} (h : PD0 B p kv wv lv is N D w) : Calls Tryz.prog 32 #[.pointer (some ⟨p, 0, none⟩)] w fun e w' => e = .returned (.int .i64 (D.kept.length : Int)) ∧ w = w' := by
  obtain ⟨ao, ck, hkv⟩ := own_slice h.kr
  obtain ⟨n, hn⟩ : ∃ n, n = D.kept.length := ⟨_, rfl⟩
  have c0 : w.cell? ⟨p, 0, none⟩ = some (.slice ao n ck) := by rw [hn, ← hkv]; exact h.st.cell rfl
  rw [← hn]
  clear h hn hkv
  go_enter Tryz.func32, Tryz.ntmps32
  go_wp2
  go_ret
  exact ⟨rfl, rfl⟩
set_option maxRecDepth 100000 in
theorem dmade_at {B p : Nat} {kv wv lv : Value} {is : Bool} {N : Int} {D : DS} {w : World} (h : PD0 B p kv wv lv is N D w) : Calls Tryz.prog 29 #[.pointer (some ⟨p, 0, none⟩)] w fun e w' => e = .returned (.bool true) ∧ w = w' := by
  have HS := Lib.hid (dSize_at h)
  have h1 := h.pos.1
  obtain ⟨n, hn⟩ : ∃ n, n = D.kept.length := ⟨_, rfl⟩
  rw [← hn] at HS h1
  have h2 : 0 < n := h1
  clear h hn h1
  go_enter Tryz.func29, Tryz.ntmps29
  go_wp2_with (go_at_call 32; go_must (refine HS.out.mono ?_); rintro e w1 ⟨rfl, rfl⟩)
  go_ret
  exact ⟨rfl, rfl⟩
set_option maxRecDepth 100000 in
theorem dWaiting_at {B p : Nat} {kv wv lv : Value} {is : Bool} {N : Int} {D : DS} {w : World} (h : PD0 B p kv wv lv is N D w) : Calls Tryz.prog 12 #[.pointer (some ⟨p, 0, none⟩)] w fun e w' => e = .returned (.int .i64 (D.wait.length : Int)) ∧ w = w' := by
  obtain ⟨ao, ck, hkv⟩ := own_slice h.wr
  obtain ⟨n, hn⟩ : ∃ n, n = D.wait.length := ⟨_, rfl⟩
  have c0 : w.cell? ⟨p, 1, none⟩ = some (.slice ao n ck) := by rw [hn, ← hkv]; exact h.st.cell rfl
  rw [← hn]
  clear h hn hkv
  go_enter Tryz.func12, Tryz.ntmps12
  go_wp2
  go_ret
  exact ⟨rfl, rfl⟩
set_option maxRecDepth 100000 in
theorem dhas_at {B p : Nat} {kv wv lv : Value} {is : Bool} {N : Int} {D : DS} {w : World} (i : Int) (h : PD0 B p kv wv lv is N D w) : Calls Tryz.prog 38 #[.pointer (some ⟨p, 0, none⟩), .int .i64 i] w fun e w' => e = .returned (.bool (D.inside i)) ∧ ∃ q, w' = w.drewN q := by
  obtain ⟨ao, ck, hkv⟩ := own_slice h.kr
  unfold DS.inside
  obtain ⟨n, hn⟩ : ∃ n, n = D.kept.length := ⟨_, rfl⟩
  have c0 : w.cell? ⟨p, 0, none⟩ = some (.slice ao n ck) := by rw [hn, ← hkv]; exact h.st.cell rfl
  rw [← hn]
  clear h hn hkv
  by_cases h0 : 0 ≤ i
  · have d0 : decide (0 ≤ i) = true := decide_eq_true h0
    by_cases h1 : i < n
    · have d1 : decide (i < (n : Int)) = true := decide_eq_true h1
      have e : decide (0 ≤ i ∧ i < (n : Int)) = true := decide_eq_true ⟨h0, h1⟩
      rw [e]
      clear e
      go_enter Tryz.func38, Tryz.ntmps38
      go_wp2
      go_ret
      exact ⟨rfl, 0, rfl⟩
    · have d1 : decide (i < (n : Int)) = false := decide_eq_false h1
      have e : decide (0 ≤ i ∧ i < (n : Int)) = false := decide_eq_false fun a => h1 a.2
      rw [e]
      clear e
      go_enter Tryz.func38, Tryz.ntmps38
      go_wp2
      go_ret
      exact ⟨rfl, 0, rfl⟩
  · have d0 : decide (0 ≤ i) = false := decide_eq_false h0
    have e : decide (0 ≤ i ∧ i < (n : Int)) = false := decide_eq_false fun a => h0 a.1
    rw [e]
    clear e
    go_enter Tryz.func38, Tryz.ntmps38
    go_wp2
    go_ret
    exact ⟨rfl, 0, rfl⟩
set_option maxRecDepth 100000 in
theorem drefusal_at {B p : Nat} {kv wv lv : Value} {is : Bool} {N : Int} {D : DS} {w : World} (h : PD0 B p kv wv lv is N D w) : Calls Tryz.prog 24 #[.pointer (some ⟨p, 0, none⟩)] w fun e w' => e = .returned (.int .i64 (if D.dead then 30 else 0)) ∧ w = w' := by
  have HM := Lib.hid (dmade_at h)
  obtain ⟨d, hd⟩ : ∃ d, d = D.dead := ⟨_, rfl⟩
  have c5 : w.cell? ⟨p, 5, none⟩ = some (.bool d) := by rw [hd]; exact h.st.cell rfl
  rw [← hd]
  clear h hd
  cases d with
  | true =>
    go_enter Tryz.func24, Tryz.ntmps24
    go_wp2_with (go_at_call 29; go_must (refine HM.out.mono ?_); rintro e w1 ⟨rfl, rfl⟩)
    go_ret
    exact ⟨rfl, rfl⟩
  | false =>
    go_enter Tryz.func24, Tryz.ntmps24
    go_wp2_with (go_at_call 29; go_must (refine HM.out.mono ?_); rintro e w1 ⟨rfl, rfl⟩)
    go_ret
    exact ⟨rfl, rfl⟩
end Go.Proofs.YtikeckmbfgidhaaGreatDoor
