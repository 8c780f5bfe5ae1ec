/- Lemmas for the laws of index. -/
import Derived.Test.YtngfknplljedeaaGreatZr41
import Derived.Test.YtngfknplljedeaaGreatZr50
import Derived.Test.YtngfknplljedeaaGreatZrTk
import Derived.Test.YtngfknplljedeaaGreatZrHi
namespace Go.Proofs.YtngfknplljedeaaGreat
open Go.RowKit
section
variable {α : Type}
theorem filter_erase {p : α → Bool} : ∀ {xs : List α} {i : Nat} {x : α}, (xs.Pairwise fun a b => ¬ (p a = true ∧ p b = true)) → xs[i]? = some x → p x = true → xs.filter (fun y => !p y) = xs.eraseIdx i
 | [], _, _, _, h, _ => by simp at h
 | y :: xs, 0, x, hu, h, hp => by
  obtain rfl : y = x := by simpa using h
  rw [List.pairwise_cons] at hu
  rw [List.filter_cons, hp, List.eraseIdx_cons_zero]
  exact filter_none fun z hz => by
   cases e : p z with
   | false => rfl
   | true => exact absurd ⟨hp, e⟩ (hu.1 z hz)
 | y :: xs, i + 1, x, hu, h, hp => by
  rw [List.pairwise_cons] at hu
  have h2 : xs[i]? = some x := by simpa using h
  have hy : p y = false := by
   cases e : p y with
   | false => rfl
   | true => exact absurd ⟨e, hp⟩ (hu.1 x (List.mem_of_getElem? h2))
  rw [List.filter_cons, hy, List.eraseIdx_cons_succ, filter_erase hu.2 h2 hp]
  rfl
theorem gone_one {p : α → Bool} {xs : List α} (hu : xs.Pairwise fun a b => ¬ (p a = true ∧ p b = true)) (h : ¬ fnd p xs < 0) : xs.filter (fun y => !p y) = xs.eraseIdx (fnd p xs).toNat := by
 rcases fnd_cases p xs with ⟨e, _⟩ | ⟨i, x, e, hx, hp, _⟩
 · rw [e] at h; exact absurd (by decide) h
 · rw [e]
   exact filter_erase hu hx hp
end
end Go.Proofs.YtngfknplljedeaaGreat
namespace Go.Proofs.YtngfknplljedeaaGreat
open Go.RowKit
theorem one_held {xs : List Hd} (h : xs.Pairwise fun a b => ltHd a b = true) (e s : Int) : xs.Pairwise fun a b => ¬ (pHeld e s a = true ∧ pHeld e s b = true) := h.imp fun {a b} hl hc => by
 simp only [pHeld, Bool.and_eq_true, decide_eq_true_eq] at hc
 have := (ltHd_key (a := a) (b := b)).2 ⟨by rw [hc.1.1, hc.2.1], by rw [hc.1.2, hc.2.2]⟩
 rw [this.1] at hl
 cases hl
theorem one_file {xs : List Cd} (h : xs.Pairwise fun a b => slt a.up b.up = true) (u : ByteArray) : xs.Pairwise fun a b => ¬ (pFile u a = true ∧ pFile u b = true) := h.imp fun {a b} hl hc => by
 simp only [pFile, decide_eq_true_eq] at hc
 rw [hc.1, hc.2, slt_irr] at hl
 cases hl
theorem one_name {xs : List Kn} (h : xs.Pairwise fun a b => ltKn a b = true) (d m : ByteArray) : xs.Pairwise fun a b => ¬ (pName d m a = true ∧ pName d m b = true) := h.imp fun {a b} hl hc => by
 simp only [pName, Bool.and_eq_true, decide_eq_true_eq] at hc
 have := (ltKn_key (a := a) (b := b)).2 ⟨by rw [hc.1.1, hc.2.1], by rw [hc.1.2, hc.2.2]⟩
 rw [this.1] at hl
 cases hl
theorem one_block {xs : List Bk} (h : xs.Pairwise fun a b => ltBk a b = true) (u : ByteArray) (n : Int) : xs.Pairwise fun a b => ¬ (pBlock u n a = true ∧ pBlock u n b = true) := h.imp fun {a b} hl hc => by
 simp only [pBlock, Bool.and_eq_true, decide_eq_true_eq] at hc
 have := (ltBk_key (a := a) (b := b)).2 ⟨by rw [hc.1.1, hc.2.1], by rw [hc.1.2, hc.2.2]⟩
 rw [this.1] at hl
 cases hl
def Did (B b : Nat) (c : CA) (x : Ch) (w : World) (e : Ending) (w' : World) : Prop := e = .returned (.bool (c.apply x).2) ∧ ((c.apply x).2 = true → ∃ vs, OwnC B b vs (c.apply x).1 w') ∧ Below B w w'
theorem Did.no {B b : Nat} {c : CA} {x : Ch} {w w' : World} {e : Ending} (ha : (c.apply x).2 = false) (he : e = .returned (.bool false)) (hb : Below B w w') : Did B b c x w e w' :=
 ⟨by rw [ha]; exact he, (fun h => by rw [ha] at h; cases h), hb⟩
theorem Did.yes {B b : Nat} {c d : CA} {x : Ch} {w w' : World} {e : Ending} {vs : List Value} (ha : c.apply x = (d, true)) (he : e = .returned (.bool true)) (ho : OwnC B b vs d w') (hb : Below B w w') : Did B b c x w e w' :=
 ⟨by rw [ha]; exact he, (fun _ => ⟨vs, by rw [ha]; exact ho⟩), hb⟩
set_option maxRecDepth 100000 in
set_option maxHeartbeats 2000000 in
theorem inChange_bad {B b : Nat} (v1 v2 v3 v4 : Value) (c : CA) (x : Ch) (w : World) (s : St 27 b #[v1, v2, v3, v4] w) (o1 : OwnAt 49 3 Hd.vs B v1 c.helds w) (o2 : OwnAt 57 11 Cd.vs B v2 c.files w) (o3 : OwnAt 61 3 Kn.vs B v3 c.names w) (o4 : OwnAt 66 3 Bk.vs B v4 c.blocks w) (hb : B ≤ b) (hm : c.lens 1073741823) (hx : x.num) (hok : x.ok = false) :
 Calls Tryz.prog 56 #[.pointer (some ⟨b, 0, none⟩), .agg x.vs.toArray] w (Did B b c x w) := by
 have hBw : B ≤ w.heap.size := Nat.le_trans hb (Nat.le_of_lt s.lt)
 have HBw := hI hBw
 have hst : St 40 w.heap.size x.vs.toArray (w.alloc (.cells x.vs.toArray 40 (0, 0))) := St.new w _ _
 have HST := hI hst
 have HCK := hI (show Calls Tryz.prog 39 #[.agg x.vs.toArray] (w.alloc (.cells x.vs.toArray 40 (0, 0))) fun e w' => e = .returned (.int .i64 14) ∧ Below (w.alloc (.cells x.vs.toArray 40 (0, 0))).heap.size (w.alloc (.cells x.vs.toArray 40 (0, 0))) w' from by
  have := recCheck_any x (w.alloc (.cells x.vs.toArray 40 (0, 0))) hx
  rw [hok] at this
  exact this)
 have HB1 := hI (show Below w.heap.size w (w.alloc (.cells x.vs.toArray 40 (0, 0))) from (Below.refl _ w).alloc (Nat.le_refl _) _)
 have H1 := hI o1
 have H2 := hI o2
 have H3 := hI o3
 have H4 := hI o4
 have HSb := hI s
 have HBb := hI hb
 have HM := hI hm
 have lb0 := hI s.lt
 have ha : (c.apply x).2 = false := by unfold CA.apply; rw [if_pos hok]
 have HA := hI ha
 clear s o1 o2 o3 o4 hb hm hx hok ha hst hBw
 go_enter Tryz.func56, Tryz.ntmps56
 go_wp2_with (first | ((with_reducible show wpList _ _ _ ({ dst := _, op := .load 40 _, type := _, pos := _, after := _, guard := _ } :: _) _ _); refine wpList_load_st rfl 40 _ rfl w.heap.size (by first | rfl | simp [Act.eval, Act.put]) 40 x.vs.toArray HST.out _ Tryz.underlying40 rfl (by kernel_rfl) ?_) | ((with_reducible refine HCK.out.mono ?_); rintro e w5 ⟨rfl, hb⟩; have B5 := hI (HB1.out.trans (hb.mono HB1.out.size)); clear hb))
 go_returns
 exact Did.no HA.out rfl (B5.out.mono HBw.out)
set_option maxRecDepth 100000 in
set_option maxHeartbeats 2000000 in
theorem inChange_1a {B b : Nat} (v1 v2 v3 v4 : Value) (c : CA) (x : Ch) (w : World) (s : St 27 b #[v1, v2, v3, v4] w) (o1 : OwnAt 49 3 Hd.vs B v1 c.helds w) (o2 : OwnAt 57 11 Cd.vs B v2 c.files w) (o3 : OwnAt 61 3 Kn.vs B v3 c.names w) (o4 : OwnAt 66 3 Bk.vs B v4 c.blocks w) (hb : B ≤ b) (hm : c.lens 1073741823) (hx : x.num) (hok : x.ok = true) (hk : x.kind = 1) (_ho : c.Ok) (h1 : c.helds.any (pHeld x.epoch x.serial) = true) :
 Calls Tryz.prog 56 #[.pointer (some ⟨b, 0, none⟩), .agg x.vs.toArray] w (Did B b c x w) := by
 have hBw : B ≤ w.heap.size := Nat.le_trans hb (Nat.le_of_lt s.lt)
 have HBw := hI hBw
 have hst : St 40 w.heap.size x.vs.toArray (w.alloc (.cells x.vs.toArray 40 (0, 0))) := St.new w _ _
 have HST := hI hst
 have HCK := hI (show Calls Tryz.prog 39 #[.agg x.vs.toArray] (w.alloc (.cells x.vs.toArray 40 (0, 0))) fun e w' => e = .returned (.int .i64 0) ∧ Below (w.alloc (.cells x.vs.toArray 40 (0, 0))).heap.size (w.alloc (.cells x.vs.toArray 40 (0, 0))) w' from by
  have := recCheck_any x (w.alloc (.cells x.vs.toArray 40 (0, 0))) hx
  rw [hok] at this
  exact this)
 have HB1 := hI (show Below w.heap.size w (w.alloc (.cells x.vs.toArray 40 (0, 0))) from (Below.refl _ w).alloc (Nat.le_refl _) _)
 have H1 := hI o1
 have H2 := hI o2
 have H3 := hI o3
 have H4 := hI o4
 have HSb := hI s
 have HBb := hI hb
 have HM := hI hm
 have lb0 := hI s.lt
 have H5 := hI h1
 have HA := hI (show (c.apply x).2 = false from by unfold CA.apply; rw [if_neg (by rw [hok]; decide), if_pos hk, if_pos (.inl (by have := h1; rw [any_fnd] at this; exact of_decide_eq_true this))])
 clear h1 _ho
 clear s o1 o2 o3 o4 hb hm hx hok hst hBw
 have HK := hI hk
 clear hk
 go_enter Tryz.func56, Tryz.ntmps56
 go_wp2_with (first | ((with_reducible show wpList _ _ _ ({ dst := _, op := .load 40 _, type := _, pos := _, after := _, guard := _ } :: _) _ _); refine wpList_load_st rfl 40 _ rfl w.heap.size (by first | rfl | simp [Act.eval, Act.put]) 40 x.vs.toArray HST.out _ Tryz.underlying40 rfl (by kernel_rfl) ?_) | ((with_reducible refine HCK.out.mono ?_); rintro e w5 ⟨rfl, hb⟩; have B5 := hI (HB1.out.trans (hb.mono HB1.out.size)); have Q5 := hI (HST.out.below hb); have c0 : w5.cell? ⟨w.heap.size, 0, none⟩ = some (.int .i64 1) := (by rw [← HK.out]; exact Q5.out.cell rfl); have c1 : w5.cell? ⟨w.heap.size, 1, none⟩ = some (.int .i64 x.epoch) := Q5.out.cell rfl; have c2 : w5.cell? ⟨w.heap.size, 2, none⟩ = some (.int .i64 x.serial) := Q5.out.cell rfl; have c3 : w5.cell? ⟨w.heap.size, 3, none⟩ = some (.string x.up) := Q5.out.cell rfl; have c4 : w5.cell? ⟨w.heap.size, 4, none⟩ = some (.string x.name) := Q5.out.cell rfl; have c5 : w5.cell? ⟨w.heap.size, 5, none⟩ = some (.string x.child) := Q5.out.cell rfl; have c6 : w5.cell? ⟨w.heap.size, 6, none⟩ = some (.int .i64 x.attr.ty) := Q5.out.cell rfl; have c7 : w5.cell? ⟨w.heap.size, 7, none⟩ = some (.int .i64 x.attr.mode) := Q5.out.cell rfl; have c8 : w5.cell? ⟨w.heap.size, 8, none⟩ = some (.int .i64 x.attr.nlink) := Q5.out.cell rfl; have c9 : w5.cell? ⟨w.heap.size, 9, none⟩ = some (.int .i64 x.attr.uid) := Q5.out.cell rfl; have c10 : w5.cell? ⟨w.heap.size, 10, none⟩ = some (.int .i64 x.attr.gid) := Q5.out.cell rfl; have c11 : w5.cell? ⟨w.heap.size, 11, none⟩ = some (.int .i64 x.attr.size) := Q5.out.cell rfl; have c12 : w5.cell? ⟨w.heap.size, 12, none⟩ = some (.int .i64 x.attr.id) := Q5.out.cell rfl; have c13 : w5.cell? ⟨w.heap.size, 13, none⟩ = some (.int .i64 x.attr.gen) := Q5.out.cell rfl; have c14 : w5.cell? ⟨w.heap.size, 14, none⟩ = some (.int .i64 x.attr.change) := Q5.out.cell rfl; have c15 : w5.cell? ⟨w.heap.size, 15, none⟩ = some (.int .i64 x.attr.time) := Q5.out.cell rfl; have c16 : w5.cell? ⟨w.heap.size, 16, none⟩ = some (.int .i64 x.no) := Q5.out.cell rfl; have c17 : w5.cell? ⟨w.heap.size, 17, none⟩ = some (.int .i64 x.slot) := Q5.out.cell rfl; clear hb) | ((with_reducible show Calls _ 112 _ _ _); refine (inAdd_no1 v1 v2 v3 v4 c ⟨x.epoch, x.serial, x.up⟩ w5 (HSb.out.below B5.out) (H1.out.below B5.out) (H2.out.below B5.out) (H3.out.below B5.out) (H4.out.below B5.out) HBb.out HM.out H5.out).mono ?_; rintro e w9 ⟨rfl, hb⟩; have B9 := hI (B5.out.trans (hb.mono B5.out.size)); clear hb))
 go_returns
 exact Did.no HA.out rfl (B9.out.mono HBw.out)
set_option maxRecDepth 100000 in
set_option maxHeartbeats 2000000 in
theorem inChange_1b {B b : Nat} (v1 v2 v3 v4 : Value) (c : CA) (x : Ch) (w : World) (s : St 27 b #[v1, v2, v3, v4] w) (o1 : OwnAt 49 3 Hd.vs B v1 c.helds w) (o2 : OwnAt 57 11 Cd.vs B v2 c.files w) (o3 : OwnAt 61 3 Kn.vs B v3 c.names w) (o4 : OwnAt 66 3 Bk.vs B v4 c.blocks w) (hb : B ≤ b) (hm : c.lens 1073741823) (hx : x.num) (hok : x.ok = true) (hk : x.kind = 1) (_ho : c.Ok) (h1 : c.helds.any (pHeld x.epoch x.serial) = false) (h2 : c.helds.any (pIssued x.up) = true) :
 Calls Tryz.prog 56 #[.pointer (some ⟨b, 0, none⟩), .agg x.vs.toArray] w (Did B b c x w) := by
 have hBw : B ≤ w.heap.size := Nat.le_trans hb (Nat.le_of_lt s.lt)
 have HBw := hI hBw
 have hst : St 40 w.heap.size x.vs.toArray (w.alloc (.cells x.vs.toArray 40 (0, 0))) := St.new w _ _
 have HST := hI hst
 have HCK := hI (show Calls Tryz.prog 39 #[.agg x.vs.toArray] (w.alloc (.cells x.vs.toArray 40 (0, 0))) fun e w' => e = .returned (.int .i64 0) ∧ Below (w.alloc (.cells x.vs.toArray 40 (0, 0))).heap.size (w.alloc (.cells x.vs.toArray 40 (0, 0))) w' from by
  have := recCheck_any x (w.alloc (.cells x.vs.toArray 40 (0, 0))) hx
  rw [hok] at this
  exact this)
 have HB1 := hI (show Below w.heap.size w (w.alloc (.cells x.vs.toArray 40 (0, 0))) from (Below.refl _ w).alloc (Nat.le_refl _) _)
 have H1 := hI o1
 have H2 := hI o2
 have H3 := hI o3
 have H4 := hI o4
 have HSb := hI s
 have HBb := hI hb
 have HM := hI hm
 have lb0 := hI s.lt
 have H5 := hI h1
 have H6 := hI h2
 have HA := hI (show (c.apply x).2 = false from by unfold CA.apply; rw [if_neg (by rw [hok]; decide), if_pos hk, if_pos (.inr (by have := h2; rw [any_fnd] at this; exact of_decide_eq_true this))])
 clear h1 h2 _ho
 clear s o1 o2 o3 o4 hb hm hx hok hst hBw
 have HK := hI hk
 clear hk
 go_enter Tryz.func56, Tryz.ntmps56
 go_wp2_with (first | ((with_reducible show wpList _ _ _ ({ dst := _, op := .load 40 _, type := _, pos := _, after := _, guard := _ } :: _) _ _); refine wpList_load_st rfl 40 _ rfl w.heap.size (by first | rfl | simp [Act.eval, Act.put]) 40 x.vs.toArray HST.out _ Tryz.underlying40 rfl (by kernel_rfl) ?_) | ((with_reducible refine HCK.out.mono ?_); rintro e w5 ⟨rfl, hb⟩; have B5 := hI (HB1.out.trans (hb.mono HB1.out.size)); have Q5 := hI (HST.out.below hb); have c0 : w5.cell? ⟨w.heap.size, 0, none⟩ = some (.int .i64 1) := (by rw [← HK.out]; exact Q5.out.cell rfl); have c1 : w5.cell? ⟨w.heap.size, 1, none⟩ = some (.int .i64 x.epoch) := Q5.out.cell rfl; have c2 : w5.cell? ⟨w.heap.size, 2, none⟩ = some (.int .i64 x.serial) := Q5.out.cell rfl; have c3 : w5.cell? ⟨w.heap.size, 3, none⟩ = some (.string x.up) := Q5.out.cell rfl; have c4 : w5.cell? ⟨w.heap.size, 4, none⟩ = some (.string x.name) := Q5.out.cell rfl; have c5 : w5.cell? ⟨w.heap.size, 5, none⟩ = some (.string x.child) := Q5.out.cell rfl; have c6 : w5.cell? ⟨w.heap.size, 6, none⟩ = some (.int .i64 x.attr.ty) := Q5.out.cell rfl; have c7 : w5.cell? ⟨w.heap.size, 7, none⟩ = some (.int .i64 x.attr.mode) := Q5.out.cell rfl; have c8 : w5.cell? ⟨w.heap.size, 8, none⟩ = some (.int .i64 x.attr.nlink) := Q5.out.cell rfl; have c9 : w5.cell? ⟨w.heap.size, 9, none⟩ = some (.int .i64 x.attr.uid) := Q5.out.cell rfl; have c10 : w5.cell? ⟨w.heap.size, 10, none⟩ = some (.int .i64 x.attr.gid) := Q5.out.cell rfl; have c11 : w5.cell? ⟨w.heap.size, 11, none⟩ = some (.int .i64 x.attr.size) := Q5.out.cell rfl; have c12 : w5.cell? ⟨w.heap.size, 12, none⟩ = some (.int .i64 x.attr.id) := Q5.out.cell rfl; have c13 : w5.cell? ⟨w.heap.size, 13, none⟩ = some (.int .i64 x.attr.gen) := Q5.out.cell rfl; have c14 : w5.cell? ⟨w.heap.size, 14, none⟩ = some (.int .i64 x.attr.change) := Q5.out.cell rfl; have c15 : w5.cell? ⟨w.heap.size, 15, none⟩ = some (.int .i64 x.attr.time) := Q5.out.cell rfl; have c16 : w5.cell? ⟨w.heap.size, 16, none⟩ = some (.int .i64 x.no) := Q5.out.cell rfl; have c17 : w5.cell? ⟨w.heap.size, 17, none⟩ = some (.int .i64 x.slot) := Q5.out.cell rfl; clear hb) | ((with_reducible show Calls _ 112 _ _ _); refine (inAdd_no2 v1 v2 v3 v4 c ⟨x.epoch, x.serial, x.up⟩ w5 (HSb.out.below B5.out) (H1.out.below B5.out) (H2.out.below B5.out) (H3.out.below B5.out) (H4.out.below B5.out) HBb.out HM.out H5.out H6.out).mono ?_; rintro e w9 ⟨rfl, hb⟩; have B9 := hI (B5.out.trans (hb.mono B5.out.size)); clear hb))
 go_returns
 exact Did.no HA.out rfl (B9.out.mono HBw.out)
set_option maxRecDepth 100000 in
set_option maxHeartbeats 2000000 in
theorem inChange_1c {B b : Nat} (v1 v2 v3 v4 : Value) (c : CA) (x : Ch) (w : World) (s : St 27 b #[v1, v2, v3, v4] w) (o1 : OwnAt 49 3 Hd.vs B v1 c.helds w) (o2 : OwnAt 57 11 Cd.vs B v2 c.files w) (o3 : OwnAt 61 3 Kn.vs B v3 c.names w) (o4 : OwnAt 66 3 Bk.vs B v4 c.blocks w) (hb : B ≤ b) (hm : c.lens 1073741823) (hx : x.num) (hok : x.ok = true) (hk : x.kind = 1) (ho : c.Ok) (h1 : c.helds.any (pHeld x.epoch x.serial) = false) (h2 : c.helds.any (pIssued x.up) = false) :
 Calls Tryz.prog 56 #[.pointer (some ⟨b, 0, none⟩), .agg x.vs.toArray] w (Did B b c x w) := by
 have hBw : B ≤ w.heap.size := Nat.le_trans hb (Nat.le_of_lt s.lt)
 have HBw := hI hBw
 have hst : St 40 w.heap.size x.vs.toArray (w.alloc (.cells x.vs.toArray 40 (0, 0))) := St.new w _ _
 have HST := hI hst
 have HCK := hI (show Calls Tryz.prog 39 #[.agg x.vs.toArray] (w.alloc (.cells x.vs.toArray 40 (0, 0))) fun e w' => e = .returned (.int .i64 0) ∧ Below (w.alloc (.cells x.vs.toArray 40 (0, 0))).heap.size (w.alloc (.cells x.vs.toArray 40 (0, 0))) w' from by
  have := recCheck_any x (w.alloc (.cells x.vs.toArray 40 (0, 0))) hx
  rw [hok] at this
  exact this)
 have HB1 := hI (show Below w.heap.size w (w.alloc (.cells x.vs.toArray 40 (0, 0))) from (Below.refl _ w).alloc (Nat.le_refl _) _)
 have H1 := hI o1
 have H2 := hI o2
 have H3 := hI o3
 have H4 := hI o4
 have HSb := hI s
 have HBb := hI hb
 have HM := hI hm
 have lb0 := hI s.lt
 have H5 := hI h1
 have H6 := hI h2
 have H7 := hI ho.helds
 have H8 := hI (show ∀ y ∈ c.helds, pHeld x.epoch x.serial y = false from fun y hy => by
  cases e : pHeld x.epoch x.serial y with
  | false => rfl
  | true => rw [List.any_eq_true.2 ⟨y, hy, e⟩] at h1; cases h1)
 have HA := hI (show c.apply x = (⟨putIn (fun y => !ltHd y ⟨x.epoch, x.serial, x.up⟩) (fun _ => true) ⟨x.epoch, x.serial, x.up⟩ c.helds, c.files, c.names, c.blocks⟩, true) from by
  unfold CA.apply
  rw [if_neg (by rw [hok]; decide), if_pos hk, if_neg (fun h => by
   rcases h with h | h
   · rw [any_fnd] at h1; exact absurd h (of_decide_eq_false h1)
   · rw [any_fnd] at h2; exact absurd h (of_decide_eq_false h2))])
 clear h1 h2 ho
 clear s o1 o2 o3 o4 hb hm hx hok hst hBw
 have HK := hI hk
 clear hk
 go_enter Tryz.func56, Tryz.ntmps56
 go_wp2_with (first | ((with_reducible show wpList _ _ _ ({ dst := _, op := .load 40 _, type := _, pos := _, after := _, guard := _ } :: _) _ _); refine wpList_load_st rfl 40 _ rfl w.heap.size (by first | rfl | simp [Act.eval, Act.put]) 40 x.vs.toArray HST.out _ Tryz.underlying40 rfl (by kernel_rfl) ?_) | ((with_reducible refine HCK.out.mono ?_); rintro e w5 ⟨rfl, hb⟩; have B5 := hI (HB1.out.trans (hb.mono HB1.out.size)); have Q5 := hI (HST.out.below hb); have c0 : w5.cell? ⟨w.heap.size, 0, none⟩ = some (.int .i64 1) := (by rw [← HK.out]; exact Q5.out.cell rfl); have c1 : w5.cell? ⟨w.heap.size, 1, none⟩ = some (.int .i64 x.epoch) := Q5.out.cell rfl; have c2 : w5.cell? ⟨w.heap.size, 2, none⟩ = some (.int .i64 x.serial) := Q5.out.cell rfl; have c3 : w5.cell? ⟨w.heap.size, 3, none⟩ = some (.string x.up) := Q5.out.cell rfl; have c4 : w5.cell? ⟨w.heap.size, 4, none⟩ = some (.string x.name) := Q5.out.cell rfl; have c5 : w5.cell? ⟨w.heap.size, 5, none⟩ = some (.string x.child) := Q5.out.cell rfl; have c6 : w5.cell? ⟨w.heap.size, 6, none⟩ = some (.int .i64 x.attr.ty) := Q5.out.cell rfl; have c7 : w5.cell? ⟨w.heap.size, 7, none⟩ = some (.int .i64 x.attr.mode) := Q5.out.cell rfl; have c8 : w5.cell? ⟨w.heap.size, 8, none⟩ = some (.int .i64 x.attr.nlink) := Q5.out.cell rfl; have c9 : w5.cell? ⟨w.heap.size, 9, none⟩ = some (.int .i64 x.attr.uid) := Q5.out.cell rfl; have c10 : w5.cell? ⟨w.heap.size, 10, none⟩ = some (.int .i64 x.attr.gid) := Q5.out.cell rfl; have c11 : w5.cell? ⟨w.heap.size, 11, none⟩ = some (.int .i64 x.attr.size) := Q5.out.cell rfl; have c12 : w5.cell? ⟨w.heap.size, 12, none⟩ = some (.int .i64 x.attr.id) := Q5.out.cell rfl; have c13 : w5.cell? ⟨w.heap.size, 13, none⟩ = some (.int .i64 x.attr.gen) := Q5.out.cell rfl; have c14 : w5.cell? ⟨w.heap.size, 14, none⟩ = some (.int .i64 x.attr.change) := Q5.out.cell rfl; have c15 : w5.cell? ⟨w.heap.size, 15, none⟩ = some (.int .i64 x.attr.time) := Q5.out.cell rfl; have c16 : w5.cell? ⟨w.heap.size, 16, none⟩ = some (.int .i64 x.no) := Q5.out.cell rfl; have c17 : w5.cell? ⟨w.heap.size, 17, none⟩ = some (.int .i64 x.slot) := Q5.out.cell rfl; clear hb) | ((with_reducible show Calls _ 112 _ _ _); refine (inAdd_yes v1 v2 v3 v4 c ⟨x.epoch, x.serial, x.up⟩ w5 (HSb.out.below B5.out) (H1.out.below B5.out) (H2.out.below B5.out) (H3.out.below B5.out) (H4.out.below B5.out) HBb.out HM.out H5.out H6.out H7.out).mono ?_; rintro e w9 ⟨rfl, ⟨vs, hh⟩, hb⟩; have O9 := hI hh; have B9 := hI ((B5.out.mono HBw.out).trans hb); clear hh hb))
 go_returns
 obtain ⟨i, hp, ho⟩ := O9.out
 rw [putAt_held hp H7.out H8.out] at ho
 exact Did.yes HA.out rfl ho B9.out
set_option maxRecDepth 100000 in
set_option maxHeartbeats 2000000 in
theorem inChange_5a {B b : Nat} (v1 v2 v3 v4 : Value) (c : CA) (x : Ch) (w : World) (s : St 27 b #[v1, v2, v3, v4] w) (o1 : OwnAt 49 3 Hd.vs B v1 c.helds w) (o2 : OwnAt 57 11 Cd.vs B v2 c.files w) (o3 : OwnAt 61 3 Kn.vs B v3 c.names w) (o4 : OwnAt 66 3 Bk.vs B v4 c.blocks w) (hb : B ≤ b) (hm : c.lens 1073741823) (hx : x.num) (hok : x.ok = true) (hk : x.kind = 5) (_ho : c.Ok) (h1 : c.files.any (pFile x.up) = false) :
 Calls Tryz.prog 56 #[.pointer (some ⟨b, 0, none⟩), .agg x.vs.toArray] w (Did B b c x w) := by
 have hBw : B ≤ w.heap.size := Nat.le_trans hb (Nat.le_of_lt s.lt)
 have HBw := hI hBw
 have hst : St 40 w.heap.size x.vs.toArray (w.alloc (.cells x.vs.toArray 40 (0, 0))) := St.new w _ _
 have HST := hI hst
 have HCK := hI (show Calls Tryz.prog 39 #[.agg x.vs.toArray] (w.alloc (.cells x.vs.toArray 40 (0, 0))) fun e w' => e = .returned (.int .i64 0) ∧ Below (w.alloc (.cells x.vs.toArray 40 (0, 0))).heap.size (w.alloc (.cells x.vs.toArray 40 (0, 0))) w' from by
  have := recCheck_any x (w.alloc (.cells x.vs.toArray 40 (0, 0))) hx
  rw [hok] at this
  exact this)
 have HB1 := hI (show Below w.heap.size w (w.alloc (.cells x.vs.toArray 40 (0, 0))) from (Below.refl _ w).alloc (Nat.le_refl _) _)
 have H1 := hI o1
 have H2 := hI o2
 have H3 := hI o3
 have H4 := hI o4
 have HSb := hI s
 have HBb := hI hb
 have HM := hI hm
 have lb0 := hI s.lt
 have hf : fnd (pFile x.up) c.files < 0 := (by have := h1; rw [any_fnd] at this; exact Int.not_le.1 (of_decide_eq_false this))
 have H5 := hI hf
 have HA := hI (show (c.apply x).2 = false from by simp [CA.apply, CA.goes, hok, hk, hf])
 clear h1 _ho hf
 clear s o1 o2 o3 o4 hb hm hx hok hst hBw
 have HK := hI hk
 clear hk
 go_enter Tryz.func56, Tryz.ntmps56
 go_wp2_with (first | ((with_reducible show wpList _ _ _ ({ dst := _, op := .load 40 _, type := _, pos := _, after := _, guard := _ } :: _) _ _); refine wpList_load_st rfl 40 _ rfl w.heap.size (by first | rfl | simp [Act.eval, Act.put]) 40 x.vs.toArray HST.out _ Tryz.underlying40 rfl (by kernel_rfl) ?_) | ((with_reducible refine HCK.out.mono ?_); rintro e w5 ⟨rfl, hb⟩; have B5 := hI (HB1.out.trans (hb.mono HB1.out.size)); have Q5 := hI (HST.out.below hb); have c0 : w5.cell? ⟨w.heap.size, 0, none⟩ = some (.int .i64 5) := (by rw [← HK.out]; exact Q5.out.cell rfl); have c1 : w5.cell? ⟨w.heap.size, 1, none⟩ = some (.int .i64 x.epoch) := Q5.out.cell rfl; have c2 : w5.cell? ⟨w.heap.size, 2, none⟩ = some (.int .i64 x.serial) := Q5.out.cell rfl; have c3 : w5.cell? ⟨w.heap.size, 3, none⟩ = some (.string x.up) := Q5.out.cell rfl; have c4 : w5.cell? ⟨w.heap.size, 4, none⟩ = some (.string x.name) := Q5.out.cell rfl; have c5 : w5.cell? ⟨w.heap.size, 5, none⟩ = some (.string x.child) := Q5.out.cell rfl; have c6 : w5.cell? ⟨w.heap.size, 6, none⟩ = some (.int .i64 x.attr.ty) := Q5.out.cell rfl; have c7 : w5.cell? ⟨w.heap.size, 7, none⟩ = some (.int .i64 x.attr.mode) := Q5.out.cell rfl; have c8 : w5.cell? ⟨w.heap.size, 8, none⟩ = some (.int .i64 x.attr.nlink) := Q5.out.cell rfl; have c9 : w5.cell? ⟨w.heap.size, 9, none⟩ = some (.int .i64 x.attr.uid) := Q5.out.cell rfl; have c10 : w5.cell? ⟨w.heap.size, 10, none⟩ = some (.int .i64 x.attr.gid) := Q5.out.cell rfl; have c11 : w5.cell? ⟨w.heap.size, 11, none⟩ = some (.int .i64 x.attr.size) := Q5.out.cell rfl; have c12 : w5.cell? ⟨w.heap.size, 12, none⟩ = some (.int .i64 x.attr.id) := Q5.out.cell rfl; have c13 : w5.cell? ⟨w.heap.size, 13, none⟩ = some (.int .i64 x.attr.gen) := Q5.out.cell rfl; have c14 : w5.cell? ⟨w.heap.size, 14, none⟩ = some (.int .i64 x.attr.change) := Q5.out.cell rfl; have c15 : w5.cell? ⟨w.heap.size, 15, none⟩ = some (.int .i64 x.attr.time) := Q5.out.cell rfl; have c16 : w5.cell? ⟨w.heap.size, 16, none⟩ = some (.int .i64 x.no) := Q5.out.cell rfl; have c17 : w5.cell? ⟨w.heap.size, 17, none⟩ = some (.int .i64 x.slot) := Q5.out.cell rfl; clear hb) | ((with_reducible show Calls _ 115 _ _ _); refine (inBare_no v1 v2 v3 v4 c x.up w5 (HSb.out.below B5.out) (H1.out.below B5.out) (H2.out.below B5.out) (H3.out.below B5.out) (H4.out.below B5.out) HBb.out HM.out H5.out).mono ?_; rintro e w9 ⟨rfl, hb⟩; have B9 := hI (B5.out.trans (hb.mono B5.out.size)); clear hb))
 go_returns
 exact Did.no HA.out rfl (B9.out.mono HBw.out)
set_option maxRecDepth 100000 in
set_option maxHeartbeats 2000000 in
theorem inChange_5b {B b : Nat} (v1 v2 v3 v4 : Value) (c : CA) (x : Ch) (w : World) (s : St 27 b #[v1, v2, v3, v4] w) (o1 : OwnAt 49 3 Hd.vs B v1 c.helds w) (o2 : OwnAt 57 11 Cd.vs B v2 c.files w) (o3 : OwnAt 61 3 Kn.vs B v3 c.names w) (o4 : OwnAt 66 3 Bk.vs B v4 c.blocks w) (hb : B ≤ b) (hm : c.lens 1073741823) (hx : x.num) (hok : x.ok = true) (hk : x.kind = 5) (_ho : c.Ok) (h1 : c.files.any (pFile x.up) = true) :
 Calls Tryz.prog 56 #[.pointer (some ⟨b, 0, none⟩), .agg x.vs.toArray] w (Did B b c x w) := by
 have hBw : B ≤ w.heap.size := Nat.le_trans hb (Nat.le_of_lt s.lt)
 have HBw := hI hBw
 have hst : St 40 w.heap.size x.vs.toArray (w.alloc (.cells x.vs.toArray 40 (0, 0))) := St.new w _ _
 have HST := hI hst
 have HCK := hI (show Calls Tryz.prog 39 #[.agg x.vs.toArray] (w.alloc (.cells x.vs.toArray 40 (0, 0))) fun e w' => e = .returned (.int .i64 0) ∧ Below (w.alloc (.cells x.vs.toArray 40 (0, 0))).heap.size (w.alloc (.cells x.vs.toArray 40 (0, 0))) w' from by
  have := recCheck_any x (w.alloc (.cells x.vs.toArray 40 (0, 0))) hx
  rw [hok] at this
  exact this)
 have HB1 := hI (show Below w.heap.size w (w.alloc (.cells x.vs.toArray 40 (0, 0))) from (Below.refl _ w).alloc (Nat.le_refl _) _)
 have H1 := hI o1
 have H2 := hI o2
 have H3 := hI o3
 have H4 := hI o4
 have HSb := hI s
 have HBb := hI hb
 have HM := hI hm
 have lb0 := hI s.lt
 have hf : ¬ fnd (pFile x.up) c.files < 0 := (by have := h1; rw [any_fnd] at this; exact Int.not_lt.2 (of_decide_eq_true this))
 have H5 := hI h1
 have HA := hI (show c.apply x = (c.bare x.up, true) from by simp [CA.apply, CA.goes, hok, hk, hf])
 clear h1 _ho hf
 clear s o1 o2 o3 o4 hb hm hx hok hst hBw
 have HK := hI hk
 clear hk
 go_enter Tryz.func56, Tryz.ntmps56
 go_wp2_with (first | ((with_reducible show wpList _ _ _ ({ dst := _, op := .load 40 _, type := _, pos := _, after := _, guard := _ } :: _) _ _); refine wpList_load_st rfl 40 _ rfl w.heap.size (by first | rfl | simp [Act.eval, Act.put]) 40 x.vs.toArray HST.out _ Tryz.underlying40 rfl (by kernel_rfl) ?_) | ((with_reducible refine HCK.out.mono ?_); rintro e w5 ⟨rfl, hb⟩; have B5 := hI (HB1.out.trans (hb.mono HB1.out.size)); have Q5 := hI (HST.out.below hb); have c0 : w5.cell? ⟨w.heap.size, 0, none⟩ = some (.int .i64 5) := (by rw [← HK.out]; exact Q5.out.cell rfl); have c1 : w5.cell? ⟨w.heap.size, 1, none⟩ = some (.int .i64 x.epoch) := Q5.out.cell rfl; have c2 : w5.cell? ⟨w.heap.size, 2, none⟩ = some (.int .i64 x.serial) := Q5.out.cell rfl; have c3 : w5.cell? ⟨w.heap.size, 3, none⟩ = some (.string x.up) := Q5.out.cell rfl; have c4 : w5.cell? ⟨w.heap.size, 4, none⟩ = some (.string x.name) := Q5.out.cell rfl; have c5 : w5.cell? ⟨w.heap.size, 5, none⟩ = some (.string x.child) := Q5.out.cell rfl; have c6 : w5.cell? ⟨w.heap.size, 6, none⟩ = some (.int .i64 x.attr.ty) := Q5.out.cell rfl; have c7 : w5.cell? ⟨w.heap.size, 7, none⟩ = some (.int .i64 x.attr.mode) := Q5.out.cell rfl; have c8 : w5.cell? ⟨w.heap.size, 8, none⟩ = some (.int .i64 x.attr.nlink) := Q5.out.cell rfl; have c9 : w5.cell? ⟨w.heap.size, 9, none⟩ = some (.int .i64 x.attr.uid) := Q5.out.cell rfl; have c10 : w5.cell? ⟨w.heap.size, 10, none⟩ = some (.int .i64 x.attr.gid) := Q5.out.cell rfl; have c11 : w5.cell? ⟨w.heap.size, 11, none⟩ = some (.int .i64 x.attr.size) := Q5.out.cell rfl; have c12 : w5.cell? ⟨w.heap.size, 12, none⟩ = some (.int .i64 x.attr.id) := Q5.out.cell rfl; have c13 : w5.cell? ⟨w.heap.size, 13, none⟩ = some (.int .i64 x.attr.gen) := Q5.out.cell rfl; have c14 : w5.cell? ⟨w.heap.size, 14, none⟩ = some (.int .i64 x.attr.change) := Q5.out.cell rfl; have c15 : w5.cell? ⟨w.heap.size, 15, none⟩ = some (.int .i64 x.attr.time) := Q5.out.cell rfl; have c16 : w5.cell? ⟨w.heap.size, 16, none⟩ = some (.int .i64 x.no) := Q5.out.cell rfl; have c17 : w5.cell? ⟨w.heap.size, 17, none⟩ = some (.int .i64 x.slot) := Q5.out.cell rfl; clear hb) | ((with_reducible show Calls _ 115 _ _ _); refine (inBare_yes v1 v2 v3 v4 c x.up w5 (HSb.out.below B5.out) (H1.out.below B5.out) (H2.out.below B5.out) (H3.out.below B5.out) (H4.out.below B5.out) HBb.out HM.out (by have q := H5.out; rw [any_fnd] at q; exact Int.not_lt.2 (of_decide_eq_true q))).mono ?_; rintro e w9 ⟨rfl, ⟨vs, hh⟩, hb, hfr⟩; have O9 := hI hh; have B9 := hI ((B5.out.mono HBw.out).trans hb); clear hh hb hfr))
 go_returns
 exact Did.yes HA.out rfl O9.out B9.out
set_option maxRecDepth 100000 in
set_option maxHeartbeats 2000000 in
theorem inChange_6a {B b : Nat} (v1 v2 v3 v4 : Value) (c : CA) (x : Ch) (w : World) (s : St 27 b #[v1, v2, v3, v4] w) (o1 : OwnAt 49 3 Hd.vs B v1 c.helds w) (o2 : OwnAt 57 11 Cd.vs B v2 c.files w) (o3 : OwnAt 61 3 Kn.vs B v3 c.names w) (o4 : OwnAt 66 3 Bk.vs B v4 c.blocks w) (hb : B ≤ b) (hm : c.lens 1073741823) (hx : x.num) (hok : x.ok = true) (hk : x.kind = 6) (_ho : c.Ok) (h1 : c.files.any (pFile x.up) = false) :
 Calls Tryz.prog 56 #[.pointer (some ⟨b, 0, none⟩), .agg x.vs.toArray] w (Did B b c x w) := by
 have hBw : B ≤ w.heap.size := Nat.le_trans hb (Nat.le_of_lt s.lt)
 have HBw := hI hBw
 have hst : St 40 w.heap.size x.vs.toArray (w.alloc (.cells x.vs.toArray 40 (0, 0))) := St.new w _ _
 have HST := hI hst
 have HCK := hI (show Calls Tryz.prog 39 #[.agg x.vs.toArray] (w.alloc (.cells x.vs.toArray 40 (0, 0))) fun e w' => e = .returned (.int .i64 0) ∧ Below (w.alloc (.cells x.vs.toArray 40 (0, 0))).heap.size (w.alloc (.cells x.vs.toArray 40 (0, 0))) w' from by
  have := recCheck_any x (w.alloc (.cells x.vs.toArray 40 (0, 0))) hx
  rw [hok] at this
  exact this)
 have HB1 := hI (show Below w.heap.size w (w.alloc (.cells x.vs.toArray 40 (0, 0))) from (Below.refl _ w).alloc (Nat.le_refl _) _)
 have H1 := hI o1
 have H2 := hI o2
 have H3 := hI o3
 have H4 := hI o4
 have HSb := hI s
 have HBb := hI hb
 have HM := hI hm
 have lb0 := hI s.lt
 have hf : fnd (pFile x.up) c.files < 0 := (by have := h1; rw [any_fnd] at this; exact Int.not_le.1 (of_decide_eq_false this))
 have H5 := hI h1
 have HA := hI (show (c.apply x).2 = false from by simp [CA.apply, hok, hk, hf])
 clear h1 _ho hf
 clear s o1 o2 o3 o4 hb hm hx hok hst hBw
 have HK := hI hk
 clear hk
 go_enter Tryz.func56, Tryz.ntmps56
 go_wp2_with (first | ((with_reducible show wpList _ _ _ ({ dst := _, op := .load 40 _, type := _, pos := _, after := _, guard := _ } :: _) _ _); refine wpList_load_st rfl 40 _ rfl w.heap.size (by first | rfl | simp [Act.eval, Act.put]) 40 x.vs.toArray HST.out _ Tryz.underlying40 rfl (by kernel_rfl) ?_) | ((with_reducible refine HCK.out.mono ?_); rintro e w5 ⟨rfl, hb⟩; have B5 := hI (HB1.out.trans (hb.mono HB1.out.size)); have Q5 := hI (HST.out.below hb); have c0 : w5.cell? ⟨w.heap.size, 0, none⟩ = some (.int .i64 6) := (by rw [← HK.out]; exact Q5.out.cell rfl); have c1 : w5.cell? ⟨w.heap.size, 1, none⟩ = some (.int .i64 x.epoch) := Q5.out.cell rfl; have c2 : w5.cell? ⟨w.heap.size, 2, none⟩ = some (.int .i64 x.serial) := Q5.out.cell rfl; have c3 : w5.cell? ⟨w.heap.size, 3, none⟩ = some (.string x.up) := Q5.out.cell rfl; have c4 : w5.cell? ⟨w.heap.size, 4, none⟩ = some (.string x.name) := Q5.out.cell rfl; have c5 : w5.cell? ⟨w.heap.size, 5, none⟩ = some (.string x.child) := Q5.out.cell rfl; have c6 : w5.cell? ⟨w.heap.size, 6, none⟩ = some (.int .i64 x.attr.ty) := Q5.out.cell rfl; have c7 : w5.cell? ⟨w.heap.size, 7, none⟩ = some (.int .i64 x.attr.mode) := Q5.out.cell rfl; have c8 : w5.cell? ⟨w.heap.size, 8, none⟩ = some (.int .i64 x.attr.nlink) := Q5.out.cell rfl; have c9 : w5.cell? ⟨w.heap.size, 9, none⟩ = some (.int .i64 x.attr.uid) := Q5.out.cell rfl; have c10 : w5.cell? ⟨w.heap.size, 10, none⟩ = some (.int .i64 x.attr.gid) := Q5.out.cell rfl; have c11 : w5.cell? ⟨w.heap.size, 11, none⟩ = some (.int .i64 x.attr.size) := Q5.out.cell rfl; have c12 : w5.cell? ⟨w.heap.size, 12, none⟩ = some (.int .i64 x.attr.id) := Q5.out.cell rfl; have c13 : w5.cell? ⟨w.heap.size, 13, none⟩ = some (.int .i64 x.attr.gen) := Q5.out.cell rfl; have c14 : w5.cell? ⟨w.heap.size, 14, none⟩ = some (.int .i64 x.attr.change) := Q5.out.cell rfl; have c15 : w5.cell? ⟨w.heap.size, 15, none⟩ = some (.int .i64 x.attr.time) := Q5.out.cell rfl; have c16 : w5.cell? ⟨w.heap.size, 16, none⟩ = some (.int .i64 x.no) := Q5.out.cell rfl; have c17 : w5.cell? ⟨w.heap.size, 17, none⟩ = some (.int .i64 x.slot) := Q5.out.cell rfl; clear hb) | ((with_reducible show Calls _ 117 _ _ _); refine (inSetName_no v1 v2 v3 v4 c ⟨x.up, x.name, x.child⟩ w5 (HSb.out.below B5.out) (H1.out.below B5.out) (H2.out.below B5.out) (H3.out.below B5.out) (H4.out.below B5.out) HBb.out HM.out H5.out).mono ?_; rintro e w9 ⟨rfl, hb⟩; have B9 := hI (B5.out.trans (hb.mono B5.out.size)); clear hb))
 go_returns
 exact Did.no HA.out rfl (B9.out.mono HBw.out)
set_option maxRecDepth 100000 in
set_option maxHeartbeats 2000000 in
theorem inChange_6b {B b : Nat} (v1 v2 v3 v4 : Value) (c : CA) (x : Ch) (w : World) (s : St 27 b #[v1, v2, v3, v4] w) (o1 : OwnAt 49 3 Hd.vs B v1 c.helds w) (o2 : OwnAt 57 11 Cd.vs B v2 c.files w) (o3 : OwnAt 61 3 Kn.vs B v3 c.names w) (o4 : OwnAt 66 3 Bk.vs B v4 c.blocks w) (hb : B ≤ b) (hm : c.lens 1073741823) (hx : x.num) (hok : x.ok = true) (hk : x.kind = 6) (ho : c.Ok) (h1 : c.files.any (pFile x.up) = true) :
 Calls Tryz.prog 56 #[.pointer (some ⟨b, 0, none⟩), .agg x.vs.toArray] w (Did B b c x w) := by
 have hBw : B ≤ w.heap.size := Nat.le_trans hb (Nat.le_of_lt s.lt)
 have HBw := hI hBw
 have hst : St 40 w.heap.size x.vs.toArray (w.alloc (.cells x.vs.toArray 40 (0, 0))) := St.new w _ _
 have HST := hI hst
 have HCK := hI (show Calls Tryz.prog 39 #[.agg x.vs.toArray] (w.alloc (.cells x.vs.toArray 40 (0, 0))) fun e w' => e = .returned (.int .i64 0) ∧ Below (w.alloc (.cells x.vs.toArray 40 (0, 0))).heap.size (w.alloc (.cells x.vs.toArray 40 (0, 0))) w' from by
  have := recCheck_any x (w.alloc (.cells x.vs.toArray 40 (0, 0))) hx
  rw [hok] at this
  exact this)
 have HB1 := hI (show Below w.heap.size w (w.alloc (.cells x.vs.toArray 40 (0, 0))) from (Below.refl _ w).alloc (Nat.le_refl _) _)
 have H1 := hI o1
 have H2 := hI o2
 have H3 := hI o3
 have H4 := hI o4
 have HSb := hI s
 have HBb := hI hb
 have HM := hI hm
 have lb0 := hI s.lt
 have hf : ¬ fnd (pFile x.up) c.files < 0 := (by have := h1; rw [any_fnd] at this; exact Int.not_lt.2 (of_decide_eq_true this))
 have H5 := hI h1
 have H7 := hI ho.names
 have HA := hI (show c.apply x = (⟨c.helds, c.files, putIn (fun y => !ltKn y ⟨x.up, x.name, x.child⟩) (fun y => !(decide (y.dir = x.up) && decide (y.name = x.name))) ⟨x.up, x.name, x.child⟩ c.names, c.blocks⟩, true) from by simp [CA.apply, hok, hk, hf])
 clear h1 ho hf
 clear s o1 o2 o3 o4 hb hm hx hok hst hBw
 have HK := hI hk
 clear hk
 go_enter Tryz.func56, Tryz.ntmps56
 go_wp2_with (first | ((with_reducible show wpList _ _ _ ({ dst := _, op := .load 40 _, type := _, pos := _, after := _, guard := _ } :: _) _ _); refine wpList_load_st rfl 40 _ rfl w.heap.size (by first | rfl | simp [Act.eval, Act.put]) 40 x.vs.toArray HST.out _ Tryz.underlying40 rfl (by kernel_rfl) ?_) | ((with_reducible refine HCK.out.mono ?_); rintro e w5 ⟨rfl, hb⟩; have B5 := hI (HB1.out.trans (hb.mono HB1.out.size)); have Q5 := hI (HST.out.below hb); have c0 : w5.cell? ⟨w.heap.size, 0, none⟩ = some (.int .i64 6) := (by rw [← HK.out]; exact Q5.out.cell rfl); have c1 : w5.cell? ⟨w.heap.size, 1, none⟩ = some (.int .i64 x.epoch) := Q5.out.cell rfl; have c2 : w5.cell? ⟨w.heap.size, 2, none⟩ = some (.int .i64 x.serial) := Q5.out.cell rfl; have c3 : w5.cell? ⟨w.heap.size, 3, none⟩ = some (.string x.up) := Q5.out.cell rfl; have c4 : w5.cell? ⟨w.heap.size, 4, none⟩ = some (.string x.name) := Q5.out.cell rfl; have c5 : w5.cell? ⟨w.heap.size, 5, none⟩ = some (.string x.child) := Q5.out.cell rfl; have c6 : w5.cell? ⟨w.heap.size, 6, none⟩ = some (.int .i64 x.attr.ty) := Q5.out.cell rfl; have c7 : w5.cell? ⟨w.heap.size, 7, none⟩ = some (.int .i64 x.attr.mode) := Q5.out.cell rfl; have c8 : w5.cell? ⟨w.heap.size, 8, none⟩ = some (.int .i64 x.attr.nlink) := Q5.out.cell rfl; have c9 : w5.cell? ⟨w.heap.size, 9, none⟩ = some (.int .i64 x.attr.uid) := Q5.out.cell rfl; have c10 : w5.cell? ⟨w.heap.size, 10, none⟩ = some (.int .i64 x.attr.gid) := Q5.out.cell rfl; have c11 : w5.cell? ⟨w.heap.size, 11, none⟩ = some (.int .i64 x.attr.size) := Q5.out.cell rfl; have c12 : w5.cell? ⟨w.heap.size, 12, none⟩ = some (.int .i64 x.attr.id) := Q5.out.cell rfl; have c13 : w5.cell? ⟨w.heap.size, 13, none⟩ = some (.int .i64 x.attr.gen) := Q5.out.cell rfl; have c14 : w5.cell? ⟨w.heap.size, 14, none⟩ = some (.int .i64 x.attr.change) := Q5.out.cell rfl; have c15 : w5.cell? ⟨w.heap.size, 15, none⟩ = some (.int .i64 x.attr.time) := Q5.out.cell rfl; have c16 : w5.cell? ⟨w.heap.size, 16, none⟩ = some (.int .i64 x.no) := Q5.out.cell rfl; have c17 : w5.cell? ⟨w.heap.size, 17, none⟩ = some (.int .i64 x.slot) := Q5.out.cell rfl; clear hb) | ((with_reducible show Calls _ 117 _ _ _); refine (inSetName_yes v1 v2 v3 v4 c ⟨x.up, x.name, x.child⟩ w5 (HSb.out.below B5.out) (H1.out.below B5.out) (H2.out.below B5.out) (H3.out.below B5.out) (H4.out.below B5.out) HBb.out HM.out H5.out H7.out).mono ?_; rintro e w9 ⟨rfl, ⟨vs, hh⟩, hb⟩; have O9 := hI hh; have B9 := hI ((B5.out.mono HBw.out).trans hb); clear hh hb))
 go_returns
 obtain ⟨i, hp, ho⟩ := O9.out
 rw [putAt_name hp H7.out] at ho
 exact Did.yes HA.out rfl ho B9.out
set_option maxRecDepth 100000 in
set_option maxHeartbeats 2000000 in
theorem inChange_8a {B b : Nat} (v1 v2 v3 v4 : Value) (c : CA) (x : Ch) (w : World) (s : St 27 b #[v1, v2, v3, v4] w) (o1 : OwnAt 49 3 Hd.vs B v1 c.helds w) (o2 : OwnAt 57 11 Cd.vs B v2 c.files w) (o3 : OwnAt 61 3 Kn.vs B v3 c.names w) (o4 : OwnAt 66 3 Bk.vs B v4 c.blocks w) (hb : B ≤ b) (hm : c.lens 1073741823) (hx : x.num) (hok : x.ok = true) (hk : x.kind = 8) (_ho : c.Ok) (h1 : c.files.any (pFile x.up) = false) :
 Calls Tryz.prog 56 #[.pointer (some ⟨b, 0, none⟩), .agg x.vs.toArray] w (Did B b c x w) := by
 have hBw : B ≤ w.heap.size := Nat.le_trans hb (Nat.le_of_lt s.lt)
 have HBw := hI hBw
 have hst : St 40 w.heap.size x.vs.toArray (w.alloc (.cells x.vs.toArray 40 (0, 0))) := St.new w _ _
 have HST := hI hst
 have HCK := hI (show Calls Tryz.prog 39 #[.agg x.vs.toArray] (w.alloc (.cells x.vs.toArray 40 (0, 0))) fun e w' => e = .returned (.int .i64 0) ∧ Below (w.alloc (.cells x.vs.toArray 40 (0, 0))).heap.size (w.alloc (.cells x.vs.toArray 40 (0, 0))) w' from by
  have := recCheck_any x (w.alloc (.cells x.vs.toArray 40 (0, 0))) hx
  rw [hok] at this
  exact this)
 have HB1 := hI (show Below w.heap.size w (w.alloc (.cells x.vs.toArray 40 (0, 0))) from (Below.refl _ w).alloc (Nat.le_refl _) _)
 have H1 := hI o1
 have H2 := hI o2
 have H3 := hI o3
 have H4 := hI o4
 have HSb := hI s
 have HBb := hI hb
 have HM := hI hm
 have lb0 := hI s.lt
 have hf : fnd (pFile x.up) c.files < 0 := (by have := h1; rw [any_fnd] at this; exact Int.not_le.1 (of_decide_eq_false this))
 have H5 := hI h1
 have HA := hI (show (c.apply x).2 = false from by simp [CA.apply, hok, hk, hf])
 clear h1 _ho hf
 clear s o1 o2 o3 o4 hb hm hx hok hst hBw
 have HK := hI hk
 clear hk
 go_enter Tryz.func56, Tryz.ntmps56
 go_wp2_with (first | ((with_reducible show wpList _ _ _ ({ dst := _, op := .load 40 _, type := _, pos := _, after := _, guard := _ } :: _) _ _); refine wpList_load_st rfl 40 _ rfl w.heap.size (by first | rfl | simp [Act.eval, Act.put]) 40 x.vs.toArray HST.out _ Tryz.underlying40 rfl (by kernel_rfl) ?_) | ((with_reducible refine HCK.out.mono ?_); rintro e w5 ⟨rfl, hb⟩; have B5 := hI (HB1.out.trans (hb.mono HB1.out.size)); have Q5 := hI (HST.out.below hb); have c0 : w5.cell? ⟨w.heap.size, 0, none⟩ = some (.int .i64 8) := (by rw [← HK.out]; exact Q5.out.cell rfl); have c1 : w5.cell? ⟨w.heap.size, 1, none⟩ = some (.int .i64 x.epoch) := Q5.out.cell rfl; have c2 : w5.cell? ⟨w.heap.size, 2, none⟩ = some (.int .i64 x.serial) := Q5.out.cell rfl; have c3 : w5.cell? ⟨w.heap.size, 3, none⟩ = some (.string x.up) := Q5.out.cell rfl; have c4 : w5.cell? ⟨w.heap.size, 4, none⟩ = some (.string x.name) := Q5.out.cell rfl; have c5 : w5.cell? ⟨w.heap.size, 5, none⟩ = some (.string x.child) := Q5.out.cell rfl; have c6 : w5.cell? ⟨w.heap.size, 6, none⟩ = some (.int .i64 x.attr.ty) := Q5.out.cell rfl; have c7 : w5.cell? ⟨w.heap.size, 7, none⟩ = some (.int .i64 x.attr.mode) := Q5.out.cell rfl; have c8 : w5.cell? ⟨w.heap.size, 8, none⟩ = some (.int .i64 x.attr.nlink) := Q5.out.cell rfl; have c9 : w5.cell? ⟨w.heap.size, 9, none⟩ = some (.int .i64 x.attr.uid) := Q5.out.cell rfl; have c10 : w5.cell? ⟨w.heap.size, 10, none⟩ = some (.int .i64 x.attr.gid) := Q5.out.cell rfl; have c11 : w5.cell? ⟨w.heap.size, 11, none⟩ = some (.int .i64 x.attr.size) := Q5.out.cell rfl; have c12 : w5.cell? ⟨w.heap.size, 12, none⟩ = some (.int .i64 x.attr.id) := Q5.out.cell rfl; have c13 : w5.cell? ⟨w.heap.size, 13, none⟩ = some (.int .i64 x.attr.gen) := Q5.out.cell rfl; have c14 : w5.cell? ⟨w.heap.size, 14, none⟩ = some (.int .i64 x.attr.change) := Q5.out.cell rfl; have c15 : w5.cell? ⟨w.heap.size, 15, none⟩ = some (.int .i64 x.attr.time) := Q5.out.cell rfl; have c16 : w5.cell? ⟨w.heap.size, 16, none⟩ = some (.int .i64 x.no) := Q5.out.cell rfl; have c17 : w5.cell? ⟨w.heap.size, 17, none⟩ = some (.int .i64 x.slot) := Q5.out.cell rfl; clear hb) | ((with_reducible show Calls _ 119 _ _ _); refine (inSetBlock_no1 v1 v2 v3 v4 c ⟨x.up, x.no, x.slot⟩ w5 (HSb.out.below B5.out) (H1.out.below B5.out) (H2.out.below B5.out) (H3.out.below B5.out) (H4.out.below B5.out) HBb.out HM.out H5.out).mono ?_; rintro e w9 ⟨rfl, hb⟩; have B9 := hI (B5.out.trans (hb.mono B5.out.size)); clear hb))
 go_returns
 exact Did.no HA.out rfl (B9.out.mono HBw.out)
set_option maxRecDepth 100000 in
set_option maxHeartbeats 2000000 in
theorem inChange_8b {B b : Nat} (v1 v2 v3 v4 : Value) (c : CA) (x : Ch) (w : World) (s : St 27 b #[v1, v2, v3, v4] w) (o1 : OwnAt 49 3 Hd.vs B v1 c.helds w) (o2 : OwnAt 57 11 Cd.vs B v2 c.files w) (o3 : OwnAt 61 3 Kn.vs B v3 c.names w) (o4 : OwnAt 66 3 Bk.vs B v4 c.blocks w) (hb : B ≤ b) (hm : c.lens 1073741823) (hx : x.num) (hok : x.ok = true) (hk : x.kind = 8) (_ho : c.Ok) (h1 : c.files.any (pFile x.up) = true) (h2 : c.blocks.any (tkn x) = true) :
 Calls Tryz.prog 56 #[.pointer (some ⟨b, 0, none⟩), .agg x.vs.toArray] w (Did B b c x w) := by
 have hBw : B ≤ w.heap.size := Nat.le_trans hb (Nat.le_of_lt s.lt)
 have HBw := hI hBw
 have hst : St 40 w.heap.size x.vs.toArray (w.alloc (.cells x.vs.toArray 40 (0, 0))) := St.new w _ _
 have HST := hI hst
 have HCK := hI (show Calls Tryz.prog 39 #[.agg x.vs.toArray] (w.alloc (.cells x.vs.toArray 40 (0, 0))) fun e w' => e = .returned (.int .i64 0) ∧ Below (w.alloc (.cells x.vs.toArray 40 (0, 0))).heap.size (w.alloc (.cells x.vs.toArray 40 (0, 0))) w' from by
  have := recCheck_any x (w.alloc (.cells x.vs.toArray 40 (0, 0))) hx
  rw [hok] at this
  exact this)
 have HB1 := hI (show Below w.heap.size w (w.alloc (.cells x.vs.toArray 40 (0, 0))) from (Below.refl _ w).alloc (Nat.le_refl _) _)
 have H1 := hI o1
 have H2 := hI o2
 have H3 := hI o3
 have H4 := hI o4
 have HSb := hI s
 have HBb := hI hb
 have HM := hI hm
 have lb0 := hI s.lt
 have hw : c.blocks.any (inWay ⟨x.up, x.no, x.slot⟩) = c.blocks.any (tkn x) := by rw [show inWay ⟨x.up, x.no, x.slot⟩ = tkn x from funext fun y => inWay_tkn x y]
 have hf : ¬ fnd (pFile x.up) c.files < 0 := (by have := h1; rw [any_fnd] at this; exact Int.not_lt.2 (of_decide_eq_true this))
 have H5 := hI h1
 have H6 := hI (hw.trans h2)
 have HA := hI (show (c.apply x).2 = false from by unfold CA.apply; rw [if_neg (by rw [hok]; decide), if_neg (by rw [hk]; decide), if_neg (by rw [hk]; decide), if_neg (by rw [hk]; decide), if_pos hk, if_pos (.inr h2)])
 clear h1 h2 _ho hf hw
 clear s o1 o2 o3 o4 hb hm hx hok hst hBw
 have HK := hI hk
 clear hk
 go_enter Tryz.func56, Tryz.ntmps56
 go_wp2_with (first | ((with_reducible show wpList _ _ _ ({ dst := _, op := .load 40 _, type := _, pos := _, after := _, guard := _ } :: _) _ _); refine wpList_load_st rfl 40 _ rfl w.heap.size (by first | rfl | simp [Act.eval, Act.put]) 40 x.vs.toArray HST.out _ Tryz.underlying40 rfl (by kernel_rfl) ?_) | ((with_reducible refine HCK.out.mono ?_); rintro e w5 ⟨rfl, hb⟩; have B5 := hI (HB1.out.trans (hb.mono HB1.out.size)); have Q5 := hI (HST.out.below hb); have c0 : w5.cell? ⟨w.heap.size, 0, none⟩ = some (.int .i64 8) := (by rw [← HK.out]; exact Q5.out.cell rfl); have c1 : w5.cell? ⟨w.heap.size, 1, none⟩ = some (.int .i64 x.epoch) := Q5.out.cell rfl; have c2 : w5.cell? ⟨w.heap.size, 2, none⟩ = some (.int .i64 x.serial) := Q5.out.cell rfl; have c3 : w5.cell? ⟨w.heap.size, 3, none⟩ = some (.string x.up) := Q5.out.cell rfl; have c4 : w5.cell? ⟨w.heap.size, 4, none⟩ = some (.string x.name) := Q5.out.cell rfl; have c5 : w5.cell? ⟨w.heap.size, 5, none⟩ = some (.string x.child) := Q5.out.cell rfl; have c6 : w5.cell? ⟨w.heap.size, 6, none⟩ = some (.int .i64 x.attr.ty) := Q5.out.cell rfl; have c7 : w5.cell? ⟨w.heap.size, 7, none⟩ = some (.int .i64 x.attr.mode) := Q5.out.cell rfl; have c8 : w5.cell? ⟨w.heap.size, 8, none⟩ = some (.int .i64 x.attr.nlink) := Q5.out.cell rfl; have c9 : w5.cell? ⟨w.heap.size, 9, none⟩ = some (.int .i64 x.attr.uid) := Q5.out.cell rfl; have c10 : w5.cell? ⟨w.heap.size, 10, none⟩ = some (.int .i64 x.attr.gid) := Q5.out.cell rfl; have c11 : w5.cell? ⟨w.heap.size, 11, none⟩ = some (.int .i64 x.attr.size) := Q5.out.cell rfl; have c12 : w5.cell? ⟨w.heap.size, 12, none⟩ = some (.int .i64 x.attr.id) := Q5.out.cell rfl; have c13 : w5.cell? ⟨w.heap.size, 13, none⟩ = some (.int .i64 x.attr.gen) := Q5.out.cell rfl; have c14 : w5.cell? ⟨w.heap.size, 14, none⟩ = some (.int .i64 x.attr.change) := Q5.out.cell rfl; have c15 : w5.cell? ⟨w.heap.size, 15, none⟩ = some (.int .i64 x.attr.time) := Q5.out.cell rfl; have c16 : w5.cell? ⟨w.heap.size, 16, none⟩ = some (.int .i64 x.no) := Q5.out.cell rfl; have c17 : w5.cell? ⟨w.heap.size, 17, none⟩ = some (.int .i64 x.slot) := Q5.out.cell rfl; clear hb) | ((with_reducible show Calls _ 119 _ _ _); refine (inSetBlock_no2 v1 v2 v3 v4 c ⟨x.up, x.no, x.slot⟩ w5 (HSb.out.below B5.out) (H1.out.below B5.out) (H2.out.below B5.out) (H3.out.below B5.out) (H4.out.below B5.out) HBb.out HM.out H5.out H6.out).mono ?_; rintro e w9 ⟨rfl, hb⟩; have B9 := hI (B5.out.trans (hb.mono B5.out.size)); clear hb))
 go_returns
 exact Did.no HA.out rfl (B9.out.mono HBw.out)
set_option maxRecDepth 100000 in
set_option maxHeartbeats 2000000 in
theorem inChange_8c {B b : Nat} (v1 v2 v3 v4 : Value) (c : CA) (x : Ch) (w : World) (s : St 27 b #[v1, v2, v3, v4] w) (o1 : OwnAt 49 3 Hd.vs B v1 c.helds w) (o2 : OwnAt 57 11 Cd.vs B v2 c.files w) (o3 : OwnAt 61 3 Kn.vs B v3 c.names w) (o4 : OwnAt 66 3 Bk.vs B v4 c.blocks w) (hb : B ≤ b) (hm : c.lens 1073741823) (hx : x.num) (hok : x.ok = true) (hk : x.kind = 8) (ho : c.Ok) (h1 : c.files.any (pFile x.up) = true) (h2 : c.blocks.any (tkn x) = false) :
 Calls Tryz.prog 56 #[.pointer (some ⟨b, 0, none⟩), .agg x.vs.toArray] w (Did B b c x w) := by
 have hBw : B ≤ w.heap.size := Nat.le_trans hb (Nat.le_of_lt s.lt)
 have HBw := hI hBw
 have hst : St 40 w.heap.size x.vs.toArray (w.alloc (.cells x.vs.toArray 40 (0, 0))) := St.new w _ _
 have HST := hI hst
 have HCK := hI (show Calls Tryz.prog 39 #[.agg x.vs.toArray] (w.alloc (.cells x.vs.toArray 40 (0, 0))) fun e w' => e = .returned (.int .i64 0) ∧ Below (w.alloc (.cells x.vs.toArray 40 (0, 0))).heap.size (w.alloc (.cells x.vs.toArray 40 (0, 0))) w' from by
  have := recCheck_any x (w.alloc (.cells x.vs.toArray 40 (0, 0))) hx
  rw [hok] at this
  exact this)
 have HB1 := hI (show Below w.heap.size w (w.alloc (.cells x.vs.toArray 40 (0, 0))) from (Below.refl _ w).alloc (Nat.le_refl _) _)
 have H1 := hI o1
 have H2 := hI o2
 have H3 := hI o3
 have H4 := hI o4
 have HSb := hI s
 have HBb := hI hb
 have HM := hI hm
 have lb0 := hI s.lt
 have hw : c.blocks.any (inWay ⟨x.up, x.no, x.slot⟩) = c.blocks.any (tkn x) := by rw [show inWay ⟨x.up, x.no, x.slot⟩ = tkn x from funext fun y => inWay_tkn x y]
 have hf : ¬ fnd (pFile x.up) c.files < 0 := (by have := h1; rw [any_fnd] at this; exact Int.not_lt.2 (of_decide_eq_true this))
 have H5 := hI h1
 have H6 := hI (hw.trans h2)
 have H7 := hI ho.blocks
 have HA := hI (show c.apply x = (⟨c.helds, c.files, c.names, putIn (fun y => !ltBk y ⟨x.up, x.no, x.slot⟩) (fun y => !(decide (y.up = x.up) && decide (y.no = x.no))) ⟨x.up, x.no, x.slot⟩ c.blocks⟩, true) from by unfold CA.apply; rw [if_neg (by rw [hok]; decide), if_neg (by rw [hk]; decide), if_neg (by rw [hk]; decide), if_neg (by rw [hk]; decide), if_pos hk, if_neg (fun h => by rcases h with h | h; exact hf h; rw [h2] at h; cases h)])
 clear h1 h2 ho hf hw
 clear s o1 o2 o3 o4 hb hm hx hok hst hBw
 have HK := hI hk
 clear hk
 go_enter Tryz.func56, Tryz.ntmps56
 go_wp2_with (first | ((with_reducible show wpList _ _ _ ({ dst := _, op := .load 40 _, type := _, pos := _, after := _, guard := _ } :: _) _ _); refine wpList_load_st rfl 40 _ rfl w.heap.size (by first | rfl | simp [Act.eval, Act.put]) 40 x.vs.toArray HST.out _ Tryz.underlying40 rfl (by kernel_rfl) ?_) | ((with_reducible refine HCK.out.mono ?_); rintro e w5 ⟨rfl, hb⟩; have B5 := hI (HB1.out.trans (hb.mono HB1.out.size)); have Q5 := hI (HST.out.below hb); have c0 : w5.cell? ⟨w.heap.size, 0, none⟩ = some (.int .i64 8) := (by rw [← HK.out]; exact Q5.out.cell rfl); have c1 : w5.cell? ⟨w.heap.size, 1, none⟩ = some (.int .i64 x.epoch) := Q5.out.cell rfl; have c2 : w5.cell? ⟨w.heap.size, 2, none⟩ = some (.int .i64 x.serial) := Q5.out.cell rfl; have c3 : w5.cell? ⟨w.heap.size, 3, none⟩ = some (.string x.up) := Q5.out.cell rfl; have c4 : w5.cell? ⟨w.heap.size, 4, none⟩ = some (.string x.name) := Q5.out.cell rfl; have c5 : w5.cell? ⟨w.heap.size, 5, none⟩ = some (.string x.child) := Q5.out.cell rfl; have c6 : w5.cell? ⟨w.heap.size, 6, none⟩ = some (.int .i64 x.attr.ty) := Q5.out.cell rfl; have c7 : w5.cell? ⟨w.heap.size, 7, none⟩ = some (.int .i64 x.attr.mode) := Q5.out.cell rfl; have c8 : w5.cell? ⟨w.heap.size, 8, none⟩ = some (.int .i64 x.attr.nlink) := Q5.out.cell rfl; have c9 : w5.cell? ⟨w.heap.size, 9, none⟩ = some (.int .i64 x.attr.uid) := Q5.out.cell rfl; have c10 : w5.cell? ⟨w.heap.size, 10, none⟩ = some (.int .i64 x.attr.gid) := Q5.out.cell rfl; have c11 : w5.cell? ⟨w.heap.size, 11, none⟩ = some (.int .i64 x.attr.size) := Q5.out.cell rfl; have c12 : w5.cell? ⟨w.heap.size, 12, none⟩ = some (.int .i64 x.attr.id) := Q5.out.cell rfl; have c13 : w5.cell? ⟨w.heap.size, 13, none⟩ = some (.int .i64 x.attr.gen) := Q5.out.cell rfl; have c14 : w5.cell? ⟨w.heap.size, 14, none⟩ = some (.int .i64 x.attr.change) := Q5.out.cell rfl; have c15 : w5.cell? ⟨w.heap.size, 15, none⟩ = some (.int .i64 x.attr.time) := Q5.out.cell rfl; have c16 : w5.cell? ⟨w.heap.size, 16, none⟩ = some (.int .i64 x.no) := Q5.out.cell rfl; have c17 : w5.cell? ⟨w.heap.size, 17, none⟩ = some (.int .i64 x.slot) := Q5.out.cell rfl; clear hb) | ((with_reducible show Calls _ 119 _ _ _); refine (inSetBlock_yes v1 v2 v3 v4 c ⟨x.up, x.no, x.slot⟩ w5 (HSb.out.below B5.out) (H1.out.below B5.out) (H2.out.below B5.out) (H3.out.below B5.out) (H4.out.below B5.out) HBb.out HM.out H5.out H6.out H7.out).mono ?_; rintro e w9 ⟨rfl, ⟨vs, hh⟩, hb⟩; have O9 := hI hh; have B9 := hI ((B5.out.mono HBw.out).trans hb); clear hh hb))
 go_returns
 obtain ⟨i, hp, ho⟩ := O9.out
 rw [putAt_block hp H7.out] at ho
 exact Did.yes HA.out rfl ho B9.out
set_option maxRecDepth 100000 in
set_option maxHeartbeats 2000000 in
theorem inChange_2 {B b : Nat} (v1 v2 v3 v4 : Value) (c : CA) (x : Ch) (w : World) (s : St 27 b #[v1, v2, v3, v4] w) (o1 : OwnAt 49 3 Hd.vs B v1 c.helds w) (o2 : OwnAt 57 11 Cd.vs B v2 c.files w) (o3 : OwnAt 61 3 Kn.vs B v3 c.names w) (o4 : OwnAt 66 3 Bk.vs B v4 c.blocks w) (hb : B ≤ b) (hm : c.lens 1073741823) (hx : x.num) (hok : x.ok = true) (hk : x.kind = 2) (ho : c.Ok) :
 Calls Tryz.prog 56 #[.pointer (some ⟨b, 0, none⟩), .agg x.vs.toArray] w (Did B b c x w) := by
 have hBw : B ≤ w.heap.size := Nat.le_trans hb (Nat.le_of_lt s.lt)
 have HBw := hI hBw
 have hst : St 40 w.heap.size x.vs.toArray (w.alloc (.cells x.vs.toArray 40 (0, 0))) := St.new w _ _
 have HST := hI hst
 have HCK := hI (show Calls Tryz.prog 39 #[.agg x.vs.toArray] (w.alloc (.cells x.vs.toArray 40 (0, 0))) fun e w' => e = .returned (.int .i64 0) ∧ Below (w.alloc (.cells x.vs.toArray 40 (0, 0))).heap.size (w.alloc (.cells x.vs.toArray 40 (0, 0))) w' from by
  have := recCheck_any x (w.alloc (.cells x.vs.toArray 40 (0, 0))) hx
  rw [hok] at this
  exact this)
 have HB1 := hI (show Below w.heap.size w (w.alloc (.cells x.vs.toArray 40 (0, 0))) from (Below.refl _ w).alloc (Nat.le_refl _) _)
 have H1 := hI o1
 have H2 := hI o2
 have H3 := hI o3
 have H4 := hI o4
 have HSb := hI s
 have HBb := hI hb
 have HM := hI hm
 have lb0 := hI s.lt
 have HNO := hI (show fnd (pHeld x.epoch x.serial) c.helds < 0 → (c.apply x).2 = false from fun hf => by simp [CA.apply, CA.goes, hok, hk, hf])
 have HYES := hI (show ¬ fnd (pHeld x.epoch x.serial) c.helds < 0 → c.apply x = (⟨c.helds.filter (fun y => !pHeld x.epoch x.serial y), c.files, c.names, c.blocks⟩, true) from fun hf => by
  rw [gone_one (one_held ho.helds x.epoch x.serial) hf]
  simp [CA.apply, CA.goes, hok, hk, hf])
 clear ho
 clear s o1 o2 o3 o4 hb hm hx hok hst hBw
 have HK := hI hk
 clear hk
 go_enter Tryz.func56, Tryz.ntmps56
 go_wp2_with (first | ((with_reducible show wpList _ _ _ ({ dst := _, op := .load 40 _, type := _, pos := _, after := _, guard := _ } :: _) _ _); refine wpList_load_st rfl 40 _ rfl w.heap.size (by first | rfl | simp [Act.eval, Act.put]) 40 x.vs.toArray HST.out _ Tryz.underlying40 rfl (by kernel_rfl) ?_) | ((with_reducible refine HCK.out.mono ?_); rintro e w5 ⟨rfl, hb⟩; have B5 := hI (HB1.out.trans (hb.mono HB1.out.size)); have Q5 := hI (HST.out.below hb); have c0 : w5.cell? ⟨w.heap.size, 0, none⟩ = some (.int .i64 2) := (by rw [← HK.out]; exact Q5.out.cell rfl); have c1 : w5.cell? ⟨w.heap.size, 1, none⟩ = some (.int .i64 x.epoch) := Q5.out.cell rfl; have c2 : w5.cell? ⟨w.heap.size, 2, none⟩ = some (.int .i64 x.serial) := Q5.out.cell rfl; have c3 : w5.cell? ⟨w.heap.size, 3, none⟩ = some (.string x.up) := Q5.out.cell rfl; have c4 : w5.cell? ⟨w.heap.size, 4, none⟩ = some (.string x.name) := Q5.out.cell rfl; have c5 : w5.cell? ⟨w.heap.size, 5, none⟩ = some (.string x.child) := Q5.out.cell rfl; have c6 : w5.cell? ⟨w.heap.size, 6, none⟩ = some (.int .i64 x.attr.ty) := Q5.out.cell rfl; have c7 : w5.cell? ⟨w.heap.size, 7, none⟩ = some (.int .i64 x.attr.mode) := Q5.out.cell rfl; have c8 : w5.cell? ⟨w.heap.size, 8, none⟩ = some (.int .i64 x.attr.nlink) := Q5.out.cell rfl; have c9 : w5.cell? ⟨w.heap.size, 9, none⟩ = some (.int .i64 x.attr.uid) := Q5.out.cell rfl; have c10 : w5.cell? ⟨w.heap.size, 10, none⟩ = some (.int .i64 x.attr.gid) := Q5.out.cell rfl; have c11 : w5.cell? ⟨w.heap.size, 11, none⟩ = some (.int .i64 x.attr.size) := Q5.out.cell rfl; have c12 : w5.cell? ⟨w.heap.size, 12, none⟩ = some (.int .i64 x.attr.id) := Q5.out.cell rfl; have c13 : w5.cell? ⟨w.heap.size, 13, none⟩ = some (.int .i64 x.attr.gen) := Q5.out.cell rfl; have c14 : w5.cell? ⟨w.heap.size, 14, none⟩ = some (.int .i64 x.attr.change) := Q5.out.cell rfl; have c15 : w5.cell? ⟨w.heap.size, 15, none⟩ = some (.int .i64 x.attr.time) := Q5.out.cell rfl; have c16 : w5.cell? ⟨w.heap.size, 16, none⟩ = some (.int .i64 x.no) := Q5.out.cell rfl; have c17 : w5.cell? ⟨w.heap.size, 17, none⟩ = some (.int .i64 x.slot) := Q5.out.cell rfl; clear hb))
 have HS := hI (show ∀ W, Below w5.heap.size w5 W → W.cell? ⟨w.heap.size, 1, none⟩ = some (.int .i64 x.epoch) ∧ W.cell? ⟨w.heap.size, 2, none⟩ = some (.int .i64 x.serial) from fun W hW => ⟨(Q5.out.below hW).cell rfl, (Q5.out.below hW).cell rfl⟩)
 have HBD := hI (show Below w5.heap.size w5 w5.drew from (Below.refl _ _).drew)
 have C0 := hI (HS.out _ HBD.out)
 refine wp_region_held (S := (fun W => W.cell? ⟨w.heap.size, 1, none⟩ = some (.int .i64 x.epoch) ∧ W.cell? ⟨w.heap.size, 2, none⟩ = some (.int .i64 x.serial))) (by kernel_rfl) ?_
 change wpAnyH _ _ _ _ _ _ _ _ (World.drew _)
 generalize World.drew w5 = WD at HBD C0 ⊢
 refine tkp 0 (.pointer (some ⟨b, 0, none⟩)) rfl (by kernel_rfl) q3 (fun w' hS => ?_) C0.out ?_
 · clear hS; go_simp
 try go_simp
 refine tkp 1 (.pointer (some ⟨b, 0, none⟩)) rfl (by kernel_rfl) q3 (fun w' hS => ?_) C0.out ?_
 · clear hS; go_simp
 try go_simp
 refine tkp 2 (.pointer (some ⟨b, 0, none⟩)) rfl (by kernel_rfl) q3 (fun w' hS => ?_) C0.out ?_
 · clear hS; go_simp
 try go_simp
 refine tkp 3 (.pointer (some ⟨w.heap.size, 1, none⟩)) rfl (by kernel_rfl) q3 (fun w' hS => ?_) C0.out ?_
 · clear hS; go_simp
 try go_simp
 refine tkp 4 (.int .i64 x.epoch) rfl (by kernel_rfl) q3 (fun w' hS => ?_) C0.out ?_
 · obtain ⟨s0, s1⟩ := hS; go_simp
 try go_simp
 refine tkp 5 (.pointer (some ⟨w.heap.size, 2, none⟩)) rfl (by kernel_rfl) q3 (fun w' hS => ?_) C0.out ?_
 · clear hS; go_simp
 try go_simp
 refine tkp 6 (.int .i64 x.serial) rfl (by kernel_rfl) q3 (fun w' hS => ?_) C0.out ?_
 · obtain ⟨s0, s1⟩ := hS; go_simp
 try go_simp
 refine rd1 7 (by kernel_rfl) rfl fun K hK => ?_
 go_simp
 refine (inqHandle_any x.epoch x.serial _).mono ?_
 rintro e w7 ⟨lb, rfl, hb, hp⟩
 have HP := hI hp
 have HL5 := hI (show w.heap.size ≤ WD.heap.size from Nat.le_trans B5.out.size HBD.out.size)
 clear hp
 have B7 := hI (HBD.out.trans (hb.mono HBD.out.size))
 clear hb
 go_simp
 refine hK.out _ _ (HS.out _ B7.out) (fun S1 => ?_)
 clear hK K S1
 refine rd1 8 (by kernel_rfl) rfl fun K hK => ?_
 go_simp
 have A7 := hI (B5.out.trans (B7.out.mono B5.out.size))
 refine (inDropHeld_any v1 v2 v3 v4 c.helds (pHeld x.epoch x.serial) 122 lb w7 (H1.out.below A7.out) (HSb.out.below A7.out) HM.out.1 (enters_of Tryz.func122 (by kernel_rfl) rfl) (HP.out.later (Frm.refl _ _) (fun j hj => .inl (Nat.lt_of_lt_of_le (World.ownsRow.lt H1.out j hj).2 HL5.out)))).mono ?_
 rintro e w9 ⟨v', rfl, ho, hs, hf⟩
 have T9 := hI (OwnC.turn1 (HSb.out.below A7.out) (H1.out.below A7.out) (H2.out.below A7.out) (H3.out.below A7.out) (H4.out.below A7.out) ho hs hf HBb.out)
 have C9 := hI (show w9.cell? ⟨w.heap.size, 1, none⟩ = some (.int .i64 x.epoch) ∧ w9.cell? ⟨w.heap.size, 2, none⟩ = some (.int .i64 x.serial) from by
  have s9 := St.frm (Q5.out.below B7.out) hf (fun e => by rcases e with e | e; exact Nat.lt_irrefl _ ((World.ownsRow.lt H1.out _ e).2); exact absurd lb0.out (by rw [← e]; exact Nat.lt_irrefl _))
  exact ⟨s9.cell rfl, s9.cell rfl⟩)
 obtain ⟨r, hr⟩ : ∃ r, r = c.helds.any (pHeld x.epoch x.serial) := ⟨_, rfl⟩
 rw [← hr]
 have HRR := hI hr
 clear ho hs hf hr
 go_simp
 refine hK.out _ _ C9.out (fun S1 => ?_)
 clear hK K S1
 refine rd1 9 (by kernel_rfl) rfl fun K hK => ?_
 go_simp
 refine hK.out _ _ C9.out (fun S1 => ?_)
 clear hK K S1
 refine wpAnyH_done (by kernel_rfl) ?_ _
 go_wp2
 go_returns
 by_cases hf : fnd (pHeld x.epoch x.serial) c.helds < 0
 · exact Did.no (HNO.out hf) (by rw [HRR.out, any_fnd, decide_eq_false (Int.not_le.2 hf)]; rfl) ((A7.out.mono HBw.out).trans T9.out.2)
 · exact Did.yes (HYES.out (Int.not_lt.1 hf)) (by rw [HRR.out, any_fnd, decide_eq_true (Int.not_lt.1 hf)]; rfl) T9.out.1 ((A7.out.mono HBw.out).trans T9.out.2)
set_option maxRecDepth 100000 in
set_option maxHeartbeats 2000000 in
theorem inChange_7 {B b : Nat} (v1 v2 v3 v4 : Value) (c : CA) (x : Ch) (w : World) (s : St 27 b #[v1, v2, v3, v4] w) (o1 : OwnAt 49 3 Hd.vs B v1 c.helds w) (o2 : OwnAt 57 11 Cd.vs B v2 c.files w) (o3 : OwnAt 61 3 Kn.vs B v3 c.names w) (o4 : OwnAt 66 3 Bk.vs B v4 c.blocks w) (hb : B ≤ b) (hm : c.lens 1073741823) (hx : x.num) (hok : x.ok = true) (hk : x.kind = 7) (ho : c.Ok) :
 Calls Tryz.prog 56 #[.pointer (some ⟨b, 0, none⟩), .agg x.vs.toArray] w (Did B b c x w) := by
 have hBw : B ≤ w.heap.size := Nat.le_trans hb (Nat.le_of_lt s.lt)
 have HBw := hI hBw
 have hst : St 40 w.heap.size x.vs.toArray (w.alloc (.cells x.vs.toArray 40 (0, 0))) := St.new w _ _
 have HST := hI hst
 have HCK := hI (show Calls Tryz.prog 39 #[.agg x.vs.toArray] (w.alloc (.cells x.vs.toArray 40 (0, 0))) fun e w' => e = .returned (.int .i64 0) ∧ Below (w.alloc (.cells x.vs.toArray 40 (0, 0))).heap.size (w.alloc (.cells x.vs.toArray 40 (0, 0))) w' from by
  have := recCheck_any x (w.alloc (.cells x.vs.toArray 40 (0, 0))) hx
  rw [hok] at this
  exact this)
 have HB1 := hI (show Below w.heap.size w (w.alloc (.cells x.vs.toArray 40 (0, 0))) from (Below.refl _ w).alloc (Nat.le_refl _) _)
 have H1 := hI o1
 have H2 := hI o2
 have H3 := hI o3
 have H4 := hI o4
 have HSb := hI s
 have HBb := hI hb
 have HM := hI hm
 have lb0 := hI s.lt
 have HNO := hI (show fnd (pName x.up x.name) c.names < 0 → (c.apply x).2 = false from fun hf => by simp [CA.apply, CA.goes, hok, hk, hf])
 have HYES := hI (show ¬ fnd (pName x.up x.name) c.names < 0 → c.apply x = (⟨c.helds, c.files, c.names.filter (fun y => !pName x.up x.name y), c.blocks⟩, true) from fun hf => by
  rw [gone_one (one_name ho.names x.up x.name) hf]
  simp [CA.apply, CA.goes, hok, hk, hf])
 clear ho
 clear s o1 o2 o3 o4 hb hm hx hok hst hBw
 have HK := hI hk
 clear hk
 go_enter Tryz.func56, Tryz.ntmps56
 go_wp2_with (first | ((with_reducible show wpList _ _ _ ({ dst := _, op := .load 40 _, type := _, pos := _, after := _, guard := _ } :: _) _ _); refine wpList_load_st rfl 40 _ rfl w.heap.size (by first | rfl | simp [Act.eval, Act.put]) 40 x.vs.toArray HST.out _ Tryz.underlying40 rfl (by kernel_rfl) ?_) | ((with_reducible refine HCK.out.mono ?_); rintro e w5 ⟨rfl, hb⟩; have B5 := hI (HB1.out.trans (hb.mono HB1.out.size)); have Q5 := hI (HST.out.below hb); have c0 : w5.cell? ⟨w.heap.size, 0, none⟩ = some (.int .i64 7) := (by rw [← HK.out]; exact Q5.out.cell rfl); have c1 : w5.cell? ⟨w.heap.size, 1, none⟩ = some (.int .i64 x.epoch) := Q5.out.cell rfl; have c2 : w5.cell? ⟨w.heap.size, 2, none⟩ = some (.int .i64 x.serial) := Q5.out.cell rfl; have c3 : w5.cell? ⟨w.heap.size, 3, none⟩ = some (.string x.up) := Q5.out.cell rfl; have c4 : w5.cell? ⟨w.heap.size, 4, none⟩ = some (.string x.name) := Q5.out.cell rfl; have c5 : w5.cell? ⟨w.heap.size, 5, none⟩ = some (.string x.child) := Q5.out.cell rfl; have c6 : w5.cell? ⟨w.heap.size, 6, none⟩ = some (.int .i64 x.attr.ty) := Q5.out.cell rfl; have c7 : w5.cell? ⟨w.heap.size, 7, none⟩ = some (.int .i64 x.attr.mode) := Q5.out.cell rfl; have c8 : w5.cell? ⟨w.heap.size, 8, none⟩ = some (.int .i64 x.attr.nlink) := Q5.out.cell rfl; have c9 : w5.cell? ⟨w.heap.size, 9, none⟩ = some (.int .i64 x.attr.uid) := Q5.out.cell rfl; have c10 : w5.cell? ⟨w.heap.size, 10, none⟩ = some (.int .i64 x.attr.gid) := Q5.out.cell rfl; have c11 : w5.cell? ⟨w.heap.size, 11, none⟩ = some (.int .i64 x.attr.size) := Q5.out.cell rfl; have c12 : w5.cell? ⟨w.heap.size, 12, none⟩ = some (.int .i64 x.attr.id) := Q5.out.cell rfl; have c13 : w5.cell? ⟨w.heap.size, 13, none⟩ = some (.int .i64 x.attr.gen) := Q5.out.cell rfl; have c14 : w5.cell? ⟨w.heap.size, 14, none⟩ = some (.int .i64 x.attr.change) := Q5.out.cell rfl; have c15 : w5.cell? ⟨w.heap.size, 15, none⟩ = some (.int .i64 x.attr.time) := Q5.out.cell rfl; have c16 : w5.cell? ⟨w.heap.size, 16, none⟩ = some (.int .i64 x.no) := Q5.out.cell rfl; have c17 : w5.cell? ⟨w.heap.size, 17, none⟩ = some (.int .i64 x.slot) := Q5.out.cell rfl; clear hb))
 have HS := hI (show ∀ W, Below w5.heap.size w5 W → W.cell? ⟨w.heap.size, 3, none⟩ = some (.string x.up) ∧ W.cell? ⟨w.heap.size, 4, none⟩ = some (.string x.name) from fun W hW => ⟨(Q5.out.below hW).cell rfl, (Q5.out.below hW).cell rfl⟩)
 have HBD := hI (show Below w5.heap.size w5 w5.drew from (Below.refl _ _).drew)
 have C0 := hI (HS.out _ HBD.out)
 refine wp_region_held (S := (fun W => W.cell? ⟨w.heap.size, 3, none⟩ = some (.string x.up) ∧ W.cell? ⟨w.heap.size, 4, none⟩ = some (.string x.name))) (by kernel_rfl) ?_
 change wpAnyH _ _ _ _ _ _ _ _ (World.drew _)
 generalize World.drew w5 = WD at HBD C0 ⊢
 refine tkp 0 (.pointer (some ⟨b, 0, none⟩)) rfl (by kernel_rfl) q3 (fun w' hS => ?_) C0.out ?_
 · clear hS; go_simp
 try go_simp
 refine tkp 1 (.pointer (some ⟨b, 0, none⟩)) rfl (by kernel_rfl) q3 (fun w' hS => ?_) C0.out ?_
 · clear hS; go_simp
 try go_simp
 refine tkp 2 (.pointer (some ⟨b, 2, none⟩)) rfl (by kernel_rfl) q3 (fun w' hS => ?_) C0.out ?_
 · clear hS; go_simp
 try go_simp
 refine tkp 3 (.pointer (some ⟨w.heap.size, 3, none⟩)) rfl (by kernel_rfl) q3 (fun w' hS => ?_) C0.out ?_
 · clear hS; go_simp
 try go_simp
 refine tkp 4 (.string x.up) rfl (by kernel_rfl) q3 (fun w' hS => ?_) C0.out ?_
 · obtain ⟨s0, s1⟩ := hS; go_simp
 try go_simp
 refine tkp 5 (.pointer (some ⟨w.heap.size, 4, none⟩)) rfl (by kernel_rfl) q3 (fun w' hS => ?_) C0.out ?_
 · clear hS; go_simp
 try go_simp
 refine tkp 6 (.string x.name) rfl (by kernel_rfl) q3 (fun w' hS => ?_) C0.out ?_
 · obtain ⟨s0, s1⟩ := hS; go_simp
 try go_simp
 refine rd1 7 (by kernel_rfl) rfl fun K hK => ?_
 go_simp
 refine (inqName_any x.up x.name _).mono ?_
 rintro e w7 ⟨lb, rfl, hb, hp⟩
 have HP := hI hp
 have HL5 := hI (show w.heap.size ≤ WD.heap.size from Nat.le_trans B5.out.size HBD.out.size)
 clear hp
 have B7 := hI (HBD.out.trans (hb.mono HBD.out.size))
 clear hb
 go_simp
 refine hK.out _ _ (HS.out _ B7.out) (fun S1 => ?_)
 clear hK K S1
 refine rd1 8 (by kernel_rfl) rfl fun K hK => ?_
 go_simp
 have A7 := hI (B5.out.trans (B7.out.mono B5.out.size))
 refine (inDropKnown_any v1 v2 v3 v4 c.names (pName x.up x.name) 127 lb w7 (H3.out.below A7.out) (HSb.out.below A7.out) HM.out.2.2.1 (enters_of Tryz.func127 (by kernel_rfl) rfl) (HP.out.later (Frm.refl _ _) (fun j hj => .inl (Nat.lt_of_lt_of_le (World.ownsRow.lt H3.out j hj).2 HL5.out)))).mono ?_
 rintro e w9 ⟨v', rfl, ho, hs, hf⟩
 have T9 := hI (OwnC.turn3 (HSb.out.below A7.out) (H1.out.below A7.out) (H2.out.below A7.out) (H3.out.below A7.out) (H4.out.below A7.out) ho hs hf HBb.out)
 have C9 := hI (show w9.cell? ⟨w.heap.size, 3, none⟩ = some (.string x.up) ∧ w9.cell? ⟨w.heap.size, 4, none⟩ = some (.string x.name) from by
  have s9 := St.frm (Q5.out.below B7.out) hf (fun e => by rcases e with e | e; exact Nat.lt_irrefl _ ((World.ownsRow.lt H3.out _ e).2); exact absurd lb0.out (by rw [← e]; exact Nat.lt_irrefl _))
  exact ⟨s9.cell rfl, s9.cell rfl⟩)
 obtain ⟨r, hr⟩ : ∃ r, r = c.names.any (pName x.up x.name) := ⟨_, rfl⟩
 rw [← hr]
 have HRR := hI hr
 clear ho hs hf hr
 go_simp
 refine hK.out _ _ C9.out (fun S1 => ?_)
 clear hK K S1
 refine rd1 9 (by kernel_rfl) rfl fun K hK => ?_
 go_simp
 refine hK.out _ _ C9.out (fun S1 => ?_)
 clear hK K S1
 refine wpAnyH_done (by kernel_rfl) ?_ _
 go_wp2
 go_returns
 by_cases hf : fnd (pName x.up x.name) c.names < 0
 · exact Did.no (HNO.out hf) (by rw [HRR.out, any_fnd, decide_eq_false (Int.not_le.2 hf)]; rfl) ((A7.out.mono HBw.out).trans T9.out.2)
 · exact Did.yes (HYES.out (Int.not_lt.1 hf)) (by rw [HRR.out, any_fnd, decide_eq_true (Int.not_lt.1 hf)]; rfl) T9.out.1 ((A7.out.mono HBw.out).trans T9.out.2)
set_option maxRecDepth 100000 in
set_option maxHeartbeats 2000000 in
theorem inChange_9 {B b : Nat} (v1 v2 v3 v4 : Value) (c : CA) (x : Ch) (w : World) (s : St 27 b #[v1, v2, v3, v4] w) (o1 : OwnAt 49 3 Hd.vs B v1 c.helds w) (o2 : OwnAt 57 11 Cd.vs B v2 c.files w) (o3 : OwnAt 61 3 Kn.vs B v3 c.names w) (o4 : OwnAt 66 3 Bk.vs B v4 c.blocks w) (hb : B ≤ b) (hm : c.lens 1073741823) (hx : x.num) (hok : x.ok = true) (hk : x.kind = 9) (ho : c.Ok) :
 Calls Tryz.prog 56 #[.pointer (some ⟨b, 0, none⟩), .agg x.vs.toArray] w (Did B b c x w) := by
 have hBw : B ≤ w.heap.size := Nat.le_trans hb (Nat.le_of_lt s.lt)
 have HBw := hI hBw
 have hst : St 40 w.heap.size x.vs.toArray (w.alloc (.cells x.vs.toArray 40 (0, 0))) := St.new w _ _
 have HST := hI hst
 have HCK := hI (show Calls Tryz.prog 39 #[.agg x.vs.toArray] (w.alloc (.cells x.vs.toArray 40 (0, 0))) fun e w' => e = .returned (.int .i64 0) ∧ Below (w.alloc (.cells x.vs.toArray 40 (0, 0))).heap.size (w.alloc (.cells x.vs.toArray 40 (0, 0))) w' from by
  have := recCheck_any x (w.alloc (.cells x.vs.toArray 40 (0, 0))) hx
  rw [hok] at this
  exact this)
 have HB1 := hI (show Below w.heap.size w (w.alloc (.cells x.vs.toArray 40 (0, 0))) from (Below.refl _ w).alloc (Nat.le_refl _) _)
 have H1 := hI o1
 have H2 := hI o2
 have H3 := hI o3
 have H4 := hI o4
 have HSb := hI s
 have HBb := hI hb
 have HM := hI hm
 have lb0 := hI s.lt
 have HNO := hI (show fnd (pBlock x.up x.no) c.blocks < 0 → (c.apply x).2 = false from fun hf => by simp [CA.apply, CA.goes, hok, hk, hf])
 have HYES := hI (show ¬ fnd (pBlock x.up x.no) c.blocks < 0 → c.apply x = (⟨c.helds, c.files, c.names, c.blocks.filter (fun y => !pBlock x.up x.no y)⟩, true) from fun hf => by
  rw [gone_one (one_block ho.blocks x.up x.no) hf]
  simp [CA.apply, CA.goes, hok, hk, hf])
 clear ho
 clear s o1 o2 o3 o4 hb hm hx hok hst hBw
 have HK := hI hk
 clear hk
 go_enter Tryz.func56, Tryz.ntmps56
 go_wp2_with (first | ((with_reducible show wpList _ _ _ ({ dst := _, op := .load 40 _, type := _, pos := _, after := _, guard := _ } :: _) _ _); refine wpList_load_st rfl 40 _ rfl w.heap.size (by first | rfl | simp [Act.eval, Act.put]) 40 x.vs.toArray HST.out _ Tryz.underlying40 rfl (by kernel_rfl) ?_) | ((with_reducible refine HCK.out.mono ?_); rintro e w5 ⟨rfl, hb⟩; have B5 := hI (HB1.out.trans (hb.mono HB1.out.size)); have Q5 := hI (HST.out.below hb); have c0 : w5.cell? ⟨w.heap.size, 0, none⟩ = some (.int .i64 9) := (by rw [← HK.out]; exact Q5.out.cell rfl); have c1 : w5.cell? ⟨w.heap.size, 1, none⟩ = some (.int .i64 x.epoch) := Q5.out.cell rfl; have c2 : w5.cell? ⟨w.heap.size, 2, none⟩ = some (.int .i64 x.serial) := Q5.out.cell rfl; have c3 : w5.cell? ⟨w.heap.size, 3, none⟩ = some (.string x.up) := Q5.out.cell rfl; have c4 : w5.cell? ⟨w.heap.size, 4, none⟩ = some (.string x.name) := Q5.out.cell rfl; have c5 : w5.cell? ⟨w.heap.size, 5, none⟩ = some (.string x.child) := Q5.out.cell rfl; have c6 : w5.cell? ⟨w.heap.size, 6, none⟩ = some (.int .i64 x.attr.ty) := Q5.out.cell rfl; have c7 : w5.cell? ⟨w.heap.size, 7, none⟩ = some (.int .i64 x.attr.mode) := Q5.out.cell rfl; have c8 : w5.cell? ⟨w.heap.size, 8, none⟩ = some (.int .i64 x.attr.nlink) := Q5.out.cell rfl; have c9 : w5.cell? ⟨w.heap.size, 9, none⟩ = some (.int .i64 x.attr.uid) := Q5.out.cell rfl; have c10 : w5.cell? ⟨w.heap.size, 10, none⟩ = some (.int .i64 x.attr.gid) := Q5.out.cell rfl; have c11 : w5.cell? ⟨w.heap.size, 11, none⟩ = some (.int .i64 x.attr.size) := Q5.out.cell rfl; have c12 : w5.cell? ⟨w.heap.size, 12, none⟩ = some (.int .i64 x.attr.id) := Q5.out.cell rfl; have c13 : w5.cell? ⟨w.heap.size, 13, none⟩ = some (.int .i64 x.attr.gen) := Q5.out.cell rfl; have c14 : w5.cell? ⟨w.heap.size, 14, none⟩ = some (.int .i64 x.attr.change) := Q5.out.cell rfl; have c15 : w5.cell? ⟨w.heap.size, 15, none⟩ = some (.int .i64 x.attr.time) := Q5.out.cell rfl; have c16 : w5.cell? ⟨w.heap.size, 16, none⟩ = some (.int .i64 x.no) := Q5.out.cell rfl; have c17 : w5.cell? ⟨w.heap.size, 17, none⟩ = some (.int .i64 x.slot) := Q5.out.cell rfl; clear hb))
 have HS := hI (show ∀ W, Below w5.heap.size w5 W → W.cell? ⟨w.heap.size, 3, none⟩ = some (.string x.up) ∧ W.cell? ⟨w.heap.size, 16, none⟩ = some (.int .i64 x.no) from fun W hW => ⟨(Q5.out.below hW).cell rfl, (Q5.out.below hW).cell rfl⟩)
 have HBD := hI (show Below w5.heap.size w5 w5.drew from (Below.refl _ _).drew)
 have C0 := hI (HS.out _ HBD.out)
 refine wp_region_held (S := (fun W => W.cell? ⟨w.heap.size, 3, none⟩ = some (.string x.up) ∧ W.cell? ⟨w.heap.size, 16, none⟩ = some (.int .i64 x.no))) (by kernel_rfl) ?_
 change wpAnyH _ _ _ _ _ _ _ _ (World.drew _)
 generalize World.drew w5 = WD at HBD C0 ⊢
 refine tkp 0 (.pointer (some ⟨b, 0, none⟩)) rfl (by kernel_rfl) q3 (fun w' hS => ?_) C0.out ?_
 · clear hS; go_simp
 try go_simp
 refine tkp 1 (.pointer (some ⟨b, 0, none⟩)) rfl (by kernel_rfl) q3 (fun w' hS => ?_) C0.out ?_
 · clear hS; go_simp
 try go_simp
 refine tkp 2 (.pointer (some ⟨b, 3, none⟩)) rfl (by kernel_rfl) q3 (fun w' hS => ?_) C0.out ?_
 · clear hS; go_simp
 try go_simp
 refine tkp 3 (.pointer (some ⟨w.heap.size, 3, none⟩)) rfl (by kernel_rfl) q3 (fun w' hS => ?_) C0.out ?_
 · clear hS; go_simp
 try go_simp
 refine tkp 4 (.string x.up) rfl (by kernel_rfl) q3 (fun w' hS => ?_) C0.out ?_
 · obtain ⟨s0, s1⟩ := hS; go_simp
 try go_simp
 refine tkp 5 (.pointer (some ⟨w.heap.size, 16, none⟩)) rfl (by kernel_rfl) q3 (fun w' hS => ?_) C0.out ?_
 · clear hS; go_simp
 try go_simp
 refine tkp 6 (.int .i64 x.no) rfl (by kernel_rfl) q3 (fun w' hS => ?_) C0.out ?_
 · obtain ⟨s0, s1⟩ := hS; go_simp
 try go_simp
 refine rd1 7 (by kernel_rfl) rfl fun K hK => ?_
 go_simp
 refine (inqBlock_any x.up x.no _).mono ?_
 rintro e w7 ⟨lb, rfl, hb, hp⟩
 have HP := hI hp
 have HL5 := hI (show w.heap.size ≤ WD.heap.size from Nat.le_trans B5.out.size HBD.out.size)
 clear hp
 have B7 := hI (HBD.out.trans (hb.mono HBD.out.size))
 clear hb
 go_simp
 refine hK.out _ _ (HS.out _ B7.out) (fun S1 => ?_)
 clear hK K S1
 refine rd1 8 (by kernel_rfl) rfl fun K hK => ?_
 go_simp
 have A7 := hI (B5.out.trans (B7.out.mono B5.out.size))
 refine (inDropPlaced_any v1 v2 v3 v4 c.blocks (pBlock x.up x.no) 129 lb w7 (H4.out.below A7.out) (HSb.out.below A7.out) HM.out.2.2.2 (enters_of Tryz.func129 (by kernel_rfl) rfl) (HP.out.later (Frm.refl _ _) (fun j hj => .inl (Nat.lt_of_lt_of_le (World.ownsRow.lt H4.out j hj).2 HL5.out)))).mono ?_
 rintro e w9 ⟨v', rfl, ho, hs, hf⟩
 have T9 := hI (OwnC.turn4 (HSb.out.below A7.out) (H1.out.below A7.out) (H2.out.below A7.out) (H3.out.below A7.out) (H4.out.below A7.out) ho hs hf HBb.out)
 have C9 := hI (show w9.cell? ⟨w.heap.size, 3, none⟩ = some (.string x.up) ∧ w9.cell? ⟨w.heap.size, 16, none⟩ = some (.int .i64 x.no) from by
  have s9 := St.frm (Q5.out.below B7.out) hf (fun e => by rcases e with e | e; exact Nat.lt_irrefl _ ((World.ownsRow.lt H4.out _ e).2); exact absurd lb0.out (by rw [← e]; exact Nat.lt_irrefl _))
  exact ⟨s9.cell rfl, s9.cell rfl⟩)
 obtain ⟨r, hr⟩ : ∃ r, r = c.blocks.any (pBlock x.up x.no) := ⟨_, rfl⟩
 rw [← hr]
 have HRR := hI hr
 clear ho hs hf hr
 go_simp
 refine hK.out _ _ C9.out (fun S1 => ?_)
 clear hK K S1
 refine rd1 9 (by kernel_rfl) rfl fun K hK => ?_
 go_simp
 refine hK.out _ _ C9.out (fun S1 => ?_)
 clear hK K S1
 refine wpAnyH_done (by kernel_rfl) ?_ _
 go_wp2
 go_returns
 by_cases hf : fnd (pBlock x.up x.no) c.blocks < 0
 · exact Did.no (HNO.out hf) (by rw [HRR.out, any_fnd, decide_eq_false (Int.not_le.2 hf)]; rfl) ((A7.out.mono HBw.out).trans T9.out.2)
 · exact Did.yes (HYES.out (Int.not_lt.1 hf)) (by rw [HRR.out, any_fnd, decide_eq_true (Int.not_lt.1 hf)]; rfl) T9.out.1 ((A7.out.mono HBw.out).trans T9.out.2)
set_option maxRecDepth 100000 in
set_option maxHeartbeats 2000000 in
theorem inChange_3 {B b : Nat} (v1 v2 v3 v4 : Value) (c : CA) (x : Ch) (w : World) (s : St 27 b #[v1, v2, v3, v4] w) (o1 : OwnAt 49 3 Hd.vs B v1 c.helds w) (o2 : OwnAt 57 11 Cd.vs B v2 c.files w) (o3 : OwnAt 61 3 Kn.vs B v3 c.names w) (o4 : OwnAt 66 3 Bk.vs B v4 c.blocks w) (hb : B ≤ b) (hm : c.lens 1073741823) (hx : x.num) (hok : x.ok = true) (hk : x.kind = 3) (ho : c.Ok) :
 Calls Tryz.prog 56 #[.pointer (some ⟨b, 0, none⟩), .agg x.vs.toArray] w (Did B b c x w) := by
 have hBw : B ≤ w.heap.size := Nat.le_trans hb (Nat.le_of_lt s.lt)
 have HBw := hI hBw
 have hst : St 40 w.heap.size x.vs.toArray (w.alloc (.cells x.vs.toArray 40 (0, 0))) := St.new w _ _
 have HST := hI hst
 have HCK := hI (show Calls Tryz.prog 39 #[.agg x.vs.toArray] (w.alloc (.cells x.vs.toArray 40 (0, 0))) fun e w' => e = .returned (.int .i64 0) ∧ Below (w.alloc (.cells x.vs.toArray 40 (0, 0))).heap.size (w.alloc (.cells x.vs.toArray 40 (0, 0))) w' from by
  have := recCheck_any x (w.alloc (.cells x.vs.toArray 40 (0, 0))) hx
  rw [hok] at this
  exact this)
 have HB1 := hI (show Below w.heap.size w (w.alloc (.cells x.vs.toArray 40 (0, 0))) from (Below.refl _ w).alloc (Nat.le_refl _) _)
 have H1 := hI o1
 have H2 := hI o2
 have H3 := hI o3
 have H4 := hI o4
 have HSb := hI s
 have HBb := hI hb
 have HM := hI hm
 have lb0 := hI s.lt
 have HA := hI (show c.apply x = (⟨c.helds, putIn (fun y => !slt y.up x.up) (fun y => !decide (y.up = x.up)) ⟨x.up, x.attr⟩ c.files, c.names, c.blocks⟩, true) from by simp [CA.apply, hok, hk])
 have H7 := hI ho.files
 have HMO := hI (pw_mono ltCd_trans (show c.files.Pairwise fun a b => ltCd a b = true from ho.files) ⟨x.up, x.attr⟩)
 clear ho
 clear s o1 o2 o3 o4 hb hm hx hok hst hBw
 have HK := hI hk
 clear hk
 go_enter Tryz.func56, Tryz.ntmps56
 go_wp2_with (first | ((with_reducible show wpList _ _ _ ({ dst := _, op := .load 40 _, type := _, pos := _, after := _, guard := _ } :: _) _ _); refine wpList_load_st rfl 40 _ rfl w.heap.size (by first | rfl | simp [Act.eval, Act.put]) 40 x.vs.toArray HST.out _ Tryz.underlying40 rfl (by kernel_rfl) ?_) | ((with_reducible refine HCK.out.mono ?_); rintro e w5 ⟨rfl, hb⟩; have B5 := hI (HB1.out.trans (hb.mono HB1.out.size)); have Q5 := hI (HST.out.below hb); have c0 : w5.cell? ⟨w.heap.size, 0, none⟩ = some (.int .i64 3) := (by rw [← HK.out]; exact Q5.out.cell rfl); have c1 : w5.cell? ⟨w.heap.size, 1, none⟩ = some (.int .i64 x.epoch) := Q5.out.cell rfl; have c2 : w5.cell? ⟨w.heap.size, 2, none⟩ = some (.int .i64 x.serial) := Q5.out.cell rfl; have c3 : w5.cell? ⟨w.heap.size, 3, none⟩ = some (.string x.up) := Q5.out.cell rfl; have c4 : w5.cell? ⟨w.heap.size, 4, none⟩ = some (.string x.name) := Q5.out.cell rfl; have c5 : w5.cell? ⟨w.heap.size, 5, none⟩ = some (.string x.child) := Q5.out.cell rfl; have c6 : w5.cell? ⟨w.heap.size, 6, none⟩ = some (.int .i64 x.attr.ty) := Q5.out.cell rfl; have c7 : w5.cell? ⟨w.heap.size, 7, none⟩ = some (.int .i64 x.attr.mode) := Q5.out.cell rfl; have c8 : w5.cell? ⟨w.heap.size, 8, none⟩ = some (.int .i64 x.attr.nlink) := Q5.out.cell rfl; have c9 : w5.cell? ⟨w.heap.size, 9, none⟩ = some (.int .i64 x.attr.uid) := Q5.out.cell rfl; have c10 : w5.cell? ⟨w.heap.size, 10, none⟩ = some (.int .i64 x.attr.gid) := Q5.out.cell rfl; have c11 : w5.cell? ⟨w.heap.size, 11, none⟩ = some (.int .i64 x.attr.size) := Q5.out.cell rfl; have c12 : w5.cell? ⟨w.heap.size, 12, none⟩ = some (.int .i64 x.attr.id) := Q5.out.cell rfl; have c13 : w5.cell? ⟨w.heap.size, 13, none⟩ = some (.int .i64 x.attr.gen) := Q5.out.cell rfl; have c14 : w5.cell? ⟨w.heap.size, 14, none⟩ = some (.int .i64 x.attr.change) := Q5.out.cell rfl; have c15 : w5.cell? ⟨w.heap.size, 15, none⟩ = some (.int .i64 x.attr.time) := Q5.out.cell rfl; have c16 : w5.cell? ⟨w.heap.size, 16, none⟩ = some (.int .i64 x.no) := Q5.out.cell rfl; have c17 : w5.cell? ⟨w.heap.size, 17, none⟩ = some (.int .i64 x.slot) := Q5.out.cell rfl; clear hb))
 have HS := hI (show ∀ W, Below w5.heap.size w5 W → W.cell? ⟨w.heap.size, 3, none⟩ = some (.string x.up) ∧ W.rangeAt w.heap.size 6 [.int .i64 x.attr.ty, .int .i64 x.attr.mode, .int .i64 x.attr.nlink, .int .i64 x.attr.uid, .int .i64 x.attr.gid, .int .i64 x.attr.size, .int .i64 x.attr.id, .int .i64 x.attr.gen, .int .i64 x.attr.change, .int .i64 x.attr.time] from fun W hW => ⟨(Q5.out.below hW).cell rfl, x.rangeA (Q5.out.below hW)⟩)
 have HBD := hI (show Below w5.heap.size w5 w5.drew from (Below.refl _ _).drew)
 have C0 := hI (HS.out _ HBD.out)
 refine wp_region_held (S := (fun W => W.cell? ⟨w.heap.size, 3, none⟩ = some (.string x.up) ∧ W.rangeAt w.heap.size 6 [.int .i64 x.attr.ty, .int .i64 x.attr.mode, .int .i64 x.attr.nlink, .int .i64 x.attr.uid, .int .i64 x.attr.gid, .int .i64 x.attr.size, .int .i64 x.attr.id, .int .i64 x.attr.gen, .int .i64 x.attr.change, .int .i64 x.attr.time])) (by kernel_rfl) ?_
 change wpAnyH _ _ _ _ _ _ _ _ (World.drew _)
 generalize World.drew w5 = WD at HBD C0 ⊢
 refine tkp 0 (.pointer (some ⟨b, 0, none⟩)) rfl (by kernel_rfl) q3 (fun w' hS => ?_) C0.out ?_
 · clear hS; go_simp
 try go_simp
 refine tkp 1 (.pointer (some ⟨b, 0, none⟩)) rfl (by kernel_rfl) q3 (fun w' hS => ?_) C0.out ?_
 · clear hS; go_simp
 try go_simp
 refine tkp 2 (.pointer (some ⟨b, 1, none⟩)) rfl (by kernel_rfl) q3 (fun w' hS => ?_) C0.out ?_
 · clear hS; go_simp
 try go_simp
 refine tkp 3 (.pointer (some ⟨w.heap.size, 3, none⟩)) rfl (by kernel_rfl) q3 (fun w' hS => ?_) C0.out ?_
 · clear hS; go_simp
 try go_simp
 refine tkp 4 (.string x.up) rfl (by kernel_rfl) q3 (fun w' hS => ?_) C0.out ?_
 · obtain ⟨s0, _⟩ := hS; go_simp
 try go_simp
 refine tkp 5 (.pointer (some ⟨w.heap.size, 6, none⟩)) rfl (by kernel_rfl) q3 (fun w' hS => ?_) C0.out ?_
 · clear hS; go_simp
 try go_simp
 refine tkl 6 (.agg #[.int .i64 x.attr.ty, .int .i64 x.attr.mode, .int .i64 x.attr.nlink, .int .i64 x.attr.uid, .int .i64 x.attr.gid, .int .i64 x.attr.size, .int .i64 x.attr.id, .int .i64 x.attr.gen, .int .i64 x.attr.change, .int .i64 x.attr.time]) rfl (by kernel_rfl) q3 (yieldsIf_load_mid (by kernel_rfl) 38 (.tmp 39) rfl w.heap.size 6 (by first | rfl | simp [Act.eval, Act.put]) [.int .i64 x.attr.ty, .int .i64 x.attr.mode, .int .i64 x.attr.nlink, .int .i64 x.attr.uid, .int .i64 x.attr.gid, .int .i64 x.attr.size, .int .i64 x.attr.id, .int .i64 x.attr.gen, .int .i64 x.attr.change, .int .i64 x.attr.time] _ (fun w' hS => hS.2) Tryz.underlying38 rfl (by kernel_rfl)) C0.out ?_
 try go_simp
 refine tkp 7 (.agg #[.string x.up, .int .i64 x.attr.ty, .int .i64 x.attr.mode, .int .i64 x.attr.nlink, .int .i64 x.attr.uid, .int .i64 x.attr.gid, .int .i64 x.attr.size, .int .i64 x.attr.id, .int .i64 x.attr.gen, .int .i64 x.attr.change, .int .i64 x.attr.time]) rfl (by kernel_rfl) q3 (fun w' hS => ?_) C0.out ?_
 · clear hS; go_simp
 try go_simp
 refine rd1 8 (by kernel_rfl) rfl fun K hK => ?_
 go_simp
 have AE := hI (B5.out.trans (HBD.out.mono B5.out.size))
 refine (inPutCached_any v1 v2 v3 v4 c.files ⟨x.up, x.attr⟩ 87 WD (H2.out.below AE.out) (HSb.out.below AE.out) (Nat.le_trans HBw.out AE.out.size) HM.out.2.1 (enters_of Tryz.func87 (by kernel_rfl) rfl) (fun W y z => inOrdCached_any y z W) HMO.out).mono ?_
 rintro e w9 ⟨v', i, rfl, hpl, ho, hs, hf⟩
 have T9 := hI (OwnC.turn2 (HSb.out.below AE.out) (H1.out.below AE.out) (H2.out.below AE.out) (H3.out.below AE.out) (H4.out.below AE.out) (by rw [putAt_file hpl H7.out] at ho; exact ho) hs hf HBb.out)
 have C9 := hI (show w9.cell? ⟨w.heap.size, 3, none⟩ = some (.string x.up) ∧ w9.rangeAt w.heap.size 6 [.int .i64 x.attr.ty, .int .i64 x.attr.mode, .int .i64 x.attr.nlink, .int .i64 x.attr.uid, .int .i64 x.attr.gid, .int .i64 x.attr.size, .int .i64 x.attr.id, .int .i64 x.attr.gen, .int .i64 x.attr.change, .int .i64 x.attr.time] from by
  have s9 := St.frm (Q5.out.below HBD.out) hf (fun e => by rcases e with e | e; exact Nat.lt_irrefl _ ((World.ownsRow.lt H2.out _ e).2); exact absurd lb0.out (by rw [← e]; exact Nat.lt_irrefl _))
  exact ⟨s9.cell rfl, x.rangeA s9⟩)
 clear hpl ho hs hf
 go_simp
 refine hK.out _ _ C9.out (fun S1 => ?_)
 clear hK K S1
 refine wpAnyH_done (by kernel_rfl) ?_ _
 go_wp2
 go_returns
 exact Did.yes HA.out rfl T9.out.1 ((AE.out.mono HBw.out).trans T9.out.2)
set_option maxRecDepth 100000 in
set_option maxHeartbeats 2000000 in
theorem inChange_4a {B b : Nat} (v1 v2 v3 v4 : Value) (c : CA) (x : Ch) (w : World) (s : St 27 b #[v1, v2, v3, v4] w) (o1 : OwnAt 49 3 Hd.vs B v1 c.helds w) (o2 : OwnAt 57 11 Cd.vs B v2 c.files w) (o3 : OwnAt 61 3 Kn.vs B v3 c.names w) (o4 : OwnAt 66 3 Bk.vs B v4 c.blocks w) (hb : B ≤ b) (hm : c.lens 1073741823) (hx : x.num) (hok : x.ok = true) (hk : x.kind = 4) (h1 : c.files.any (pFile x.up) = false) :
 Calls Tryz.prog 56 #[.pointer (some ⟨b, 0, none⟩), .agg x.vs.toArray] w (Did B b c x w) := by
 have hBw : B ≤ w.heap.size := Nat.le_trans hb (Nat.le_of_lt s.lt)
 have HBw := hI hBw
 have hst : St 40 w.heap.size x.vs.toArray (w.alloc (.cells x.vs.toArray 40 (0, 0))) := St.new w _ _
 have HST := hI hst
 have HCK := hI (show Calls Tryz.prog 39 #[.agg x.vs.toArray] (w.alloc (.cells x.vs.toArray 40 (0, 0))) fun e w' => e = .returned (.int .i64 0) ∧ Below (w.alloc (.cells x.vs.toArray 40 (0, 0))).heap.size (w.alloc (.cells x.vs.toArray 40 (0, 0))) w' from by
  have := recCheck_any x (w.alloc (.cells x.vs.toArray 40 (0, 0))) hx
  rw [hok] at this
  exact this)
 have HB1 := hI (show Below w.heap.size w (w.alloc (.cells x.vs.toArray 40 (0, 0))) from (Below.refl _ w).alloc (Nat.le_refl _) _)
 have H1 := hI o1
 have H2 := hI o2
 have H3 := hI o3
 have H4 := hI o4
 have HSb := hI s
 have HBb := hI hb
 have HM := hI hm
 have lb0 := hI s.lt
 have hf : fnd (pFile x.up) c.files < 0 := (by have := h1; rw [any_fnd] at this; exact Int.not_le.1 (of_decide_eq_false this))
 have H5 := hI h1
 have HA := hI (show (c.apply x).2 = false from by simp [CA.apply, CA.goes, hok, hk, hf])
 clear h1 hf
 clear s o1 o2 o3 o4 hb hm hx hok hst hBw
 have HK := hI hk
 clear hk
 go_enter Tryz.func56, Tryz.ntmps56
 go_wp2_with (first | ((with_reducible show wpList _ _ _ ({ dst := _, op := .load 40 _, type := _, pos := _, after := _, guard := _ } :: _) _ _); refine wpList_load_st rfl 40 _ rfl w.heap.size (by first | rfl | simp [Act.eval, Act.put]) 40 x.vs.toArray HST.out _ Tryz.underlying40 rfl (by kernel_rfl) ?_) | ((with_reducible refine HCK.out.mono ?_); rintro e w5 ⟨rfl, hb⟩; have B5 := hI (HB1.out.trans (hb.mono HB1.out.size)); have Q5 := hI (HST.out.below hb); have c0 : w5.cell? ⟨w.heap.size, 0, none⟩ = some (.int .i64 4) := (by rw [← HK.out]; exact Q5.out.cell rfl); have c1 : w5.cell? ⟨w.heap.size, 1, none⟩ = some (.int .i64 x.epoch) := Q5.out.cell rfl; have c2 : w5.cell? ⟨w.heap.size, 2, none⟩ = some (.int .i64 x.serial) := Q5.out.cell rfl; have c3 : w5.cell? ⟨w.heap.size, 3, none⟩ = some (.string x.up) := Q5.out.cell rfl; have c4 : w5.cell? ⟨w.heap.size, 4, none⟩ = some (.string x.name) := Q5.out.cell rfl; have c5 : w5.cell? ⟨w.heap.size, 5, none⟩ = some (.string x.child) := Q5.out.cell rfl; have c6 : w5.cell? ⟨w.heap.size, 6, none⟩ = some (.int .i64 x.attr.ty) := Q5.out.cell rfl; have c7 : w5.cell? ⟨w.heap.size, 7, none⟩ = some (.int .i64 x.attr.mode) := Q5.out.cell rfl; have c8 : w5.cell? ⟨w.heap.size, 8, none⟩ = some (.int .i64 x.attr.nlink) := Q5.out.cell rfl; have c9 : w5.cell? ⟨w.heap.size, 9, none⟩ = some (.int .i64 x.attr.uid) := Q5.out.cell rfl; have c10 : w5.cell? ⟨w.heap.size, 10, none⟩ = some (.int .i64 x.attr.gid) := Q5.out.cell rfl; have c11 : w5.cell? ⟨w.heap.size, 11, none⟩ = some (.int .i64 x.attr.size) := Q5.out.cell rfl; have c12 : w5.cell? ⟨w.heap.size, 12, none⟩ = some (.int .i64 x.attr.id) := Q5.out.cell rfl; have c13 : w5.cell? ⟨w.heap.size, 13, none⟩ = some (.int .i64 x.attr.gen) := Q5.out.cell rfl; have c14 : w5.cell? ⟨w.heap.size, 14, none⟩ = some (.int .i64 x.attr.change) := Q5.out.cell rfl; have c15 : w5.cell? ⟨w.heap.size, 15, none⟩ = some (.int .i64 x.attr.time) := Q5.out.cell rfl; have c16 : w5.cell? ⟨w.heap.size, 16, none⟩ = some (.int .i64 x.no) := Q5.out.cell rfl; have c17 : w5.cell? ⟨w.heap.size, 17, none⟩ = some (.int .i64 x.slot) := Q5.out.cell rfl; clear hb))
 have HS := hI (show ∀ W, Below w5.heap.size w5 W → W.cell? ⟨w.heap.size, 3, none⟩ = some (.string x.up) from fun W hW => (Q5.out.below hW).cell rfl)
 have HBD := hI (show Below w5.heap.size w5 w5.drew from (Below.refl _ _).drew)
 have C0 := hI (HS.out _ HBD.out)
 have AE := hI (B5.out.trans (HBD.out.mono B5.out.size))
 refine wp_region_held (S := (fun W => W.cell? ⟨w.heap.size, 3, none⟩ = some (.string x.up))) (by kernel_rfl) ?_
 change wpAnyH _ _ _ _ _ _ _ _ (World.drew _)
 generalize World.drew w5 = WD at HBD C0 AE ⊢
 refine tkp 0 (.pointer (some ⟨b, 0, none⟩)) rfl (by kernel_rfl) q3 (fun w' hS => ?_) C0.out ?_
 · clear hS; go_simp
 try go_simp
 refine tkp 1 (.pointer (some ⟨w.heap.size, 3, none⟩)) rfl (by kernel_rfl) q3 (fun w' hS => ?_) C0.out ?_
 · clear hS; go_simp
 try go_simp
 refine tkp 2 (.string x.up) rfl (by kernel_rfl) q3 (fun w' hS => ?_) C0.out ?_
 · go_simp
 try go_simp
 refine rd1 3 (by kernel_rfl) rfl fun K hK => ?_
 go_simp
 refine (inBare_no v1 v2 v3 v4 c x.up WD (HSb.out.below AE.out) (H1.out.below AE.out) (H2.out.below AE.out) (H3.out.below AE.out) (H4.out.below AE.out) HBb.out HM.out (by have q := H5.out; rw [any_fnd] at q; exact Int.not_le.1 (of_decide_eq_false q))).mono ?_
 rintro e w8 ⟨rfl, hb⟩
 have B8 := hI (HBD.out.trans (hb.mono HBD.out.size))
 clear hb
 go_simp
 refine hK.out _ _ (HS.out _ B8.out) (fun S1 => ?_)
 clear hK K S1
 refine tkp 4 (.bool false) rfl (by kernel_rfl) q3 (fun w' hS => ?_) (HS.out _ B8.out) ?_
 · clear hS; go_simp
 try go_simp
 refine tku 5 rfl (by kernel_rfl) q3 (HS.out _ B8.out) ?_
 try go_simp
 refine tku 6 rfl (by kernel_rfl) q3 (HS.out _ B8.out) ?_
 refine tku 7 rfl (by kernel_rfl) q3 (HS.out _ B8.out) ?_
 try go_simp
 refine tku 8 rfl (by kernel_rfl) q3 (HS.out _ B8.out) ?_
 refine tku 9 rfl (by kernel_rfl) q3 (HS.out _ B8.out) ?_
 try go_simp
 refine tku 10 rfl (by kernel_rfl) q3 (HS.out _ B8.out) ?_
 refine tku 11 rfl (by kernel_rfl) q3 (HS.out _ B8.out) ?_
 try go_simp
 refine tkp 12 (.bool false) rfl (by kernel_rfl) q3 (fun w' hS => ?_) (HS.out _ B8.out) ?_
 · clear hS; go_simp
 try go_simp
 refine rd1 13 (by kernel_rfl) rfl fun K hK => ?_
 go_simp
 refine hK.out _ _ (HS.out _ B8.out) (fun S1 => ?_)
 clear hK K S1
 refine wpAnyH_done (by kernel_rfl) ?_ _
 go_wp2
 go_returns
 exact Did.no HA.out rfl ((B5.out.trans (B8.out.mono B5.out.size)).mono HBw.out)
set_option maxRecDepth 100000 in
set_option maxHeartbeats 2000000 in
theorem inChange_4b {B b : Nat} (v1 v2 v3 v4 : Value) (c : CA) (x : Ch) (w : World) (s : St 27 b #[v1, v2, v3, v4] w) (o1 : OwnAt 49 3 Hd.vs B v1 c.helds w) (o2 : OwnAt 57 11 Cd.vs B v2 c.files w) (o3 : OwnAt 61 3 Kn.vs B v3 c.names w) (o4 : OwnAt 66 3 Bk.vs B v4 c.blocks w) (hb : B ≤ b) (hm : c.lens 1073741823) (hx : x.num) (hok : x.ok = true) (hk : x.kind = 4) (h1 : c.files.any (pFile x.up) = true) (ho : c.Ok) :
 Calls Tryz.prog 56 #[.pointer (some ⟨b, 0, none⟩), .agg x.vs.toArray] w (Did B b c x w) := by
 have hBw : B ≤ w.heap.size := Nat.le_trans hb (Nat.le_of_lt s.lt)
 have HBw := hI hBw
 have hst : St 40 w.heap.size x.vs.toArray (w.alloc (.cells x.vs.toArray 40 (0, 0))) := St.new w _ _
 have HST := hI hst
 have HCK := hI (show Calls Tryz.prog 39 #[.agg x.vs.toArray] (w.alloc (.cells x.vs.toArray 40 (0, 0))) fun e w' => e = .returned (.int .i64 0) ∧ Below (w.alloc (.cells x.vs.toArray 40 (0, 0))).heap.size (w.alloc (.cells x.vs.toArray 40 (0, 0))) w' from by
  have := recCheck_any x (w.alloc (.cells x.vs.toArray 40 (0, 0))) hx
  rw [hok] at this
  exact this)
 have HB1 := hI (show Below w.heap.size w (w.alloc (.cells x.vs.toArray 40 (0, 0))) from (Below.refl _ w).alloc (Nat.le_refl _) _)
 have H1 := hI o1
 have H2 := hI o2
 have H3 := hI o3
 have H4 := hI o4
 have HSb := hI s
 have HBb := hI hb
 have HM := hI hm
 have lb0 := hI s.lt
 have hf : ¬ fnd (pFile x.up) c.files < 0 := (by have := h1; rw [any_fnd] at this; exact Int.not_lt.2 (of_decide_eq_true this))
 have H5 := hI h1
 have HA := hI (show c.apply x = (⟨c.helds, c.files.filter (fun y => !pFile x.up y), (c.bare x.up).names, (c.bare x.up).blocks⟩, true) from by
  rw [gone_one (one_file ho.files x.up) hf]
  simp [CA.apply, CA.goes, hok, hk, hf])
 clear h1 hf ho
 clear s o1 o2 o3 o4 hb hm hx hok hst hBw
 have HK := hI hk
 clear hk
 go_enter Tryz.func56, Tryz.ntmps56
 go_wp2_with (first | ((with_reducible show wpList _ _ _ ({ dst := _, op := .load 40 _, type := _, pos := _, after := _, guard := _ } :: _) _ _); refine wpList_load_st rfl 40 _ rfl w.heap.size (by first | rfl | simp [Act.eval, Act.put]) 40 x.vs.toArray HST.out _ Tryz.underlying40 rfl (by kernel_rfl) ?_) | ((with_reducible refine HCK.out.mono ?_); rintro e w5 ⟨rfl, hb⟩; have B5 := hI (HB1.out.trans (hb.mono HB1.out.size)); have Q5 := hI (HST.out.below hb); have c0 : w5.cell? ⟨w.heap.size, 0, none⟩ = some (.int .i64 4) := (by rw [← HK.out]; exact Q5.out.cell rfl); have c1 : w5.cell? ⟨w.heap.size, 1, none⟩ = some (.int .i64 x.epoch) := Q5.out.cell rfl; have c2 : w5.cell? ⟨w.heap.size, 2, none⟩ = some (.int .i64 x.serial) := Q5.out.cell rfl; have c3 : w5.cell? ⟨w.heap.size, 3, none⟩ = some (.string x.up) := Q5.out.cell rfl; have c4 : w5.cell? ⟨w.heap.size, 4, none⟩ = some (.string x.name) := Q5.out.cell rfl; have c5 : w5.cell? ⟨w.heap.size, 5, none⟩ = some (.string x.child) := Q5.out.cell rfl; have c6 : w5.cell? ⟨w.heap.size, 6, none⟩ = some (.int .i64 x.attr.ty) := Q5.out.cell rfl; have c7 : w5.cell? ⟨w.heap.size, 7, none⟩ = some (.int .i64 x.attr.mode) := Q5.out.cell rfl; have c8 : w5.cell? ⟨w.heap.size, 8, none⟩ = some (.int .i64 x.attr.nlink) := Q5.out.cell rfl; have c9 : w5.cell? ⟨w.heap.size, 9, none⟩ = some (.int .i64 x.attr.uid) := Q5.out.cell rfl; have c10 : w5.cell? ⟨w.heap.size, 10, none⟩ = some (.int .i64 x.attr.gid) := Q5.out.cell rfl; have c11 : w5.cell? ⟨w.heap.size, 11, none⟩ = some (.int .i64 x.attr.size) := Q5.out.cell rfl; have c12 : w5.cell? ⟨w.heap.size, 12, none⟩ = some (.int .i64 x.attr.id) := Q5.out.cell rfl; have c13 : w5.cell? ⟨w.heap.size, 13, none⟩ = some (.int .i64 x.attr.gen) := Q5.out.cell rfl; have c14 : w5.cell? ⟨w.heap.size, 14, none⟩ = some (.int .i64 x.attr.change) := Q5.out.cell rfl; have c15 : w5.cell? ⟨w.heap.size, 15, none⟩ = some (.int .i64 x.attr.time) := Q5.out.cell rfl; have c16 : w5.cell? ⟨w.heap.size, 16, none⟩ = some (.int .i64 x.no) := Q5.out.cell rfl; have c17 : w5.cell? ⟨w.heap.size, 17, none⟩ = some (.int .i64 x.slot) := Q5.out.cell rfl; clear hb))
 have HS := hI (show ∀ W, Below w5.heap.size w5 W → W.cell? ⟨w.heap.size, 3, none⟩ = some (.string x.up) from fun W hW => (Q5.out.below hW).cell rfl)
 have HBD := hI (show Below w5.heap.size w5 w5.drew from (Below.refl _ _).drew)
 have C0 := hI (HS.out _ HBD.out)
 have AE := hI (B5.out.trans (HBD.out.mono B5.out.size))
 refine wp_region_held (S := (fun W => W.cell? ⟨w.heap.size, 3, none⟩ = some (.string x.up))) (by kernel_rfl) ?_
 change wpAnyH _ _ _ _ _ _ _ _ (World.drew _)
 generalize World.drew w5 = WD at HBD C0 AE ⊢
 refine tkp 0 (.pointer (some ⟨b, 0, none⟩)) rfl (by kernel_rfl) q3 (fun w' hS => ?_) C0.out ?_
 · clear hS; go_simp
 try go_simp
 refine tkp 1 (.pointer (some ⟨w.heap.size, 3, none⟩)) rfl (by kernel_rfl) q3 (fun w' hS => ?_) C0.out ?_
 · clear hS; go_simp
 try go_simp
 refine tkp 2 (.string x.up) rfl (by kernel_rfl) q3 (fun w' hS => ?_) C0.out ?_
 · go_simp
 try go_simp
 refine rd1 3 (by kernel_rfl) rfl fun K hK => ?_
 go_simp
 refine (inBare_yes v1 v2 v3 v4 c x.up WD (HSb.out.below AE.out) (H1.out.below AE.out) (H2.out.below AE.out) (H3.out.below AE.out) (H4.out.below AE.out) HBb.out HM.out (by have q := H5.out; rw [any_fnd] at q; exact Int.not_lt.2 (of_decide_eq_true q))).mono ?_
 rintro e w8 ⟨rfl, ⟨vs, hh⟩, hb, hfr⟩
 obtain ⟨u1, u2, u3, u4, rfl, s8, p1, p2, p3, p4⟩ := hh
 have S8 := hI s8
 have P1 := hI p1
 have P2 := hI p2
 have P3 := hI p3
 have P4 := hI p4
 have B8 := hI hb
 have Q8 := hI (show St 40 w.heap.size x.vs.toArray w8 from St.frm (Q5.out.below HBD.out) hfr (fun e => by
  rcases e with e | e | e
  · exact Nat.lt_irrefl _ ((World.ownsRow.lt H3.out _ e).2)
  · exact Nat.lt_irrefl _ ((World.ownsRow.lt H4.out _ e).2)
  · exact absurd lb0.out (by rw [← e]; exact Nat.lt_irrefl _)))
 have HS8 := hI (show ∀ W, Below w8.heap.size w8 W → W.cell? ⟨w.heap.size, 3, none⟩ = some (.string x.up) from fun W hW => (Q8.out.below hW).cell rfl)
 have BB8 := hI (Below.refl w8.heap.size w8)
 have C8 := hI (HS8.out _ BB8.out)
 have hle8 := hI (show w.heap.size ≤ w8.heap.size from Nat.le_of_lt Q8.out.lt)
 clear s8 p1 p2 p3 p4 hb hfr
 go_simp
 refine hK.out _ _ C8.out (fun S1 => ?_)
 clear hK K S1
 refine tkp 4 (.bool true) rfl (by kernel_rfl) q3 (fun w' hS => ?_) C8.out ?_
 · clear hS; go_simp
 try go_simp
 refine tkp 5 (.pointer (some ⟨b, 0, none⟩)) rfl (by kernel_rfl) q3 (fun w' hS => ?_) C8.out ?_
 · clear hS; go_simp
 try go_simp
 refine tkp 6 (.pointer (some ⟨b, 0, none⟩)) rfl (by kernel_rfl) q3 (fun w' hS => ?_) C8.out ?_
 · clear hS; go_simp
 try go_simp
 refine tkp 7 (.pointer (some ⟨b, 1, none⟩)) rfl (by kernel_rfl) q3 (fun w' hS => ?_) C8.out ?_
 · clear hS; go_simp
 try go_simp
 refine tkp 8 (.pointer (some ⟨w.heap.size, 3, none⟩)) rfl (by kernel_rfl) q3 (fun w' hS => ?_) C8.out ?_
 · clear hS; go_simp
 try go_simp
 refine tkp 9 (.string x.up) rfl (by kernel_rfl) q3 (fun w' hS => ?_) C8.out ?_
 · go_simp
 try go_simp
 refine rd1 10 (by kernel_rfl) rfl fun K hK => ?_
 go_simp
 refine (inqFile_any x.up _).mono ?_
 rintro e w7 ⟨lb, rfl, hb, hp⟩
 have HP := hI hp
 clear hp
 have B7 := hI (BB8.out.trans (hb.mono BB8.out.size))
 clear hb
 go_simp
 refine hK.out _ _ (HS8.out _ B7.out) (fun S1 => ?_)
 clear hK K S1
 refine rd1 11 (by kernel_rfl) rfl fun K hK => ?_
 go_simp
 refine (inDropCached_any u1 u2 u3 u4 c.files (pFile x.up) 125 lb w7 (P2.out.below B7.out) (S8.out.below B7.out) HM.out.2.1 (enters_of Tryz.func125 (by kernel_rfl) rfl) (HP.out.later (Frm.refl _ _) (fun j hj => .inl (World.ownsRow.lt P2.out j hj).2))).mono ?_
 rintro e w9 ⟨v', rfl, ho, hs, hf⟩
 have T9 := hI (OwnC.turn2 (c := c.bare x.up) (S8.out.below B7.out) (P1.out.below B7.out) (P2.out.below B7.out) (P3.out.below B7.out) (P4.out.below B7.out) ho hs hf HBb.out)
 have D9 := hI (show St 40 w.heap.size x.vs.toArray w9 from St.frm (Q8.out.below B7.out) hf (fun e => by
  rcases e with e | e
  · exact own_box (P2.out) (Q8.out) (by decide) e
  · exact absurd lb0.out (by rw [← e]; exact Nat.lt_irrefl _)))
 have C9 := hI (show w9.cell? ⟨w.heap.size, 3, none⟩ = some (.string x.up) from D9.out.cell rfl)
 rw [show c.files.any (pFile x.up) = true from H5.out]
 clear ho hs hf
 go_simp
 refine hK.out _ _ C9.out (fun S1 => ?_)
 clear hK K S1
 refine tkp 12 (.bool true) rfl (by kernel_rfl) q3 (fun w' hS => ?_) C9.out ?_
 · clear hS; go_simp
 try go_simp
 refine rd1 13 (by kernel_rfl) rfl fun K hK => ?_
 go_simp
 refine hK.out _ _ C9.out (fun S1 => ?_)
 clear hK K S1
 refine wpAnyH_done (by kernel_rfl) ?_ _
 go_wp2
 go_returns
 exact Did.yes HA.out rfl T9.out.1 ((((AE.out.mono HBw.out).trans B8.out).trans (B7.out.mono (Nat.le_trans HBw.out hle8.out))).trans T9.out.2)
theorem lets_none {k : Int} (h : ¬ (k = 1 ∨ k = 2 ∨ k = 3 ∨ k = 4 ∨ k = 5 ∨ k = 6 ∨ k = 7 ∨ k = 8 ∨ k = 9)) : lets k = ⟨#[]⟩ := by
 unfold lets
 repeat' split
 all_goals first | rfl | (exfalso; exact h (by omega))
theorem Ch.ok_kind {x : Ch} (h : x.ok = true) : x.kind = 1 ∨ x.kind = 2 ∨ x.kind = 3 ∨ x.kind = 4 ∨ x.kind = 5 ∨ x.kind = 6 ∨ x.kind = 7 ∨ x.kind = 8 ∨ x.kind = 9 := by
 apply Classical.byContradiction
 intro hn
 have he := lets_none hn
 unfold Ch.ok at h
 rw [he] at h
 simp at h
theorem inChange_any {B b : Nat} (vs : List Value) (c : CA) (x : Ch) (w : World) (h : OwnC B b vs c w) (hb : B ≤ b) (hm : c.lens 1073741823) (hx : x.num) (ho : c.Ok) :
 Calls Tryz.prog 56 #[.pointer (some ⟨b, 0, none⟩), .agg x.vs.toArray] w (Did B b c x w) := by
 obtain ⟨v1, v2, v3, v4, _, s, o1, o2, o3, o4⟩ := h
 cases hok : x.ok with
 | false => exact inChange_bad v1 v2 v3 v4 c x w s o1 o2 o3 o4 hb hm hx hok
 | true =>
  rcases x.ok_kind hok with hk | hk | hk | hk | hk | hk | hk | hk | hk
  · cases h1 : c.helds.any (pHeld x.epoch x.serial) with
    | true => exact inChange_1a v1 v2 v3 v4 c x w s o1 o2 o3 o4 hb hm hx hok hk ho h1
    | false =>
     cases h2 : c.helds.any (pIssued x.up) with
     | true => exact inChange_1b v1 v2 v3 v4 c x w s o1 o2 o3 o4 hb hm hx hok hk ho h1 h2
     | false => exact inChange_1c v1 v2 v3 v4 c x w s o1 o2 o3 o4 hb hm hx hok hk ho h1 h2
  · exact inChange_2 v1 v2 v3 v4 c x w s o1 o2 o3 o4 hb hm hx hok hk ho
  · exact inChange_3 v1 v2 v3 v4 c x w s o1 o2 o3 o4 hb hm hx hok hk ho
  · cases h1 : c.files.any (pFile x.up) with
    | false => exact inChange_4a v1 v2 v3 v4 c x w s o1 o2 o3 o4 hb hm hx hok hk h1
    | true => exact inChange_4b v1 v2 v3 v4 c x w s o1 o2 o3 o4 hb hm hx hok hk h1 ho
  · cases h1 : c.files.any (pFile x.up) with
    | false => exact inChange_5a v1 v2 v3 v4 c x w s o1 o2 o3 o4 hb hm hx hok hk ho h1
    | true => exact inChange_5b v1 v2 v3 v4 c x w s o1 o2 o3 o4 hb hm hx hok hk ho h1
  · cases h1 : c.files.any (pFile x.up) with
    | false => exact inChange_6a v1 v2 v3 v4 c x w s o1 o2 o3 o4 hb hm hx hok hk ho h1
    | true => exact inChange_6b v1 v2 v3 v4 c x w s o1 o2 o3 o4 hb hm hx hok hk ho h1
  · exact inChange_7 v1 v2 v3 v4 c x w s o1 o2 o3 o4 hb hm hx hok hk ho
  · cases h1 : c.files.any (pFile x.up) with
    | false => exact inChange_8a v1 v2 v3 v4 c x w s o1 o2 o3 o4 hb hm hx hok hk ho h1
    | true =>
     cases h2 : c.blocks.any (tkn x) with
     | true => exact inChange_8b v1 v2 v3 v4 c x w s o1 o2 o3 o4 hb hm hx hok hk ho h1 h2
     | false => exact inChange_8c v1 v2 v3 v4 c x w s o1 o2 o3 o4 hb hm hx hok hk ho h1 h2
  · exact inChange_9 v1 v2 v3 v4 c x w s o1 o2 o3 o4 hb hm hx hok hk ho
def Own4 (B : Nat) (v1 v2 v3 v4 : Value) (c : CA) (w : World) : Prop := OwnAt 49 3 Hd.vs B v1 c.helds w ∧ OwnAt 57 11 Cd.vs B v2 c.files w ∧ OwnAt 61 3 Kn.vs B v3 c.names w ∧ OwnAt 66 3 Bk.vs B v4 c.blocks w
theorem Own4.below {B : Nat} {v1 v2 v3 v4 : Value} {c : CA} {w w' : World} (h : Own4 B v1 v2 v3 v4 c w) (hb : Below w.heap.size w w') : Own4 B v1 v2 v3 v4 c w' := ⟨h.1.below hb, h.2.1.below hb, h.2.2.1.below hb, h.2.2.2.below hb⟩
theorem Own4.low {B B' : Nat} {v1 v2 v3 v4 : Value} {c : CA} {w : World} (h : Own4 B v1 v2 v3 v4 c w) (hb : B' ≤ B) : Own4 B' v1 v2 v3 v4 c w := ⟨h.1.low hb, h.2.1.low hb, h.2.2.1.low hb, h.2.2.2.low hb⟩
theorem Own4.at' {B : Nat} {v1 v2 v3 v4 : Value} {c : CA} {w : World} (h : Own4 B v1 v2 v3 v4 c w) : CAt w.heap.size [v1, v2, v3, v4] c w := ⟨_, _, _, _, rfl, h.1.rows Hd.vs_length, h.2.1.rows Cd.vs_length, h.2.2.1.rows Kn.vs_length, h.2.2.2.rows Bk.vs_length⟩
theorem Own4.row {B q : Nat} {v1 v2 v3 v4 : Value} {c : CA} {w : World} (h : Own4 B v1 v2 v3 v4 c w) (hq : q < B) (r : Array Value) : Own4 B v1 v2 v3 v4 c (w.setRow q r) := by
 have hF : Frm (fun j => j = q) w (w.setRow q r) := ⟨rfl, rfl, rfl, by simp, fun j hj hn => Go.setRow_other _ _ j _ hn⟩
 have g : ∀ {j B'}, B ≤ j → ¬ ((fun j => j = q) j) ∨ B' := fun hj => .inl fun e => by have : _ = q := e; omega
 exact ⟨h.1.frm hF fun j e e' => absurd (World.ownsRow.lt h.1 j e).1 (by rw [show j = q from e']; omega), h.2.1.frm hF fun j e e' => absurd (World.ownsRow.lt h.2.1 j e).1 (by rw [show j = q from e']; omega), h.2.2.1.frm hF fun j e e' => absurd (World.ownsRow.lt h.2.2.1 j e).1 (by rw [show j = q from e']; omega), h.2.2.2.frm hF fun j e e' => absurd (World.ownsRow.lt h.2.2.2 j e).1 (by rw [show j = q from e']; omega)⟩
end Go.Proofs.YtngfknplljedeaaGreat
