/- Calls: the functions that read their fields, each of whatever reader. -/
import Derived.Test.YtdjnadgcjmlejaaDoorCj
namespace Go.Proofs.YtdjnadgcjmlejaaDoor
open Go.Joins Go.RowKit

theorem rdU64_le (s : ByteArray) (e : Int) : (rdU64 s e).1.size ≤ s.size := by
  unfold rdU64
  split
  · exact Nat.le_refl _
  · split
    · exact Nat.zero_le _
    · split
      · exact Nat.zero_le _
      · simp
theorem rdFail_le (c : Int) (s : ByteArray) (e : Int) : (rdFail c s e).1.size ≤ s.size := by
  unfold rdFail
  split
  · exact Nat.le_refl _
  · exact Nat.zero_le _
theorem rdFixed_le (n : Int) (s : ByteArray) (e : Int) : (rdFixed n s e).1.size ≤ s.size := by
  unfold rdFixed
  split
  · exact rdFail_le _ _ _
  · split
    · exact rdFail_le _ _ _
    · split
      · exact Nat.le_refl _
      · split
        · exact Nat.zero_le _
        · split
          · exact Nat.zero_le _
          · simp
theorem rdOpaque_le (n : Int) (s : ByteArray) (e : Int) : (rdOpaque n s e).1.size ≤ s.size := by
  unfold rdOpaque
  split
  · exact Nat.le_trans (rdFail_le _ _ _) (rdU32_le _ _)
  · exact Nat.le_trans (rdFixed_le _ _ _) (rdU32_le _ _)
theorem rdOpt_le (s : ByteArray) (e : Int) : (rdOpt s e).1.size ≤ s.size := by
  unfold rdOpt
  split
  · exact rdBool_le _ _
  · split
    · exact Nat.le_trans (rdU64_le _ _) (rdBool_le _ _)
    · exact Nat.le_trans (rdU64_le _ _) (rdBool_le _ _)
theorem psTake_le (s : ByteArray) (e : Int) : (psTake s e).1.size ≤ s.size := by
  obtain ⟨s1, e1, b1, n1, hr1⟩ : ∃ s1 e1 b1 n1, rdOpt s e = (s1, e1, b1, n1) := ⟨_, _, _, _, rfl⟩
  obtain ⟨s2, e2, b2, n2, hr2⟩ : ∃ s2 e2 b2 n2, rdOpt s1 e1 = (s2, e2, b2, n2) := ⟨_, _, _, _, rfl⟩
  obtain ⟨s3, e3, b3, n3, hr3⟩ : ∃ s3 e3 b3 n3, rdOpt s2 e2 = (s3, e3, b3, n3) := ⟨_, _, _, _, rfl⟩
  obtain ⟨s4, e4, b4, n4, hr4⟩ : ∃ s4 e4 b4 n4, rdOpt s3 e3 = (s4, e4, b4, n4) := ⟨_, _, _, _, rfl⟩
  obtain ⟨s5, e5, b5, n5, hr5⟩ : ∃ s5 e5 b5 n5, rdOpt s4 e4 = (s5, e5, b5, n5) := ⟨_, _, _, _, rfl⟩
  rw [psTake_of hr1 hr2 hr3 hr4 hr5]
  have h1 := rdOpt_le s e
  have h2 := rdOpt_le s1 e1
  have h3 := rdOpt_le s2 e2
  have h4 := rdOpt_le s3 e3
  have h5 := rdOpt_le s4 e4
  rw [hr1] at h1
  rw [hr2] at h2
  rw [hr3] at h3
  rw [hr4] at h4
  rw [hr5] at h5
  dsimp only at *
  omega
theorem rdL_le (l : Lt) (x : Rst) : (rdL l x).rest.size ≤ x.rest.size := by
  cases l
  · exact rdOpaque_le _ _ _
  · exact rdOpaque_le _ _ _
  · exact rdOpaque_le _ _ _
  · exact rdOpaque_le _ _ _
  · exact rdU64_le _ _
  · exact rdU32_le _ _
  · exact rdU32_le _ _
  · exact rdOpaque_le _ _ _
  · exact psTake_le _ _
  · exact rdOpt_le _ _
  · exact rdU64_le _ _
  · exact rdU64_le _ _
  · exact rdOpaque_le _ _ _

/-! ### Cells from a place on -/
def over (cs : Array Value) : Nat → List Value → Array Value
  | _, [] => cs
  | o, v :: vs => over (cs.setIfInBounds o v) (o + 1) vs
theorem St.setCells {T : TypeId} {k : Nat} : ∀ (vs : List Value) (o : Nat) (cs : Array Value) (w : World), St T k cs w → St T k (over cs o vs) (w.setCells k o vs)
  | [], _, _, _, h => h
  | v :: vs, o, cs, w, h => St.setCells vs (o + 1) _ _ (h.set o v)
theorem St.setCells_other {T : TypeId} {k j : Nat} {cs : Array Value} (hj : j ≠ k) : ∀ (vs : List Value) (o : Nat) (w : World), St T k cs w → St T k cs (w.setCells j o vs)
  | [], _, _, h => h
  | v :: vs, o, w, h => St.setCells_other hj vs (o + 1) _ (h.other j o v hj)
theorem below_setCells {B k : Nat} {a : World} (hk : B ≤ k) : ∀ (vs : List Value) (o : Nat) (w : World), Below B a w → Below B a (w.setCells k o vs)
  | [], _, _, h => h
  | v :: vs, o, w, h => below_setCells hk vs (o + 1) _ (h.setCell hk v)
theorem St.there {T : TypeId} {k : Nat} {cs : Array Value} {w : World} (h : St T k cs w) (o n : Nat) (hn : o + n ≤ cs.size) : w.there k o n := fun j hj =>
  ⟨by rw [h.cell (v := cs[o + j]'(by omega)) (Array.getElem?_eq_getElem _)]; rfl, h.free _⟩

/-- What a function that reads a field of one cell leaves. -/
def PutR (k o m : Nat) (s : ByteArray) (e : Int) (v : Value) (w : World) (r : Ending) (w' : World) : Prop :=
  r = .returned (.tuple #[]) ∧ ∃ w1, Rd m s e w1 ∧ Keep m none w w1 ∧ w' = w1.setCell ⟨k, o, none⟩ v
def PutR2 (k m : Nat) (s : ByteArray) (e : Int) (v1 v2 : Value) (w : World) (r : Ending) (w' : World) : Prop :=
  r = .returned (.tuple #[]) ∧ ∃ w1, Rd m s e w1 ∧ Keep m none w w1 ∧ w' = (w1.setCell ⟨k, 19, none⟩ v1).setCell ⟨k, 20, none⟩ v2
def PutRs (k m eb : Nat) (s : ByteArray) (e : Int) (vs : List Value) (x : Int) (w : World) (r : Ending) (w' : World) : Prop :=
  r = .returned (.tuple #[]) ∧ ∃ w1, Rd m s e w1 ∧ Keep m none w w1 ∧ w' = (w1.setCells k 9 vs).setCell ⟨eb, 0, none⟩ (.int .i64 x)

set_option maxRecDepth 100000 in
set_option maxHeartbeats 1000000 in
theorem cr1_any (k o b m : Nat) (most : Int) (s : ByteArray) (e : Int) (cs : Array Value) (v0 : Value) (w : World) (hsz : s.size ≤ 1073741824) (hkm : k ≠ m) (hc : St 30 k cs w) (ho : cs[o]? = some v0) (hp : w.cell? ⟨b, 0, none⟩ = some (.pointer (some ⟨m, 0, none⟩))) (h : Rd m s e w) :
    Calls Tryd.prog 51 #[.pointer (some ⟨k, o, none⟩), .int .i64 most, .pointer (some ⟨b, 0, none⟩)] w (PutR k o m (rdOpaque most s e).1 (rdOpaque most s e).2.1 (.string (rdOpaque most s e).2.2) w) := by
  have HT := Lib.hid (rOpaque_any m most s e w hsz h)
  obtain ⟨q, hq⟩ : ∃ q, q = rdOpaque most s e := ⟨_, rfl⟩
  rw [← hq] at HT ⊢
  obtain ⟨s1, e1, v⟩ := q
  dsimp only at HT ⊢
  have HC := Lib.hid hc
  have HO := Lib.hid ho
  have HK := Lib.hid hkm
  clear hq hc ho hkm h
  go_enter Tryd.func51, Tryd.ntmps51
  go_wp2_with fail
  go_must (refine (HT.out).mono ?_)
  rintro r w1 ⟨rfl, g1, k1⟩
  have st := HC.out.keepN k1 HK.out
  have cc := st.cell HO.out
  have ff := st.free o
  have G1 := Lib.hid g1
  have K1 := Lib.hid k1
  clear st g1 k1
  go_wp2_with fail
  go_end0
  exact ⟨rfl, _, G1.out, K1.out, rfl⟩

set_option maxRecDepth 100000 in
set_option maxHeartbeats 1000000 in
theorem cr2_any (k o b m : Nat) (s : ByteArray) (e : Int) (cs : Array Value) (v0 : Value) (w : World) (hsz : s.size ≤ 1073741824) (hkm : k ≠ m) (hc : St 30 k cs w) (ho : cs[o]? = some v0) (hp : w.cell? ⟨b, 0, none⟩ = some (.pointer (some ⟨m, 0, none⟩))) (h : Rd m s e w) :
    Calls Tryd.prog 53 #[.pointer (some ⟨k, o, none⟩), .pointer (some ⟨b, 0, none⟩)] w (PutR k o m (rdU32 s e).1 (rdU32 s e).2.1 (.int .i64 (rdU32 s e).2.2) w) := by
  have HT := Lib.hid (rU32_at m s e w h)
  obtain ⟨q, hq⟩ : ∃ q, q = rdU32 s e := ⟨_, rfl⟩
  rw [← hq] at HT ⊢
  obtain ⟨s1, e1, v⟩ := q
  dsimp only at HT ⊢
  have HC := Lib.hid hc
  have HO := Lib.hid ho
  have HK := Lib.hid hkm
  clear hq hc ho hkm h
  go_enter Tryd.func53, Tryd.ntmps53
  go_wp2_with fail
  go_must (refine (HT.out).mono ?_)
  rintro r w1 ⟨rfl, g1, k1⟩
  have st := HC.out.keepN k1 HK.out
  have cc := st.cell HO.out
  have ff := st.free o
  have G1 := Lib.hid g1
  have K1 := Lib.hid k1
  clear st g1 k1
  go_wp2_with fail
  go_end0
  exact ⟨rfl, _, G1.out, K1.out, rfl⟩

set_option maxRecDepth 100000 in
set_option maxHeartbeats 1000000 in
theorem cr3_any (k o b m : Nat) (s : ByteArray) (e : Int) (cs : Array Value) (v0 : Value) (w : World) (hsz : s.size ≤ 1073741824) (hkm : k ≠ m) (hc : St 30 k cs w) (ho : cs[o]? = some v0) (hp : w.cell? ⟨b, 0, none⟩ = some (.pointer (some ⟨m, 0, none⟩))) (h : Rd m s e w) :
    Calls Tryd.prog 55 #[.pointer (some ⟨k, o, none⟩), .pointer (some ⟨b, 0, none⟩)] w (PutR k o m (rdU64 s e).1 (rdU64 s e).2.1 (.int .i64 (rdU64 s e).2.2) w) := by
  have HT := Lib.hid (rU64_at m s e w h)
  obtain ⟨q, hq⟩ : ∃ q, q = rdU64 s e := ⟨_, rfl⟩
  rw [← hq] at HT ⊢
  obtain ⟨s1, e1, v⟩ := q
  dsimp only at HT ⊢
  have HC := Lib.hid hc
  have HO := Lib.hid ho
  have HK := Lib.hid hkm
  clear hq hc ho hkm h
  go_enter Tryd.func55, Tryd.ntmps55
  go_wp2_with fail
  go_must (refine (HT.out).mono ?_)
  rintro r w1 ⟨rfl, g1, k1⟩
  have st := HC.out.keepN k1 HK.out
  have cc := st.cell HO.out
  have ff := st.free o
  have G1 := Lib.hid g1
  have K1 := Lib.hid k1
  clear st g1 k1
  go_wp2_with fail
  go_end0
  exact ⟨rfl, _, G1.out, K1.out, rfl⟩

set_option maxRecDepth 100000 in
set_option maxHeartbeats 1000000 in
theorem cr4_any (k b m : Nat) (s : ByteArray) (e : Int) (cs : Array Value) (v0 v1 : Value) (w : World) (hkm : k ≠ m) (hc : St 30 k cs w) (ho : cs[19]? = some v0) (ho1 : cs[20]? = some v1) (hp : w.cell? ⟨b, 0, none⟩ = some (.pointer (some ⟨m, 0, none⟩))) (h : Rd m s e w) :
    Calls Tryd.prog 57 #[.pointer (some ⟨k, 19, none⟩), .pointer (some ⟨b, 0, none⟩)] w (PutR2 k m (rdOpt s e).1 (rdOpt s e).2.1 (.bool (rdOpt s e).2.2.1) (.int .i64 (rdOpt s e).2.2.2) w) := by
  have HT := Lib.hid (rOpt_any m s e w h)
  obtain ⟨q, hq⟩ : ∃ q, q = rdOpt s e := ⟨_, rfl⟩
  rw [← hq] at HT ⊢
  obtain ⟨s1, e1, is, n⟩ := q
  dsimp only at HT ⊢
  have HC := Lib.hid hc
  have HO := Lib.hid ho
  have HO1 := Lib.hid ho1
  have HK := Lib.hid hkm
  clear hq hc ho ho1 hkm h
  go_enter Tryd.func57, Tryd.ntmps57
  go_wp2_with fail
  go_must (refine (HT.out).mono ?_)
  rintro r w1 ⟨rfl, g1, k1⟩
  have st := HC.out.keepN k1 HK.out
  have cc := st.cell HO.out
  have ff := st.free 19
  have cc1 := st.cell HO1.out
  have ff1 := st.free 20
  have G1 := Lib.hid g1
  have K1 := Lib.hid k1
  clear st g1 k1
  go_wp2_with fail
  go_end0
  exact ⟨rfl, _, G1.out, K1.out, rfl⟩

set_option maxRecDepth 100000 in
set_option maxHeartbeats 1000000 in
theorem cr5_any (k b m eb : Nat) (s : ByteArray) (e : Int) (cs : Array Value) (x0 : Int) (w : World) (hkm : k ≠ m) (hem : eb ≠ m) (hek : k ≠ eb) (hz : cs.size = 24) (hc : St 30 k cs w) (he : St 32 eb #[.int .i64 x0] w) (hp : w.cell? ⟨b, 0, none⟩ = some (.pointer (some ⟨m, 0, none⟩))) (h : Rd m s e w) :
    Calls Tryd.prog 59 #[.pointer (some ⟨k, 9, none⟩), .pointer (some ⟨b, 0, none⟩), .pointer (some ⟨eb, 0, none⟩)] w (PutRs k m eb (psTake s e).1 (psTake s e).2.1 (psGet s e).1.vs (psGet s e).2 w) := by
  have HT := aGetSet_any m s e w h
  obtain ⟨p, hpp⟩ : ∃ p, p = (psGet s e).1 := ⟨_, rfl⟩
  obtain ⟨x, hx⟩ : ∃ x, x = (psGet s e).2 := ⟨_, rfl⟩
  obtain ⟨s1, hs1⟩ : ∃ p, p = (psTake s e).1 := ⟨_, rfl⟩
  obtain ⟨e1, he1⟩ : ∃ x, x = (psTake s e).2.1 := ⟨_, rfl⟩
  rw [← hpp, ← hx, ← hs1, ← he1] at HT ⊢
  clear hpp hx hs1 he1
  obtain ⟨⟨i0, n0⟩, ⟨i1, n1⟩, ⟨i2, n2⟩, ⟨i3, n3⟩, ⟨i4, n4⟩⟩ := p
  simp only [Ps.vs, Po.vs, List.cons_append, List.nil_append] at HT ⊢
  replace HT := Lib.hid HT
  have HC := Lib.hid hc
  have HE := Lib.hid he
  have HK := Lib.hid (And.intro hkm (And.intro hem hek))
  have HZ := Lib.hid hz
  clear hc he hkm hem hek hz h
  go_enter Tryd.func59, Tryd.ntmps59
  go_wp2_with fail
  go_must (refine (HT.out).mono ?_)
  rintro r w1 ⟨rfl, g1, k1⟩
  have C1 := Lib.hid (HC.out.keepN k1 HK.out.1)
  have E1 := Lib.hid (HE.out.keepN k1 HK.out.2.1)
  have G1 := Lib.hid g1
  have K1 := Lib.hid k1
  clear g1 k1
  go_wp2_with (first
    | ((with_reducible show wpList _ _ _ ({ dst := _, op := .store _ (.tmp 10) _, type := _, pos := _, after := _, guard := _ } :: _) _ _); refine wpList_store_mid rfl 28 _ _ rfl k 9 _ rfl rfl (C1.out.there 9 10 (by rw [HZ.out]; omega)) (by kernel_rfl) (by kernel_rfl) ?_; have ce := (E1.out.setCells_other HK.out.2.2 [.bool i0, .int .i64 n0, .bool i1, .int .i64 n1, .bool i2, .int .i64 n2, .bool i3, .int .i64 n3, .bool i4, .int .i64 n4] 9).cell (j := 0) rfl; have fe := (E1.out.setCells_other HK.out.2.2 [.bool i0, .int .i64 n0, .bool i1, .int .i64 n1, .bool i2, .int .i64 n2, .bool i3, .int .i64 n3, .bool i4, .int .i64 n4] 9).free 0; obtain ⟨w2, hw2⟩ : ∃ w2, w2 = w1.setCells k 9 [.bool i0, .int .i64 n0, .bool i1, .int .i64 n1, .bool i2, .int .i64 n2, .bool i3, .int .i64 n3, .bool i4, .int .i64 n4] := ⟨_, rfl⟩; rw [← hw2] at ce fe; change wpList _ _ _ _ _ (w1.setCells k 9 [.bool i0, .int .i64 n0, .bool i1, .int .i64 n1, .bool i2, .int .i64 n2, .bool i3, .int .i64 n3, .bool i4, .int .i64 n4]); rw [← hw2]; have HW2 := Lib.hid hw2; clear hw2))
  go_end0
  exact ⟨rfl, _, G1.out, K1.out, by rw [HW2.out]⟩
end Go.Proofs.YtdjnadgcjmlejaaDoor
