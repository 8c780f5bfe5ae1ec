/- How a list of things that came in is read. -/
import Derived.Test.YtpniadpefpcedaaDoorPt
import Derived.Test.YtpniadpefpcedaaDoorLaw
import Derived.Deep.Slices
import Derived.Deep.Fields
import Derived.ChangeSame
namespace Go.Proofs.YtpniadpefpcedaaDoor
open Go.ChangeShapes Go.WideShapes Go.ChangeAt Go.RowKit

theorem padded_len (s : ByteArray) : (padded s).length ≤ s.size + 3 := by
  have := padN_lt s.size
  have e : s.data.size = s.size := rfl
  simp [padded]
  omega

theorem thPut_len (kind n : Int) (is : Bool) (s : ByteArray) (hs : s.size ≤ 200) : (thPut kind n is s).2.length ≤ 216 := by
  have hp := padded_len s
  rcases kinds kind with rfl | rfl | rfl | rfl | rfl | rfl | ⟨k1, k2, k3, k4, k5, k6⟩
  · show (putU32 n).2.length ≤ 216
    unfold putU32
    split <;> simp [be_length]
  · show (putU64 n).2.length ≤ 216
    unfold putU64
    split <;> simp [be_length]
  · show (putBool is).2.length ≤ 216
    simp [putBool, be_length]
  · show (putFixed s).2.length ≤ 216
    unfold putFixed
    split
    · simp
    · show (padded s).length ≤ 216
      omega
  · show (putOpaque s).2.length ≤ 216
    unfold putOpaque
    split
    · simp
    · show (be 4 s.size ++ padded s).length ≤ 216
      rw [List.length_append, be_length]
      omega
  · show (putOpt is n).2.length ≤ 216
    unfold putOpt
    split
    · split <;> simp [be_length]
    · simp [be_length]
  · have e : thPut kind n is s = (0, []) := by simp [thPut, k1, k2, k3, k4, k5, k6]
    rw [e]; simp

section
variable {H : Type} {enc : TypeId × Value → H} {P : Program} {w : World} {base : Nat} {spare : Nat → Bool} {held : Bool}

/-- A field of one cell of a struct that is read. -/
theorem field_cell {t : TypeId} {fs : Array Field} {fuel j : Nat} {f : Field} {cs : List Value} {x : DataW H × List MemPlace} (he : P.underlying t = some (.struct fs)) (h : DataW.trod enc P w base spare held fuel t cs = some x)
    (hj : fs[j]? = some f) (ho : f.offset = j) (hc : P.cellsOf f.type = 1) (hl : j < P.cellsOf t) : ∃ v y n, cs[j]? = some v ∧ DataW.trod enc P w base spare held n f.type [v] = some y := by
  obtain ⟨xs, n, _, _, hcl, hxl, hf⟩ := DataW.trod_struct he h
  have h1 := hf j f hj
  have hjl : j < fs.size := (Array.getElem?_eq_some_iff.1 hj).1
  rw [ho, hc, List.drop_eq_getElem_cons (by omega), List.take_succ_cons, List.take_zero, List.getElem?_eq_getElem (by omega)] at h1
  exact ⟨_, _, n, List.getElem?_eq_getElem (by omega), h1⟩
end

def cellI (w : World) (a : Addr) : Int := match w.cell? a with | some (.int _ k) => k | _ => 0
def cellB (w : World) (a : Addr) : Bool := match w.cell? a with | some (.bool b) => b | _ => false
def cellS (w : World) (a : Addr) : ByteArray := match w.cell? a with | some (.string s) => s | _ => ByteArray.empty
def thAt (w : World) (b off i : Nat) : Th := ⟨cellI w ⟨b, off + i * 4, none⟩, cellI w ⟨b, off + i * 4 + 1, none⟩, cellB w ⟨b, off + i * 4 + 2, none⟩, cellS w ⟨b, off + i * 4 + 3, none⟩⟩

theorem cellsThing : Tryd.prog.cellsOf 32 = 4 := by kernel_rfl
theorem cellsInt1 : Tryd.prog.cellsOf 3 = 1 := by kernel_rfl
theorem cellsBool1 : Tryd.prog.cellsOf 4 = 1 := by kernel_rfl
theorem cellsString1 : Tryd.prog.cellsOf 9 = 1 := by kernel_rfl

/-- A slice of things that came in. -/
theorem open_things {H : Type} {enc : TypeId × Value → H} {W : World} {base fuel : Nat} {held : Bool} {v : Value} {x : DataW H × List MemPlace} (hv : ∃ a len cap, v = .slice a len cap) (h : DataW.trod enc Tryd.prog W base (fun _ => true) held fuel 22 v.cells.toList = some x) :
    ∃ (ao : Option Addr) (b off len cap : Nat) (ts : List Th), v = .slice ao len cap ∧ len ≤ 9223372036854775807 ∧ (0 < len → ao = some ⟨b, off, none⟩ ∧ b < W.heap.size) ∧ Things b off len ts W := by
  obtain ⟨a0, len, cap, rfl⟩ := hv
  rcases Go.Deep.open_slice Tryd.underlying22 h with ⟨hcs, hx⟩ | ⟨a, len', cap', m, n, D, Pl, hcs, hbase, hl, hm, hmm, hx, hcell⟩
  · simp [Value.cells] at hcs
    obtain ⟨rfl, rfl, rfl⟩ := hcs
    exact ⟨none, 0, 0, 0, 0, [], rfl, by omega, fun h => by omega, rfl, fun i t h => by simp at h, fun i t h => by simp at h, fun i t h => by simp at h, fun i t h => by simp at h, fun i t h => by simp at h⟩
  · simp [Value.cells] at hcs
    obtain ⟨rfl, rfl, rfl⟩ := hcs
    have hmc : m = cap := by simpa using hmm
    unfold maxLen at hm
    have each : ∀ i, i < len → (∃ k, W.cell? (a.add (i * 4)) = some (.int .i64 k)) ∧ (∃ k, W.cell? (a.add (i * 4 + 1)) = some (.int .i64 k) ∧ k ≤ 9223372036854775807) ∧ (∃ k, W.cell? (a.add (i * 4 + 2)) = some (.bool k)) ∧ ∃ k, W.cell? (a.add (i * 4 + 3)) = some (.string k) ∧ k.size ≤ 9223372036854775807 := fun i hi => by
      obtain ⟨cs', hc', ht'⟩ := hcell i (by omega)
      rw [cellsThing] at hc'
      obtain ⟨_, hl4, hat⟩ := World.cells?_some hc'
      obtain ⟨v0, y0, n0, e0, r0⟩ := field_cell (j := 0) Tryd.underlying32 ht' rfl rfl cellsInt1 (by rw [cellsThing]; omega)
      obtain ⟨v1, y1, n1, e1, r1⟩ := field_cell (j := 1) Tryd.underlying32 ht' rfl rfl cellsInt1 (by rw [cellsThing]; omega)
      obtain ⟨v2, y2, n2, e2, r2⟩ := field_cell (j := 2) Tryd.underlying32 ht' rfl rfl cellsBool1 (by rw [cellsThing]; omega)
      obtain ⟨v3, y3, n3, e3, r3⟩ := field_cell (j := 3) Tryd.underlying32 ht' rfl rfl cellsString1 (by rw [cellsThing]; omega)
      obtain ⟨k0, f0, _, _⟩ := DataW.trod_int Tryd.underlying3 r0
      obtain ⟨k1, f1, _, w1⟩ := DataW.trod_int Tryd.underlying3 r1
      obtain ⟨k2, f2, _⟩ := DataW.trod_bool Tryd.underlying4 r2
      obtain ⟨k3, f3, _, w3⟩ := DataW.trod_string Tryd.underlying9 r3
      simp only [List.cons.injEq, and_true] at f0 f1 f2 f3
      subst f0 f1 f2 f3
      have a0 := hat 0 (by omega)
      have a1 := hat 1 (by omega)
      have a2 := hat 2 (by omega)
      have a3 := hat 3 (by omega)
      rw [Go.Deep.add_add] at a0 a1 a2 a3
      simp only [Lit.wf, Bool.and_eq_true, decide_eq_true_eq] at w1
      unfold maxLen at w3
      exact ⟨⟨k0, a0.trans e0⟩, ⟨k1, a1.trans e1, w1.2⟩, ⟨k2, a2.trans e2⟩, k3, a3.trans e3, by omega⟩
    by_cases h0 : len = 0
    · subst h0
      exact ⟨some a, 0, 0, 0, cap, [], rfl, by omega, fun h => by omega, rfl, fun i t h => by simp at h, fun i t h => by simp at h, fun i t h => by simp at h, fun i t h => by simp at h, fun i t h => by simp at h⟩
    · obtain ⟨b, off, spot⟩ := a
      have hspot : spot = none := by
        obtain ⟨k, hk⟩ := (each 0 (by omega)).1
        simpa [Addr.add] using World.cell?_spot hk
      subst hspot
      have hbW : b < W.heap.size := by
        obtain ⟨k, hk⟩ := (each 0 (by omega)).1
        have := World.block_lt_of_cell? W _ hk
        simpa [Addr.add] using this
      have hget : ∀ (i : Nat) (t : Th), ((List.range len).map (thAt W b off))[i]? = some t → i < len ∧ t = thAt W b off i := fun i t h => by
        have hi : i < len := by have := (List.getElem?_eq_some_iff.1 h).1; simpa using this
        refine ⟨hi, ?_⟩
        rw [List.getElem?_map, List.getElem?_range hi] at h
        simpa using h.symm
      refine ⟨some ⟨b, off, none⟩, b, off, len, cap, (List.range len).map (thAt W b off), rfl, by omega, fun _ => ⟨rfl, hbW⟩, by simp, ?_, ?_, ?_, ?_, ?_⟩
      · intro i t h
        obtain ⟨hi, rfl⟩ := hget i t h
        obtain ⟨k, hk⟩ := (each i hi).1
        rw [Go.WideShapes.add_plain] at hk
        rw [hk]; simp [thAt, cellI, hk]
      · intro i t h
        obtain ⟨hi, rfl⟩ := hget i t h
        obtain ⟨k, hk, _⟩ := (each i hi).2.1
        rw [Go.WideShapes.add_plain, ← Nat.add_assoc] at hk
        rw [hk]; simp [thAt, cellI, hk]
      · intro i t h
        obtain ⟨hi, rfl⟩ := hget i t h
        obtain ⟨k, hk⟩ := (each i hi).2.2.1
        rw [Go.WideShapes.add_plain, ← Nat.add_assoc] at hk
        rw [hk]; simp [thAt, cellB, hk]
      · intro i t h
        obtain ⟨hi, rfl⟩ := hget i t h
        obtain ⟨k, hk, _⟩ := (each i hi).2.2.2
        rw [Go.WideShapes.add_plain, ← Nat.add_assoc] at hk
        rw [hk]; simp [thAt, cellS, hk]
      · intro i t h
        obtain ⟨hi, rfl⟩ := hget i t h
        obtain ⟨k, hk, hkb⟩ := (each i hi).2.1
        obtain ⟨s, hs, hsb⟩ := (each i hi).2.2.2
        rw [Go.WideShapes.add_plain, ← Nat.add_assoc] at hk hs
        exact ⟨by simp [thAt, cellI, hk]; exact hkb, by simp [thAt, cellS, hs]; exact hsb⟩

end Go.Proofs.YtpniadpefpcedaaDoor
