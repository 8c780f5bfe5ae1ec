/- Lemmas for the laws of index. -/
import Derived.Test.YtngfknplljedeaaGreatZr04
import Derived.Test.YtngfknplljedeaaGreatZr05
import Derived.Test.YtngfknplljedeaaGreatZr06
import Derived.Test.YtngfknplljedeaaGreatZr09
import Derived.Test.YtngfknplljedeaaGreatZrHi
namespace Go.Proofs.YtngfknplljedeaaGreat
open Go.RowKit
structure Hd where
 epoch : Int
 serial : Int
 up : ByteArray
deriving DecidableEq
structure Cd where
 up : ByteArray
 attr : Pa
deriving DecidableEq
structure Kn where
 dir : ByteArray
 name : ByteArray
 up : ByteArray
deriving DecidableEq
structure Bk where
 up : ByteArray
 no : Int
 slot : Int
deriving DecidableEq
structure Ch where
 kind : Int
 epoch : Int
 serial : Int
 up : ByteArray
 name : ByteArray
 child : ByteArray
 attr : Pa
 no : Int
 slot : Int
deriving DecidableEq
def Hd.vs (x : Hd) : List Value := [.int .i64 x.epoch, .int .i64 x.serial, .string x.up]
def Cd.vs (x : Cd) : List Value := [.string x.up, .int .i64 x.attr.ty, .int .i64 x.attr.mode, .int .i64 x.attr.nlink, .int .i64 x.attr.uid, .int .i64 x.attr.gid, .int .i64 x.attr.size, .int .i64 x.attr.id, .int .i64 x.attr.gen, .int .i64 x.attr.change, .int .i64 x.attr.time]
def Kn.vs (x : Kn) : List Value := [.string x.dir, .string x.name, .string x.up]
def Bk.vs (x : Bk) : List Value := [.string x.up, .int .i64 x.no, .int .i64 x.slot]
def Ch.vs (x : Ch) : List Value := [.int .i64 x.kind, .int .i64 x.epoch, .int .i64 x.serial, .string x.up, .string x.name, .string x.child, .int .i64 x.attr.ty, .int .i64 x.attr.mode, .int .i64 x.attr.nlink, .int .i64 x.attr.uid, .int .i64 x.attr.gid, .int .i64 x.attr.size, .int .i64 x.attr.id, .int .i64 x.attr.gen, .int .i64 x.attr.change, .int .i64 x.attr.time, .int .i64 x.no, .int .i64 x.slot]
def Hd.num (x : Hd) : Prop := i64 x.epoch ∧ i64 x.serial ∧ x.up.size ≤ 9223372036854775807
def Cd.num (x : Cd) : Prop := x.up.size ≤ 9223372036854775807 ∧ x.attr.num
def Kn.num (x : Kn) : Prop := x.dir.size ≤ 9223372036854775807 ∧ x.name.size ≤ 9223372036854775807 ∧ x.up.size ≤ 9223372036854775807
def Bk.num (x : Bk) : Prop := x.up.size ≤ 9223372036854775807 ∧ i64 x.no ∧ i64 x.slot
def Ch.num (x : Ch) : Prop := i64 x.kind ∧ i64 x.epoch ∧ i64 x.serial ∧ x.up.size ≤ 9223372036854775807 ∧ x.name.size ≤ 9223372036854775807 ∧ x.child.size ≤ 9223372036854775807 ∧ x.attr.num ∧ i64 x.no ∧ i64 x.slot
structure CA where
 helds : List Hd
 files : List Cd
 names : List Kn
 blocks : List Bk
deriving DecidableEq
def CA.num (c : CA) : Prop := (∀ x ∈ c.helds, x.num) ∧ (∀ x ∈ c.files, x.num) ∧ (∀ x ∈ c.names, x.num) ∧ ∀ x ∈ c.blocks, x.num
def Hd.ch (x : Hd) : Ch := ⟨1, x.epoch, x.serial, x.up, ⟨#[]⟩, ⟨#[]⟩, Pa.zero, 0, 0⟩
def Cd.ch (x : Cd) : Ch := ⟨3, 0, 0, x.up, ⟨#[]⟩, ⟨#[]⟩, x.attr, 0, 0⟩
def Kn.ch (x : Kn) : Ch := ⟨6, 0, 0, x.dir, x.name, x.up, Pa.zero, 0, 0⟩
def Bk.ch (x : Bk) : Ch := ⟨8, 0, 0, x.up, ⟨#[]⟩, ⟨#[]⟩, Pa.zero, x.no, x.slot⟩
def CA.changes (c : CA) : List Ch := c.helds.map Hd.ch ++ c.files.map Cd.ch ++ c.names.map Kn.ch ++ c.blocks.map Bk.ch
end Go.Proofs.YtngfknplljedeaaGreat
namespace Go.Proofs.YtngfknplljedeaaGreat
open Go.RowKit
section
variable {α : Type}
def RowsAt (B k : Nat) (f : α → List Value) (v : Value) (xs : List α) (w : World) : Prop :=
 ∃ (ao : Option Addr) (cap b off : Nat), v = .slice ao xs.length cap ∧ (xs.length ≤ 9223372036854775807 ∧ xs.length ≤ cap) ∧ (0 < xs.length → ao = some ⟨b, off, none⟩ ∧ b < B) ∧
  ∀ (i : Nat) (x : α), xs[i]? = some x → w.rangeAt b (off + i * k) (f x)
theorem RowsAt.below {B k : Nat} {f : α → List Value} {v : Value} {xs : List α} {w w' : World} (h : RowsAt B k f v xs w) (hb : Below B w w') : RowsAt B k f v xs w' := by
 obtain ⟨ao, cap, b, off, hv, hl, hao, hx⟩ := h
 refine ⟨ao, cap, b, off, hv, hl, hao, fun i x hi j u hu => ?_⟩
 have h0 : 0 < xs.length := by have := (List.getElem?_eq_some_iff.1 hi).1; omega
 exact (hb.cell (p := ⟨b, off + i * k + j, none⟩) (hao h0).2).trans (hx i x hi j u hu)
theorem RowsAt.raise {B B' k : Nat} {f : α → List Value} {v : Value} {xs : List α} {w : World} (h : RowsAt B k f v xs w) (hB : B ≤ B') : RowsAt B' k f v xs w := by
 obtain ⟨ao, cap, b, off, hv, hl, hao, hx⟩ := h
 exact ⟨ao, cap, b, off, hv, hl, fun h0 => ⟨(hao h0).1, Nat.lt_of_lt_of_le (hao h0).2 hB⟩, hx⟩
theorem RowsAt.walk {B k : Nat} {f : α → List Value} {v : Value} {xs : List α} {w : World} (h : RowsAt B k f v xs w) : ∃ (ao : Option Addr) (cap b off : Nat), v = .slice ao xs.length cap ∧ xs.length ≤ 9223372036854775807 ∧
 ∀ i, i < xs.length → ∃ x, xs[i]? = some x ∧ ao = some ⟨b, off, none⟩ ∧ b < B ∧ w.rangeAt b (off + i * k) (f x) := by
 obtain ⟨ao, cap, b, off, hv, hl, hao, hx⟩ := h
 exact ⟨ao, cap, b, off, hv, hl.1, fun i hi => ⟨xs[i], List.getElem?_eq_getElem hi, (hao (by omega)).1, (hao (by omega)).2, hx i _ (List.getElem?_eq_getElem hi)⟩⟩
theorem take_one : ∀ (xs : List α) (k : Nat) (x : α), xs[k]? = some x → xs.take (k + 1) = xs.take k ++ [x]
 | [], k, x, h => by simp at h
 | y :: xs, 0, x, h => by simp at h; simp [h]
 | y :: xs, k + 1, x, h => by
  rw [List.take_succ_cons, List.take_succ_cons, take_one xs k x (by simpa using h)]
  rfl
theorem flat_length {k : Nat} {f : α → List Value} (hf : ∀ x, (f x).length = k) : ∀ xs : List α, (xs.flatMap f).length = xs.length * k
 | [] => by simp
 | x :: xs => by
  rw [List.flatMap_cons, List.length_append, flat_length hf xs, hf, List.length_cons, Nat.succ_mul]
  omega
theorem flat_at {k : Nat} {f : α → List Value} (hf : ∀ x, (f x).length = k) : ∀ (xs : List α) (i : Nat) (x : α), xs[i]? = some x → ∀ j, j < k → (xs.flatMap f)[i * k + j]? = (f x)[j]?
 | [], i, x, h => by simp at h
 | y :: xs, 0, x, h => fun j hj => by
  obtain rfl : y = x := by simpa using h
  rw [Nat.zero_mul, Nat.zero_add, List.flatMap_cons, List.getElem?_append_left (by rw [hf]; exact hj)]
 | y :: xs, i + 1, x, h => fun j hj => by
  rw [List.flatMap_cons, List.getElem?_append_right (by rw [hf, Nat.succ_mul]; omega), hf, show (i + 1) * k + j - k = i * k + j from by rw [Nat.succ_mul]; omega]
  exact flat_at hf xs i x (by simpa using h) j hj
theorem RowsAt.own {B k : Nat} {e : TypeId} {f : α → List Value} {v : Value} {xs : List α} {w : World} (hf : ∀ x, (f x).length = k) (h : w.ownsRow B e k v xs.length (xs.flatMap f)) : RowsAt w.heap.size k f v xs w := by
 have hl := own_len h
 rcases h.2 with ⟨hv, h0⟩ | ⟨g, cap, cur, hv, _, _, hnc, _⟩
 · have h1 : xs = [] := List.length_eq_zero_iff.1 h0
   subst h1
   exact ⟨none, 0, 0, 0, hv, ⟨by simp, by simp⟩, fun h => by simp at h, fun i x hi => by simp at hi⟩
 · subst hv
   refine ⟨some ⟨g, 0, none⟩, cap, g, 0, rfl, ⟨hl, hnc⟩, fun _ => ⟨rfl, (World.ownsRow.lt h g rfl).2⟩, fun i x hi j u hu => ?_⟩
   have hi2 := (List.getElem?_eq_some_iff.1 hi).1
   have hj : j < k := by have := (List.getElem?_eq_some_iff.1 hu).1; rwa [hf] at this
   have hlt : i * k + j < xs.length * k := by
    have : (i + 1) * k ≤ xs.length * k := Nat.mul_le_mul_right k hi2
    rw [Nat.succ_mul] at this
    omega
   rw [Nat.zero_add, World.ownsRow.cellAt h (i * k + j) hlt, flat_at hf xs i x hi j hj]
   exact hu
end
end Go.Proofs.YtngfknplljedeaaGreat
namespace Go.Proofs.YtngfknplljedeaaGreat
open Go.RowKit
theorem Ch.vs_length (x : Ch) : x.vs.length = 18 := rfl
theorem Hd.vs_length (x : Hd) : x.vs.length = 3 := rfl
theorem Cd.vs_length (x : Cd) : x.vs.length = 11 := rfl
theorem Kn.vs_length (x : Kn) : x.vs.length = 3 := rfl
theorem Bk.vs_length (x : Bk) : x.vs.length = 3 := rfl
def CAt (B : Nat) (cs : List Value) (c : CA) (w : World) : Prop :=
 ∃ v1 v2 v3 v4, cs = [v1, v2, v3, v4] ∧ RowsAt B 3 Hd.vs v1 c.helds w ∧ RowsAt B 11 Cd.vs v2 c.files w ∧ RowsAt B 3 Kn.vs v3 c.names w ∧ RowsAt B 3 Bk.vs v4 c.blocks w
theorem CAt.below {B : Nat} {cs : List Value} {c : CA} {w w' : World} (h : CAt B cs c w) (hb : Below B w w') : CAt B cs c w' := by
 obtain ⟨v1, v2, v3, v4, e, h1, h2, h3, h4⟩ := h
 exact ⟨v1, v2, v3, v4, e, h1.below hb, h2.below hb, h3.below hb, h4.below hb⟩
def ChRow (T : TypeId) (B : Nat) (v : Value) (xs : List Ch) (w : World) : Prop := w.ownsRow B T 18 v xs.length (xs.flatMap Ch.vs)
theorem ChRow.rows {T : TypeId} {B : Nat} {v : Value} {xs : List Ch} {w : World} (h : ChRow T B v xs w) : RowsAt w.heap.size 18 Ch.vs v xs w := RowsAt.own Ch.vs_length h
end Go.Proofs.YtngfknplljedeaaGreat
namespace Go.Proofs.YtngfknplljedeaaGreat
open Go.Joins Go.ChangeShapes Go.WideShapes Go.RowKit Go.Deep
section
variable {H : Type} {enc : TypeId × Value → H} {P : Program} {w : World} {base : Nat} {held : Bool}
theorem slice_cell {t e : TypeId} {fuel : Nat} {u : Value} {x : DataW H × List MemPlace} (ht : P.underlying t = some (.slice e)) (h : DataW.trod enc P w base (fun _ => true) held fuel t [u] = some x) : ∃ a len cap, u = .slice a len cap := by
 rcases open_slice ht h with ⟨hcs, _⟩ | ⟨a, len, cap, m, nf, D, Pl, hcs, _⟩
 · simp at hcs
   exact ⟨none, 0, 0, hcs⟩
 · simp at hcs
   exact ⟨_, _, _, hcs⟩
theorem rows_of {α : Type} {f : α → List Value} {num : α → Prop} {t e : TypeId} {fuel k : Nat} {u : Value} {x : DataW H × List MemPlace} (hf : ∀ x : α, (f x).length = k) (ht : P.underlying t = some (.slice e)) (hC : P.cellsOf e = k) (hk : 0 < k)
 (E : ∀ {fuel : Nat} {cs : List Value} {x : DataW H × List MemPlace}, DataW.trod enc P w base (fun _ => true) held fuel e cs = some x → ∃ y : α, cs = f y ∧ num y)
 (h : DataW.trod enc P w base (fun _ => true) held fuel t [u] = some x) : ∃ xs : List α, RowsAt w.heap.size k f u xs w ∧ ∀ y ∈ xs, num y := by
 have hv := slice_cell ht h
 have hcap : ∀ a n c, u = .slice a n c → n ≤ c := fun a n c e => by
  rcases open_slice ht h with ⟨hcs, _⟩ | ⟨a', len', cap', m, nf, D, Pl, hcs, hb, hl, _⟩
  · simp at hcs; rw [hcs] at e; cases e; exact Nat.le_refl _
  · simp at hcs; rw [hcs] at e; cases e; exact hl
 obtain ⟨ao, n, cap, b, off, rfl, hn, hao, hc⟩ := open_rows (P := P) (k := k) (R := fun cs => ∃ y : α, cs = f y ∧ num y) ht hC hk (fun {fuel cs x} h => E h) hv (by obtain ⟨_, _, _, rfl⟩ := hv; exact h)
 obtain ⟨xs, hl, hx⟩ := exists_list n (fun i (y : α) => w.rangeAt b (off + i * k) (f y) ∧ num y) fun i hi => by
  obtain ⟨cs, hcl, ⟨y, rfl, hp⟩, hj⟩ := hc i hi
  refine ⟨y, fun j u hu => ?_, hp⟩
  have hjk : j < k := by have := (List.getElem?_eq_some_iff.1 hu).1; rwa [hf] at this
  rw [Nat.add_assoc, hj j hjk]
  exact hu
 refine ⟨xs, ⟨ao, cap, b, off, by rw [hl], ⟨by have := hn.1; omega, by rw [hl]; exact hcap _ _ _ rfl⟩, fun h0 => ⟨(hao (by omega)).1, (hao (by omega)).2⟩, fun i y hi => (hx i y hi).1⟩, fun y hy => ?_⟩
 obtain ⟨i, hi⟩ := List.mem_iff_getElem?.1 hy
 exact (hx i y hi).2
end
end Go.Proofs.YtngfknplljedeaaGreat
namespace Go.Proofs.YtngfknplljedeaaGreat
open Go.Joins Go.ChangeShapes Go.WideShapes Go.RowKit Go.Deep
section
variable {H : Type} {enc : TypeId × Value → H} {w : World} {base : Nat} {held : Bool}
theorem trod_attr {fuel : Nat} {cs : List Value} {x : DataW H × List MemPlace} (h : DataW.trod enc Tryz.prog w base (fun _ => true) held fuel 38 cs = some x) : ∃ a : Pa, cs = a.vs ∧ a.num := by
 obtain ⟨a, h1, _, h2⟩ := trod_pa Tryz.underlying38 (ti := 3) (by kernel_rfl) Tryz.underlying3 (by kernel_rfl) (by kernel_rfl) h
 exact ⟨a, h1, h2⟩
end
end Go.Proofs.YtngfknplljedeaaGreat
namespace Go.Proofs.YtngfknplljedeaaGreat
open Go.Joins Go.ChangeShapes Go.WideShapes Go.RowKit Go.Deep
set_option maxRecDepth 100000 in
theorem eq_at (a b : Pa) (d : Nat) (w : World) : (Op.equalIn (d + 2) 38 (.agg a.vs.toArray) (.agg b.vs.toArray)).run Tryz.prog w = .ok (decide (a = b)) w := by
 have hS : Tryz.prog.underlying 38 = some (.struct (Tryz.prog.fieldsOf 38)) := by kernel_rfl
 have hp : Tryz.prog.stoodInHeld 38 = false := by kernel_rfl
 rw [run_equalIn_struct w (d + 1) 38 _ _ hS hp]
 simp only [Program.fieldsOf, Tryz.underlying38]
 refine (eqFields_cons (by rfl) (by kernel_rfl) (by kernel_rfl) (eq_int a.ty b.ty d w) (eqFields_cons (by rfl) (by kernel_rfl) (by kernel_rfl) (eq_int a.mode b.mode d w) (eqFields_cons (by rfl) (by kernel_rfl) (by kernel_rfl) (eq_int a.nlink b.nlink d w) (eqFields_cons (by rfl) (by kernel_rfl) (by kernel_rfl) (eq_int a.uid b.uid d w) (eqFields_cons (by rfl) (by kernel_rfl) (by kernel_rfl) (eq_int a.gid b.gid d w) (eqFields_cons (by rfl) (by kernel_rfl) (by kernel_rfl) (eq_int a.size b.size d w) (eqFields_cons (by rfl) (by kernel_rfl) (by kernel_rfl) (eq_int a.id b.id d w) (eqFields_cons (by rfl) (by kernel_rfl) (by kernel_rfl) (eq_int a.gen b.gen d w) (eqFields_cons (by rfl) (by kernel_rfl) (by kernel_rfl) (eq_int a.change b.change d w) (eqFields_cons (by rfl) (by kernel_rfl) (by kernel_rfl) (eq_int a.time b.time d w) eqFields_nil)))))))))).trans ?_
 congr 1
 obtain ⟨a0, a1, a2, a3, a4, a5, a6, a7, a8, a9⟩ := a
 obtain ⟨b0, b1, b2, b3, b4, b5, b6, b7, b8, b9⟩ := b
 rw [Bool.eq_iff_iff]
 simp only [Bool.and_eq_true, decide_eq_true_eq, Pa.mk.injEq, and_true]
set_option maxRecDepth 100000 in
theorem eq_ch (a b : Ch) (d : Nat) (w : World) : (Op.equalIn (d + 3) 40 (.agg a.vs.toArray) (.agg b.vs.toArray)).run Tryz.prog w = .ok (decide (a = b)) w := by
 have hS : Tryz.prog.underlying 40 = some (.struct (Tryz.prog.fieldsOf 40)) := by kernel_rfl
 have hp : Tryz.prog.stoodInHeld 40 = false := by kernel_rfl
 rw [run_equalIn_struct w (d + 2) 40 _ _ hS hp]
 simp only [Program.fieldsOf, Tryz.underlying40]
 refine (eqFields_cons (by rfl) (by kernel_rfl) (by kernel_rfl) (eq_int a.kind b.kind (d + 1) w) (eqFields_cons (by rfl) (by kernel_rfl) (by kernel_rfl) (eq_int a.epoch b.epoch (d + 1) w) (eqFields_cons (by rfl) (by kernel_rfl) (by kernel_rfl) (eq_int a.serial b.serial (d + 1) w) (eqFields_cons (by rfl) (by kernel_rfl) (by kernel_rfl) (eq_str a.up b.up (d + 1) w) (eqFields_cons (by rfl) (by kernel_rfl) (by kernel_rfl) (eq_str a.name b.name (d + 1) w) (eqFields_cons (by rfl) (by kernel_rfl) (by kernel_rfl) (eq_str a.child b.child (d + 1) w) (eqFields_cons (by rfl) (by kernel_rfl) (by kernel_rfl) (eq_at a.attr b.attr d w) (eqFields_cons (by rfl) (by kernel_rfl) (by kernel_rfl) (eq_int a.no b.no (d + 1) w) (eqFields_cons (by rfl) (by kernel_rfl) (by kernel_rfl) (eq_int a.slot b.slot (d + 1) w) eqFields_nil))))))))).trans ?_
 congr 1
 obtain ⟨a0, a1, a2, a3, a4, a5, a6, a7, a8⟩ := a
 obtain ⟨b0, b1, b2, b3, b4, b5, b6, b7, b8⟩ := b
 rw [Bool.eq_iff_iff]
 simp only [Bool.and_eq_true, decide_eq_true_eq, Ch.mk.injEq, and_true]
set_option maxRecDepth 100000 in
theorem run_ne_ch (a b : Ch) (w : World) : (binOp .neq 40 (.agg a.vs.toArray) (.agg b.vs.toArray)).run Tryz.prog w = .ok (.bool (!decide (a = b))) w := by
 rw [run_neq_struct, show (10000 : Nat) = 9997 + 3 from rfl, eq_ch a b 9997 w]
 rfl
end Go.Proofs.YtngfknplljedeaaGreat
namespace Go.Proofs.YtngfknplljedeaaGreat
open Go.RowKit
def Ch.small (x : Ch) : Prop := x.up.size ≤ 100 ∧ x.name.size ≤ 300 ∧ x.child.size ≤ 100
def LargeSays (n : Nat) (xs : List Ch) (e : Ending) : Prop := ∃ r, e = .returned (.bool r) ∧ (r = false → n ≤ 40 ∧ ∀ x ∈ xs, x.small)
theorem LargeSays.yes (n : Nat) (xs : List Ch) : LargeSays n xs (.returned (.bool true)) := ⟨true, rfl, fun e => by cases e⟩
set_option maxRecDepth 100000 in
set_option maxHeartbeats 2000000 in
theorem rxLarge_any {B : Nat} (v : Value) (xs : List Ch) (w : World) (h : RowsAt B 18 Ch.vs v xs w) :
 Calls Tryz.prog 14 #[v] w fun e w' => LargeSays xs.length xs e ∧ w = w' := by
 obtain ⟨ao, cap, b, off, rfl, hl, hx⟩ := h.walk
 obtain ⟨n, hnn⟩ : ∃ n, n = xs.length := ⟨_, rfl⟩
 rw [← hnn] at hl hx ⊢
 have HX := hI (show ∀ i, i < n → ∃ x : Ch, xs[i]? = some x ∧ ao = some ⟨b, off, none⟩ ∧ w.rangeAt b (off + i * 18) x.vs from fun i hi => by
  obtain ⟨x, e1, e2, _, e4⟩ := hx i hi
  exact ⟨x, e1, e2, e4⟩)
 have HN := hI hnn
 clear hx h hnn
 go_enter Tryz.func14, Tryz.ntmps14
 go_wp2_with fail
 go_loopw [3] (fun c wr => ∃ i : Nat, i ≤ n ∧ i ≤ 40 ∧ c = .int .i64 i ∧ (∀ (j : Nat) x, j < i → xs[j]? = some x → x.small) ∧ wr = w) (fun c _ => n - (intOf c).toNat)
 case atStart => exact ⟨0, Nat.zero_le _, Nat.zero_le _, rfl, fun j x hj => absurd hj (Nat.not_lt_zero _), rfl⟩
 case round =>
  obtain ⟨i, hi, h40, rfl, hall, rfl⟩ := hrel
  have HAll := hI hall
  clear hall
  by_cases hlt : i < n
  · by_cases hl40 : i < 40
    · obtain ⟨x, hxi, rfl, hr⟩ := HX.out i hlt
      obtain ⟨x0, x1, x2, xu, xn, xc, ⟨a0, a1, a2, a3, a4, a5, a6, a7, a8, a9⟩, xo, xl⟩ := x
      have c3 : wr.cell? ⟨b, off + i * 18 + 3, none⟩ = some (.string xu) := hr 3 _ rfl
      have c4 : wr.cell? ⟨b, off + i * 18 + 4, none⟩ = some (.string xn) := hr 4 _ rfl
      have c5 : wr.cell? ⟨b, off + i * 18 + 5, none⟩ = some (.string xc) := hr 5 _ rfl
      have HXi := hI hxi
      have i0 : (0 : Int) ≤ (i : Int) := by omega
      have i1 : (i : Int) < (n : Int) := by omega
      have i2 : decide ((i : Int) < 40) = true := decide_eq_true (by omega)
      clear hr hxi
      by_cases h1 : 100 < xu.size
      · have d1 : decide ((xu.size : Int) > 100) = true := decide_eq_true (by omega)
        go_wp2_with fail
        go_ret
        exact ⟨LargeSays.yes _ _, rfl⟩
      have d1 : decide ((xu.size : Int) > 100) = false := decide_eq_false (by omega)
      by_cases h2 : 300 < xn.size
      · have d2 : decide ((xn.size : Int) > 300) = true := decide_eq_true (by omega)
        go_wp2_with fail
        go_ret
        exact ⟨LargeSays.yes _ _, rfl⟩
      have d2 : decide ((xn.size : Int) > 300) = false := decide_eq_false (by omega)
      by_cases h3 : 100 < xc.size
      · have d3 : decide ((xc.size : Int) > 100) = true := decide_eq_true (by omega)
        go_wp2_with fail
        go_ret
        exact ⟨LargeSays.yes _ _, rfl⟩
      have d3 : decide ((xc.size : Int) > 100) = false := decide_eq_false (by omega)
      have HS := hI (And.intro h1 (And.intro h2 h3))
      clear h1 h2 h3
      go_wp2_with fail
      go_roundw
      case rel =>
       refine ⟨i + 1, hlt, hl40, by go_num, fun j x hj hx => ?_, by trivial⟩
       by_cases hji : j < i
       · exact HAll.out j x hji hx
       · obtain rfl : j = i := by omega
         rw [HXi.out] at hx
         cases hx
         obtain ⟨s1, s2, s3⟩ := HS.out
         exact ⟨Nat.not_lt.1 s1, Nat.not_lt.1 s2, Nat.not_lt.1 s3⟩
      case measure => simp [intOf]; omega
    · obtain rfl : i = 40 := by omega
      have i1 : decide (((40 : Nat) : Int) < (n : Int)) = true := decide_eq_true (by omega)
      have i3 : decide ((n : Int) > 40) = true := decide_eq_true (by omega)
      go_wp2_with fail
      go_ret
      exact ⟨LargeSays.yes _ _, rfl⟩
  · obtain rfl : i = n := by omega
    have i3 : decide ((i : Int) > 40) = false := decide_eq_false (by omega)
    go_wp2_with fail
    go_ret
    refine ⟨⟨false, rfl, fun _ => ⟨h40, fun x hx => ?_⟩⟩, rfl⟩
    obtain ⟨j, hj⟩ := List.mem_iff_getElem?.1 hx
    exact HAll.out j x (by rw [HN.out]; exact (List.getElem?_eq_some_iff.1 hj).1) hj
end Go.Proofs.YtngfknplljedeaaGreat
