/- Steps as arguments; the reference's Large. -/
import Derived.Test.YtfipojmgmmjnmaaDk
import Derived.Test.YtfipojmgmmjnmaaOs
namespace Go.Proofs.Ytfipojmgmmjnmaa
open Go.Joins Go.ChangeShapes Go.WideShapes Go.RowKit Go.Deep

def Sp.num (x : Sp) : Prop := i64 x.kind ∧ i64 x.i ∧ x.s.size ≤ 9223372036854775807
/-- A slice of steps, all of it below B. -/
def Steps (B : Nat) (v : Value) (xs : List Sp) (w : World) : Prop :=
  ∃ (ao : Option Addr) (cap b off : Nat), v = .slice ao xs.length cap ∧ xs.length ≤ 9223372036854775807 ∧ (0 < xs.length → ao = some ⟨b, off, none⟩ ∧ b < B) ∧
    ∀ (i : Nat) (x : Sp), xs[i]? = some x → x.num ∧ ∃ kv, w.cell? ⟨b, off + i * 4, none⟩ = some (.int .i64 x.kind) ∧ w.cell? ⟨b, off + i * 4 + 1, none⟩ = some (.int .i64 x.i) ∧ w.cell? ⟨b, off + i * 4 + 2, none⟩ = some (.string x.s) ∧ w.cell? ⟨b, off + i * 4 + 3, none⟩ = some kv ∧ Ints (fun j => j < B) kv x.keep w

section
variable {H : Type} {enc : TypeId × Value → H} {w : World} {base : Nat} {held : Bool}
theorem open_ints {fuel : Nat} {v : Value} {x : DataW H × List MemPlace} (hv : ∃ a len cap, v = .slice a len cap) (h : DataW.trod enc Try.prog w base (fun _ => true) held fuel 34 v.cells.toList = some x) :
    ∃ xs : List Int, Ints (fun j => j < w.heap.size) v xs w ∧ ∀ y ∈ xs, i64 y := by
  obtain ⟨ao, n, cap, b, off, rfl, hn, hao, hc⟩ := open_rows (P := Try.prog) (k := 1) (R := fun cs => ∃ m : Int, cs = [.int .i64 m] ∧ i64 m) Try.underlying34 (by kernel_rfl) (by omega) (fun {fuel cs x} h => by
    obtain ⟨m, e1, _, e3⟩ := DataW.trod_int Try.underlying3 h
    exact ⟨m, e1, i64_of e3⟩) hv h
  obtain ⟨xs, hl, hx⟩ := exists_list n (fun i (m : Int) => w.cell? ⟨b, off + i, none⟩ = some (.int .i64 m) ∧ i64 m) fun i hi => by
    obtain ⟨cs, hcl, ⟨m, rfl, hm⟩, hj⟩ := hc i hi
    exact ⟨m, by have := hj 0 (by omega); simpa using this, hm⟩
  refine ⟨xs, ⟨ao, cap, b, off, by rw [hl], ⟨by omega, hn.2⟩, fun h0 => ⟨(hao (by omega)).1, (hao (by omega)).2, (hao (by omega)).2⟩, fun i y hy => (hx i y hy).1⟩, fun y hy => ?_⟩
  obtain ⟨i, hi⟩ := List.mem_iff_getElem?.1 hy
  exact (hx i y hi).2
theorem slice_of {v : Value} {fuel : Nat} {x : DataW H × List MemPlace} {t e : TypeId} (ht : Try.prog.underlying t = some (.slice e)) (h : DataW.trod enc Try.prog w base (fun _ => true) held fuel t [v] = some x) : ∃ a len cap, v = .slice a len cap := by
  rcases DataW.trod_slice ht h with ⟨h1, _⟩ | ⟨a, len, cap, _, _, _, _, h1, _⟩
  · simp at h1; exact ⟨_, _, _, h1⟩
  · simp at h1; exact ⟨_, _, _, h1⟩
theorem slice_cells {a : Option Addr} {len cap : Nat} : (Value.slice a len cap).cells.toList = [Value.slice a len cap] := rfl

set_option maxRecDepth 100000 in
theorem trod_step {fuel : Nat} {cs : List Value} {x : DataW H × List MemPlace} (h : DataW.trod enc Try.prog w base (fun _ => true) held fuel 36 cs = some x) :
    ∃ (s : Sp) (kv : Value), cs = [.int .i64 s.kind, .int .i64 s.i, .string s.s, kv] ∧ Ints (fun j => j < w.heap.size) kv s.keep w ∧ s.num := by
  obtain ⟨xs, n, _, hx, hl, hlen, hg⟩ := DataW.trod_struct Try.underlying36 h
  have h4 : cs.length = 4 := hl.trans (by kernel_rfl)
  match cs, h4 with
  | [c0, c1, c2, c3], _ =>
    have k1 : Try.prog.cellsOf 3 = 1 := by kernel_rfl
    have k2 : Try.prog.cellsOf 9 = 1 := by kernel_rfl
    have k3 : Try.prog.cellsOf 34 = 1 := by kernel_rfl
    have g0 := trod_at (i := 0) (off := 0) (ti := 3) (by kernel_rfl) k1 hg
    have g1 := trod_at (i := 1) (off := 1) (ti := 3) (by kernel_rfl) k1 hg
    have g2 := trod_at (i := 2) (off := 2) (ti := 9) (by kernel_rfl) k2 hg
    have g3 := trod_at (i := 3) (off := 3) (ti := 34) (by kernel_rfl) k3 hg
    have hl4 : xs.length = 4 := hlen
    match xs, hl4 with
    | [y0, y1, y2, y3], _ =>
      simp only [List.drop_zero, List.take_succ_cons, List.take_zero, List.drop_succ_cons] at g0 g1 g2 g3
      obtain ⟨m0, e0, _, f0⟩ := DataW.trod_int Try.underlying3 (g0.trans rfl)
      obtain ⟨m1, e1, _, f1⟩ := DataW.trod_int Try.underlying3 (g1.trans rfl)
      obtain ⟨m2, e2, _, f2⟩ := DataW.trod_string Try.underlying9 (g2.trans rfl)
      obtain ⟨a, len, cap, rfl⟩ := slice_of Try.underlying34 (g3.trans rfl)
      obtain ⟨ks, hk, _⟩ := open_ints (v := .slice a len cap) ⟨a, len, cap, rfl⟩ (g3.trans rfl)
      simp only [List.cons.injEq, and_true] at e0 e1 e2
      subst e0 e1 e2
      unfold maxLen at f2
      exact ⟨⟨m0, m1, m2, ks⟩, _, rfl, hk, i64_of f0, i64_of f1, f2⟩
theorem open_steps {fuel : Nat} {v : Value} {x : DataW H × List MemPlace} (hv : ∃ a len cap, v = .slice a len cap) (h : DataW.trod enc Try.prog w base (fun _ => true) held fuel 22 v.cells.toList = some x) :
    ∃ xs : List Sp, Steps w.heap.size v xs w := by
  obtain ⟨ao, n, cap, b, off, rfl, hn, hao, hc⟩ := open_rows (P := Try.prog) (k := 4) (R := fun cs => ∃ (s : Sp) (kv : Value), cs = [.int .i64 s.kind, .int .i64 s.i, .string s.s, kv] ∧ Ints (fun j => j < w.heap.size) kv s.keep w ∧ s.num) Try.underlying22 (by kernel_rfl) (by omega) (fun {fuel cs x} h => trod_step h) hv h
  obtain ⟨xs, hl, hx⟩ := exists_list n (fun i (x : Sp) => x.num ∧ ∃ kv, w.cell? ⟨b, off + i * 4, none⟩ = some (.int .i64 x.kind) ∧ w.cell? ⟨b, off + i * 4 + 1, none⟩ = some (.int .i64 x.i) ∧ w.cell? ⟨b, off + i * 4 + 2, none⟩ = some (.string x.s) ∧ w.cell? ⟨b, off + i * 4 + 3, none⟩ = some kv ∧ Ints (fun j => j < w.heap.size) kv x.keep w) fun i hi => by
    obtain ⟨cs, hcl, ⟨s, kv, rfl, hk, hn⟩, hj⟩ := hc i hi
    exact ⟨s, hn, kv, hj 0 (by omega), hj 1 (by omega), hj 2 (by omega), hj 3 (by omega), hk⟩
  exact ⟨xs, ao, cap, b, off, by rw [hl], by have := hn.1; omega, fun h0 => ⟨(hao (by omega)).1, (hao (by omega)).2⟩, hx⟩
end

def bigSp (x : Sp) : Bool := decide (200 < x.s.size) || decide (60 < x.keep.length)
/-- Are there too many steps, or too long ones? -/
def largeSp (xs : List Sp) : Bool := (xs.take 60).any bigSp || decide (60 < xs.length)
theorem any_take_succ (xs : List Sp) (k : Nat) (x : Sp) (h : xs[k]? = some x) : (xs.take (k + 1)).any bigSp = ((xs.take k).any bigSp || bigSp x) := by
  obtain ⟨hk, rfl⟩ := List.getElem?_eq_some_iff.1 h
  rw [List.take_succ_eq_append_getElem hk, List.any_append]
  simp

theorem large_of (xs : List Sp) (k : Nat) (hk : k < 60) (h : (xs.take (k + 1)).any bigSp = true) : largeSp xs = true := by
  unfold largeSp
  rw [Bool.or_eq_true]
  left
  rw [List.any_eq_true] at h ⊢
  obtain ⟨x, hx, hb⟩ := h
  refine ⟨x, ?_, hb⟩
  have e : xs.take (k + 1) = (xs.take 60).take (k + 1) := by rw [List.take_take, Nat.min_eq_left (by omega)]
  rw [e] at hx
  exact List.mem_of_mem_take hx

set_option maxRecDepth 100000 in
set_option maxHeartbeats 1000000 in
theorem dkLarge_any (B : Nat) (v : Value) (xs : List Sp) (w : World) (h : Steps B v xs w) :
    Calls Try.prog 9 #[v] w fun e w' => e = .returned (.bool (largeSp xs)) ∧ w = w' := by
  obtain ⟨ao, cap, b, off, rfl, hl, hao, hx⟩ := h
  obtain ⟨n, hn⟩ : ∃ n, n = xs.length := ⟨_, rfl⟩
  obtain ⟨r, hr⟩ : ∃ r, r = largeSp xs := ⟨_, rfl⟩
  have HR := Lib.hid hr
  have HN := Lib.hid hn
  have HX := Lib.hid (show ∀ k, k < n → ∃ (x : Sp) (ko : Option Addr) (kc : Nat), xs[k]? = some x ∧ ao = some ⟨b, off, none⟩ ∧ w.cell? ⟨b, off + k * 4 + 2, none⟩ = some (.string x.s) ∧ w.cell? ⟨b, off + k * 4 + 3, none⟩ = some (.slice ko x.keep.length kc) from fun k hk => by
    obtain ⟨x, hxk⟩ : ∃ x, xs[k]? = some x := ⟨_, List.getElem?_eq_getElem (by omega)⟩
    obtain ⟨_, kv, _, _, c2, c3, ⟨ko, kc, kb, ki, e1, _⟩⟩ := hx k x hxk
    rw [e1] at c3
    exact ⟨x, ko, kc, hxk, (hao (by omega)).1, c2, c3⟩)
  rw [← hr, ← hn]
  rw [← hn] at hl
  clear hx hao hr hn
  go_enter Try.func9, Try.ntmps9
  go_wp2
  go_loop [3] (fun c => ∃ k : Nat, k ≤ n ∧ k ≤ 60 ∧ c = .int .i64 k ∧ (xs.take k).any bigSp = false) (fun c => n - (intOf c).toNat)
  case atStart => exact ⟨0, Nat.zero_le _, by omega, rfl, rfl⟩
  case round =>
    obtain ⟨k, hk, hk6, rfl, hany⟩ := hrel
    have HA := Lib.hid hany
    clear hany
    by_cases hlt : k < n
    · by_cases h60 : k < 60
      · obtain ⟨x, ko, kc, hxk, rfl, c2, c3⟩ := HX.out k hlt
        have HK := Lib.hid (any_take_succ xs k x hxk)
        have i0 : (0 : Int) ≤ (k : Int) := by omega
        have i1 : (k : Int) < (n : Int) := by omega
        have j1 : decide ((k : Int) < 60) = true := decide_eq_true (by omega)
        clear hxk
        by_cases hs : 200 < x.s.size
        · have d1 : decide ((x.s.size : Int) > 200) = true := decide_eq_true (by omega)
          have HS := Lib.hid (show bigSp x = true by unfold bigSp; rw [decide_eq_true hs]; rfl)
          clear hs
          go_wp2
          go_ret
          refine ⟨?_, rfl⟩
          rw [show r = true from by rw [HR.out]; exact large_of xs k h60 (by rw [HK.out, HS.out]; simp)]
          rfl
        · have d1 : decide ((x.s.size : Int) > 200) = false := decide_eq_false (by omega)
          by_cases hk2 : 60 < x.keep.length
          · have d2 : decide ((x.keep.length : Int) > 60) = true := decide_eq_true (by omega)
            have HS := Lib.hid (show bigSp x = true by unfold bigSp; rw [decide_eq_true hk2, Bool.or_true])
            clear hs hk2
            go_wp2
            go_ret
            refine ⟨?_, rfl⟩
            rw [show r = true from by rw [HR.out]; exact large_of xs k h60 (by rw [HK.out, HS.out]; simp)]
            rfl
          · have d2 : decide ((x.keep.length : Int) > 60) = false := decide_eq_false (by omega)
            have HS := Lib.hid (show bigSp x = false by unfold bigSp; rw [decide_eq_false hs, decide_eq_false hk2]; rfl)
            clear hs hk2
            go_wp2
            go_round
            case rel => exact ⟨k + 1, by omega, by omega, by go_num, by rw [HK.out, HS.out, HA.out]; rfl⟩
            case measure => simp [intOf]; omega
      · obtain rfl : k = 60 := by omega
        have j1 : decide ((60 : Int) < 60) = false := by decide
        have i0 : decide (60 < n) = true := decide_eq_true hlt
        have i1 : decide ((n : Int) > 60) = true := decide_eq_true (by omega)
        go_wp2
        go_ret
        refine ⟨?_, rfl⟩
        rw [show r = true from by rw [HR.out]; unfold largeSp; rw [decide_eq_true (by rw [← HN.out]; exact hlt), Bool.or_true]]
        rfl
    · obtain rfl : k = n := by omega
      have i1 : decide ((k : Int) > 60) = false := decide_eq_false (by omega)
      go_wp2
      go_ret
      refine ⟨?_, rfl⟩
      rw [show r = false from by
        rw [HR.out]; unfold largeSp
        have hA := HA.out
        rw [HN.out, List.take_of_length_le (Nat.le_refl _)] at hA
        rw [List.take_of_length_le (by rw [← HN.out]; exact hk6), hA, decide_eq_false (by rw [← HN.out]; omega)]; rfl]
      rfl
end Go.Proofs.Ytfipojmgmmjnmaa
