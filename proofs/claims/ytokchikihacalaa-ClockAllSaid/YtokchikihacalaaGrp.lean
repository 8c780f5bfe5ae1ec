/- 'slices.Repeat' of one state: a row of so many of it. -/
import Derived.Test.YtokchikihacalaaGc
import Derived.Test.YtokchikihacalaaSh
import Derived.Laws.CopyOwn
namespace Go.Proofs.Ytokchikihacalaa
open Go.RowKit

theorem wpList_mkS {P : Program} {ops : Array Oper} {rest : List Oper} {o : Oper} {a : Act} {w : World} {Q : Exit → Act → World → Prop} (hgd : o.guard = none) (t e : TypeId) (x y : Operand) (ho : o.op = .makeSlice t x y) (i : TypeInfo) (z : Value)
    (ht : P.underlying t = some (.slice e)) (hi : P.info? e = some i) (hz : i.zero = some z) (hs : i.size = 1) (hz1 : z.cells = #[z]) (n : Nat) (hx : a.eval x = .int .i64 (n : Int)) (hy : a.eval y = .int .i64 (n : Int)) (hbytes : (i.bytes : Int) * n ≤ 281474976710656) (h63 : (n : Int) ≤ 9223372036854775807)
    (h : ∀ w', Hid (w'.heap[w.heap.size]? = some (.cells (List.replicate n z).toArray e (0, 0))) → Hid (w'.ownsRow w.heap.size e 1 (.slice (some ⟨w.heap.size, 0, none⟩) n n) n (List.replicate n z)) → Below w.heap.size w w' → wpList P ops Q rest (a.put o.dst (.slice (some ⟨w.heap.size, 0, none⟩) n n)) w') : wpList P ops Q (o :: rest) a w := by
  refine wpList_plain hgd fun K hK => ?_
  have hrun := run_make (P := P) w t e i z ht hi hz .i64 .i64 n n (by omega) (Int.le_refl _) hbytes h63
  simp only [Int.toNat_natCast] at hrun
  unfold Oper.wp execOp
  simp only [ho, hx, hy, Sem.run_bind, hrun, Result.andThen_ok]
  have e1 : madeCells z.cells (n * i.size) = (List.replicate n z).toArray := by
    rw [hz1, hs, Nat.mul_one]
    apply Array.ext'
    rw [toList_madeCells_one]
  rw [e1]
  refine hK _ _ (h _ ?_ ?_ ((Below.refl _ w).alloc (Nat.le_refl _) _))
  · exact heap_alloc_new w _
  · have h := World.ownsRow_lit (base := w.heap.size) (e := e) (size := 1) w (List.replicate n z).toArray n (Nat.le_refl _) (by unfold maxLen; omega) (by simp)
    exact h
/-- n places, m of them x. -/
def filled (m n : Nat) (x : Int) : List Value := List.replicate m (.int .u8 x) ++ List.replicate (n - m) (.int .u8 0)
theorem filled_length (m n : Nat) (x : Int) (h : m ≤ n) : (filled m n x).length = n := by simp [filled]; omega
theorem filled_more (m n c : Nat) (x : Int) (h : m + c ≤ n) : splice (filled m n x) m (List.replicate c (.int .u8 x)) = filled (m + c) n x := by
  unfold splice filled
  have e1 : (List.replicate m (Value.int .u8 x) ++ List.replicate (n - m) (Value.int .u8 0)).take m = List.replicate m (.int .u8 x) := by
    rw [List.take_append_of_le_length (by simp), List.take_replicate, Nat.min_self]
  have e2 : (List.replicate m (Value.int .u8 x) ++ List.replicate (n - m) (Value.int .u8 0)).drop (m + c) = List.replicate (n - (m + c)) (Value.int .u8 0) := by
    rw [List.drop_append, List.drop_eq_nil_of_le (by simp), List.nil_append, List.length_replicate, List.drop_replicate]
    congr 1; omega
  rw [List.length_replicate, e1, e2, ← List.append_assoc, List.replicate_append_replicate]
theorem filled_at (m n : Nat) (x : Int) (j : Nat) (v : Value) (h : (List.replicate m (Value.int .u8 x))[j]? = some v) : (filled m n x)[j]? = some v := by
  unfold filled
  rw [List.getElem?_append_left (List.getElem?_eq_some_iff.1 h).1]
  exact h
theorem Try.infoState : (Try.prog.info? 93).map (fun i => (i.zero, i.size, i.bytes)) = some (some (.int .u8 0), 1, 1) := by kernel_rfl
theorem Try.sizeState : (Try.prog.info? 93).map (·.size) = some 1 := by kernel_rfl
set_option maxRecDepth 100000 in
set_option maxHeartbeats 2000000 in
theorem gRepeat_any (b0 c0 n : Nat) (x : Int) (w : World) (h0 : w.cell? ⟨b0, 0, none⟩ = some (.int .u8 x)) (hb0 : b0 < w.heap.size) (hn1 : 1 ≤ n) (hn2 : n ≤ 65536) :
    Calls Try.prog 49 #[.slice (some ⟨b0, 0, none⟩) 1 c0, .int .i64 (n : Int)] w fun e w' => e = .returned (.slice (some ⟨w.heap.size, 0, none⟩) n n) ∧ w'.ownsRow w.heap.size 93 1 (.slice (some ⟨w.heap.size, 0, none⟩) n n) n (List.replicate n (.int .u8 x)) ∧ Below w.heap.size w w' := by
  obtain ⟨iz, hiz, hz0, hz1, hz2⟩ := info_parts Try.infoState
  have hb : (iz.bytes : Int) * (n : Int) ≤ 281474976710656 := by rw [hz2]; omega
  have hm := Try.bits_Mul 1 n (by decide) (by omega) w
  rw [show 1 * n / 18446744073709551616 = 0 from by omega, show 1 * n % 18446744073709551616 = n from by omega] at hm
  have HMul := Lib.hid (show Calls Try.prog 57 #[.int .u64 1, .int .u64 (n : Int)] w fun e w' => e = .returned (.tuple #[.int .u64 0, .int .u64 (n : Int)]) ∧ w = w' from hm.mono fun e w' ⟨h1, h2⟩ => ⟨h1, h2.symm⟩)
  clear hm
  have d0 : decide ((n : Int) < 0) = false := decide_eq_false (by omega)
  have d1 : decide ((n : Int) > 9223372036854775807) = false := decide_eq_false (by omega)
  have w1 : IntKind.u64.wrap (n : Int) = n := by rw [IntKind.wrap_u64]; omega
  have w2 : IntKind.i64.wrap (n : Int) = n := IntWalk.i64_in _ (by omega)
  have HC := Lib.hid (fun W (hW : Below w.heap.size w W) => (hW.cell (p := ⟨b0, 0, none⟩) hb0).trans h0)
  go_enter Try.func49, Try.ntmps49
  go_wp2_with (first
    | (go_at_call 57; go_must (with_reducible refine HMul.out.mono ?_); rintro e w1 ⟨rfl, rfl⟩)
    | ((with_reducible show wpList _ _ _ ({ dst := _, op := .makeSlice _ _ _, type := _, pos := _, after := _, guard := _ } :: _) _ _); refine wpList_mkS rfl 91 93 _ _ rfl iz (.int .u8 0) Try.underlying91 hiz hz0 hz1 rfl n rfl rfl hb (by omega) ?_; intro w3 h3 r3 b3)
    | (refine wpList_copy_splice rfl (.tmp 31) (.tmp 32) 91 91 rfl 93 Try.underlying91 Try.sizeState _ _ _ _ _ _ rfl rfl w.heap.size 0 (filled 0 n x) 93 (show w3.heap[w.heap.size]? = some (.cells (filled 0 n x).toArray 93 (0, 0)) from by unfold filled; rw [List.replicate_zero, List.nil_append, Nat.sub_zero]; exact h3.out) [.int .u8 x] (by simp [Nat.min_def]; omega) (fun _ => ⟨rfl, _, rfl, fun j v hj => by have hj0 : j = 0 := by { have := (List.getElem?_eq_some_iff.1 hj).1; simpa using this }; subst hj0; simp only [List.getElem?_cons_zero, Option.some.injEq] at hj; subst hj; exact HC.out _ b3⟩) (by rw [filled_length 0 n x (Nat.zero_le _)]; simpa using hn1) (by intro v hv; simp at hv; subst hv; rfl) w.heap.size w b3 (Nat.le_refl _) ?_; intro w4 h4 b4))
  have e4 : splice (filled 0 n x) 0 [.int .u8 x] = filled 1 n x := filled_more 0 n 1 x (by omega)
  rw [e4] at h4
  have H4 := Lib.hid h4
  have B4 := Lib.hid b4
  clear h4 b4 h3 r3 b3 e4 d0 d1 w1 w2 h0 HC HMul hb
  go_loopw [8] (fun c wr => ∃ m : Nat, 1 ≤ m ∧ m ≤ n ∧ c = .int .i64 m ∧ wr.heap[w.heap.size]? = some (.cells (filled m n x).toArray 93 (0, 0)) ∧ Below w.heap.size w wr) (fun c _ => n - (intOf c).toNat)
  case atStart => exact ⟨1, Nat.le_refl _, hn1, rfl, H4.out.out, B4.out⟩
  case round =>
    obtain ⟨m, hm1, hm, rfl, hr, hbr⟩ := hrel
    have HR := Lib.hid hr
    have HB := Lib.hid hbr
    clear hr hbr
    by_cases hlt : m < n
    · have b0 : (0 : Int) ≤ (m : Int) := by omega
      have b1 : (m : Int) < (n : Int) := by omega
      have b2 : (m : Int) ≤ (n : Int) := by omega
      go_wp2
      obtain ⟨c, hc⟩ : ∃ c, c = Nat.min m (n - m) := ⟨_, rfl⟩
      have hc1 : 1 ≤ c := by rw [hc]; simp only [Nat.min_def]; split <;> omega
      have hc2 : m + c ≤ n := by rw [hc]; simp only [Nat.min_def]; split <;> omega
      have w9 : IntKind.i64.wrap ((m : Int) + (c : Int)) = ((m + c : Nat) : Int) := by rw [IntWalk.i64_in _ (by omega)]; omega
      have hcs : (List.replicate c (Value.int .u8 x)).length = c := by simp
      have HS := Lib.hid (show ∀ j v, (List.replicate c (Value.int .u8 x))[j]? = some v → wr.cell? ((⟨w.heap.size, 0, none⟩ : Addr).add j) = some v from fun j v hj => by
        have h1 : (filled m n x)[j]? = some v := filled_at m n x j v (by
          have hjc := (List.getElem?_eq_some_iff.1 hj).1
          rw [List.length_replicate] at hjc
          have hcm : c ≤ m := by rw [hc]; exact Nat.min_le_left _ _
          rw [List.getElem?_replicate_of_lt (by omega)]
          rw [List.getElem?_replicate_of_lt (by omega)] at hj
          exact hj)
        rw [Addr.add_mid, Nat.zero_add]
        exact St.cell (T := 93) HR.out (by simpa using h1))
      have HL := Lib.hid (show c = Nat.min m (n - m) from hc)
      have hnm : ¬ n = m := by omega
      have hn0 : ¬ n = 0 := by omega
      have hm0 : ¬ m = 0 := by omega
      clear hc
      go_region_law (refine step_copy_splice rfl (.tmp 41) (.tmp 44) 91 91 rfl 93 Try.underlying91 Try.sizeState (some ⟨w.heap.size, m, none⟩) (some ⟨w.heap.size, 0, none⟩) (n - m) (n - m) m n (by simp [Act.eval, Act.put, hnm, hn0, hm0]) (by simp [Act.eval, Act.put, hnm, hn0, hm0]) w.heap.size m (filled m n x) 93 HR.out (List.replicate c (.int .u8 x)) (by rw [hcs]; exact HL.out) (fun _ => ⟨rfl, _, rfl, HS.out⟩) (by rw [hcs, filled_length m n x hm]; exact hc2) (by intro v hv; rw [List.eq_of_mem_replicate hv]; rfl) w.heap.size w (below_drewN HB.out 1) (Nat.le_refl _) ?_; intro w5 h5 b5)
      rw [filled_more m n c x hc2] at h5
      have H5 := Lib.hid h5
      have B5 := Lib.hid b5
      clear h5 b5
      go_simp
      refine ⟨?_, ?measure⟩
      (repeat apply Exists.intro)
      refine ⟨?rel, rfl⟩
      case rel => exact ⟨m + c, by omega, hc2, by go_num, H5.out.out, B5.out⟩
      case measure => simp [intOf]; omega
    · obtain rfl : m = n := by omega
      go_wp2
      go_ret
      have e9 : filled m m x = List.replicate m (.int .u8 x) := by unfold filled; rw [Nat.sub_self, List.replicate_zero, List.append_nil]
      refine ⟨rfl, ⟨by simp, .inr ⟨w.heap.size, m, _, rfl, Nat.le_refl _, HR.out, Nat.le_refl _, by unfold maxLen; omega, by rw [e9]; simp, ?_⟩⟩, HB.out⟩
      rw [e9]
      simp
end Go.Proofs.Ytokchikihacalaa
