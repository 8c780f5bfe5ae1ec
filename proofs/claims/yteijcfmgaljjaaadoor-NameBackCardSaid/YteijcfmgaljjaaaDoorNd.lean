/- Names: the program's checks. -/
import Derived.Test.YteijcfmgaljjaaaDoorNc
namespace Go.Proofs.YteijcfmgaljjaaaDoor
open Go.RowKit

/-- Ahead of a place a text has neither of the two bytes. -/
def NoTwo (s : ByteArray) (pos : Nat) : Prop := ∀ j (h : j < s.size), j < pos → s[j] ≠ 0 ∧ s[j] ≠ 47
theorem hasB_true {s : ByteArray} {c : UInt8} {j : Nat} (h : j < s.size) (he : s[j] = c) : hasB s.data.toList c = true := by
  unfold hasB
  rw [List.contains_iff_mem, ← he, Array.mem_toList_iff]
  exact Array.getElem_mem h
theorem hasB_false {s : ByteArray} {c : UInt8} (hn : ∀ j (h : j < s.size), s[j] ≠ c) : hasB s.data.toList c = false := by
  unfold hasB
  rw [Bool.eq_false_iff]
  intro h
  rw [List.contains_iff_mem, Array.mem_toList_iff] at h
  obtain ⟨j, hj, he⟩ := Array.mem_iff_getElem.1 h
  exact hn j hj he
theorem two_true {s : ByteArray} {j : Nat} (h : j < s.size) (he : s[j] = 0 ∨ s[j] = 47) : (hasB s.data.toList 0 || hasB s.data.toList 47) = true := by
  rcases he with he | he
  · rw [hasB_true h he]; rfl
  · rw [hasB_true h he, Bool.or_true]
theorem two_false {s : ByteArray} (hn : NoTwo s s.size) : (hasB s.data.toList 0 || hasB s.data.toList 47) = false := by
  rw [hasB_false fun j h => (hn j h h).1, hasB_false fun j h => (hn j h h).2]
  rfl

set_option maxRecDepth 100000 in
set_option maxHeartbeats 1000000 in
theorem indexAny_short (s c : ByteArray) (hc : c = ⟨#[0, 47]⟩) (h8 : s.size ≤ 8) (w : World) :
    Calls Tryd.prog 36 #[.string s, .string c] w fun e w' => (∃ z : Int, e = .returned (.int .i64 z) ∧ (0 ≤ z ↔ (hasB s.data.toList 0 || hasB s.data.toList 47) = true)) ∧ Below w.heap.size w w' := by
  have hemp : c.toList.isEmpty = false := by rw [hc]; decide +kernel
  have hsz : c.size = 2 := by rw [hc]; rfl
  have h8z : decide ((8 : Int) < (s.size : Int)) = false := by simp; omega
  have HR := Lib.hid (indexRune_two c hc)
  clear hc
  go_enter Tryd.func36, Tryd.ntmps36
  go_wp2_with (go_at_call 44; go_must (refine (Tryd.strings_shouldUseASCIISet _ _).mono ?_); rintro e w1 ⟨rfl, rfl⟩; rw [h8z])
  go_loopw [9, 10] (fun _ _ wr => ∃ pos : Nat, pos ≤ s.size ∧ NoTwo s pos ∧ wr.heap[w1.heap.size]? = some (.stringIter s pos) ∧ Below w1.heap.size w1 wr) (fun _ _ wr => s.size - wr.iterPos w1.heap.size)
  case atStart =>
    exact ⟨0, by omega, fun j _ h => absurd h (Nat.not_lt_zero _), World.iter_heap w1 s 0, (Below.refl _ w1).alloc (Nat.le_refl _) _⟩
  case round =>
    obtain ⟨pos, hps, hno, hit, hbw⟩ := hrel
    by_cases hp : pos < s.size
    · have hnx : ∀ ty, (Instr.next (.pointer (some ⟨w1.heap.size, 0, none⟩)) true ty).run Tryd.prog wr = _ := fun ty => Lib.run_next_any_at wr w1.heap.size s pos ty hit hp
      have hit2 := Lib.iterAt_heap wr w1.heap.size s pos (pos + (Utf8.decode s pos).2) hit
      have hbw2 := Lib.below_iterAt hbw (k := w1.heap.size) (by omega) s (pos + (Utf8.decode s pos).2)
      have hI := HR.out (Utf8.decode s pos).1 (by have := decode_le s pos; omega) (wr.iterAt w1.heap.size s (pos + (Utf8.decode s pos).2))
      have htk := decode_takes s pos hp
      have hszw : w1.heap.size < wr.heap.size := (Array.getElem?_eq_some_iff.1 hit).1
      have hsz2 : (wr.iterAt w1.heap.size s (pos + (Utf8.decode s pos).2)).heap.size = wr.heap.size := Lib.iterAt_size _ _ _ _
      obtain ⟨d, hd⟩ : ∃ d, d = Utf8.decode s pos := ⟨_, rfl⟩
      rw [← hd] at hnx hit2 hbw2 hI htk hsz2
      obtain ⟨r, n⟩ := d
      dsimp only at hnx hit2 hbw2 hI htk hsz2
      have HI := Lib.hid hI
      have HN := Lib.hid hno
      have HT := Lib.hid htk
      have HD := Lib.hid hd
      clear hI hno htk hd
      go_wp2_with fail
      go_must (refine HI.out.mono ?_)
      rintro e w2 ⟨⟨z, rfl, hz⟩, hb2⟩
      have hbw3 := hbw2.trans (hb2.mono (by omega))
      have hit3 : w2.heap[w1.heap.size]? = some (.stringIter s (pos + n)) := (hb2.block _ (by omega)).trans hit2
      by_cases hz0 : 0 ≤ z
      · have hzd : decide (z ≥ 0) = true := by simpa using hz0
        go_wp2_with fail
        go_ret
        refine ⟨⟨_, rfl, ?_⟩, hbw3⟩
        have hr := hz.1 hz0
        have h1 : (s[pos]'hp).toNat < 128 ∧ (r, n) = ((s[pos]'hp).toNat, 1) := by
          rcases HT.out with h | ⟨h, _⟩
          · exact h
          · omega
        have h2 : r = (s[pos]'hp).toNat := congrArg Prod.fst h1.2
        have h3 : s[pos]'hp = 0 ∨ s[pos]'hp = 47 := by
          rcases hr with hr | hr
          · exact .inl (UInt8.toNat_inj.1 (by rw [← h2, hr]; rfl))
          · exact .inr (UInt8.toNat_inj.1 (by rw [← h2, hr]; rfl))
        exact ⟨fun _ => two_true hp h3, fun _ => by omega⟩
      · have hzd : decide (z ≥ 0) = false := by simpa using hz0
        have hnr : r ≠ 0 ∧ r ≠ 47 := by
          constructor <;> intro h <;> exact hz0 (hz.2 (by omega))
        go_wp2_with fail
        go_roundw
        case rel =>
          refine ⟨pos + n, ?_, ?_, hit3, hbw3⟩
          · rcases HT.out with ⟨_, h⟩ | ⟨_, h, _⟩
            · have : n = 1 := congrArg Prod.snd h
              omega
            · omega
          · intro j hj hlt
            by_cases hjp : j < pos
            · exact HN.out j hj hjp
            · rcases HT.out with ⟨_, h⟩ | ⟨_, _, _, _, h⟩
              · have h1 : n = 1 := congrArg Prod.snd h
                have h2 : r = (s[pos]'hp).toNat := congrArg Prod.fst h
                obtain rfl : j = pos := by omega
                constructor <;> intro he <;> rw [he] at h2
                · exact hnr.1 h2
                · exact hnr.2 h2
              · obtain ⟨k, rfl⟩ : ∃ k, j = pos + k := ⟨j - pos, by omega⟩
                have := h k (by omega) hj
                constructor <;> intro he <;> rw [he] at this <;> exact absurd this (by decide)
        case measure =>
          have hn1 : 1 ≤ n := by
            rcases HT.out with ⟨_, h⟩ | ⟨_, _, h, _⟩
            · have : n = 1 := congrArg Prod.snd h
              omega
            · omega
          have e1 : w2.iterPos w1.heap.size = pos + n := by simp only [World.iterPos, hit3]
          have e2 : wr.iterPos w1.heap.size = pos := by simp only [World.iterPos, hit]
          show s.size - w2.iterPos w1.heap.size < s.size - wr.iterPos w1.heap.size
          omega
    · obtain rfl : pos = s.size := by omega
      have hnx : ∀ ty, (Instr.next (.pointer (some ⟨w1.heap.size, 0, none⟩)) true ty).run Tryd.prog wr = _ := fun ty => Lib.run_next_end_at wr w1.heap.size s s.size ty hit hp
      have HN := Lib.hid hno
      clear hno
      go_wp2_with fail
      go_ret
      refine ⟨⟨_, rfl, ?_⟩, hbw⟩
      rw [two_false HN.out]
      exact ⟨fun h => absurd h (by decide), fun h => by cases h⟩

theorem zeroSet (w : World) : (zeroValue 71).run Tryd.prog w = .ok (.agg (Array.replicate 256 (.bool false))) w :=
  (zero_of_info (P := Tryd.prog) (t := 71) (n := 256) (by kernel_rfl)).1 w
theorem indexAny_any (s c : ByteArray) (hc : c = ⟨#[0, 47]⟩) (hs : s.size < 4294967281) (w : World) :
    Calls Tryd.prog 36 #[.string s, .string c] w fun e w' => (∃ z : Int, e = .returned (.int .i64 z) ∧ (0 ≤ z ↔ (hasB s.data.toList 0 || hasB s.data.toList 47) = true)) ∧ Below w.heap.size w w' := by
  by_cases h8 : s.size ≤ 8
  · exact indexAny_short s c hc h8 w
  · have hcd : c.data.toList = [0, 47] := by rw [hc]
    have hcs : c.size = 2 := by rw [hc]; rfl
    refine (Tryd.strings_IndexAny_long zeroSet s c w (by omega) (by omega) hs (by omega) ?_).mono ?_
    · intro j b hb
      rw [hcd] at hb
      match j, hb with
      | 0, hb => cases hb; decide
      | 1, hb => cases hb; decide
    · rintro e w' ⟨rfl, rfl⟩
      refine ⟨⟨_, rfl, ?_⟩, ((Below.refl _ w).alloc (Nat.le_refl _) _).alloc (by simp) _⟩
      rw [hcd, ← indexAny_two]
      exact (decide_eq_true_iff).symm

set_option maxRecDepth 100000 in
theorem containsAny_any (s c : ByteArray) (hc : c = ⟨#[0, 47]⟩) (hs : s.size < 4294967281) (w : World) :
    Calls Tryd.prog 21 #[.string s, .string c] w fun e w' => e = .returned (.bool (hasB s.data.toList 0 || hasB s.data.toList 47)) ∧ Below w.heap.size w w' := by
  have HI := Lib.hid (indexAny_any s c hc hs w)
  obtain ⟨b, hb⟩ : ∃ b, b = (hasB s.data.toList 0 || hasB s.data.toList 47) := ⟨_, rfl⟩
  rw [← hb] at HI ⊢
  clear hc hb
  go_enter Tryd.func21, Tryd.ntmps21
  go_wp2_with fail
  go_must (refine HI.out.mono ?_)
  rintro e w2 ⟨⟨z, rfl, hz⟩, hb2⟩
  cases b with
  | true =>
    have hd : decide (z ≥ 0) = true := by simpa using hz.2 rfl
    go_wp2_with fail
    go_ret
    exact ⟨rfl, hb2⟩
  | false =>
    have hd : decide (z ≥ 0) = false := by
      rw [decide_eq_false_iff_not]
      intro h
      have := hz.1 h
      cases this
    go_wp2_with fail
    go_ret
    exact ⟨rfl, hb2⟩

theorem contains_byte (xs : List UInt8) (c : UInt8) : decide (0 ≤ Lib.indexByte xs c) = hasB xs c := by
  induction xs with
  | nil => rfl
  | cons b l ih =>
    have e : Lib.indexByte (b :: l) c = if b == c then 0 else if Lib.indexByte l c == -1 then -1 else Lib.indexByte l c + 1 := rfl
    have hh : hasB (b :: l) c = ((b == c) || hasB l c) := by
      unfold hasB
      rw [List.contains_cons, show (c == b) = (b == c) from BEq.comm]
    have hge : -1 ≤ Lib.indexByte l c := by rw [← Lib.indexAny_one]; exact Lib.indexAny_ge _ _
    rw [hh, e, ← ih]
    cases (b == c) with
    | true => rfl
    | false =>
      simp only [Bool.false_eq_true, if_false, Bool.false_or]
      by_cases h1 : Lib.indexByte l c = -1
      · rw [h1]; rfl
      · have h2 : (Lib.indexByte l c == -1) = false := by simpa using h1
        rw [h2]
        simp only [Bool.false_eq_true, if_false]
        have a1 : 0 ≤ Lib.indexByte l c := by omega
        have a2 : 0 ≤ Lib.indexByte l c + 1 := by omega
        simp [a1, a2]

set_option maxRecDepth 100000 in
theorem nCheck_eq (s : ByteArray) (w : World) (hs : s.size < 4294967281) :
    Calls Tryd.prog 9 #[.string s] w fun e w' => e = .returned (.int .i64 (checkL s.data.toList)) ∧ Below w.heap.size w w' := by
  have H := Lib.hid (containsAny_any s ⟨#[0, 47]⟩ rfl hs w)
  have hsl : s.data.toList.length = s.size := by simp
  have htl : s.toList = s.data.toList := Lib.toList_data s
  obtain ⟨xs, hxs⟩ : ∃ xs, xs = s.data.toList := ⟨_, rfl⟩
  have HX := Lib.hid (And.intro hsl (And.intro htl hxs))
  rw [← hxs]
  clear hsl htl hxs
  go_enter Tryd.func9, Tryd.ntmps9
  go_wp2_with (first | (go_at_call 21; go_must (refine H.out.mono ?_); rintro e w1 ⟨rfl, hb⟩) | go_in)
  all_goals go_ret
  all_goals refine ⟨?_, (by first | exact hb | exact Below.refl _ _)⟩
  all_goals obtain ⟨hsl, htl, hxs⟩ := HX.out
  all_goals simp only [htl, ← hxs] at *
  all_goals first
    | (refine congrArg (fun z => Ending.returned (.int .i64 z)) (checkL_bad ?_).symm; simp_all; done)
    | (refine congrArg (fun z => Ending.returned (.int .i64 z)) (checkL_long ?_ ?_).symm <;> (simp_all; try omega); done)
    | (refine congrArg (fun z => Ending.returned (.int .i64 z)) (checkL_ok ?_ ?_).symm <;> (simp_all; try omega); done)
    | trace_state

theorem targetL_bad {xs : List UInt8} (h : xs = [] ∨ hasB xs 0 = true) : targetL xs = 22 := if_pos h
theorem targetL_long {xs : List UInt8} (h : ¬ (xs = [] ∨ hasB xs 0 = true)) (hl : 48 < xs.length) : targetL xs = 63 := by unfold targetL; rw [if_neg h, if_pos hl]
theorem targetL_ok {xs : List UInt8} (h : ¬ (xs = [] ∨ hasB xs 0 = true)) (hl : xs.length ≤ 48) : targetL xs = 0 := by unfold targetL; rw [if_neg h, if_neg (by omega)]

set_option maxRecDepth 100000 in
theorem nTarget_eq (s : ByteArray) (w : World) :
    Calls Tryd.prog 11 #[.string s] w fun e w' => e = .returned (.int .i64 (targetL s.data.toList)) ∧ w = w' := by
  have H := Lib.hid (Tryd.strings_Contains_one s 0 w)
  have hcb := contains_byte s.data.toList 0
  have hsl : s.data.toList.length = s.size := by simp
  have htl : s.toList = s.data.toList := Lib.toList_data s
  obtain ⟨xs, hxs⟩ : ∃ xs, xs = s.data.toList := ⟨_, rfl⟩
  rw [← hxs] at hcb H ⊢
  rw [hcb] at H
  have HX := Lib.hid (And.intro hsl (And.intro htl hxs))
  clear hsl htl hxs hcb
  go_enter Tryd.func11, Tryd.ntmps11
  go_wp2_with (first | (go_at_call 24; go_must (refine H.out.mono ?_); rintro e w1 ⟨rfl, rfl⟩) | go_in)
  all_goals go_ret
  all_goals refine ⟨?_, rfl⟩
  all_goals obtain ⟨hsl, htl, hxs⟩ := HX.out
  all_goals simp only [htl, ← hxs] at *
  all_goals first
    | (refine congrArg (fun z => Ending.returned (.int .i64 z)) (targetL_bad ?_).symm; simp_all; done)
    | (refine congrArg (fun z => Ending.returned (.int .i64 z)) (targetL_long ?_ ?_).symm <;> (simp_all; try omega); done)
    | (refine congrArg (fun z => Ending.returned (.int .i64 z)) (targetL_ok ?_ ?_).symm <;> (simp_all; try omega); done)
    | trace_state

set_option maxRecDepth 100000 in
theorem mTarget_eq (s : ByteArray) (w : World) (hs : s.size ≤ 9223372036854775807) :
    Calls Tryd.prog 12 #[.string s] w fun e w' => e = .returned (.int .i64 (targetL s.data.toList)) ∧ w = w' := by
  have H := Lib.hid (fun c => mhas_int s c w hs)
  have hsl : s.data.toList.length = s.size := by simp
  have htl : s.toList = s.data.toList := Lib.toList_data s
  obtain ⟨xs, hxs⟩ : ∃ xs, xs = s.data.toList := ⟨_, rfl⟩
  have HX := Lib.hid (And.intro hsl (And.intro htl hxs))
  rw [← hxs]
  clear hsl htl hxs
  go_enter Tryd.func12, Tryd.ntmps12
  go_wp2_with (go_at_call 23; go_must (refine (H.out _ (by decide) (by decide)).mono ?_); rintro e w1 ⟨rfl, rfl⟩)
  all_goals go_ret
  all_goals refine ⟨?_, rfl⟩
  all_goals obtain ⟨hsl, htl, hxs⟩ := HX.out
  all_goals simp only [htl, ← hxs] at *
  all_goals first
    | (refine congrArg (fun z => Ending.returned (.int .i64 z)) (targetL_bad ?_).symm; simp_all; done)
    | (refine congrArg (fun z => Ending.returned (.int .i64 z)) (targetL_long ?_ ?_).symm <;> (simp_all; try omega); done)
    | (refine congrArg (fun z => Ending.returned (.int .i64 z)) (targetL_ok ?_ ?_).symm <;> (simp_all; try omega); done)
    | trace_state
end Go.Proofs.YteijcfmgaljjaaaDoor
