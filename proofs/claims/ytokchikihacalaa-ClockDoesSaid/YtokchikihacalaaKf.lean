/- The law of any steps on a clock. -/
import Derived.Test.YtokchikihacalaaKe
namespace Go.Proofs.Ytokchikihacalaa
open Go.RowKit

theorem str_nn (x : ByteArray) : (!x.toList == x.toList) = false := by simp
theorem ksteps_at {w : World} {ao : Option Addr} {n cap : Nat} {xs : List KS} (h : KSteps w.heap.size (.slice ao n cap) xs w) : n = xs.length ∧ n ≤ 9223372036854775807 ∧ ∃ b off, ∀ k, k < n → ∃ x : KS, ao = some ⟨b, off, none⟩ ∧ x.s.size ≤ 9223372036854775807 ∧
    ∀ W, Below w.heap.size w W → W.cell? ⟨b, off + k * 2, none⟩ = some (.int .i64 x.kind) ∧ W.cell? ⟨b, off + k * 2 + 1, none⟩ = some (.string x.s) := by
  obtain ⟨ao2, cap2, b, off, e1, hl, hao, hx⟩ := h
  injection e1 with e1 e2 e3
  subst e1 e2
  refine ⟨rfl, hl, b, off, fun k hk => ?_⟩
  obtain ⟨x, hxk⟩ : ∃ x, xs[k]? = some x := ⟨_, List.getElem?_eq_getElem (by omega)⟩
  have hb := (hao (by omega)).2
  obtain ⟨hz, c0, c1⟩ := hx k x hxk
  exact ⟨x, (hao (by omega)).1, hz, fun W hW => ⟨(hW.cell (p := ⟨b, off + k * 2, none⟩) hb).trans c0, (hW.cell (p := ⟨b, off + k * 2 + 1, none⟩) hb).trans c1⟩⟩

set_option maxRecDepth 100000 in
set_option maxHeartbeats 2000000 in
theorem kdoes_loop (ao : Option Addr) (cap : Nat) (xs : List KS) (other : ByteArray) (w : World) (hl : largeK xs = false) (ho : other.size ≤ 100) (hx : KSteps w.heap.size (.slice ao xs.length cap) xs w) :
    Calls Try.prog 3 #[.slice ao xs.length cap, .string other] w fun e w' => e = .returned (.bool true) ∧ Below w.heap.size w w' := by
  have HLg := Lib.hid (show Calls Try.prog 10 #[.slice ao xs.length cap] w fun e w' => e = .returned (.bool false) ∧ w = w' from by have := rkLarge_any w.heap.size _ xs w hx; rw [hl] at this; exact this)
  obtain ⟨e1, e2, b, off, hat⟩ := ksteps_at hx
  have hl80 : xs.length ≤ 80 := by
    unfold largeK at hl
    rw [Bool.or_eq_false_iff] at hl
    have := of_decide_eq_false hl.2
    omega
  obtain ⟨n, hnn⟩ : ∃ n, n = xs.length := ⟨_, rfl⟩
  rw [← hnn] at HLg hat e2 hl80 ⊢
  have HX := Lib.hid hat
  have HNew := Lib.hid (kNew_any w)
  have d1 : decide ((other.size : Int) > 100) = false := decide_eq_false (by omega)
  have HOt := Lib.hid ho
  clear hat hx e1 hnn hl ho
  go_enter Try.func3, Try.ntmps3
  go_wp2_with (first
    | (go_at_call 10; go_must (with_reducible refine HLg.out.mono ?_); rintro e w1 ⟨rfl, rfl⟩)
    | (go_at_call 12; go_must (with_reducible refine HNew.out.mono ?_); rintro e w1 ⟨p, rfl, hp, b1⟩; have P0 := Lib.hid hp; have B0 := Lib.hid b1; clear hp b1))
  have HS := Lib.hid (show KB w p 0 (.slice none 0 0) w1 from ⟨[], _, P0.out, World.ownsRow_nil _ _ _ _, by simp, fun j hj => by simp [Value.ownBlock] at hj, B0.out⟩)
  clear HLg HNew P0 B0 d1
  go_loopw [6, 7, 8, 9, 10, 11] (fun v c _ _ _ _ wr => ∃ (k : Nat) (vv : Value), vv = v ∧ k ≤ n ∧ c = .int .i64 k ∧ KB w p k vv wr) (fun _ c _ _ _ _ _ => n - (intOf c).toNat)
  case atStart => exact ⟨0, _, rfl, Nat.zero_le _, rfl, HS.out⟩
  case round =>
    obtain ⟨k, v6, rfl, hk, rfl, hB⟩ := hrel
    have HB := Lib.hid hB
    by_cases hlt : k < n
    · obtain ⟨x, rfl, hz, hW⟩ := HX.out k hlt
      obtain ⟨c0, c1⟩ := hW wr hB.bel
      obtain ⟨kind, s⟩ := x
      have hz : s.size ≤ 9223372036854775807 := hz
      have c0 : wr.cell? ⟨b, off + k * 2, none⟩ = some (.int .i64 kind) := c0
      have c1 : wr.cell? ⟨b, off + k * 2 + 1, none⟩ = some (.string s) := c1
      have hb0 : (0 : Int) ≤ (k : Int) := by omega
      have hb1 : (k : Int) < (n : Int) := by omega
      have SM := Lib.hid (fun m v W (h : KB w p m v W) => h.same)
      have UP := Lib.hid (show ∀ v W, KB w p k v W → KB w p (k + 1) v W from fun v W ⟨l, F, h1, h2, h3, h4, h5⟩ => ⟨l, F, h1, h2, by omega, h4, h5⟩)
      clear hW
      by_cases k1 : kind = 1
      · subst k1
        have HT := Lib.hid (hB.touch (by omega) s hz)
        clear hB HX HS
        go_wp2_with (first
          | (go_at_call 13; go_must (with_reducible refine HT.out.mono ?_); rintro a2 w2 ⟨rfl, b2, h2⟩; have H2 := Lib.hid h2; clear b2 h2)
          | (go_at_call 14; go_must (with_reducible refine H2.out.mono ?_); rintro a3 w3 ⟨v3, rfl, h3⟩; have H3 := Lib.hid h3; clear h3)
          | (go_at_call 20; go_must (with_reducible refine (SM.out _ _ _ H3.out).mono ?_); rintro a4 w4 ⟨rfl, h4⟩; have H4 := Lib.hid h4; clear h4))
        go_roundw
        case rel => exact ⟨k + 1, _, rfl, by omega, by go_num, H4.out⟩
        case measure => simp [intOf]; omega
      have d1 : (kind == 1) = false := by rw [beq_eq_false_iff_ne]; exact k1
      by_cases k2 : kind = 2
      · subst k2
        obtain ⟨bb, z, hzz, hd⟩ := hB.drop (by omega) s hz
        have HT := Lib.hid hd
        clear hB HX HS k1 d1 hd
        cases bb
        all_goals
          go_wp2_with (first
            | (go_at_call 15; go_must (with_reducible refine HT.out.mono ?_); rintro a2 w2 ⟨rfl, b2, h2, h2'⟩; have H2 := Lib.hid h2; have H2' := Lib.hid h2'; clear b2 h2 h2')
            | (go_at_call 16; go_must (with_reducible refine H2.out.mono ?_); rintro a3 w3 ⟨rfl, rfl⟩)
            | (go_at_call 17; go_must (with_reducible refine H2'.out.mono ?_); rintro a3 w3 ⟨v3, rfl, h3⟩; have H3 := Lib.hid h3; clear h3)
            | (go_at_call 20; go_must (with_reducible refine (SM.out _ _ _ H3.out).mono ?_); rintro a4 w4 ⟨rfl, h4⟩; have H4 := Lib.hid h4; clear h4))
          go_roundw
          case rel => exact ⟨k + 1, _, rfl, by omega, by go_num, UP.out _ _ H4.out⟩
          case measure => simp [intOf]; omega
      have d2 : (kind == 2) = false := by rw [beq_eq_false_iff_ne]; exact k2
      obtain ⟨ao6, m6, cap6, t, rfl, ht, hd⟩ := hB.victim (by omega)
      have HT := Lib.hid hd
      clear hB HX HS k1 k2 hd
      have nn := str_nn t
      by_cases hm : m6 = 0
      · subst hm
        obtain rfl := ht rfl
        have HT := Lib.hid (HT.out.mono (R' := fun e w' => e = .returned (.tuple #[.string ⟨#[]⟩, .bool false]) ∧ KB w p k (.slice ao6 0 cap6) w') fun e w' ⟨he, _, h0, _⟩ => ⟨he, h0 rfl⟩)
        go_wp2_with (first
          | (go_at_call 18; go_must (with_reducible refine HT.out.mono ?_); rintro a2 w2 ⟨rfl, h2⟩; have H2 := Lib.hid h2; clear h2)
          | (go_at_call 20; go_must (with_reducible refine (SM.out _ _ _ H2.out).mono ?_); rintro a4 w4 ⟨rfl, h4⟩; have H4 := Lib.hid h4; clear h4))
        go_roundw
        case rel => exact ⟨k + 1, _, rfl, by omega, by go_num, UP.out _ _ H4.out⟩
        case measure => simp [intOf]; omega
      · have hm0 : 0 < m6 := by omega
        have m1 : decide ((m6 : Int) > 0) = true := decide_eq_true (by omega)
        have HT := Lib.hid (HT.out.mono (R' := fun e w' => e = .returned (.tuple #[.string t, .bool true]) ∧ Calls Try.prog 19 #[.slice ao6 m6 cap6] w' fun e w'' => ∃ v', e = .returned (.tuple #[v', .string t]) ∧ KB w p k v' w'') fun e w' ⟨he, _, _, h0⟩ => ⟨by rw [he, decide_eq_true hm0], h0 hm0⟩)
        clear ht hm
        go_wp2_with (first
          | (go_at_call 18; go_must (with_reducible refine HT.out.mono ?_); rintro a2 w2 ⟨rfl, h2⟩; have H2 := Lib.hid h2; clear h2)
          | (go_at_call 19; go_must (with_reducible refine H2.out.mono ?_); rintro a3 w3 ⟨v3, rfl, h3⟩; have H3 := Lib.hid h3; clear h3)
          | (go_at_call 20; go_must (with_reducible refine (SM.out _ _ _ H3.out).mono ?_); rintro a4 w4 ⟨rfl, h4⟩; have H4 := Lib.hid h4; clear h4))
        go_roundw
        case rel => exact ⟨k + 1, _, rfl, by omega, by go_num, UP.out _ _ H4.out⟩
        case measure => simp [intOf]; omega
    · obtain rfl : k = n := by omega
      obtain ⟨bb, z, hzz, h1, h2⟩ := hB.last other (by have := HOt.out; omega)
      have H1 := Lib.hid h1
      have H2 := Lib.hid h2
      have HK := Lib.hid (fun q => (lkknown_any (wr.drewN q)).mono (R' := fun e w' => e = .returned (.bool true) ∧ Below w.heap.size w w') fun e w' ⟨he, hb⟩ => ⟨he, (below_drewN HB.out.bel q).trans (hb.mono HB.out.size)⟩)
      clear hB h1 h2 HX HS
      cases bb
      all_goals
        go_wp2_with (first
          | (go_at_call 21; go_must (with_reducible refine H1.out.mono ?_); rintro a2 w2 ⟨rfl, q, rfl⟩)
          | (go_at_call 16; go_must (with_reducible refine (H2.out q).mono ?_); rintro a3 w3 ⟨rfl, rfl⟩)
          | (go_at_call 11; go_must (with_reducible refine (HK.out q).mono ?_); rintro a4 w4 ⟨rfl, b4⟩))
        go_ret
        exact ⟨rfl, b4⟩

set_option maxRecDepth 100000 in
set_option maxHeartbeats 1000000 in
theorem kdoes_any (v : Value) (other : ByteArray) (xs : List KS) (w : World) (hx : KSteps w.heap.size v xs w) :
    Calls Try.prog 3 #[v, .string other] w fun e w' => e = .returned (.bool true) ∧ Below w.heap.size w w' := by
  have HLg := Lib.hid (rkLarge_any w.heap.size _ xs w hx)
  cases hl : largeK xs with
  | true =>
    rw [hl] at HLg
    clear hl hx
    go_enter Try.func3, Try.ntmps3
    go_wp2_with (first
      | (go_at_call 10; go_must (with_reducible refine HLg.out.mono ?_); rintro e w1 ⟨rfl, rfl⟩)
      | (go_at_call 11; go_must (with_reducible refine (lkknown_any _).mono ?_); rintro e w2 ⟨rfl, b2⟩))
    go_ret
    exact ⟨rfl, b2⟩
  | false =>
    by_cases ho : 100 < other.size
    · rw [hl] at HLg
      have d1 : decide ((other.size : Int) > 100) = true := decide_eq_true (by omega)
      clear hl hx ho
      go_enter Try.func3, Try.ntmps3
      go_wp2_with (first
        | (go_at_call 10; go_must (with_reducible refine HLg.out.mono ?_); rintro e w1 ⟨rfl, rfl⟩)
        | (go_at_call 11; go_must (with_reducible refine (lkknown_any _).mono ?_); rintro e w2 ⟨rfl, b2⟩))
      go_ret
      exact ⟨rfl, b2⟩
    · have hx2 := hx
      obtain ⟨ao, cap, b, off, rfl, _⟩ := hx
      exact kdoes_loop ao cap xs other w hl (by omega) hx2
end Go.Proofs.Ytokchikihacalaa
