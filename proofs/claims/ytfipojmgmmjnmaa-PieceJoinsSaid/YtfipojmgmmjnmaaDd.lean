/- The reference's disk: Read. -/
import Derived.Test.YtfipojmgmmjnmaaDc
namespace Go.Proofs.Ytfipojmgmmjnmaa
open Go.RowKit

theorem own_some {w : World} {base : Nat} {e : TypeId} {size : Nat} {v : Value} {n : Nat} {xs : List Value} (h : w.ownsRow base e size v n xs) (hn : 0 < n) :
    ∃ g cap, v = .slice (some ⟨g, 0, none⟩) n cap ∧ w.heap[g]? ≠ none ∧ n ≤ 9223372036854775807 ∧ ∀ (j : Nat) (u : Value), xs[j]? = some u → w.cell? ⟨g, j, none⟩ = some u := by
  rcases h.2 with ⟨_, h0⟩ | ⟨g, cap, cur, rfl, _, hg, hnc, hcm, _, _⟩
  · omega
  · refine ⟨g, cap, rfl, by rw [hg]; simp, by unfold maxLen at hcm; omega, fun j u hu => ?_⟩
    have hj := (List.getElem?_eq_some_iff.1 hu).1
    rw [h.1] at hj
    rw [h.cellAt j hj]
    exact hu
theorem own_len {w : World} {base : Nat} {e : TypeId} {size : Nat} {v : Value} {n : Nat} {xs : List Value} (h : w.ownsRow base e size v n xs) : n ≤ 9223372036854775807 := by
  rcases h.2 with ⟨_, h0⟩ | ⟨g, cap, cur, rfl, _, hg, hnc, hcm, _, _⟩
  · omega
  · unfold maxLen at hcm; omega

set_option maxRecDepth 100000 in
theorem dkRead_dead (B p : Nat) (kv wv : Value) (D : DS) (i : Int) (w : World) (hd : D.dead = true) (h : RD0 B p kv wv D w) :
    Calls Try.prog 40 #[.pointer (some ⟨p, 0, none⟩), .int .i64 i] w fun e w' => e = .returned (.tuple #[.string (D.read i).1, .int .i64 (D.read i).2]) ∧ ∃ q, w' = w.drewN q := by
  have c3 : w.cell? ⟨p, 3, none⟩ = some (.bool true) := by rw [← hd]; exact h.st.cell rfl
  have e : D.read i = (⟨#[]⟩, 30) := by unfold DS.read; rw [hd]; rfl
  rw [e]
  clear h hd e
  go_enter Try.func40, Try.ntmps40
  go_wp2
  go_ret2
  exact ⟨rfl, 0, rfl⟩
set_option maxRecDepth 100000 in
theorem dkRead_out (B p : Nat) (kv wv : Value) (D : DS) (i : Int) (w : World) (hd : D.dead = false) (hi : D.inside i = false) (h : RD0 B p kv wv D w) :
    Calls Try.prog 40 #[.pointer (some ⟨p, 0, none⟩), .int .i64 i] w fun e w' => e = .returned (.tuple #[.string (D.read i).1, .int .i64 (D.read i).2]) ∧ ∃ q, w' = w.drewN q := by
  have c3 : w.cell? ⟨p, 3, none⟩ = some (.bool false) := by rw [← hd]; exact h.st.cell rfl
  have e : D.read i = (⟨#[]⟩, 3) := by unfold DS.read; rw [hd, hi]; rfl
  rw [e]
  obtain ⟨n, hn⟩ : ∃ n, n = D.kept.length := ⟨_, rfl⟩
  have c0 : w.cell? ⟨p, 0, none⟩ = some kv := h.st.cell rfl
  obtain ⟨ao, cap, rfl⟩ := own_slice h.kr
  rw [← hn] at c0
  have hio : ¬ (0 ≤ i ∧ i < n) := by rw [hn]; exact of_decide_eq_false hi
  clear h hd e hi hn
  by_cases h0 : i < 0
  · have d1 : decide (i < 0) = true := decide_eq_true h0
    go_enter Try.func40, Try.ntmps40
    go_wp2
    go_ret2
    exact ⟨rfl, 0, rfl⟩
  · have d1 : decide (i < 0) = false := decide_eq_false h0
    have d2 : decide (i ≥ (n : Int)) = true := decide_eq_true (by omega)
    go_enter Try.func40, Try.ntmps40
    go_wp2
    go_ret2
    exact ⟨rfl, 0, rfl⟩

theorem last_at (i : Nat) (s : ByteArray) (l : List (Nat × ByteArray)) (k : Nat) (x : Nat × ByteArray) (h : l[k]? = some x) : lastOf i s (l.take (k + 1)) = if x.1 = i then x.2 else lastOf i s (l.take k) := by
  obtain ⟨hk, rfl⟩ := List.getElem?_eq_some_iff.1 h
  rw [List.take_succ_eq_append_getElem hk]
  exact lastOf_snoc i _ _ s

set_option maxRecDepth 100000 in
theorem dkRead_in (B p : Nat) (kv wv : Value) (D : DS) (i : Int) (w : World) (hd : D.dead = false) (hi : D.inside i = true) (h : RD0 B p kv wv D w) :
    Calls Try.prog 40 #[.pointer (some ⟨p, 0, none⟩), .int .i64 i] w fun e w' => e = .returned (.tuple #[.string (D.read i).1, .int .i64 (D.read i).2]) ∧ ∃ q, w' = w.drewN q := by
  have c3 : w.cell? ⟨p, 3, none⟩ = some (.bool false) := by rw [← hd]; exact h.st.cell rfl
  have hio : 0 ≤ i ∧ i < D.kept.length := of_decide_eq_true hi
  obtain ⟨g, cap, rfl, _, hm1, hkc⟩ := own_some h.kr (by omega)
  obtain ⟨j, hj⟩ : ∃ j : Nat, i = j := ⟨i.toNat, by omega⟩
  subst hj
  obtain ⟨x0, hx0⟩ : ∃ x0, D.kept[j]? = some x0 := ⟨_, List.getElem?_eq_getElem (by omega)⟩
  have ck : w.cell? ⟨g, j, none⟩ = some (.string x0) := hkc j _ (by simp [hx0])
  obtain ⟨z, hz⟩ : ∃ z, z = lastOf j x0 D.wait := ⟨_, rfl⟩
  have e : D.read j = (z, 0) := by
    unfold DS.read
    rw [hd, hi, hz]
    simp [hx0]
  rw [e]
  obtain ⟨ao, cw, hwv⟩ := own_slice h.wr
  obtain ⟨n, hn⟩ : ∃ n, n = D.kept.length := ⟨_, rfl⟩
  obtain ⟨m, hm⟩ : ∃ m, m = D.wait.length := ⟨_, rfl⟩
  have c0 : w.cell? ⟨p, 0, none⟩ = some (.slice (some ⟨g, 0, none⟩) n cap) := by rw [hn]; exact h.st.cell rfl
  have c1 : w.cell? ⟨p, 1, none⟩ = some (.slice ao m cw) := by rw [hm, ← hwv]; exact h.st.cell rfl
  have HW := Lib.hid (show ∀ k, k < m → ∃ (G : Nat) (x : Nat × ByteArray), D.wait[k]? = some x ∧ ao = some ⟨G, 0, none⟩ ∧ w.cell? ⟨G, k * 2, none⟩ = some (.int .i64 (x.1 : Int)) ∧ w.cell? ⟨G, k * 2 + 1, none⟩ = some (.string x.2) from fun k hk => by
    obtain ⟨G, cap2, hv2, _, _, hcc⟩ := own_some h.wr (by omega)
    rw [hwv] at hv2
    injection hv2 with e1 e2 e3
    obtain ⟨x, hx⟩ : ∃ x, D.wait[k]? = some x := ⟨_, List.getElem?_eq_getElem (by omega)⟩
    obtain ⟨q1, q2⟩ := wcells_at D.wait k x hx
    exact ⟨G, x, hx, e1, hcc _ _ q1, hcc _ _ q2⟩)
  have hml : m ≤ 9223372036854775807 := by rw [hm]; exact own_len h.wr
  have i0 : (0 : Int) ≤ (j : Int) := by omega
  have i1 : (j : Int) < (n : Int) := by omega
  have i2 : decide ((j : Int) ≥ (n : Int)) = false := decide_eq_false (by omega)
  have i3 : decide ((j : Int) < 0) = false := decide_eq_false (by omega)
  have HZ := Lib.hid (show lastOf j x0 (D.wait.take m) = z by rw [hz, hm, List.take_of_length_le (Nat.le_refl _)])
  have HL := Lib.hid (fun k x hx => last_at j x0 D.wait k x hx)
  have hnm : n ≤ 9223372036854775807 := by omega
  clear hd hi h hkc hx0 hz e hn hm hwv hio hm1
  go_enter Try.func40, Try.ntmps40
  go_wp2
  go_loopw [6, 7] (fun v c wr => ∃ (k : Nat) (t : ByteArray) (q : Nat), k ≤ m ∧ c = .int .i64 k ∧ v = .string t ∧ t = lastOf j x0 (D.wait.take k) ∧ wr = w.drewN q) (fun _ c _ => m - (intOf c).toNat)
  case atStart => exact ⟨0, x0, 0, Nat.zero_le _, rfl, rfl, by rfl, rfl⟩
  case round =>
    obtain ⟨k, t, q, hk, rfl, rfl, ht, rfl⟩ := hrel
    have HT := Lib.hid ht
    clear ht
    by_cases hlt : k < m
    · obtain ⟨G, x, hx, rfl, e1, e2⟩ := HW.out k hlt
      have HX := Lib.hid hx
      clear hx
      by_cases hxj : x.1 = j
      · have d1 : ((x.1 : Int) == (j : Int)) = true := by rw [hxj]; simp
        have HJ := Lib.hid hxj
        clear hxj
        go_wp2
        go_roundw
        case rel => exact ⟨k + 1, x.2, q, by omega, by go_num, rfl, by rw [HL.out k x HX.out, if_pos HJ.out], rfl⟩
        case measure => simp [intOf]; omega
      · have d1 : ((x.1 : Int) == (j : Int)) = false := by rw [beq_eq_false_iff_ne]; omega
        have HJ := Lib.hid hxj
        clear hxj
        go_wp2
        go_roundw
        case rel => exact ⟨k + 1, t, q, by omega, by go_num, rfl, by rw [HL.out k x HX.out, if_neg HJ.out]; exact HT.out, rfl⟩
        case measure => simp [intOf]; omega
    · obtain rfl : k = m := by omega
      obtain rfl : t = z := HT.out.trans HZ.out
      go_wp2
      go_ret2
      exact ⟨rfl, q, rfl⟩

theorem dkRead_any (B p : Nat) (F : Nat → Prop) (D : DS) (i : Int) (w : World) (h : RD B p F D w) :
    Calls Try.prog 40 #[.pointer (some ⟨p, 0, none⟩), .int .i64 i] w fun e w' => e = .returned (.tuple #[.string (D.read i).1, .int .i64 (D.read i).2]) ∧ ∃ q, w' = w.drewN q := by
  obtain ⟨kv, wv, h0, _⟩ := h
  cases hd : D.dead with
  | true => exact dkRead_dead B p kv wv D i w hd h0
  | false =>
    cases hi : D.inside i with
    | true => exact dkRead_in B p kv wv D i w hd hi h0
    | false => exact dkRead_out B p kv wv D i w hd hi h0
end Go.Proofs.Ytfipojmgmmjnmaa
