/- PROVED HERE: for every list of things, the law XdrBack returns true: things that are written are read, and nothing is left. CONDITIONS: the two tables that the row lists read as laid; the walks never read them. -/
import Derived.Test.YtbdjhkcpnkdbkaaDoorSq
import Derived.Test.YtbdjhkcpnkdbkaaDoorTh
import Derived.Test.YtbdjhkcpnkdbkaaDoorLw
namespace Go.Proofs.YtbdjhkcpnkdbkaaDoor.xdrBack
open Go.ChangeShapes Go.WideShapes Go.ChangeAt Go.RowKit

def one (t : Th) : Int × List UInt8 := thPut t.kind t.n t.is t.s
def cat (ts : List Th) : List UInt8 := (ts.map fun t => (one t).2).flatten
theorem cat_snoc (ts : List Th) (t : Th) : cat (ts ++ [t]) = cat ts ++ (one t).2 := by simp [cat]
theorem cat_cons (t : Th) (ts : List Th) : cat (t :: ts) = (one t).2 ++ cat ts := by simp [cat]
theorem cat_len (ts : List Th) (h : ∀ (i : Nat) (t : Th), ts[i]? = some t → t.s.size ≤ 200) : (cat ts).length ≤ 216 * ts.length := by
  induction ts with
  | nil => simp [cat]
  | cons t ts ih =>
    rw [cat_cons, List.length_append, List.length_cons]
    have h1 := thPut_len t.kind t.n t.is t.s (h 0 t rfl)
    have h2 := ih fun i u hu => h (i + 1) u hu
    unfold one
    omega

theorem f4 {T : TypeId} {k : Nat} {a b c d : Value} {w : World} (h : St T k #[a, b, c, d] w) : w.cell? ⟨k, 0, none⟩ = some a ∧ w.cell? ⟨k, 1, none⟩ = some b ∧ w.cell? ⟨k, 2, none⟩ = some c ∧ w.cell? ⟨k, 3, none⟩ = some d :=
  ⟨h.cell rfl, h.cell rfl, h.cell rfl, h.cell rfl⟩

set_option maxRecDepth 100000 in
set_option maxHeartbeats 4000000 in
theorem walk (ao : Option Addr) (b off len cap : Nat) (ts : List Th) (w : World) (hcap : len ≤ 9223372036854775807) (hao : 0 < len → ao = some ⟨b, off, none⟩ ∧ b < w.heap.size) (ht : Things b off len ts w) (hs : small ts) :
    Calls Tryd.prog 4 #[.slice ao len cap] w fun e w' => e = .returned (.bool true) ∧ Below w.heap.size w w' := by
  have hl : len ≤ 40 := by rw [← ht.hlen]; exact hs.1
  have h0 : Wr 41 5 w.heap.size none [] (w.alloc (.cells #[.slice none 0 0] 41)) := wr_new
  have hb0 : Below w.heap.size w (w.alloc (.cells #[.slice none 0 0] 41)) := boxed0
  have HA := Lib.hid hao
  have HLarge := Lib.hid (xlarge_small ao b off len cap ts w hao ht hs)
  have HS := Lib.hid hs
  clear hao hs
  go_enter Tryd.func4, Tryd.ntmps4
  go_wp2_with (go_at_call 7; go_must (refine HLarge.out.mono ?_); rintro e w1 ⟨rfl, rfl⟩)
  go_loopw [4] (fun c wr => ∃ (i : Nat) (r : Option Nat), i ≤ len ∧ c = .int .i64 i ∧ (∀ (j : Nat) (t : Th), j < i → ts[j]? = some t → (one t).1 = 0) ∧ Wr 41 5 w.heap.size r (cat (ts.take i)) wr ∧ Below w.heap.size w wr) (fun c _ => len - (intOf c).toNat)
  case atStart => exact ⟨0, none, Nat.zero_le _, rfl, fun j t hj => absurd hj (Nat.not_lt_zero _), h0, hb0⟩
  case round =>
    obtain ⟨i, r, hi, rfl, hok, hwr, hbel⟩ := hrel
    clear h0 hb0
    have hcl : (cat (ts.take i)).length ≤ 216 * 40 := by
      have h1 := cat_len (ts.take i) (fun j t hj => HS.out.2 j t (by rw [List.getElem?_take] at hj; split at hj <;> simp_all))
      have h2 : (ts.take i).length ≤ 40 := by rw [List.length_take]; omega
      omega
    by_cases hlt : i < len
    · obtain ⟨rfl, hb⟩ := HA.out (by omega)
      obtain ⟨t, hti⟩ := ht.get hlt
      have htr := ht.below hbel hb
      have c0 := htr.hkind i t hti
      have c1 := htr.hn i t hti
      have c2 := htr.his i t hti
      have c3 := htr.hs i t hti
      have hP := xput_any w.heap.size r (cat (ts.take i)) t.kind t.n t.is t.s wr (by omega) hwr
      have hcs : cat (ts.take (i + 1)) = cat (ts.take i) ++ (one t).2 := by rw [List.take_add_one, hti]; exact cat_snoc _ _
      have hP2 : Calls Tryd.prog 16 #[.pointer (some ⟨w.heap.size, 0, none⟩), .agg #[.int .i64 t.kind, .int .i64 t.n, .bool t.is, .string t.s]] wr fun e w' => e = .returned (.int .i64 (one t).1) ∧ Wrote 41 5 w.heap.size r (cat (ts.take (i + 1))) wr w' := by rw [hcs]; exact hP
      have hrl := hwr.lt
      have hok2 : (one t).1 = 0 → ∀ (j : Nat) (u : Th), j < i + 1 → ts[j]? = some u → (one u).1 = 0 := fun h0 j u hj hu => by
        by_cases e : j = i
        · subst e; rw [hti] at hu; cases hu; exact h0
        · exact hok j u (by omega) hu
      obtain ⟨pe, hpe⟩ : ∃ pe, pe = (one t).1 := ⟨_, rfl⟩
      obtain ⟨zs, hzs⟩ : ∃ zs, zs = cat (ts.take (i + 1)) := ⟨_, rfl⟩
      rw [← hpe] at hP2 hok2
      rw [← hzs] at hP2
      have HP := Lib.hid hP2
      have HOK := Lib.hid hok2
      have HZ := Lib.hid hzs
      obtain ⟨kind, n, is, s⟩ := t
      have hbw : b < wr.heap.size := Nat.lt_of_lt_of_le hb hbel.size
      clear hti htr hP hP2 hcs hok hok2 hpe hzs hwr
      go_wp2_with fail
      go_must (refine HP.out.mono ?_)
      rintro e w2 ⟨rfl, r2, hwr2, hk2, hr2⟩
      have hbel2 := hbel.trans (hk2.below (B := w.heap.size) (Nat.le_refl _) hbel.size (fun j hj => Nat.le_of_lt (hrl.2 j hj).1))
      by_cases he : pe = 0
      · subst he
        go_wp2_with fail
        go_roundw
        case rel => exact ⟨i + 1, r2, by omega, by go_num, (by simpa using HOK.out), by rw [← HZ.out]; exact hwr2, hbel2⟩
        case measure => simp [intOf]; omega
      · go_wp2_with (go_at_call 8; go_must (refine (xknown_any _).mono ?_); rintro e w1 ⟨rfl, hb1⟩)
        go_ret
        exact ⟨rfl, hbel2.trans (hb1.mono hbel2.size)⟩
    · obtain rfl : len = i := by omega
      have hfull : ts.take len = ts := List.take_of_length_le (by rw [ht.hlen]; exact Nat.le_refl _)
      rw [hfull] at hwr hcl
      have hwl := hwr.lt
      go_wp2_with (first | (go_at_call 17; go_must (refine (wText_any _ r _ _ hwr).mono ?_); rintro e w1 ⟨rfl, rfl⟩) | (go_at_call 9; go_must (refine (rRead_eq _ _).mono ?_); rintro e w2 ⟨rfl, rfl⟩))
      have hbk : w.heap.size ≤ wr.heap.size := hbel.size
      have hR0 : Rd wr.heap.size (str (cat ts)) 0 (wr.alloc (.cells #[.string (str (cat ts)), .int .i64 0] 52 (0, 0))) := St.new wr _ _
      have hb1 : Below w.heap.size w (wr.alloc (.cells #[.string (str (cat ts)), .int .i64 0] 52 (0, 0))) := hbel.alloc hbk _
      obtain ⟨kR, hkR⟩ : ∃ kR, kR = wr.heap.size := ⟨_, rfl⟩
      rw [← hkR] at hbk hR0 ⊢
      obtain ⟨wB, hwB⟩ : ∃ wB, wB = wr.alloc (.cells #[.string (str (cat ts)), .int .i64 0] 52 (0, 0)) := ⟨_, rfl⟩
      rw [← hwB] at hR0 hb1 ⊢
      clear hwB hkR hwr hwl hbel
      go_loopw [6] (fun c w2 => ∃ i : Nat, i ≤ len ∧ c = .int .i64 i ∧ Rd kR (str (cat (ts.drop i))) 0 w2 ∧ Below w.heap.size w w2) (fun c _ => len - (intOf c).toNat)
      case atStart => exact ⟨0, Nat.zero_le _, rfl, hR0, hb1⟩
      case round =>
        obtain ⟨i, hi2, rfl, hrd, hbel⟩ := hrel
        clear hR0 hb1
        by_cases hlt2 : i < len
        · obtain ⟨rfl, hb⟩ := HA.out (by omega)
          obtain ⟨t, hti⟩ := ht.get hlt2
          have htr := ht.below hbel hb
          have c0 := htr.hkind i t hti
          have c1 := htr.hn i t hti
          have c2 := htr.his i t hti
          have c3 := htr.hs i t hti
          have hsz := HS.out.2 i t hti
          have hn := (ht.hbd i t hti).1
          have h1 : (one t).1 = 0 := hok i t hlt2 hti
          have hdrop : ts.drop i = t :: ts.drop (i + 1) := by
            have hlt3 := (List.getElem?_eq_some_iff.1 hti).1
            rw [List.drop_eq_getElem_cons hlt3, (List.getElem?_eq_some_iff.1 hti).2]
          have hcd : cat (ts.drop i) = (one t).2 ++ cat (ts.drop (i + 1)) := by rw [hdrop, cat_cons]
          have hpt := put_take t.kind t.n t.is t.s (one t).2 (cat (ts.drop (i + 1))) hsz hn (by rw [← h1]; rfl)
          rw [← hcd] at hpt
          have hcl2 : (str (cat (ts.drop i))).size ≤ 1073741824 := by
            rw [str_size]
            have h1 := cat_len (ts.drop i) (fun j u hj => HS.out.2 (i + j) u (by rwa [List.getElem?_drop] at hj))
            have h2 : (ts.drop i).length ≤ 40 := by have := HS.out.1; rw [List.length_drop]; omega
            omega
          have hT : ∀ W, Rd kR (str (cat (ts.drop i))) 0 W → Calls Tryd.prog 10 #[.pointer (some ⟨kR, 0, none⟩), .int .i64 t.kind, .int .i64 (t.s.size : Int)] W fun r w' => Took kR (str (cat (ts.drop (i + 1)))) 0 (.agg #[.int .i64 t.kind, .int .i64 (back t.kind t.n t.is t.s).1, .bool (back t.kind t.n t.is t.s).2.1, .string (back t.kind t.n t.is t.s).2.2]) W r w' := fun W h => by
            have := xtake_any kR t.kind t.s.size _ 0 W hcl2 h
            rw [hpt] at this
            exact this
          obtain ⟨rest, hrest⟩ : ∃ u, u = str (cat (ts.drop i)) := ⟨_, rfl⟩
          obtain ⟨rest2, hrest2⟩ : ∃ u, u = str (cat (ts.drop (i + 1))) := ⟨_, rfl⟩
          rw [← hrest, ← hrest2] at hT
          rw [← hrest] at hrd
          have HR2 := Lib.hid hrest2
          have hdef : (one t).2 = [] → rest = rest2 := fun h => by rw [hrest, hrest2, hcd, h, List.nil_append]
          have HD := Lib.hid hdef
          clear hdef
          obtain ⟨kind, n, is, s⟩ := t
          dsimp only at hT c0 c1 c2 c3
          have hbw : b < wr.heap.size := Nat.lt_of_lt_of_le hb hbel.size
          clear hti htr hsz hn h1 hdrop hcd hpt hcl2 hrest hrest2
          have hkb : kR ≠ wr.heap.size := Nat.ne_of_lt (St.lt hrd)
          rcases kinds kind with rfl | rfl | rfl | rfl | rfl | rfl | ⟨k1, k2, k3, k4, k5, k6⟩
          · have HT := Lib.hid (show ∀ W, Rd kR rest 0 W → Calls Tryd.prog 10 #[.pointer (some ⟨kR, 0, none⟩), .int .i64 1, .int .i64 (s.size : Int)] W fun r w' => Took kR rest2 0 (.agg #[.int .i64 1, .int .i64 n, .bool false, .string ⟨#[]⟩]) W r w' from hT)
            clear hT
            have S0 : St 32 wr.heap.size #[.int .i64 1, .int .i64 n, .bool false, .string ⟨#[]⟩] (wr.alloc (.cells #[.int .i64 1, .int .i64 n, .bool false, .string ⟨#[]⟩] 32 (0, 0))).drew := St.new wr _ _
            have hRd : Rd kR rest 0 (wr.alloc (.cells #[.int .i64 1, .int .i64 n, .bool false, .string ⟨#[]⟩] 32 (0, 0))).drew := St.alloc hrd _
            have hB3 : Below w.heap.size w (wr.alloc (.cells #[.int .i64 1, .int .i64 n, .bool false, .string ⟨#[]⟩] 32 (0, 0))).drew := (hbel.alloc hbel.size _).drew
            go_wp2_with fail
            go_region_held3 (fun w' => w'.cell? ⟨wr.heap.size, 0, none⟩ = some (.int .i64 1) ∧ w'.cell? ⟨wr.heap.size, 1, none⟩ = some (.int .i64 n) ∧ w'.cell? ⟨wr.heap.size, 2, none⟩ = some (.bool false) ∧ w'.cell? ⟨wr.heap.size, 3, none⟩ = some (.string ⟨#[]⟩))
              (first | assumption | (simp; done))
              ((go_at_call 10; go_must (refine (HT.out _ hRd).mono ?_); rintro e w1 ⟨rfl, hr, hk⟩; have st1 := St.keep S0 hk (Ne.symm hkb) (by simp); have q1 := f4 st1))
            all_goals go_wp2_with fail
            all_goals go_roundw
            all_goals first
              | exact ⟨i + 1, by omega, by go_num, by rw [← HR2.out]; exact hr, hB3.trans (hk.below (B := w.heap.size) hbk hB3.size (fun j hj => by cases hj))⟩
              | (simp [intOf]; omega)
          · have HT := Lib.hid (show ∀ W, Rd kR rest 0 W → Calls Tryd.prog 10 #[.pointer (some ⟨kR, 0, none⟩), .int .i64 2, .int .i64 (s.size : Int)] W fun r w' => Took kR rest2 0 (.agg #[.int .i64 2, .int .i64 n, .bool false, .string ⟨#[]⟩]) W r w' from hT)
            clear hT
            have S0 : St 32 wr.heap.size #[.int .i64 2, .int .i64 n, .bool false, .string ⟨#[]⟩] (wr.alloc (.cells #[.int .i64 2, .int .i64 n, .bool false, .string ⟨#[]⟩] 32 (0, 0))).drew := St.new wr _ _
            have hRd : Rd kR rest 0 (wr.alloc (.cells #[.int .i64 2, .int .i64 n, .bool false, .string ⟨#[]⟩] 32 (0, 0))).drew := St.alloc hrd _
            have hB3 : Below w.heap.size w (wr.alloc (.cells #[.int .i64 2, .int .i64 n, .bool false, .string ⟨#[]⟩] 32 (0, 0))).drew := (hbel.alloc hbel.size _).drew
            go_wp2_with fail
            go_region_held3 (fun w' => w'.cell? ⟨wr.heap.size, 0, none⟩ = some (.int .i64 2) ∧ w'.cell? ⟨wr.heap.size, 1, none⟩ = some (.int .i64 n) ∧ w'.cell? ⟨wr.heap.size, 2, none⟩ = some (.bool false) ∧ w'.cell? ⟨wr.heap.size, 3, none⟩ = some (.string ⟨#[]⟩))
              (first | assumption | (simp; done))
              ((go_at_call 10; go_must (refine (HT.out _ hRd).mono ?_); rintro e w1 ⟨rfl, hr, hk⟩; have st1 := St.keep S0 hk (Ne.symm hkb) (by simp); have q1 := f4 st1))
            all_goals go_wp2_with fail
            all_goals go_roundw
            all_goals first
              | exact ⟨i + 1, by omega, by go_num, by rw [← HR2.out]; exact hr, hB3.trans (hk.below (B := w.heap.size) hbk hB3.size (fun j hj => by cases hj))⟩
              | (simp [intOf]; omega)
          · have HT := Lib.hid (show ∀ W, Rd kR rest 0 W → Calls Tryd.prog 10 #[.pointer (some ⟨kR, 0, none⟩), .int .i64 3, .int .i64 (s.size : Int)] W fun r w' => Took kR rest2 0 (.agg #[.int .i64 3, .int .i64 0, .bool is, .string ⟨#[]⟩]) W r w' from hT)
            clear hT
            have S0 : St 32 wr.heap.size #[.int .i64 3, .int .i64 0, .bool is, .string ⟨#[]⟩] (wr.alloc (.cells #[.int .i64 3, .int .i64 0, .bool is, .string ⟨#[]⟩] 32 (0, 0))).drew := St.new wr _ _
            have hRd : Rd kR rest 0 (wr.alloc (.cells #[.int .i64 3, .int .i64 0, .bool is, .string ⟨#[]⟩] 32 (0, 0))).drew := St.alloc hrd _
            have hB3 : Below w.heap.size w (wr.alloc (.cells #[.int .i64 3, .int .i64 0, .bool is, .string ⟨#[]⟩] 32 (0, 0))).drew := (hbel.alloc hbel.size _).drew
            go_wp2_with fail
            go_region_held3 (fun w' => w'.cell? ⟨wr.heap.size, 0, none⟩ = some (.int .i64 3) ∧ w'.cell? ⟨wr.heap.size, 1, none⟩ = some (.int .i64 0) ∧ w'.cell? ⟨wr.heap.size, 2, none⟩ = some (.bool is) ∧ w'.cell? ⟨wr.heap.size, 3, none⟩ = some (.string ⟨#[]⟩))
              (first | assumption | (simp; done))
              ((go_at_call 10; go_must (refine (HT.out _ hRd).mono ?_); rintro e w1 ⟨rfl, hr, hk⟩; have st1 := St.keep S0 hk (Ne.symm hkb) (by simp); have q1 := f4 st1))
            all_goals go_wp2_with fail
            all_goals go_roundw
            all_goals first
              | exact ⟨i + 1, by omega, by go_num, by rw [← HR2.out]; exact hr, hB3.trans (hk.below (B := w.heap.size) hbk hB3.size (fun j hj => by cases hj))⟩
              | (simp [intOf]; omega)
          · have HT := Lib.hid (show ∀ W, Rd kR rest 0 W → Calls Tryd.prog 10 #[.pointer (some ⟨kR, 0, none⟩), .int .i64 4, .int .i64 (s.size : Int)] W fun r w' => Took kR rest2 0 (.agg #[.int .i64 4, .int .i64 0, .bool false, .string s]) W r w' from hT)
            clear hT
            have S0 : St 32 wr.heap.size #[.int .i64 4, .int .i64 0, .bool false, .string s] (wr.alloc (.cells #[.int .i64 4, .int .i64 0, .bool false, .string s] 32 (0, 0))).drew := St.new wr _ _
            have hRd : Rd kR rest 0 (wr.alloc (.cells #[.int .i64 4, .int .i64 0, .bool false, .string s] 32 (0, 0))).drew := St.alloc hrd _
            have hB3 : Below w.heap.size w (wr.alloc (.cells #[.int .i64 4, .int .i64 0, .bool false, .string s] 32 (0, 0))).drew := (hbel.alloc hbel.size _).drew
            go_wp2_with fail
            go_region_held3 (fun w' => w'.cell? ⟨wr.heap.size, 0, none⟩ = some (.int .i64 4) ∧ w'.cell? ⟨wr.heap.size, 1, none⟩ = some (.int .i64 0) ∧ w'.cell? ⟨wr.heap.size, 2, none⟩ = some (.bool false) ∧ w'.cell? ⟨wr.heap.size, 3, none⟩ = some (.string s))
              (first | assumption | (simp; done))
              ((go_at_call 10; go_must (refine (HT.out _ hRd).mono ?_); rintro e w1 ⟨rfl, hr, hk⟩; have st1 := St.keep S0 hk (Ne.symm hkb) (by simp); have q1 := f4 st1))
            all_goals go_wp2_with fail
            all_goals go_roundw
            all_goals first
              | exact ⟨i + 1, by omega, by go_num, by rw [← HR2.out]; exact hr, hB3.trans (hk.below (B := w.heap.size) hbk hB3.size (fun j hj => by cases hj))⟩
              | (simp [intOf]; omega)
          · have HT := Lib.hid (show ∀ W, Rd kR rest 0 W → Calls Tryd.prog 10 #[.pointer (some ⟨kR, 0, none⟩), .int .i64 5, .int .i64 (s.size : Int)] W fun r w' => Took kR rest2 0 (.agg #[.int .i64 5, .int .i64 0, .bool false, .string s]) W r w' from hT)
            clear hT
            have S0 : St 32 wr.heap.size #[.int .i64 5, .int .i64 0, .bool false, .string s] (wr.alloc (.cells #[.int .i64 5, .int .i64 0, .bool false, .string s] 32 (0, 0))).drew := St.new wr _ _
            have hRd : Rd kR rest 0 (wr.alloc (.cells #[.int .i64 5, .int .i64 0, .bool false, .string s] 32 (0, 0))).drew := St.alloc hrd _
            have hB3 : Below w.heap.size w (wr.alloc (.cells #[.int .i64 5, .int .i64 0, .bool false, .string s] 32 (0, 0))).drew := (hbel.alloc hbel.size _).drew
            go_wp2_with fail
            go_region_held3 (fun w' => w'.cell? ⟨wr.heap.size, 0, none⟩ = some (.int .i64 5) ∧ w'.cell? ⟨wr.heap.size, 1, none⟩ = some (.int .i64 0) ∧ w'.cell? ⟨wr.heap.size, 2, none⟩ = some (.bool false) ∧ w'.cell? ⟨wr.heap.size, 3, none⟩ = some (.string s))
              (first | assumption | (simp; done))
              ((go_at_call 10; go_must (refine (HT.out _ hRd).mono ?_); rintro e w1 ⟨rfl, hr, hk⟩; have st1 := St.keep S0 hk (Ne.symm hkb) (by simp); have q1 := f4 st1))
            all_goals go_wp2_with fail
            all_goals go_roundw
            all_goals first
              | exact ⟨i + 1, by omega, by go_num, by rw [← HR2.out]; exact hr, hB3.trans (hk.below (B := w.heap.size) hbk hB3.size (fun j hj => by cases hj))⟩
              | (simp [intOf]; omega)
          · cases is
            · have HT := Lib.hid (show ∀ W, Rd kR rest 0 W → Calls Tryd.prog 10 #[.pointer (some ⟨kR, 0, none⟩), .int .i64 6, .int .i64 (s.size : Int)] W fun r w' => Took kR rest2 0 (.agg #[.int .i64 6, .int .i64 0, .bool false, .string ⟨#[]⟩]) W r w' from hT)
              clear hT
              have S0 : St 32 wr.heap.size #[.int .i64 6, .int .i64 0, .bool false, .string ⟨#[]⟩] (wr.alloc (.cells #[.int .i64 6, .int .i64 0, .bool false, .string ⟨#[]⟩] 32 (0, 0))).drew := St.new wr _ _
              have hRd : Rd kR rest 0 (wr.alloc (.cells #[.int .i64 6, .int .i64 0, .bool false, .string ⟨#[]⟩] 32 (0, 0))).drew := St.alloc hrd _
              have hB3 : Below w.heap.size w (wr.alloc (.cells #[.int .i64 6, .int .i64 0, .bool false, .string ⟨#[]⟩] 32 (0, 0))).drew := (hbel.alloc hbel.size _).drew
              go_wp2_with fail
              go_region_held3 (fun w' => w'.cell? ⟨wr.heap.size, 0, none⟩ = some (.int .i64 6) ∧ w'.cell? ⟨wr.heap.size, 1, none⟩ = some (.int .i64 0) ∧ w'.cell? ⟨wr.heap.size, 2, none⟩ = some (.bool false) ∧ w'.cell? ⟨wr.heap.size, 3, none⟩ = some (.string ⟨#[]⟩))
                (first | assumption | (simp; done))
                ((go_at_call 10; go_must (refine (HT.out _ hRd).mono ?_); rintro e w1 ⟨rfl, hr, hk⟩; have st1 := St.keep S0 hk (Ne.symm hkb) (by simp); have q1 := f4 st1))
              all_goals go_wp2_with fail
              all_goals go_roundw
              all_goals first
                | exact ⟨i + 1, by omega, by go_num, by rw [← HR2.out]; exact hr, hB3.trans (hk.below (B := w.heap.size) hbk hB3.size (fun j hj => by cases hj))⟩
                | (simp [intOf]; omega)
            · have HT := Lib.hid (show ∀ W, Rd kR rest 0 W → Calls Tryd.prog 10 #[.pointer (some ⟨kR, 0, none⟩), .int .i64 6, .int .i64 (s.size : Int)] W fun r w' => Took kR rest2 0 (.agg #[.int .i64 6, .int .i64 n, .bool true, .string ⟨#[]⟩]) W r w' from hT)
              clear hT
              have S0 : St 32 wr.heap.size #[.int .i64 6, .int .i64 n, .bool true, .string ⟨#[]⟩] (wr.alloc (.cells #[.int .i64 6, .int .i64 n, .bool true, .string ⟨#[]⟩] 32 (0, 0))).drew := St.new wr _ _
              have hRd : Rd kR rest 0 (wr.alloc (.cells #[.int .i64 6, .int .i64 n, .bool true, .string ⟨#[]⟩] 32 (0, 0))).drew := St.alloc hrd _
              have hB3 : Below w.heap.size w (wr.alloc (.cells #[.int .i64 6, .int .i64 n, .bool true, .string ⟨#[]⟩] 32 (0, 0))).drew := (hbel.alloc hbel.size _).drew
              go_wp2_with fail
              go_region_held3 (fun w' => w'.cell? ⟨wr.heap.size, 0, none⟩ = some (.int .i64 6) ∧ w'.cell? ⟨wr.heap.size, 1, none⟩ = some (.int .i64 n) ∧ w'.cell? ⟨wr.heap.size, 2, none⟩ = some (.bool true) ∧ w'.cell? ⟨wr.heap.size, 3, none⟩ = some (.string ⟨#[]⟩))
                (first | assumption | (simp; done))
                ((go_at_call 10; go_must (refine (HT.out _ hRd).mono ?_); rintro e w1 ⟨rfl, hr, hk⟩; have st1 := St.keep S0 hk (Ne.symm hkb) (by simp); have q1 := f4 st1))
              all_goals go_wp2_with fail
              all_goals go_roundw
              all_goals first
                | exact ⟨i + 1, by omega, by go_num, by rw [← HR2.out]; exact hr, hB3.trans (hk.below (B := w.heap.size) hbk hB3.size (fun j hj => by cases hj))⟩
                | (simp [intOf]; omega)
          · have e : rest = rest2 := HD.out (by show (thPut kind n is s).2 = []; unfold thPut; rw [if_neg k1, if_neg k2, if_neg k3, if_neg k4, if_neg k5, if_neg k6])
            clear hT
            go_wp2_with fail
            go_roundw
            case rel => exact ⟨i + 1, by omega, by go_num, by rw [← HR2.out, ← e]; exact St.alloc hrd _, hbel.alloc hbel.size _⟩
            case measure => simp [intOf]; omega
        · obtain rfl : len = i := by omega
          have hend : cat (ts.drop len) = [] := by rw [List.drop_of_length_le (by rw [ht.hlen]; exact Nat.le_refl _)]; rfl
          rw [hend] at hrd
          have hdn : rdDone (str []) 0 = 0 := rfl
          have hD := fun W h => rDone_at kR (str []) 0 W h
          rw [hdn] at hD
          have hRd : Rd kR (str []) 0 wr.drew := hrd
          go_wp2_with (first | (go_at_call 15; go_must (refine (hD _ hrd).mono ?_); rintro e w1 ⟨rfl, rfl⟩) | (go_at_call 8; go_must (refine (xknown_any _).mono ?_); rintro e w5 ⟨rfl, hb5⟩))
          go_ret
          exact ⟨rfl, hbel.trans (hb5.mono hbel.size)⟩

set_option maxRecDepth 100000 in
theorem walk_long (ao : Option Addr) (b off len cap : Nat) (ts : List Th) (w : World) (hcap : len ≤ 9223372036854775807) (hao : 0 < len → ao = some ⟨b, off, none⟩ ∧ b < w.heap.size) (ht : Things b off len ts w) (hs : ¬ small ts) :
    Calls Tryd.prog 4 #[.slice ao len cap] w fun e w' => e = .returned (.bool true) ∧ Below w.heap.size w w' := by
  have HLarge := Lib.hid (xlarge_not ao b off len cap ts w hcap hao ht hs)
  clear hao ht hs
  go_enter Tryd.func4, Tryd.ntmps4
  go_wp2_with (first | (go_at_call 7; go_must (refine HLarge.out.mono ?_); rintro e w1 ⟨rfl, rfl⟩) | (go_at_call 8; go_must (refine (xknown_any _).mono ?_); rintro e w1 ⟨rfl, hb⟩))
  go_ret
  exact ⟨rfl, hb⟩

theorem back_any (ao : Option Addr) (b off len cap : Nat) (ts : List Th) (w : World) (hcap : len ≤ 9223372036854775807) (hao : 0 < len → ao = some ⟨b, off, none⟩ ∧ b < w.heap.size) (ht : Things b off len ts w) :
    Calls Tryd.prog 4 #[.slice ao len cap] w fun e w' => e = .returned (.bool true) ∧ Below w.heap.size w w' := by
  by_cases hs : small ts
  · exact walk ao b off len cap ts w hcap hao ht hs
  · exact walk_long ao b off len cap ts w hcap hao ht hs

theorem laidOut : laidOutB Tryd.prog = true := by kernel_rfl
theorem laid_met (os : Os) : laidMet Tryd.prog Rows.xdrBackRow.laid ((laidWorld os).forCall (fun _ _ => 0) ⟨#[], #[.slice none 0 0], []⟩).memory :=
  laidMet_of_run' 8 (by kernel_rfl) (by kernel_rfl)
theorem reads (os : Os) {H : Type} (enc : TypeId × Value → H) : ∃ places, DataW.whole enc Tryd.prog ((laidWorld os).forCall (fun _ _ => 0) ⟨#[], #[.slice none 0 0], []⟩).memory Tryd.f4.params.toList Rows.xdrBackSpec.vars false (#[.slice none 0 0] : Array Value).toList 8 = some ([.nil], [], places) :=
  ⟨[], by kernel_rfl⟩

set_option maxRecDepth 100000 in
theorem contract (H : Type) (enc : TypeId × Value → H) (W : World) (base : Nat) (args : Array Value) (ds gs : List (DataW H)) (before : List MemPlace)
    (hval : ∀ (j : Nat) t v, Tryd.f4.params[j]? = some t → args[j]? = some v → Value.okWide Tryd.prog W .any base t v)
    (hW : DataW.Whole enc Tryd.prog Tryd.f4.params.toList Rows.xdrBackSpec.vars false W args.toList ds gs before) :
    Calls Tryd.prog 4 args W fun e W' => ∃ v, e = .returned v ∧ Rows.xdrBackSpec.post enc Tryd.prog Tryd.f4 false true false false W args v W' := by
  have hW' := hW
  obtain ⟨p, q, hA0, hV, rfl, hfz, hnd⟩ := hW
  have hA : DataW.TrodAll enc Tryd.prog W 0 (fun _ => true) true Tryd.f4.params.toList args.toList ds p := hA0
  rw [Tryd.params4] at hA hval
  obtain ⟨v0, vs0, d0, ds0, p0, q0, hargs, rfl, rfl, h0, r0⟩ := trodAll_cons hA
  obtain ⟨rfl, rfl, rfl⟩ := trodAll_nil r0
  obtain rfl : args = #[v0] := by cases args; simp_all
  have post : ∀ W', Below W.heap.size W W' → Rows.xdrBackSpec.post enc Tryd.prog Tryd.f4 false true false false W #[v0] (.bool true) W' := fun W' hg =>
    law_post laidOut (by rw [Tryd.params4]; decide +kernel) rfl Tryd.underlying4 rfl hW' rfl hg
  have done : ∀ (e : Ending) W', (e = .returned (.bool true) ∧ Below W.heap.size W W') → ∃ v, e = .returned v ∧ Rows.xdrBackSpec.post enc Tryd.prog Tryd.f4 false true false false W #[v0] v W' := fun e W' ⟨he, hg⟩ => ⟨_, he, post W' hg⟩
  clear post
  obtain ⟨fuel, hf⟩ := h0
  obtain ⟨ao, b, off, len, cap, ts, rfl, hcap, hao, ht⟩ := open_things (okWide_slice Tryd.underlying22 (hval 0 22 v0 rfl rfl)) hf
  exact (back_any ao b off len cap ts W hcap hao ht).mono fun e W' h => done e W' h


set_option maxRecDepth 100000 in
theorem lifted (os : Os) (started : os.Started) (H : Type) (enc : TypeId × Value → H) (F : Stop.Interp) :
    ReturnsInHanded {} Tryd.checked os 4 .any ((OpenSpec.ofChange Rows.xdrBackSpec).preRow enc Tryd.prog Tryd.f4 Rows.xdrBackRow.domain false Rows.xdrBackRow.laid) (((OpenSpec.ofChange Rows.xdrBackSpec).at F).post enc Tryd.prog Tryd.f4 false true false false) := by
  obtain ⟨places, hx⟩ := reads os enc
  refine returnsInHanded_of_row (C := Tryd.checked) (s := OpenSpec.ofChange Rows.xdrBackSpec) own started (by kernel_rfl) Tryd.func4
    (witness_row_at (enc := enc) (C := Tryd.checked) false (laidWorld os) #[.slice none 0 0] rfl (by kernel_rfl) (by kernel_rfl) (by kernel_rfl)
      (OpenSpec.preRow_of_cond 8 hx (by kernel_rfl) (fun k hk => by cases hk) (by kernel_rfl) (laid_met os))) ?_
  intro W base args ds gs before hval hW _ _ _ hL _ _
  exact contract H enc W base args ds gs before hval hW

theorem said : Rows.XdrBackSaid :=
  OpenClaim.holds_of_cond 4 Tryd.f4 rfl rfl rfl rfl rfl rfl rfl ⟨rfl, rfl, rfl, rfl, rfl⟩ rfl rfl rfl rfl rfl (by kernel_rfl) Tryd.func4 (by kernel_rfl)
    (of_decide_eq_true (by kernel_rfl)) (by unfold Func.isWrapper; first | (rw [if_pos (by decide +kernel)]; kernel_rfl) | (rw [if_neg (by decide +kernel)]; exact ⟨rfl, rfl⟩))
    (fun os started H enc _ F => by rw [OpenClaim.pre_eq_preRow]; exact lifted os started H enc F)

theorem plain (f : FuncId) (fn : Func) (hf : Tryd.pinned.checked.prog.funcNamed Rows.xdrBackRow.func = some f) (hfn : Tryd.pinned.checked.prog.funcs[f]? = some fn) :
    false = Tryd.pinned.checked.prog.looks [] ∧ ∀ (j : Nat) t, fn.params[j]? = some t → Tryd.pinned.checked.prog.wantsStandIn t = false := by
  obtain rfl : f = 4 := Option.some.inj ((show Tryd.prog.funcNamed Rows.xdrBackRow.func = some 4 by kernel_rfl).symm.trans hf) |>.symm
  obtain rfl : fn = Tryd.f4 := (Option.some.inj (Tryd.func4.symm.trans hfn)).symm
  refine ⟨by kernel_rfl, fun j t ht => ?_⟩
  have hall : Tryd.f4.params.all (fun t => Tryd.prog.wantsStandIn t == false) = true := by kernel_rfl
  have := Array.all_eq_true.1 hall j (Array.getElem?_eq_some_iff.1 ht).1
  rw [(Array.getElem?_eq_some_iff.1 ht).2] at this
  have h2 : Tryd.prog.wantsStandIn t = false := by simpa using this
  exact h2

theorem card : Rows.XdrBackCardSaid :=
  Claim7.holds_tied_plain_at .later [] _ _ _ _ said (fun _ h => by cases h) (by kernel_rfl) (fun _ h => by cases h) xdrBack_row_tie rfl ⟨rfl, rfl⟩ (by kernel_rfl) rfl plain (by kernel_rfl)

end Go.Proofs.YtbdjhkcpnkdbkaaDoor.xdrBack
