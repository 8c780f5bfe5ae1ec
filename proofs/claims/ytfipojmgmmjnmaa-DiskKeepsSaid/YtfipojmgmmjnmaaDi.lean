/- The reference's disk: Crash. -/
import Derived.Test.YtfipojmgmmjnmaaDh
namespace Go.Proofs.Ytfipojmgmmjnmaa
open Go.RowKit

set_option maxRecDepth 100000 in
set_option maxHeartbeats 2000000 in
theorem dkCrash_do (B p : Nat) (kv wv v : Value) (D : DS) (keep : List Int) (w : World) (hv : Ints (fun b => b ≠ p ∧ kv.ownBlock ≠ some b) v keep w) (h : RD0 B p kv wv D w) :
    Calls Try.prog 39 #[.pointer (some ⟨p, 0, none⟩), v] w fun e w' => e = .returned (.tuple #[]) ∧
      RD0 B p kv (.slice none 0 0) (D.crash keep) w' ∧ Frm (fun j => j = p ∨ kv.ownBlock = some j) w w' := by
  obtain ⟨a2, kc, kb, ko, rfl, ⟨hkl, _⟩, hka, hkx⟩ := hv
  obtain ⟨n2, hn2⟩ : ∃ n2, n2 = keep.length := ⟨_, rfl⟩
  have HK := Lib.hid (show ∀ j, j < n2 → ∃ y, keep[j]? = some y ∧ a2 = some ⟨kb, ko, none⟩ ∧ w.cell? ⟨kb, ko + j, none⟩ = some (.int .i64 y) ∧ kb < w.heap.size ∧ kv.ownBlock ≠ some kb from fun j hj => by
    obtain ⟨y, hy⟩ : ∃ y, keep[j]? = some y := ⟨_, List.getElem?_eq_getElem (by omega)⟩
    obtain ⟨q1, q2, q3, q4⟩ := hka (by omega)
    exact ⟨y, hy, q1, hkx j y hy, q2, q4⟩)
  have HN2 := Lib.hid hn2
  rw [← hn2]
  rw [← hn2] at hkl
  obtain ⟨m, hm⟩ : ∃ m, m = D.wait.length := ⟨_, rfl⟩
  have hwl : m ≤ 9223372036854775807 := by rw [hm]; exact own_len h.wr
  obtain ⟨ao, cw, hwv⟩ := own_slice h.wr
  rw [← hm] at hwv
  have HWV := Lib.hid hwv
  have HM := Lib.hid hm
  have HS := Lib.hid (show RD0 B p kv wv { D with kept := keepAll D.kept (chosen keep (D.wait.take 0) 0) } w from h)
  have HI := Lib.hid (show (∀ x ∈ D.wait, x.1 < D.kept.length) ∧ (∀ x ∈ D.wait, x.2.size = 128) from ⟨h.ok.inn, h.ok.fulw⟩)
  clear hka hkx hn2 hm hwv h
  go_enter Try.func39, Try.ntmps39
  go_wp2_with fail
  go_loopw [4, 5] (fun c _ wr => ∃ k : Nat, k ≤ m ∧ c = .int .i64 k ∧ RD0 B p kv wv { D with kept := keepAll D.kept (chosen keep (D.wait.take k) 0) } wr ∧ Frm (fun j => kv.ownBlock = some j) w wr) (fun c _ _ => m - (intOf c).toNat)
  case atStart => exact ⟨0, Nat.zero_le _, rfl, HS.out, Frm.refl _ _⟩
  case round =>
    obtain ⟨k, hk, rfl, hr, hfr⟩ := hrel
    have c1 : wr.cell? ⟨p, 1, none⟩ = some (.slice ao m cw) := by rw [← HWV.out]; exact hr.st.cell rfl
    obtain ⟨wo, hwo⟩ : ∃ wo : World, wo = wr := ⟨_, rfl⟩
    by_cases hlt : k < m
    · obtain ⟨x, hx⟩ : ∃ x, D.wait[k]? = some x := ⟨_, List.getElem?_eq_getElem (by rw [← HM.out]; exact hlt)⟩
      obtain ⟨K, hK⟩ : ∃ K, K = keepAll D.kept (chosen keep (D.wait.take k) 0) := ⟨_, rfl⟩
      rw [← hK] at hr
      have HR := Lib.hid hr
      have HFR := Lib.hid hfr
      have HX := Lib.hid hx
      have HKK := Lib.hid hK
      clear hr hfr hx hK hwo wo
      go_wp2_with fail
      obtain ⟨wo, rfl⟩ : ∃ wo : World, wo = wr := ⟨_, rfl⟩
      clear c1
      go_loopw [5] (fun c wr => ∃ j : Nat, j ≤ n2 ∧ c = .int .i64 j ∧ RD0 B p kv wv { D with kept := someKept K k x (keep.take j) } wr ∧ Frm (fun j => kv.ownBlock = some j) w wr) (fun c _ => n2 - (intOf c).toNat)
      case atStart => exact ⟨0, Nat.zero_le _, rfl, by rw [List.take_zero, someKept_nil]; exact HR.out, HFR.out⟩
      case round =>
        obtain ⟨j, hj, rfl, hr, hfr⟩ := hrel
        by_cases hjl : j < n2
        · obtain ⟨y, hy, rfl, ky, kb1, kb2⟩ := HK.out j hjl
          have d0 : wr.cell? ⟨kb, ko + j, none⟩ = some (.int .i64 y) := (hfr.cell (q := ⟨kb, ko + j, none⟩) kb1 kb2).trans ky
          have HT := Lib.hid (take_at keep j y hy)
          have HFR := Lib.hid hfr
          have HR := Lib.hid hr
          clear hfr hy ky
          by_cases hyk : y = (k : Int)
          · have d9 : (y == (k : Int)) = true := by rw [hyk]; simp
            have hx := HX.out
            have hxm : x ∈ D.wait := List.mem_of_getElem? hx
            have hx1 := HI.out.1 x hxm
            have hlen : (someKept K k x (keep.take j)).length = D.kept.length := by rw [someKept_length, HKK.out, keepAll_length]
            obtain ⟨g, cap, hkv, _, hn1, hkc⟩ := own_some hr.kr (by show 0 < (someKept K k x (keep.take j)).length; omega)
            obtain ⟨g2, cap2, hwv2, _, _, hwc⟩ := own_some hr.wr (by show 0 < D.wait.length; rw [← HM.out]; omega)
            rw [show ({ D with kept := someKept K k x (keep.take j) } : DS).wait = D.wait from rfl] at hwv2 hwc
            rw [show ({ D with kept := someKept K k x (keep.take j) } : DS).kept = someKept K k x (keep.take j) from rfl] at hkv hkc
            obtain ⟨w1', w2'⟩ := wcells_at D.wait k x hx
            have d1 := hwc _ _ w1'
            have d2 := hwc _ _ w2'
            obtain ⟨z, hz⟩ : ∃ z, (someKept K k x (keep.take j))[x.1]? = some z := ⟨_, List.getElem?_eq_getElem (by omega)⟩
            have d3 := hkc x.1 (.string z) (by simp [hz])
            have d4 : wr.frozen? ⟨g, x.1, none⟩ = false := by have := hr.kr; rw [hkv] at this; exact this.frozenAt x.1
            have c0 : wr.cell? ⟨p, 0, none⟩ = some (.slice (some ⟨g, 0, none⟩) D.kept.length cap) := by rw [← hlen, ← hkv]; exact hr.st.cell rfl
            have eao : ao = some ⟨g2, 0, none⟩ := by have e := HWV.out.symm.trans hwv2; injection e
            have c1 : wr.cell? ⟨p, 1, none⟩ = some (.slice (some ⟨g2, 0, none⟩) m cw) := by rw [← eao, ← HWV.out]; exact hr.st.cell rfl
            have HP := Lib.hid (hr.put hkv x.1 x.2 (HI.out.2 x hxm))
            have HKB := Lib.hid (show kv.ownBlock = some g by rw [hkv]; rfl)
            obtain ⟨n, hn⟩ : ∃ n, n = D.kept.length := ⟨_, rfl⟩
            rw [← hn] at hx1 c0
            have hx0 : (0 : Int) ≤ (x.1 : Int) := by omega
            have hx2 : (x.1 : Int) < (n : Int) := by omega
            have HYK := Lib.hid hyk
            clear hx hxm hlen hkv hkc hwv2 hwc w1' w2' hz hr hn1 hn eao hyk
            go_wp2_with fail
            go_region
            all_goals
              go_wp2_with fail
              go_roundw
              case rel =>
                refine ⟨j + 1, by omega, by go_num, ?_, ?_⟩
                · have h := HP.out.drew
                  rw [show ({ ({ D with kept := someKept K k x (keep.take j) } : DS) with kept := (someKept K k x (keep.take j)).set x.1 x.2 } : DS) = { D with kept := someKept K k x (keep.take (j + 1)) } from by rw [HT.out, HYK.out, ← someKept_yes]] at h
                  exact h
                · exact ((HFR.out).setCell (p := ⟨g, _, none⟩) (.inl HKB.out) _).drew
              case measure => simp [intOf]; omega
          · have d9 : (y == (k : Int)) = false := by rw [beq_eq_false_iff_ne]; exact hyk
            have HYK := Lib.hid hyk
            clear hyk hr
            go_wp2_with fail
            go_roundw
            case rel => exact ⟨j + 1, by omega, by go_num, by rw [HT.out, ← someKept_no K k x _ y HYK.out]; exact HR.out, HFR.out⟩
            case measure => simp [intOf]; omega
        · obtain rfl : j = n2 := by omega
          have HR := Lib.hid hr
          have HFR := Lib.hid hfr
          clear hr hfr
          go_wp2_with fail
          go_roundw
          case rel =>
            refine ⟨k + 1, by omega, by go_num, ?_, HFR.out⟩
            have h := HR.out
            rw [List.take_of_length_le (by rw [← HN2.out]; omega), HKK.out, someKept_all D.kept keep D.wait k x HX.out] at h
            exact h
          case measure => simp [intOf]; omega
    · obtain rfl : k = m := by omega
      have q1 := hr.st.free 1
      have q2 := hr.st.free 2
      have q3 := hr.st.free 3
      have c2 := hr.st.cell (j := 2) rfl
      have c3 := hr.st.cell (j := 3) rfl
      have HR := Lib.hid hr
      have HFR := Lib.hid hfr
      clear hr hfr hwo wo
      go_wp2_with fail
      go_end0
      refine ⟨rfl, ?_, ?_⟩
      · have h := ((HR.out.clear).fuse (-1) (by omega) (by omega)).dead false
        rw [show ({ ({ ({ ({ D with kept := keepAll D.kept (chosen keep (D.wait.take k) 0) } : DS) with wait := [] } : DS) with fuse := -1 } : DS) with dead := false } : DS) = D.crash keep from by rw [List.take_of_length_le (by rw [← HM.out]; omega)]; rfl] at h
        exact h
      · exact (((HFR.out.wide fun j hj => .inr hj).setCell (p := ⟨p, _, none⟩) (.inl (.inl rfl)) _).setCell (p := ⟨p, _, none⟩) (.inl (.inl rfl)) _).setCell (p := ⟨p, _, none⟩) (.inl (.inl rfl)) _
end Go.Proofs.Ytfipojmgmmjnmaa
