/- The reference's disk: Barrier. -/
import Derived.Test.YtfipojmgmmjnmaaDf
import Derived.BigRegion
namespace Go.Proofs.Ytfipojmgmmjnmaa
open Go.RowKit

/-- A sector is kept. -/
theorem RD0.put {B p g cap : Nat} {kv wv : Value} {D : DS} {w : World} (h : RD0 B p kv wv D w) (hg : kv = .slice (some ⟨g, 0, none⟩) D.kept.length cap) (j : Nat) (s : ByteArray) (hs : s.size = 128) :
    RD0 B p kv wv { D with kept := D.kept.set j s } (w.setCell ⟨g, j, none⟩ (.string s)) := by
  have hkb : kv.ownBlock = some g := by rw [hg]; rfl
  have hgp : g ≠ p := fun e => h.kp (by rw [hkb, e])
  have hk := h.kr
  rw [hg] at hk
  obtain ⟨q1, q2⟩ := hk.stored j (.string s)
  refine ⟨h.st.other g j _ hgp, ⟨rfl, ?_, ?_, h.ok.fulw, h.ok.lo, h.ok.hi⟩, ?_, ?_, h.kp, h.wp, h.kw, h.bp⟩
  · intro x hx
    have := h.ok.inn x hx
    simpa using this
  · intro x hx
    rcases List.mem_or_eq_of_mem_set hx with hx | rfl
    · exact h.ok.full x hx
    · exact hs
  · show (w.setCell ⟨g, j, none⟩ (.string s)).ownsRow B 9 1 kv (D.kept.set j s).length ((D.kept.set j s).map Value.string)
    rw [List.length_set, List.map_set, hg]
    exact q1
  · exact ownsRow_setCell_other h.wr (fun e => h.kw g hkb e) _
theorem DS.burnt_eqs (D : DS) : D.burnt.wait = D.wait ∧ D.burnt.wr = D.wr ∧ D.burnt.kept = D.kept ∧ D.burnt.br = D.br := by
  unfold DS.burnt
  split
  · exact ⟨rfl, rfl, rfl, rfl⟩
  · split <;> exact ⟨rfl, rfl, rfl, rfl⟩
theorem keepAll_at (K : List ByteArray) (l : List (Nat × ByteArray)) (k : Nat) (x : Nat × ByteArray) (h : l[k]? = some x) : keepAll K (l.take (k + 1)) = (keepAll K (l.take k)).set x.1 x.2 := by
  obtain ⟨hk, rfl⟩ := List.getElem?_eq_some_iff.1 h
  rw [List.take_succ_eq_append_getElem hk]
  exact keepAll_snoc K _ _

set_option maxRecDepth 100000 in
set_option maxHeartbeats 1000000 in
theorem dkBarrier_do (B p : Nat) (kv wv : Value) (D : DS) (w : World) (hd : D.dead = false) (h0 : D.fuse ≠ 0) (hc : D.br ≤ 1073741824) (h : RD0 B p kv wv D w) :
    Calls Try.prog 37 #[.pointer (some ⟨p, 0, none⟩)] w fun e w' => e = .returned (.int .i64 0) ∧
      RD0 B p kv (.slice none 0 0) { D.burnt with kept := keepAll D.kept D.wait, wait := [], br := D.br + 1 } w' ∧ Frm (fun j => j = p ∨ kv.ownBlock = some j) w w' := by
  obtain ⟨E, hE⟩ : ∃ E, E = D.burnt := ⟨_, rfl⟩
  have hb := D.burnt_eqs
  rw [← hE] at hb
  have HBu := Lib.hid (fun W hW => dkburn_on B p kv wv D W h0 hW)
  rw [← hE] at HBu ⊢
  have c3 : w.cell? ⟨p, 3, none⟩ = some (.bool false) := by rw [← hd]; exact h.st.cell rfl
  have HH := Lib.hid h
  have HX := Lib.hid hb
  have hbr := hc
  clear h hb hd h0 hc hE
  go_enter Try.func37, Try.ntmps37
  go_wp2_with (go_at_call 58; go_must (refine (HBu.out _ HH.out).mono ?_); rintro e w1 ⟨rfl, h1, f1, s1⟩; have H1 := Lib.hid h1; have F1 := Lib.hid f1; have c5 := (show w1.cell? ⟨p, 5, none⟩ = some (.int .i64 (D.br : Int)) from by rw [← HX.out.2.2.2]; exact h1.st.cell rfl); have q5 := h1.st.free 5; clear h1 f1 s1)
  have h2 := H1.out.brs (D.br + 1)
  have e2 : ((D.br + 1 : Nat) : Int) = (D.br : Int) + 1 := by omega
  rw [e2] at h2
  have f2 : Frm (fun j => j = p) w (w1.setCell ⟨p, 5, none⟩ (.int .i64 ((D.br : Int) + 1))) := F1.out.next ((Frm.refl (fun j => j = p) _).setCell (p := ⟨p, _, none⟩) (.inl rfl) _)
  have eb : E.kept = D.kept ∧ E.wait = D.wait := ⟨HX.out.2.2.1, HX.out.1⟩
  obtain ⟨G, hG⟩ : ∃ G : DS, G = { E with br := D.br + 1 } := ⟨_, rfl⟩
  rw [← hG] at h2
  have hgk : G.kept = D.kept ∧ G.wait = D.wait := by rw [hG]; exact eb
  have HG := Lib.hid hG
  clear c5 q5 c3 H1 F1 e2 HBu eb hG
  generalize (w1.setCell ⟨p, 5, none⟩ (.int .i64 ((D.br : Int) + 1))) = W at h2 f2 ⊢
  obtain ⟨m, hm⟩ : ∃ m, m = D.wait.length := ⟨_, rfl⟩
  have HF := Lib.hid f2
  have hwl : m ≤ 9223372036854775807 := by rw [hm, ← hgk.2]; exact own_len h2.wr
  have HGK := Lib.hid hgk
  obtain ⟨ao, cw, hwv⟩ := own_slice h2.wr
  rw [hgk.2, ← hm] at hwv
  have HWV := Lib.hid hwv
  have HM := Lib.hid hm
  have eW : ({ G with kept := keepAll D.kept (D.wait.take 0) } : DS) = G := by rw [show keepAll D.kept (D.wait.take 0) = G.kept from hgk.1.symm]
  have HS := Lib.hid (show RD0 B p kv wv { G with kept := keepAll D.kept (D.wait.take 0) } W by rw [eW]; exact h2)
  have HI := Lib.hid (show (∀ x ∈ D.wait, x.1 < D.kept.length) ∧ (∀ x ∈ D.wait, x.2.size = 128) from by
    have a := h2.ok.inn
    have b := h2.ok.fulw
    rw [hgk.1, hgk.2] at a
    rw [hgk.2] at b
    exact ⟨a, b⟩)
  clear h2 f2 hgk hwv hm eW
  go_loopw [3] (fun c wr => ∃ k : Nat, k ≤ m ∧ c = .int .i64 k ∧ RD0 B p kv wv { G with kept := keepAll D.kept (D.wait.take k) } wr ∧ Frm (fun j => kv.ownBlock = some j) W wr) (fun c _ => m - (intOf c).toNat)
  case atStart => exact ⟨0, Nat.zero_le _, rfl, HS.out, Frm.refl _ _⟩
  case round =>
    obtain ⟨k, hk, rfl, hr, hfr⟩ := hrel
    have HR := Lib.hid hr
    have HFR := Lib.hid hfr
    have c1 : wr.cell? ⟨p, 1, none⟩ = some (.slice ao m cw) := by rw [← HWV.out]; exact hr.st.cell rfl
    clear hfr
    by_cases hlt : k < m
    · obtain ⟨x, hx⟩ : ∃ x, D.wait[k]? = some x := ⟨_, List.getElem?_eq_getElem (by rw [← HM.out]; exact hlt)⟩
      have hxm : x ∈ D.wait := List.mem_of_getElem? hx
      have hx1 := HI.out.1 x hxm
      have hlen : (keepAll D.kept (D.wait.take k)).length = D.kept.length := keepAll_length _ _
      obtain ⟨g, cap, hkv, _, hn1, hkc⟩ := own_some hr.kr (by show 0 < (keepAll D.kept (D.wait.take k)).length; omega)
      obtain ⟨g2, cap2, hwv2, _, _, hwc⟩ := own_some hr.wr (by show 0 < G.wait.length; rw [HGK.out.2, ← HM.out]; omega)
      rw [show ({ G with kept := keepAll D.kept (D.wait.take k) } : DS).wait = D.wait from HGK.out.2] at hwv2 hwc
      rw [show ({ G with kept := keepAll D.kept (D.wait.take k) } : DS).kept = keepAll D.kept (D.wait.take k) from rfl] at hkv hkc
      obtain ⟨w1', w2'⟩ := wcells_at D.wait k x hx
      have d1 := hwc _ _ w1'
      have d2 := hwc _ _ w2'
      obtain ⟨y, hy⟩ : ∃ y, (keepAll D.kept (D.wait.take k))[x.1]? = some y := ⟨_, List.getElem?_eq_getElem (by omega)⟩
      have d3 := hkc x.1 (.string y) (by simp [hy])
      have d4 : wr.frozen? ⟨g, x.1, none⟩ = false := by have := hr.kr; rw [hkv] at this; exact this.frozenAt x.1
      have c0 : wr.cell? ⟨p, 0, none⟩ = some (.slice (some ⟨g, 0, none⟩) D.kept.length cap) := by rw [← hlen, ← hkv]; exact hr.st.cell rfl
      have eao : ao = some ⟨g2, 0, none⟩ := by have e := HWV.out.symm.trans hwv2; injection e
      have HP := Lib.hid (hr.put hkv x.1 x.2 (HI.out.2 x hxm))
      have HK := Lib.hid (keepAll_at D.kept D.wait k x hx)
      have HKB := Lib.hid (show kv.ownBlock = some g by rw [hkv]; rfl)
      obtain ⟨n, hn⟩ : ∃ n, n = D.kept.length := ⟨_, rfl⟩
      rw [← hn] at hx1 c0
      have hx0 : (0 : Int) ≤ (x.1 : Int) := by omega
      have hx2 : (x.1 : Int) < (n : Int) := by omega
      rw [eao] at c1
      clear hx hxm hlen hkv hkc hwv2 hwc w1' w2' hy hr hn1 hn eao
      go_wp2_with fail
      go_region
      all_goals
        go_wp2_with fail
        go_roundw
        case rel =>
          refine ⟨k + 1, by omega, by go_num, ?_, ?_⟩
          · have h := HP.out.drew
            rw [show ({ ({ G with kept := keepAll D.kept (D.wait.take k) } : DS) with kept := (keepAll D.kept (D.wait.take k)).set x.1 x.2 } : DS) = { G with kept := keepAll D.kept (D.wait.take (k + 1)) } from by rw [HK.out]] at h
            exact h
          · exact ((HFR.out).setCell (p := ⟨g, _, none⟩) (.inl HKB.out) _).drew
        case measure => simp [intOf]; omega
    · obtain rfl : k = m := by omega
      have q1 := hr.st.free 1
      clear hr
      go_wp2_with fail
      go_ret
      refine ⟨rfl, ?_, ?_⟩
      · have h := HR.out.clear
        rw [show ({ ({ G with kept := keepAll D.kept (D.wait.take k) } : DS) with wait := [] } : DS) = { E with kept := keepAll D.kept D.wait, wait := [], br := D.br + 1 } from by rw [List.take_of_length_le (by rw [← HM.out]; omega), HG.out]] at h
        exact h
      · refine Frm.next (HF.out.wide fun j hj => .inl hj) (Frm.setCell (HFR.out.wide fun j hj => .inr hj) (p := ⟨p, _, none⟩) (.inl (.inl rfl)) _)
end Go.Proofs.Ytfipojmgmmjnmaa
