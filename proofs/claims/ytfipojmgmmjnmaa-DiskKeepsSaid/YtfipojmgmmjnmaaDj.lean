/- The reference's disk: New. -/
import Derived.Test.YtfipojmgmmjnmaaDi
namespace Go.Proofs.Ytfipojmgmmjnmaa
open Go.RowKit

theorem Try.infoString : (Try.prog.info? 9).map (fun i => (i.zero, i.size, i.bytes)) = some (some (.string ⟨#[]⟩), 1, 16) := by kernel_rfl
/-- A sector more. -/
theorem RD0.sector {B p : Nat} {kv wv : Value} {D : DS} {w w2 : World} (h : RD0 B p kv wv D w) (s : ByteArray) (hs : s.size = 128) {g cap : Nat}
    (h1 : w2.ownsRow B 9 1 (.slice (some ⟨g, 0, none⟩) (D.kept.length + 1) cap) (D.kept.length + 1) (D.kept.map Value.string ++ [.string s])) {X : Obj} (hg : (w.alloc X).drew.grownBy w2 kv.ownBlock) (hat : kv.ownBlock = some g ∨ g = w.heap.size + 1) :
    RD0 B p (.slice (some ⟨g, 0, none⟩) (D.kept.length + 1) cap) wv { D with kept := D.kept ++ [s] } (w2.setCell ⟨p, 0, none⟩ (.slice (some ⟨g, 0, none⟩) (D.kept.length + 1) cap)) := by
  have hpl := h.st.lt
  have f0 : Frm (fun j => kv.ownBlock = some j) w w2 := (((Frm.refl _ w).alloc X).drew).grown hg (fun k hk => .inl hk)
  have hst : St 43 p (dcells kv wv D) w2 := f0.st h.st h.kp
  have hwr := f0.own h.wr fun k hk e => h.kw k e hk
  have hgp : g ≠ p := by
    rcases hat with e | e
    · intro e2; subst e2; exact h.kp e
    · omega
  refine ⟨hst.set 0 _, ⟨rfl, ?_, ?_, h.ok.fulw, h.ok.lo, h.ok.hi⟩, ?_, ownsRow_setCell_other hwr h.wp _, by simp [Value.ownBlock]; exact hgp, h.wp, ?_, h.bp⟩
  · intro x hx
    have := h.ok.inn x hx
    show x.1 < (D.kept ++ [s]).length
    rw [List.length_append]
    omega
  · intro x hx
    rcases List.mem_append.1 hx with hx | hx
    · exact h.ok.full x hx
    · simp at hx; subst hx; exact hs
  · have e : (D.kept ++ [s]).map Value.string = D.kept.map Value.string ++ [.string s] := by simp
    rw [show ({ D with kept := D.kept ++ [s] } : DS).kept = D.kept ++ [s] from rfl, e, List.length_append]
    exact ownsRow_setCell_other h1 (by simp [Value.ownBlock]; exact hgp) _
  · intro k hk
    simp only [Value.ownBlock, Option.some.injEq] at hk
    subst hk
    rcases hat with e | e
    · exact h.kw _ e
    · intro e2
      have := (h.wr.lt _ e2).2
      omega
theorem new_succ (k : Nat) : ({ DS.new k with kept := (DS.new k).kept ++ [blank ⟨#[]⟩] } : DS) = DS.new (k + 1) := by
  unfold DS.new
  simp [List.replicate_succ']

set_option maxRecDepth 100000 in
set_option maxHeartbeats 1000000 in
theorem dkNew_any (n : Nat) (w : World) (hn : n ≤ 65536) :
    Calls Try.prog 13 #[.int .i64 n] w fun e w' => ∃ p, e = .returned (.pointer (some ⟨p, 0, none⟩)) ∧ RD w.heap.size p (fun j => w.heap.size ≤ j ∧ j < w'.heap.size) (DS.new n) w' ∧ Below w.heap.size w w' := by
  obtain ⟨i0, hi, hz0, hz1, hz2⟩ := info_parts Try.infoString
  have HBl := Lib.hid (fun W => dkBlank_any ⟨#[]⟩ W (by decide))
  have hb8 : (blank ⟨#[]⟩).size = 128 := blank_size _ (by decide)
  have HNS := Lib.hid new_succ
  obtain ⟨bs, hbs⟩ : ∃ bs, bs = blank ⟨#[]⟩ := ⟨_, rfl⟩
  rw [← hbs] at HBl HNS hb8
  have HB8 := Lib.hid hb8
  clear hbs hb8
  go_enter Try.func13, Try.ntmps13
  go_wp2_with fail
  have HS := Lib.hid (show RD0 w.heap.size w.heap.size (.slice none 0 0) (.slice none 0 0) (DS.new 0) (w.alloc (.cells (dcells (.slice none 0 0) (.slice none 0 0) (DS.new 0)) 43 (0, 0))) from
    ⟨St.new _ _ _, ⟨rfl, by simp [DS.new], by simp [DS.new], by simp [DS.new], by simp [DS.new], by simp [DS.new]⟩, World.ownsRow_nil _ _ _ _, World.ownsRow_nil _ _ _ _, by simp [Value.ownBlock], by simp [Value.ownBlock], by simp [Value.ownBlock], Nat.le_refl _⟩)
  go_loopw [4] (fun c wr => ∃ (k : Nat) (kv : Value), k ≤ n ∧ c = .int .i64 k ∧ RD0 w.heap.size w.heap.size kv (.slice none 0 0) (DS.new k) wr ∧ Below w.heap.size w wr) (fun c _ => n - (intOf c).toNat)
  case atStart => exact ⟨0, _, Nat.zero_le _, rfl, HS.out, (Below.refl _ w).alloc (Nat.le_refl _) _⟩
  case round =>
    obtain ⟨k, kv, hk, rfl, hr, hbw⟩ := hrel
    have HBW := Lib.hid hbw
    have HR := Lib.hid hr
    clear hbw
    by_cases hlt : k < n
    · have hlen : (DS.new k).kept.length = k := by simp [DS.new]
      have c0 : wr.cell? ⟨w.heap.size, 0, none⟩ = some kv := hr.st.cell rfl
      have hpl : w.heap.size < wr.heap.size := hr.st.lt
      have hw := hr.kr
      rw [hlen] at hw
      have HL := Lib.hid hlen
      clear hr hlen
      go_wp2_with fail
      go_region_law (first | (refine step_append_lies _ rfl (.tmp 16) (.tmp 18) 40 rfl w.heap.size 9 i0 (.string ⟨#[]⟩) 1 16 Try.underlying40 hi hz0 hz1 hz2 rfl (by decide) kv _ _ (by simp [Act.eval]) ((hw.alloc _).drew) ⟨wr.heap.size, 0, none⟩ 1 1 [.string bs] (by simp [Act.eval]) rfl (World.news_of_block (w := (wr.alloc _).drew) (heap_alloc_new wr _)) (by intro u hu; simp at hu; subst hu; rfl) (by decide) (by unfold maxLen; omega) (by omega) (by simp; omega) _ (by simp; rfl) ?_; intro g cap w2 h1 hg hat hl2; have hst2 := (((Frm.refl (fun j => kv.ownBlock = some j) wr).alloc _).drew.grown hg (fun k hk => .inl hk)).st HR.out.st HR.out.kp; have hc2 := St.cell (j := 0) hst2 rfl; have hf2 := St.free hst2 0) | (go_simp; go_at_call 23; refine (HBl.out _).mono ?_; rintro e w' ⟨rfl, rfl⟩))
      all_goals
        have hps := HR.out.sector bs HB8.out (g := g) (cap := cap) (by rw [HL.out]; exact h1) hg hat
        rw [HL.out] at hps
        have hbl : Below w.heap.size w (w2.setCell ⟨w.heap.size, 0, none⟩ (.slice (some ⟨g, 0, none⟩) (k + 1) cap)) := by
          refine Below.setCell (p := ⟨w.heap.size, 0, none⟩) ?_ (Nat.le_refl w.heap.size) _
          refine Below.grown ((HBW.out.alloc (by omega) _).drew) hg (by simp; omega) (fun j hj => (HR.out.kr.lt j hj).1)
        have HPS := Lib.hid hps
        have HBL := Lib.hid hbl
        clear h1 hg hat hl2 hst2 hc2 hf2 hw hps hbl c0
        go_wp2_with fail
        go_roundw
        case rel => exact ⟨k + 1, _, by omega, by go_num, by rw [← HNS.out]; exact HPS.out, HBL.out⟩
        case measure => simp [intOf]; omega
    · obtain rfl : k = n := by omega
      clear hr
      go_wp2_with fail
      go_ret
      exact ⟨_, rfl, ⟨kv, _, HR.out, fun j hj => hj, ⟨Nat.le_refl _, HR.out.st.lt⟩, fun j hj => HR.out.kr.lt j hj, fun j hj => by simp [Value.ownBlock] at hj⟩, HBW.out⟩
end Go.Proofs.Ytfipojmgmmjnmaa
