/- Calls: the program's visit with the functions that read. -/
import Derived.Test.YtdjnadgcjmlejaaDoorCk
import Derived.Test.YtdjnadgcjmlejaaDoorCg
namespace Go.Proofs.YtdjnadgcjmlejaaDoor
open Go.RowKit

/-- The functions that read, over the variables in the blocks b and eb. -/
def rFn (b eb : Nat) : Array Value := #[.func (.func 51) #[] #[.pointer (some ⟨b, 0, none⟩)], .func (.func 53) #[] #[.pointer (some ⟨b, 0, none⟩)], .func (.func 55) #[] #[.pointer (some ⟨b, 0, none⟩)], .func (.func 57) #[] #[.pointer (some ⟨b, 0, none⟩)], .func (.func 59) #[] #[.pointer (some ⟨b, 0, none⟩), .pointer (some ⟨eb, 0, none⟩)]]
structure Apart6 (B k b m eb cb ib : Nat) : Prop where
  low : B ≤ m ∧ B ≤ ib ∧ B ≤ k ∧ B ≤ eb
  m : m ≠ k ∧ m ≠ b ∧ m ≠ cb ∧ m ≠ ib ∧ m ≠ eb
  ib : ib ≠ k ∧ ib ≠ b ∧ ib ≠ cb ∧ ib ≠ eb
  k : k ≠ b ∧ k ≠ cb ∧ k ≠ eb
  eb : eb ≠ b ∧ eb ≠ cb
/-- While fields are read. -/
structure VR (B k b m eb cb ib : Nat) (fs : ByteArray) (w : World) (i : Nat) (x : Rst) (W : World) : Prop where
  call : St 30 k x.c.arr W
  var : St 83 b #[.pointer (some ⟨m, 0, none⟩)] W
  er : St 32 eb #[.int .i64 x.serr] W
  cod : St 76 cb (rFn b eb) W
  it : W.heap[ib]? = some (.stringIter fs i)
  rd : Rd m x.rest x.err W
  sz : x.rest.size ≤ 1073741824
  low : Below B w W
section
variable {B k b m eb cb ib : Nat} {fs : ByteArray} {w : World} {i : Nat} {x : Rst} {W : World}
theorem VR.drew (h : VR B k b m eb cb ib fs w i x W) : VR B k b m eb cb ib fs w i x W.drew :=
  ⟨h.call, h.var, h.er, h.cod, h.it, h.rd, h.sz, h.low.drew⟩
theorem VR.iter (ap : Apart6 B k b m eb cb ib) (h : VR B k b m eb cb ib fs w i x W) (j : Nat) : VR B k b m eb cb ib fs w j x (W.iterAt ib fs j) :=
  ⟨h.call.iterAt ap.ib.1.symm _ _, h.var.iterAt ap.ib.2.1.symm _ _, h.er.iterAt ap.ib.2.2.2.symm _ _, h.cod.iterAt ap.ib.2.2.1.symm _ _, Lib.iterAt_heap W ib fs i j h.it, (show Rd m x.rest x.err _ from St.iterAt h.rd ap.m.2.2.2.1 _ _), h.sz, Lib.below_iterAt h.low ap.low.2.1 _ _⟩
theorem VR.took (ap : Apart6 B k b m eb cb ib) (h : VR B k b m eb cb ib fs w i x W) {w1 : World} {s : ByteArray} {e : Int} (hk : Keep m none W w1) (hr : Rd m s e w1) (hs : s.size ≤ x.rest.size) : VR B k b m eb cb ib fs w i ⟨s, e, x.serr, x.c⟩ w1 :=
  ⟨h.call.keepN hk ap.m.1.symm, h.var.keepN hk ap.m.2.1.symm, h.er.keepN hk ap.m.2.2.2.2.symm, h.cod.keepN hk ap.m.2.2.1.symm, hk.same h.it ap.m.2.2.2.1.symm (by simp), hr, Nat.le_trans hs h.sz, h.low.trans (hk.below ap.low.1 (Nat.le_trans (by have := h.rd.lt; have := ap.low.1; omega) (Nat.le_refl _)) (fun j e => by cases e))⟩
theorem VR.set1 (ap : Apart6 B k b m eb cb ib) (h : VR B k b m eb cb ib fs w i x W) {o : Nat} {v : Value} {c : Cl} (hc : c.arr = x.c.arr.setIfInBounds o v) : VR B k b m eb cb ib fs w i ⟨x.rest, x.err, x.serr, c⟩ (W.setCell ⟨k, o, none⟩ v) :=
  ⟨hc ▸ h.call.set o v, h.var.other k o v ap.k.1, h.er.other k o v ap.k.2.2, h.cod.other k o v ap.k.2.1, (Below.heap_setCell W ⟨k, o, none⟩ v ib ap.ib.1).trans h.it, (show Rd m x.rest x.err _ from St.other h.rd k o v ap.m.1.symm), h.sz, h.low.setCell ap.low.2.2.1 v⟩
theorem VR.setS (ap : Apart6 B k b m eb cb ib) (h : VR B k b m eb cb ib fs w i x W) (n : Int) : VR B k b m eb cb ib fs w i ⟨x.rest, x.err, n, x.c⟩ (W.setCell ⟨eb, 0, none⟩ (.int .i64 n)) :=
  ⟨h.call.other eb 0 _ ap.k.2.2.symm, h.var.other eb 0 _ ap.eb.1, h.er.set 0 _, h.cod.other eb 0 _ ap.eb.2, (Below.heap_setCell W ⟨eb, 0, none⟩ _ ib ap.ib.2.2.2).trans h.it, (show Rd m x.rest x.err _ from St.other h.rd eb 0 _ ap.m.2.2.2.2.symm), h.sz, h.low.setCell ap.low.2.2.2 _⟩
theorem heap_setCells {k : Nat} {j : Nat} {o : Obj} (hj : j ≠ k) : ∀ (vs : List Value) (i : Nat) (W : World), W.heap[j]? = some o → (W.setCells k i vs).heap[j]? = some o
  | [], _, _, h => h
  | v :: vs, i, W, h => heap_setCells hj vs (i + 1) _ ((Below.heap_setCell W ⟨k, i, none⟩ v j hj).trans h)
theorem VR.setN (ap : Apart6 B k b m eb cb ib) (h : VR B k b m eb cb ib fs w i x W) {vs : List Value} {c : Cl} (hc : c.arr = over x.c.arr 9 vs) : VR B k b m eb cb ib fs w i ⟨x.rest, x.err, x.serr, c⟩ (W.setCells k 9 vs) :=
  ⟨hc ▸ St.setCells vs 9 _ _ h.call, St.setCells_other ap.k.1 vs 9 _ h.var, St.setCells_other ap.k.2.2 vs 9 _ h.er, St.setCells_other ap.k.2.1 vs 9 _ h.cod, heap_setCells ap.ib.1 vs 9 W h.it, (show Rd m x.rest x.err _ from St.setCells_other ap.m.1.symm vs 9 _ h.rd), h.sz, below_setCells ap.low.2.2.1 vs 9 _ h.low⟩
/-- One field of one cell. -/
theorem VR.field (ap : Apart6 B k b m eb cb ib) (h : VR B k b m eb cb ib fs w i x W) {o : Nat} {s : ByteArray} {e : Int} {v : Value} {c : Cl} {r : Ending} {w' : World} (g : PutR k o m s e v W r w') (hs : s.size ≤ x.rest.size) (hc : c.arr = x.c.arr.setIfInBounds o v) : r = .returned (.tuple #[]) ∧ VR B k b m eb cb ib fs w i ⟨s, e, x.serr, c⟩ w' := by
  obtain ⟨g0, w1, g1, g2, rfl⟩ := g
  exact ⟨g0, (h.took ap g2 g1 hs).set1 ap hc⟩
theorem VR.field2 (ap : Apart6 B k b m eb cb ib) (h : VR B k b m eb cb ib fs w i x W) {s : ByteArray} {e n : Int} {is : Bool} {r : Ending} {w' : World} (g : PutR2 k m s e (.bool is) (.int .i64 n) W r w') (hs : s.size ≤ x.rest.size) : r = .returned (.tuple #[]) ∧ VR B k b m eb cb ib fs w i ⟨s, e, x.serr, { x.c with guard := ⟨is, n⟩ }⟩ w' := by
  obtain ⟨g0, w1, g1, g2, rfl⟩ := g
  exact ⟨g0, ((h.took ap g2 g1 hs).set1 ap (c := { x.c with guard := ⟨is, x.c.guard.n⟩ }) rfl).set1 ap (c := { x.c with guard := ⟨is, n⟩ }) rfl⟩
theorem arr_over (c : Cl) (p : Ps) : ({ c with set := p } : Cl).arr = over c.arr 9 p.vs := by kernel_rfl
theorem VR.fieldS (ap : Apart6 B k b m eb cb ib) (h : VR B k b m eb cb ib fs w i x W) {s : ByteArray} {e n : Int} {p : Ps} {r : Ending} {w' : World} (g : PutRs k m eb s e p.vs n W r w') (hs : s.size ≤ x.rest.size) : r = .returned (.tuple #[]) ∧ VR B k b m eb cb ib fs w i ⟨s, e, n, { x.c with set := p }⟩ w' := by
  obtain ⟨g0, w1, g1, g2, rfl⟩ := g
  exact ⟨g0, ((h.took ap g2 g1 hs).setN ap (c := { x.c with set := p }) (arr_over x.c p)).setS ap n⟩
end

set_option maxRecDepth 100000 in
set_option maxHeartbeats 8000000 in
theorem visit_r (B k b m eb : Nat) (p : Int) (S : ByteArray) (w : World) (hS : S.size ≤ 1073741824) (hB : B ≤ m ∧ B ≤ k ∧ B ≤ eb ∧ B ≤ w.heap.size) (hne : m ≠ k ∧ m ≠ b ∧ m ≠ eb ∧ k ≠ b ∧ k ≠ eb ∧ eb ≠ b) (h1 : St 30 k (Cl.new p).arr w) (h2 : St 83 b #[.pointer (some ⟨m, 0, none⟩)] w) (h3 : St 32 eb #[.int .i64 0] w) (h4 : Rd m S 0 w) :
    Calls Tryd.prog 33 #[.pointer (some ⟨k, 0, none⟩), .agg #[.func (.func 51) #[] #[.pointer (some ⟨b, 0, none⟩)], .func (.func 53) #[] #[.pointer (some ⟨b, 0, none⟩)], .func (.func 55) #[] #[.pointer (some ⟨b, 0, none⟩)], .func (.func 57) #[] #[.pointer (some ⟨b, 0, none⟩)], .func (.func 59) #[] #[.pointer (some ⟨b, 0, none⟩), .pointer (some ⟨eb, 0, none⟩)]]] w
      fun e w' => e = .returned (.tuple #[]) ∧ St 30 k (getX p S).c.arr w' ∧ St 83 b #[.pointer (some ⟨m, 0, none⟩)] w' ∧ St 32 eb #[.int .i64 (getX p S).serr] w' ∧ Rd m (getX p S).rest (getX p S).err w' ∧ Below B w w' := by
  have HF := Lib.hid (fun W => cFields_any p W)
  have hfs := fstr_size p
  have hget := @fstr_get p
  have c0 : w.cell? ⟨k, 0, none⟩ = some (.int .i64 p) := h1.cell rfl
  have l1 := h1.lt
  have l2 := h2.lt
  have l3 := h3.lt
  have l4 := h4.lt
  have H1 := Lib.hid h1
  have H2 := Lib.hid h2
  have H3 := Lib.hid h3
  have H4 := Lib.hid h4
  clear h1 h2 h3 h4
  unfold getX
  obtain ⟨ls, hls⟩ : ∃ ls, ls = flds p := ⟨_, rfl⟩
  obtain ⟨fs, hfe⟩ : ∃ fs, fs = fstr p := ⟨_, rfl⟩
  rw [← hfe] at HF hfs
  rw [← hls] at hfs ⊢
  have hget : ∀ (i : Nat) (l : Lt), ls[i]? = some l → ∀ (hi : i < fs.size), (fs[i]'hi) = l.b := by
    intro i l h hi
    subst hls hfe
    exact hget h hi
  obtain ⟨x0, hx0⟩ : ∃ x, x = (⟨S, 0, 0, Cl.new p⟩ : Rst) := ⟨_, rfl⟩
  rw [← hx0]
  have HX := Lib.hid hx0
  have HG := Lib.hid hget
  have HS := Lib.hid hfs
  have HB := Lib.hid hB
  have HN := Lib.hid hne
  clear hget hfs hls hfe hB hne hx0
  have hca : (w.alloc (.cells #[.func (.func 51) #[] #[.pointer (some ⟨b, 0, none⟩)], .func (.func 53) #[] #[.pointer (some ⟨b, 0, none⟩)], .func (.func 55) #[] #[.pointer (some ⟨b, 0, none⟩)], .func (.func 57) #[] #[.pointer (some ⟨b, 0, none⟩)], .func (.func 59) #[] #[.pointer (some ⟨b, 0, none⟩), .pointer (some ⟨eb, 0, none⟩)]] 76 (0, 0))).cell? ⟨k, 0, none⟩ = some (.int .i64 p) := (H1.out.alloc _).cell rfl
  go_enter Tryd.func33, Tryd.ntmps33
  go_wp2_with (go_at_call 7; go_must (refine (HF.out _).mono ?_); rintro e w1 ⟨rfl, b1⟩)
  have hH := b1.size
  have e1 : (w.alloc (.cells #[.func (.func 51) #[] #[.pointer (some ⟨b, 0, none⟩)], .func (.func 53) #[] #[.pointer (some ⟨b, 0, none⟩)], .func (.func 55) #[] #[.pointer (some ⟨b, 0, none⟩)], .func (.func 57) #[] #[.pointer (some ⟨b, 0, none⟩)], .func (.func 59) #[] #[.pointer (some ⟨b, 0, none⟩), .pointer (some ⟨eb, 0, none⟩)]] 76 (0, 0))).heap.size = w.heap.size + 1 := by simp
  have ap : Apart6 B k b m eb w.heap.size w1.heap.size := by
    have hb := HB.out
    have hn := HN.out
    exact ⟨⟨hb.1, by omega, hb.2.1, hb.2.2.1⟩, ⟨hn.1, hn.2.1, by omega, by omega, hn.2.2.1⟩, ⟨by omega, by omega, by omega, by omega⟩, ⟨hn.2.2.2.1, by omega, hn.2.2.2.2.1⟩, ⟨hn.2.2.2.2.2, by omega⟩⟩
  have v0 : VR B k b m eb w.heap.size w1.heap.size fs w 0 x0 (w1.iter fs 0) := by
    have hb := HB.out
    rw [HX.out]
    refine ⟨((H1.out.alloc _).below b1).alloc _, ((H2.out.alloc _).below b1).alloc _, ((H3.out.alloc _).below b1).alloc _, ((St.new w 76 _).below b1).alloc _, World.iter_heap w1 fs 0, (show Rd m S 0 _ from ((St.alloc H4.out _).below b1).alloc _), hS, ?_⟩
    exact ((((Below.refl B w).alloc hb.2.2.2 _).trans (b1.mono (by omega))).alloc (by omega) _)
  have V0 := Lib.hid v0
  clear v0 b1 e1 hca c0
  go_wp2_with fail
  go_loopw [5] (fun _ wr => ∃ i : Nat, i ≤ ls.length ∧ VR B k b m eb w.heap.size w1.heap.size fs w i (rds (ls.take i) x0) wr) (fun _ wr => ls.length - wr.iterPos w1.heap.size)
  case atStart => exact ⟨0, Nat.zero_le _, V0.out⟩
  case round =>
    obtain ⟨i, hi, hv⟩ := hrel
    have hit := hv.it
    by_cases hlt : i < ls.length
    · obtain ⟨l, hl⟩ : ∃ l, ls[i]? = some l := ⟨_, List.getElem?_eq_getElem hlt⟩
      have hsz : i < fs.size := by rw [HS.out]; exact hlt
      have hgl := HG.out i l hl hsz
      have hnx : ∀ ty, (Instr.next (.pointer (some ⟨w1.heap.size, 0, none⟩)) true ty).run Tryd.prog wr = _ := fun ty => Lib.run_next_ascii_at wr w1.heap.size fs i ty hit hsz (by rw [hgl]; exact lt_ascii l)
      rw [hgl] at hnx
      have htk : rds (ls.take (i + 1)) x0 = rdL l (rds (ls.take i) x0) := by
        rw [List.take_add_one, hl]
        exact rds_snoc _ _ _
      obtain ⟨x, hx⟩ : ∃ x, x = rds (ls.take i) x0 := ⟨_, rfl⟩
      rw [← hx] at hv htk
      have hv2 := (hv.iter ap (i + 1)).drew
      have hpos : wr.iterPos w1.heap.size = i := by simp only [World.iterPos, hit]
      have hV := Lib.hid hv2
      have HT := Lib.hid htk
      have HP := Lib.hid hpos
      have hle := rdL_le l x
      have f0 : (wr.iterAt w1.heap.size fs (i + 1)).cell? ⟨w.heap.size, 0, none⟩ = some (.func (.func 51) #[] #[.pointer (some ⟨b, 0, none⟩)]) := hv2.cod.cell rfl
      have f1 : (wr.iterAt w1.heap.size fs (i + 1)).cell? ⟨w.heap.size, 1, none⟩ = some (.func (.func 53) #[] #[.pointer (some ⟨b, 0, none⟩)]) := hv2.cod.cell rfl
      have f2 : (wr.iterAt w1.heap.size fs (i + 1)).cell? ⟨w.heap.size, 2, none⟩ = some (.func (.func 55) #[] #[.pointer (some ⟨b, 0, none⟩)]) := hv2.cod.cell rfl
      have f3 : (wr.iterAt w1.heap.size fs (i + 1)).cell? ⟨w.heap.size, 3, none⟩ = some (.func (.func 57) #[] #[.pointer (some ⟨b, 0, none⟩)]) := hv2.cod.cell rfl
      have f4 : (wr.iterAt w1.heap.size fs (i + 1)).cell? ⟨w.heap.size, 4, none⟩ = some (.func (.func 59) #[] #[.pointer (some ⟨b, 0, none⟩), .pointer (some ⟨eb, 0, none⟩)]) := hv2.cod.cell rfl
      clear hv hv2 hit hl hgl htk hpos hx V0
      cases l
      · change ∀ ty, (Instr.next (.pointer (some ⟨w1.heap.size, 0, none⟩)) true ty).run Tryd.prog wr = .ok (.tuple #[.bool true, .int .i64 i, .int .i32 102]) (wr.iterAt w1.heap.size fs (i + 1)) at hnx
        replace hle := Lib.hid hle
        go_wp2_with fail
        go_still_tail 5, (by kernel_rfl)
        change wpList _ _ _ _ _ (wr.iterAt w1.heap.size fs (i + 1)).drew
        go_wp2_with (go_at_call 51; go_must (refine (cr1_any k 1 b m 64 _ _ x.c.arr _ _ hV.out.sz ap.m.1.symm hV.out.call rfl (hV.out.var.cell rfl) hV.out.rd).mono ?_); rintro e w3 hw; obtain ⟨rfl, hv4⟩ := hV.out.field ap hw hle.out (c := (rdL .f x).c) rfl)
        have hv3 := Lib.hid hv4
        clear hw hv4
        go_roundw
        case rel => exact ⟨i + 1, hlt, by rw [HT.out]; exact hv3.out⟩
        case measure =>
          have e1 : w3.iterPos w1.heap.size = i + 1 := by simp only [World.iterPos, hv3.out.it]
          show ls.length - w3.iterPos w1.heap.size < ls.length - wr.iterPos w1.heap.size
          rw [e1, HP.out]; omega
      · change ∀ ty, (Instr.next (.pointer (some ⟨w1.heap.size, 0, none⟩)) true ty).run Tryd.prog wr = .ok (.tuple #[.bool true, .int .i64 i, .int .i32 110]) (wr.iterAt w1.heap.size fs (i + 1)) at hnx
        replace hle := Lib.hid hle
        go_wp2_with fail
        go_still_tail 5, (by kernel_rfl)
        change wpList _ _ _ _ _ (wr.iterAt w1.heap.size fs (i + 1)).drew
        go_wp2_with (go_at_call 51; go_must (refine (cr1_any k 2 b m 255 _ _ x.c.arr _ _ hV.out.sz ap.m.1.symm hV.out.call rfl (hV.out.var.cell rfl) hV.out.rd).mono ?_); rintro e w3 hw; obtain ⟨rfl, hv4⟩ := hV.out.field ap hw hle.out (c := (rdL .n x).c) rfl)
        have hv3 := Lib.hid hv4
        clear hw hv4
        go_roundw
        case rel => exact ⟨i + 1, hlt, by rw [HT.out]; exact hv3.out⟩
        case measure =>
          have e1 : w3.iterPos w1.heap.size = i + 1 := by simp only [World.iterPos, hv3.out.it]
          show ls.length - w3.iterPos w1.heap.size < ls.length - wr.iterPos w1.heap.size
          rw [e1, HP.out]; omega
      · change ∀ ty, (Instr.next (.pointer (some ⟨w1.heap.size, 0, none⟩)) true ty).run Tryd.prog wr = .ok (.tuple #[.bool true, .int .i64 i, .int .i32 70]) (wr.iterAt w1.heap.size fs (i + 1)) at hnx
        replace hle := Lib.hid hle
        go_wp2_with fail
        go_still_tail 5, (by kernel_rfl)
        change wpList _ _ _ _ _ (wr.iterAt w1.heap.size fs (i + 1)).drew
        go_wp2_with (go_at_call 51; go_must (refine (cr1_any k 3 b m 64 _ _ x.c.arr _ _ hV.out.sz ap.m.1.symm hV.out.call rfl (hV.out.var.cell rfl) hV.out.rd).mono ?_); rintro e w3 hw; obtain ⟨rfl, hv4⟩ := hV.out.field ap hw hle.out (c := (rdL .F x).c) rfl)
        have hv3 := Lib.hid hv4
        clear hw hv4
        go_roundw
        case rel => exact ⟨i + 1, hlt, by rw [HT.out]; exact hv3.out⟩
        case measure =>
          have e1 : w3.iterPos w1.heap.size = i + 1 := by simp only [World.iterPos, hv3.out.it]
          show ls.length - w3.iterPos w1.heap.size < ls.length - wr.iterPos w1.heap.size
          rw [e1, HP.out]; omega
      · change ∀ ty, (Instr.next (.pointer (some ⟨w1.heap.size, 0, none⟩)) true ty).run Tryd.prog wr = .ok (.tuple #[.bool true, .int .i64 i, .int .i32 78]) (wr.iterAt w1.heap.size fs (i + 1)) at hnx
        replace hle := Lib.hid hle
        go_wp2_with fail
        go_still_tail 5, (by kernel_rfl)
        change wpList _ _ _ _ _ (wr.iterAt w1.heap.size fs (i + 1)).drew
        go_wp2_with (go_at_call 51; go_must (refine (cr1_any k 4 b m 255 _ _ x.c.arr _ _ hV.out.sz ap.m.1.symm hV.out.call rfl (hV.out.var.cell rfl) hV.out.rd).mono ?_); rintro e w3 hw; obtain ⟨rfl, hv4⟩ := hV.out.field ap hw hle.out (c := (rdL .N x).c) rfl)
        have hv3 := Lib.hid hv4
        clear hw hv4
        go_roundw
        case rel => exact ⟨i + 1, hlt, by rw [HT.out]; exact hv3.out⟩
        case measure =>
          have e1 : w3.iterPos w1.heap.size = i + 1 := by simp only [World.iterPos, hv3.out.it]
          show ls.length - w3.iterPos w1.heap.size < ls.length - wr.iterPos w1.heap.size
          rw [e1, HP.out]; omega
      · change ∀ ty, (Instr.next (.pointer (some ⟨w1.heap.size, 0, none⟩)) true ty).run Tryd.prog wr = .ok (.tuple #[.bool true, .int .i64 i, .int .i32 111]) (wr.iterAt w1.heap.size fs (i + 1)) at hnx
        replace hle := Lib.hid hle
        go_wp2_with fail
        go_still_tail 5, (by kernel_rfl)
        change wpList _ _ _ _ _ (wr.iterAt w1.heap.size fs (i + 1)).drew
        go_wp2_with (go_at_call 55; go_must (refine (cr3_any k 5 b m _ _ x.c.arr _ _ hV.out.sz ap.m.1.symm hV.out.call rfl (hV.out.var.cell rfl) hV.out.rd).mono ?_); rintro e w3 hw; obtain ⟨rfl, hv4⟩ := hV.out.field ap hw hle.out (c := (rdL .o x).c) rfl)
        have hv3 := Lib.hid hv4
        clear hw hv4
        go_roundw
        case rel => exact ⟨i + 1, hlt, by rw [HT.out]; exact hv3.out⟩
        case measure =>
          have e1 : w3.iterPos w1.heap.size = i + 1 := by simp only [World.iterPos, hv3.out.it]
          show ls.length - w3.iterPos w1.heap.size < ls.length - wr.iterPos w1.heap.size
          rw [e1, HP.out]; omega
      · change ∀ ty, (Instr.next (.pointer (some ⟨w1.heap.size, 0, none⟩)) true ty).run Tryd.prog wr = .ok (.tuple #[.bool true, .int .i64 i, .int .i32 99]) (wr.iterAt w1.heap.size fs (i + 1)) at hnx
        replace hle := Lib.hid hle
        go_wp2_with fail
        go_still_tail 5, (by kernel_rfl)
        change wpList _ _ _ _ _ (wr.iterAt w1.heap.size fs (i + 1)).drew
        go_wp2_with (go_at_call 53; go_must (refine (cr2_any k 6 b m _ _ x.c.arr _ _ hV.out.sz ap.m.1.symm hV.out.call rfl (hV.out.var.cell rfl) hV.out.rd).mono ?_); rintro e w3 hw; obtain ⟨rfl, hv4⟩ := hV.out.field ap hw hle.out (c := (rdL .c x).c) rfl)
        have hv3 := Lib.hid hv4
        clear hw hv4
        go_roundw
        case rel => exact ⟨i + 1, hlt, by rw [HT.out]; exact hv3.out⟩
        case measure =>
          have e1 : w3.iterPos w1.heap.size = i + 1 := by simp only [World.iterPos, hv3.out.it]
          show ls.length - w3.iterPos w1.heap.size < ls.length - wr.iterPos w1.heap.size
          rw [e1, HP.out]; omega
      · change ∀ ty, (Instr.next (.pointer (some ⟨w1.heap.size, 0, none⟩)) true ty).run Tryd.prog wr = .ok (.tuple #[.bool true, .int .i64 i, .int .i32 104]) (wr.iterAt w1.heap.size fs (i + 1)) at hnx
        replace hle := Lib.hid hle
        go_wp2_with fail
        go_still_tail 5, (by kernel_rfl)
        change wpList _ _ _ _ _ (wr.iterAt w1.heap.size fs (i + 1)).drew
        go_wp2_with (go_at_call 53; go_must (refine (cr2_any k 7 b m _ _ x.c.arr _ _ hV.out.sz ap.m.1.symm hV.out.call rfl (hV.out.var.cell rfl) hV.out.rd).mono ?_); rintro e w3 hw; obtain ⟨rfl, hv4⟩ := hV.out.field ap hw hle.out (c := (rdL .h x).c) rfl)
        have hv3 := Lib.hid hv4
        clear hw hv4
        go_roundw
        case rel => exact ⟨i + 1, hlt, by rw [HT.out]; exact hv3.out⟩
        case measure =>
          have e1 : w3.iterPos w1.heap.size = i + 1 := by simp only [World.iterPos, hv3.out.it]
          show ls.length - w3.iterPos w1.heap.size < ls.length - wr.iterPos w1.heap.size
          rw [e1, HP.out]; omega
      · change ∀ ty, (Instr.next (.pointer (some ⟨w1.heap.size, 0, none⟩)) true ty).run Tryd.prog wr = .ok (.tuple #[.bool true, .int .i64 i, .int .i32 100]) (wr.iterAt w1.heap.size fs (i + 1)) at hnx
        replace hle := Lib.hid hle
        go_wp2_with fail
        go_still_tail 5, (by kernel_rfl)
        change wpList _ _ _ _ _ (wr.iterAt w1.heap.size fs (i + 1)).drew
        go_wp2_with (go_at_call 51; go_must (refine (cr1_any k 8 b m 256 _ _ x.c.arr _ _ hV.out.sz ap.m.1.symm hV.out.call rfl (hV.out.var.cell rfl) hV.out.rd).mono ?_); rintro e w3 hw; obtain ⟨rfl, hv4⟩ := hV.out.field ap hw hle.out (c := (rdL .d x).c) rfl)
        have hv3 := Lib.hid hv4
        clear hw hv4
        go_roundw
        case rel => exact ⟨i + 1, hlt, by rw [HT.out]; exact hv3.out⟩
        case measure =>
          have e1 : w3.iterPos w1.heap.size = i + 1 := by simp only [World.iterPos, hv3.out.it]
          show ls.length - w3.iterPos w1.heap.size < ls.length - wr.iterPos w1.heap.size
          rw [e1, HP.out]; omega
      · change ∀ ty, (Instr.next (.pointer (some ⟨w1.heap.size, 0, none⟩)) true ty).run Tryd.prog wr = .ok (.tuple #[.bool true, .int .i64 i, .int .i32 115]) (wr.iterAt w1.heap.size fs (i + 1)) at hnx
        replace hle := Lib.hid hle
        go_wp2_with fail
        go_still_tail 5, (by kernel_rfl)
        change wpList _ _ _ _ _ (wr.iterAt w1.heap.size fs (i + 1)).drew
        go_wp2_with (go_at_call 59; go_must (refine (cr5_any k b m eb _ _ x.c.arr _ _ ap.m.1.symm ap.m.2.2.2.2.symm ap.k.2.2 rfl hV.out.call hV.out.er (hV.out.var.cell rfl) hV.out.rd).mono ?_); rintro e w3 hw; obtain ⟨rfl, hv4⟩ := hV.out.fieldS ap hw hle.out)
        have hv3 := Lib.hid hv4
        clear hw hv4
        go_roundw
        case rel => exact ⟨i + 1, hlt, by rw [HT.out]; exact hv3.out⟩
        case measure =>
          have e1 : w3.iterPos w1.heap.size = i + 1 := by simp only [World.iterPos, hv3.out.it]
          show ls.length - w3.iterPos w1.heap.size < ls.length - wr.iterPos w1.heap.size
          rw [e1, HP.out]; omega
      · change ∀ ty, (Instr.next (.pointer (some ⟨w1.heap.size, 0, none⟩)) true ty).run Tryd.prog wr = .ok (.tuple #[.bool true, .int .i64 i, .int .i32 103]) (wr.iterAt w1.heap.size fs (i + 1)) at hnx
        replace hle := Lib.hid hle
        go_wp2_with fail
        go_still_tail 5, (by kernel_rfl)
        change wpList _ _ _ _ _ (wr.iterAt w1.heap.size fs (i + 1)).drew
        go_wp2_with (go_at_call 57; go_must (refine (cr4_any k b m _ _ x.c.arr _ _ _ ap.m.1.symm hV.out.call rfl rfl (hV.out.var.cell rfl) hV.out.rd).mono ?_); rintro e w3 hw; obtain ⟨rfl, hv4⟩ := hV.out.field2 ap hw hle.out)
        have hv3 := Lib.hid hv4
        clear hw hv4
        go_roundw
        case rel => exact ⟨i + 1, hlt, by rw [HT.out]; exact hv3.out⟩
        case measure =>
          have e1 : w3.iterPos w1.heap.size = i + 1 := by simp only [World.iterPos, hv3.out.it]
          show ls.length - w3.iterPos w1.heap.size < ls.length - wr.iterPos w1.heap.size
          rw [e1, HP.out]; omega
      · change ∀ ty, (Instr.next (.pointer (some ⟨w1.heap.size, 0, none⟩)) true ty).run Tryd.prog wr = .ok (.tuple #[.bool true, .int .i64 i, .int .i32 107]) (wr.iterAt w1.heap.size fs (i + 1)) at hnx
        replace hle := Lib.hid hle
        go_wp2_with fail
        go_still_tail 5, (by kernel_rfl)
        change wpList _ _ _ _ _ (wr.iterAt w1.heap.size fs (i + 1)).drew
        go_wp2_with (go_at_call 55; go_must (refine (cr3_any k 21 b m _ _ x.c.arr _ _ hV.out.sz ap.m.1.symm hV.out.call rfl (hV.out.var.cell rfl) hV.out.rd).mono ?_); rintro e w3 hw; obtain ⟨rfl, hv4⟩ := hV.out.field ap hw hle.out (c := (rdL .k x).c) rfl)
        have hv3 := Lib.hid hv4
        clear hw hv4
        go_roundw
        case rel => exact ⟨i + 1, hlt, by rw [HT.out]; exact hv3.out⟩
        case measure =>
          have e1 : w3.iterPos w1.heap.size = i + 1 := by simp only [World.iterPos, hv3.out.it]
          show ls.length - w3.iterPos w1.heap.size < ls.length - wr.iterPos w1.heap.size
          rw [e1, HP.out]; omega
      · change ∀ ty, (Instr.next (.pointer (some ⟨w1.heap.size, 0, none⟩)) true ty).run Tryd.prog wr = .ok (.tuple #[.bool true, .int .i64 i, .int .i32 118]) (wr.iterAt w1.heap.size fs (i + 1)) at hnx
        replace hle := Lib.hid hle
        go_wp2_with fail
        go_still_tail 5, (by kernel_rfl)
        change wpList _ _ _ _ _ (wr.iterAt w1.heap.size fs (i + 1)).drew
        go_wp2_with (go_at_call 55; go_must (refine (cr3_any k 22 b m _ _ x.c.arr _ _ hV.out.sz ap.m.1.symm hV.out.call rfl (hV.out.var.cell rfl) hV.out.rd).mono ?_); rintro e w3 hw; obtain ⟨rfl, hv4⟩ := hV.out.field ap hw hle.out (c := (rdL .v x).c) rfl)
        have hv3 := Lib.hid hv4
        clear hw hv4
        go_roundw
        case rel => exact ⟨i + 1, hlt, by rw [HT.out]; exact hv3.out⟩
        case measure =>
          have e1 : w3.iterPos w1.heap.size = i + 1 := by simp only [World.iterPos, hv3.out.it]
          show ls.length - w3.iterPos w1.heap.size < ls.length - wr.iterPos w1.heap.size
          rw [e1, HP.out]; omega
      · change ∀ ty, (Instr.next (.pointer (some ⟨w1.heap.size, 0, none⟩)) true ty).run Tryd.prog wr = .ok (.tuple #[.bool true, .int .i64 i, .int .i32 116]) (wr.iterAt w1.heap.size fs (i + 1)) at hnx
        replace hle := Lib.hid hle
        go_wp2_with fail
        go_still_tail 5, (by kernel_rfl)
        change wpList _ _ _ _ _ (wr.iterAt w1.heap.size fs (i + 1)).drew
        go_wp2_with (go_at_call 51; go_must (refine (cr1_any k 23 b m 255 _ _ x.c.arr _ _ hV.out.sz ap.m.1.symm hV.out.call rfl (hV.out.var.cell rfl) hV.out.rd).mono ?_); rintro e w3 hw; obtain ⟨rfl, hv4⟩ := hV.out.field ap hw hle.out (c := (rdL .t x).c) rfl)
        have hv3 := Lib.hid hv4
        clear hw hv4
        go_roundw
        case rel => exact ⟨i + 1, hlt, by rw [HT.out]; exact hv3.out⟩
        case measure =>
          have e1 : w3.iterPos w1.heap.size = i + 1 := by simp only [World.iterPos, hv3.out.it]
          show ls.length - w3.iterPos w1.heap.size < ls.length - wr.iterPos w1.heap.size
          rw [e1, HP.out]; omega
    · obtain rfl : i = ls.length := by omega
      have hnx : ∀ ty, (Instr.next (.pointer (some ⟨w1.heap.size, 0, none⟩)) true ty).run Tryd.prog wr = _ := fun ty => Lib.run_next_end_at wr w1.heap.size fs ls.length ty hit (by rw [HS.out]; omega)
      have HV := Lib.hid hv
      clear hv V0
      go_wp2_with fail
      go_end0
      have hv := HV.out
      rw [List.take_length] at hv
      exact ⟨rfl, hv.call, hv.var, hv.er, hv.rd, hv.low⟩
end Go.Proofs.YtdjnadgcjmlejaaDoor
