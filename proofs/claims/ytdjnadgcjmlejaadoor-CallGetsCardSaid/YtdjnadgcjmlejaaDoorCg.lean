/- Calls: the program's visit with the functions that write, and its write. -/
import Derived.Test.YtdjnadgcjmlejaaDoorCf
import Derived.Test.YtdjnadgcjmlejaaDoorCc
import Derived.Lib.OthersKept
import Derived.Deep.QuietTactic
import Derived.BigQuiet
namespace Go.Proofs.YtdjnadgcjmlejaaDoor
open Go.RowKit

/-- No text of a call is longer than this. -/
structure Cl.small (c : Cl) : Prop where
  fh : c.fh.size ≤ 300
  name : c.name.size ≤ 300
  fh2 : c.fh2.size ≤ 300
  name2 : c.name2.size ≤ 300
  data : c.data.size ≤ 300
  text : c.text.size ≤ 300
theorem putOpaque_len (t : ByteArray) (h : t.size ≤ 300) : (putOpaque t).2.length ≤ 310 := by
  unfold putOpaque
  split
  · simp
  · have := padN_lt t.size
    simp [be_length, padded_length]; omega
theorem putU32_len (n : Int) : (putU32 n).2.length ≤ 310 := by unfold putU32; split <;> simp [be_length]
theorem putU64_len (n : Int) : (putU64 n).2.length ≤ 310 := by unfold putU64; split <;> simp [be_length]
theorem psPut_len (s : Ps) : (psPut s).length ≤ 310 := by
  unfold psPut
  split
  · have h1 := poBytes_len s.mode
    have h2 := poBytes_len s.uid
    have h3 := poBytes_len s.gid
    have h4 := poBytes_len s.size
    have h5 := poBytes_len s.time
    simp only [psBytes, List.length_append]; omega
  · simp
theorem putOpt_len (is : Bool) (n : Int) : (putOpt is n).2.length ≤ 310 := by unfold putOpt; split <;> (try split) <;> simp [be_length]
theorem wrL_len (l : Lt) (c : Cl) (h : c.small) : (wrL l c).length ≤ 310 := by
  cases l
  · exact putOpaque_len _ h.fh
  · exact putOpaque_len _ h.name
  · exact putOpaque_len _ h.fh2
  · exact putOpaque_len _ h.name2
  · exact putU64_len _
  · exact putU32_len _
  · exact putU32_len _
  · exact putOpaque_len _ h.data
  · exact psPut_len _
  · exact putOpt_len _ _
  · exact putU64_len _
  · exact putU64_len _
  · exact putOpaque_len _ h.text
theorem wrs_len (c : Cl) (h : c.small) : ∀ ls : List Lt, (wrs ls c).length ≤ 310 * ls.length
  | [] => Nat.zero_le _
  | l :: ls => by
    have h1 := wrL_len l c h
    have h2 := wrs_len c h ls
    rw [wrs_cons, List.length_append, List.length_cons]; omega
theorem wrs_snoc (ls : List Lt) (l : Lt) (c : Cl) : wrs (ls ++ [l]) c = wrs ls c ++ wrL l c := by simp [wrs]
theorem fstr_size (p : Int) : (fstr p).size = (flds p).length := by unfold fstr; rw [str_size, List.length_map]
theorem lt_ascii (l : Lt) : l.b.toNat < 128 := by cases l <;> decide
theorem fstr_get {p : Int} {i : Nat} {l : Lt} (h : (flds p)[i]? = some l) (hi : i < (fstr p).size) : (fstr p)[i]'hi = l.b := by
  have h2 : (fstr p).data.toList[i]? = some l.b := by
    show (((flds p).map Lt.b).toArray.toList)[i]? = _
    rw [List.getElem?_map, h]
    rfl
  have h3 : (fstr p).data.toList[i]? = some ((fstr p)[i]'hi) := by
    rw [List.getElem?_eq_getElem (by rw [len_data]; exact hi)]
    rfl
  rw [h2] at h3
  exact (Option.some.inj h3).symm

/-- The functions that write, over the variable in block b. -/
def wFn (b : Nat) : Array Value := #[.func (.func 34) #[] #[.pointer (some ⟨b, 0, none⟩)], .func (.func 36) #[] #[.pointer (some ⟨b, 0, none⟩)], .func (.func 38) #[] #[.pointer (some ⟨b, 0, none⟩)], .func (.func 40) #[] #[.pointer (some ⟨b, 0, none⟩)], .func (.func 42) #[] #[.pointer (some ⟨b, 0, none⟩)]]
/-- Blocks that are none other's. -/
structure Apart5 (B k b m cb ib H : Nat) : Prop where
  low : B ≤ m ∧ B ≤ ib ∧ B ≤ H
  high : k < H ∧ b < H ∧ m < H ∧ cb < H ∧ ib < H
  m : m ≠ k ∧ m ≠ b ∧ m ≠ cb ∧ m ≠ ib
  ib : ib ≠ k ∧ ib ≠ b ∧ ib ≠ cb
/-- While fields are written. -/
structure VW (B k b m cb ib H : Nat) (c : Cl) (fs : ByteArray) (w : World) (i : Nat) (ys : List UInt8) (W : World) : Prop where
  call : St 30 k c.arr W
  var : St 57 b #[.pointer (some ⟨m, 0, none⟩)] W
  cod : St 76 cb (wFn b) W
  it : W.heap[ib]? = some (.stringIter fs i)
  wr : ∃ r, Wr 60 5 m r ys W ∧ (r = none ∨ ∃ j, r = some j ∧ H ≤ j)
  low : Below B w W
  size : H ≤ W.heap.size
theorem VW.drew {B k b m cb ib H : Nat} {c : Cl} {fs : ByteArray} {w : World} {i : Nat} {ys : List UInt8} {W : World} (h : VW B k b m cb ib H c fs w i ys W) : VW B k b m cb ib H c fs w i ys W.drew :=
  ⟨h.call, h.var, h.cod, h.it, h.wr, h.low.drew, h.size⟩
theorem St.iterAt {T : TypeId} {k ib : Nat} {cs : Array Value} {W : World} (h : St T k cs W) (hk : k ≠ ib) (s : ByteArray) (p : Nat) : St T k cs (W.iterAt ib s p) := (Lib.iterAt_other W ib k s p hk).trans h
theorem Wr.iterAt {T E : TypeId} {m ib : Nat} {r : Option Nat} {xs : List UInt8} {W : World} (h : Wr T E m r xs W) (hm : m ≠ ib) (hr : some ib ≠ r) (s : ByteArray) (p : Nat) : Wr T E m r xs (W.iterAt ib s p) := by
  obtain ⟨v, h1, hown, hv⟩ := h
  refine ⟨v, (Lib.iterAt_other W ib m s p hm).trans h1, ?_, hv⟩
  refine hown.kept (row := some ib) ⟨rfl, rfl, rfl, by rw [Lib.iterAt_size]; exact Nat.le_refl _, fun j _ hj => Lib.iterAt_other W ib j s p (fun e => hj (by rw [e]))⟩ ?_
  rw [hv]
  exact .inr fun e => hr e.symm
theorem VW.iter {B k b m cb ib H : Nat} {c : Cl} {fs : ByteArray} {w : World} {i : Nat} {ys : List UInt8} {W : World} (ap : Apart5 B k b m cb ib H) (h : VW B k b m cb ib H c fs w i ys W) (j : Nat) : VW B k b m cb ib H c fs w j ys (W.iterAt ib fs j) := by
  obtain ⟨r, hr, hj⟩ := h.wr
  refine ⟨h.call.iterAt ap.ib.1.symm _ _, h.var.iterAt ap.ib.2.1.symm _ _, h.cod.iterAt ap.ib.2.2.symm _ _, Lib.iterAt_heap W ib fs i j h.it, ⟨r, hr.iterAt ap.m.2.2.2 ?_ _ _, hj⟩, Lib.below_iterAt h.low ap.low.2.1 _ _, by rw [Lib.iterAt_size]; exact h.size⟩
  rcases hj with rfl | ⟨j, rfl, hj⟩
  · simp
  · intro e
    injection e with e
    have := ap.high
    omega
theorem VW.wrote {B k b m cb ib H : Nat} {c : Cl} {fs : ByteArray} {w : World} {i : Nat} {ys zs : List UInt8} {W W' : World} (ap : Apart5 B k b m cb ib H) (h : VW B k b m cb ib H c fs w i ys W) {r : Option Nat} (hj : r = none ∨ ∃ j, r = some j ∧ H ≤ j) (g : Wrote 60 5 m r zs W W') : VW B k b m cb ib H c fs w i zs W' := by
  obtain ⟨r', g1, g2, g3⟩ := g
  have hne : ∀ x, x < H → some x ≠ r := by
    intro x hx
    rcases hj with rfl | ⟨j, rfl, hj⟩
    · simp
    · intro e; injection e with e; omega
  have hh := ap.high
  have hs := h.size
  refine ⟨Keep.same g2 h.call ap.m.1.symm (hne _ hh.1), Keep.same g2 h.var ap.m.2.1.symm (hne _ hh.2.1), Keep.same g2 h.cod ap.m.2.2.1.symm (hne _ hh.2.2.2.1), Keep.same g2 h.it ap.m.2.2.2.symm (hne _ hh.2.2.2.2), ⟨r', g1, ?_⟩, ?_, Nat.le_trans hs g2.size⟩
  · rcases g3 with rfl | ⟨j, rfl, hj2⟩
    · exact hj
    · exact .inr ⟨j, rfl, by omega⟩
  · refine h.low.trans (g2.below ap.low.1 (by have := ap.low.2.2; omega) ?_)
    intro j e
    rcases hj with rfl | ⟨j2, rfl, hj⟩
    · cases e
    · injection e with e
      have := ap.low.2.2
      omega

set_option maxRecDepth 100000 in
set_option maxHeartbeats 8000000 in
theorem visit_w (B k b m : Nat) (c : Cl) (w : World) (hc : c.small) (hB : B ≤ m ∧ B ≤ w.heap.size) (hkm : m ≠ k ∧ m ≠ b) (h1 : St 30 k c.arr w) (h2 : St 57 b #[.pointer (some ⟨m, 0, none⟩)] w) (h3 : Wr 60 5 m none [] w) :
    Calls Tryd.prog 33 #[.pointer (some ⟨k, 0, none⟩), .agg #[.func (.func 34) #[] #[.pointer (some ⟨b, 0, none⟩)], .func (.func 36) #[] #[.pointer (some ⟨b, 0, none⟩)], .func (.func 38) #[] #[.pointer (some ⟨b, 0, none⟩)], .func (.func 40) #[] #[.pointer (some ⟨b, 0, none⟩)], .func (.func 42) #[] #[.pointer (some ⟨b, 0, none⟩)]]] w
      fun e w' => e = .returned (.tuple #[]) ∧ (∃ r, Wr 60 5 m r (clBytes c) w') ∧ St 57 b #[.pointer (some ⟨m, 0, none⟩)] w' ∧ Below B w w' := by
  have HF := Lib.hid (fun W => cFields_any c.proc W)
  have hlen := flds_len c.proc
  have hfs := fstr_size c.proc
  have hget := @fstr_get c.proc
  have hcl : clBytes c = wrs (flds c.proc) c := rfl
  rw [hcl]
  clear hcl
  have c0 : w.cell? ⟨k, 0, none⟩ = some (.int .i64 c.proc) := h1.cell rfl
  have l1 := h1.lt
  have l2 := h2.lt
  have l3 := h3.lt.1
  have H1 := Lib.hid h1
  have H2 := Lib.hid h2
  have H3 := Lib.hid h3
  clear h1 h2 h3
  obtain ⟨ls, hls⟩ : ∃ ls, ls = flds c.proc := ⟨_, rfl⟩
  obtain ⟨fs, hfe⟩ : ∃ fs, fs = fstr c.proc := ⟨_, rfl⟩
  rw [← hfe] at HF hfs
  rw [← hls] at hlen hfs ⊢
  have hget : ∀ (i : Nat) (l : Lt), ls[i]? = some l → ∀ (hi : i < fs.size), (fs[i]'hi) = l.b := by
    intro i l h hi
    subst hls hfe
    exact hget h hi
  have HG := Lib.hid hget
  have HS := Lib.hid hfs
  have HB := Lib.hid hB
  have HK := Lib.hid hkm
  clear hget hfs hls hfe hB hkm
  go_enter Tryd.func33, Tryd.ntmps33
  have hca : (w.alloc (.cells #[.func (.func 34) #[] #[.pointer (some ⟨b, 0, none⟩)], .func (.func 36) #[] #[.pointer (some ⟨b, 0, none⟩)], .func (.func 38) #[] #[.pointer (some ⟨b, 0, none⟩)], .func (.func 40) #[] #[.pointer (some ⟨b, 0, none⟩)], .func (.func 42) #[] #[.pointer (some ⟨b, 0, none⟩)]] 76 (0, 0))).cell? ⟨k, 0, none⟩ = some (.int .i64 c.proc) := (H1.out.alloc _).cell rfl
  go_wp2_with (go_at_call 7; go_must (refine (HF.out _).mono ?_); rintro e w1 ⟨rfl, b1⟩)
  have hH := b1.size
  have e1 : (w.alloc (.cells #[.func (.func 34) #[] #[.pointer (some ⟨b, 0, none⟩)], .func (.func 36) #[] #[.pointer (some ⟨b, 0, none⟩)], .func (.func 38) #[] #[.pointer (some ⟨b, 0, none⟩)], .func (.func 40) #[] #[.pointer (some ⟨b, 0, none⟩)], .func (.func 42) #[] #[.pointer (some ⟨b, 0, none⟩)]] 76 (0, 0))).heap.size = w.heap.size + 1 := by simp
  have ap : Apart5 B k b m w.heap.size w1.heap.size (w1.heap.size + 1) := by
    have hb := HB.out
    have hk := HK.out
    exact ⟨⟨hb.1, by omega, by omega⟩, ⟨by omega, by omega, by omega, by omega, by omega⟩, ⟨hk.1, hk.2, by omega, by omega⟩, ⟨by omega, by omega, by omega⟩⟩
  have v0 : VW B k b m w.heap.size w1.heap.size (w1.heap.size + 1) c fs w 0 [] (w1.iter fs 0) := by
    have hb := HB.out
    refine ⟨((H1.out.alloc _).below b1).alloc _, ((H2.out.alloc _).below b1).alloc _, ((St.new w 76 _).below b1).alloc _, World.iter_heap w1 fs 0, ⟨none, ((H3.out.alloc _).below b1).alloc _, .inl rfl⟩, ?_, by simp [World.iter]⟩
    exact ((((Below.refl B w).alloc hb.2 _).trans (b1.mono (by omega))).alloc (by omega) _)
  have V0 := Lib.hid v0
  clear v0 b1 e1 hca c0
  go_wp2_with fail
  go_loopw [5] (fun _ wr => ∃ i : Nat, i ≤ ls.length ∧ VW B k b m w.heap.size w1.heap.size (w1.heap.size + 1) c fs w i (wrs (ls.take i) c) wr) (fun _ wr => ls.length - wr.iterPos w1.heap.size)
  case atStart => exact ⟨0, Nat.zero_le _, V0.out⟩
  case round =>
    obtain ⟨i, hi, hv⟩ := hrel
    have hit := hv.it
    by_cases hlt : i < ls.length
    · obtain ⟨l, hl⟩ : ∃ l, ls[i]? = some l := ⟨_, List.getElem?_eq_getElem hlt⟩
      have hsz : i < fs.size := by rw [HS.out]; exact hlt
      have hgl := HG.out i l hl hsz
      have hnx : ∀ ty, (Instr.next (.pointer (some ⟨w1.heap.size, 0, none⟩)) true ty).run Tryd.prog wr = _ := fun ty => Lib.run_next_ascii_at wr w1.heap.size fs i ty hit hsz (by rw [hgl]; exact lt_ascii l)
      rw [hgl] at hnx
      have htk : wrs (ls.take (i + 1)) c = wrs (ls.take i) c ++ wrL l c := by
        rw [List.take_add_one, hl]
        exact wrs_snoc _ _ _
      have hyl : (wrs (ls.take i) c).length ≤ 1073741000 := by
        have := wrs_len c hc (ls.take i)
        rw [List.length_take] at this
        omega
      have hv2 := (hv.iter ap (i + 1)).drew
      have hpos : wr.iterPos w1.heap.size = i := by simp only [World.iterPos, hit]
      have hV := Lib.hid hv2
      have HT := Lib.hid htk
      have HP := Lib.hid hpos
      obtain ⟨r, hwr, hr⟩ := hv2.wr
      have f0 : (wr.iterAt w1.heap.size fs (i + 1)).cell? ⟨w.heap.size, 0, none⟩ = some (.func (.func 34) #[] #[.pointer (some ⟨b, 0, none⟩)]) := hv2.cod.cell rfl
      have f1 : (wr.iterAt w1.heap.size fs (i + 1)).cell? ⟨w.heap.size, 1, none⟩ = some (.func (.func 36) #[] #[.pointer (some ⟨b, 0, none⟩)]) := hv2.cod.cell rfl
      have f2 : (wr.iterAt w1.heap.size fs (i + 1)).cell? ⟨w.heap.size, 2, none⟩ = some (.func (.func 38) #[] #[.pointer (some ⟨b, 0, none⟩)]) := hv2.cod.cell rfl
      have f3 : (wr.iterAt w1.heap.size fs (i + 1)).cell? ⟨w.heap.size, 3, none⟩ = some (.func (.func 40) #[] #[.pointer (some ⟨b, 0, none⟩)]) := hv2.cod.cell rfl
      have f4 : (wr.iterAt w1.heap.size fs (i + 1)).cell? ⟨w.heap.size, 4, none⟩ = some (.func (.func 42) #[] #[.pointer (some ⟨b, 0, none⟩)]) := hv2.cod.cell rfl
      have HW := Lib.hid hwr
      clear hv hv2 hit hl hgl htk hpos hwr V0
      cases l
      · change ∀ ty, (Instr.next (.pointer (some ⟨w1.heap.size, 0, none⟩)) true ty).run Tryd.prog wr = .ok (.tuple #[.bool true, .int .i64 i, .int .i32 102]) (wr.iterAt w1.heap.size fs (i + 1)) at hnx
        go_wp2_with fail
        go_still_tail 5, (by kernel_rfl)
        change wpList _ _ _ _ _ (wr.iterAt w1.heap.size fs (i + 1)).drew
        go_wp2_with (go_at_call 34; go_must (refine (cw1_any k 1 b m 64 c.fh r _ _ (by omega) (hV.out.call.cell rfl) (hV.out.var.cell rfl) HW.out).mono ?_); rintro e w3 ⟨rfl, hw⟩)
        have hv3 := Lib.hid (hV.out.wrote ap hr hw)
        clear hw
        go_roundw
        case rel => exact ⟨i + 1, hlt, by rw [HT.out]; exact hv3.out⟩
        case measure =>
          have e1 : w3.iterPos w1.heap.size = i + 1 := by simp only [World.iterPos, hv3.out.it]
          show ls.length - w3.iterPos w1.heap.size < ls.length - wr.iterPos w1.heap.size
          rw [e1, HP.out]; omega
      · change ∀ ty, (Instr.next (.pointer (some ⟨w1.heap.size, 0, none⟩)) true ty).run Tryd.prog wr = .ok (.tuple #[.bool true, .int .i64 i, .int .i32 110]) (wr.iterAt w1.heap.size fs (i + 1)) at hnx
        go_wp2_with fail
        go_still_tail 5, (by kernel_rfl)
        change wpList _ _ _ _ _ (wr.iterAt w1.heap.size fs (i + 1)).drew
        go_wp2_with (go_at_call 34; go_must (refine (cw1_any k 2 b m 255 c.name r _ _ (by omega) (hV.out.call.cell rfl) (hV.out.var.cell rfl) HW.out).mono ?_); rintro e w3 ⟨rfl, hw⟩)
        have hv3 := Lib.hid (hV.out.wrote ap hr hw)
        clear hw
        go_roundw
        case rel => exact ⟨i + 1, hlt, by rw [HT.out]; exact hv3.out⟩
        case measure =>
          have e1 : w3.iterPos w1.heap.size = i + 1 := by simp only [World.iterPos, hv3.out.it]
          show ls.length - w3.iterPos w1.heap.size < ls.length - wr.iterPos w1.heap.size
          rw [e1, HP.out]; omega
      · change ∀ ty, (Instr.next (.pointer (some ⟨w1.heap.size, 0, none⟩)) true ty).run Tryd.prog wr = .ok (.tuple #[.bool true, .int .i64 i, .int .i32 70]) (wr.iterAt w1.heap.size fs (i + 1)) at hnx
        go_wp2_with fail
        go_still_tail 5, (by kernel_rfl)
        change wpList _ _ _ _ _ (wr.iterAt w1.heap.size fs (i + 1)).drew
        go_wp2_with (go_at_call 34; go_must (refine (cw1_any k 3 b m 64 c.fh2 r _ _ (by omega) (hV.out.call.cell rfl) (hV.out.var.cell rfl) HW.out).mono ?_); rintro e w3 ⟨rfl, hw⟩)
        have hv3 := Lib.hid (hV.out.wrote ap hr hw)
        clear hw
        go_roundw
        case rel => exact ⟨i + 1, hlt, by rw [HT.out]; exact hv3.out⟩
        case measure =>
          have e1 : w3.iterPos w1.heap.size = i + 1 := by simp only [World.iterPos, hv3.out.it]
          show ls.length - w3.iterPos w1.heap.size < ls.length - wr.iterPos w1.heap.size
          rw [e1, HP.out]; omega
      · change ∀ ty, (Instr.next (.pointer (some ⟨w1.heap.size, 0, none⟩)) true ty).run Tryd.prog wr = .ok (.tuple #[.bool true, .int .i64 i, .int .i32 78]) (wr.iterAt w1.heap.size fs (i + 1)) at hnx
        go_wp2_with fail
        go_still_tail 5, (by kernel_rfl)
        change wpList _ _ _ _ _ (wr.iterAt w1.heap.size fs (i + 1)).drew
        go_wp2_with (go_at_call 34; go_must (refine (cw1_any k 4 b m 255 c.name2 r _ _ (by omega) (hV.out.call.cell rfl) (hV.out.var.cell rfl) HW.out).mono ?_); rintro e w3 ⟨rfl, hw⟩)
        have hv3 := Lib.hid (hV.out.wrote ap hr hw)
        clear hw
        go_roundw
        case rel => exact ⟨i + 1, hlt, by rw [HT.out]; exact hv3.out⟩
        case measure =>
          have e1 : w3.iterPos w1.heap.size = i + 1 := by simp only [World.iterPos, hv3.out.it]
          show ls.length - w3.iterPos w1.heap.size < ls.length - wr.iterPos w1.heap.size
          rw [e1, HP.out]; omega
      · change ∀ ty, (Instr.next (.pointer (some ⟨w1.heap.size, 0, none⟩)) true ty).run Tryd.prog wr = .ok (.tuple #[.bool true, .int .i64 i, .int .i32 111]) (wr.iterAt w1.heap.size fs (i + 1)) at hnx
        go_wp2_with fail
        go_still_tail 5, (by kernel_rfl)
        change wpList _ _ _ _ _ (wr.iterAt w1.heap.size fs (i + 1)).drew
        go_wp2_with (go_at_call 38; go_must (refine (cw3_any k 5 b m c.offset r _ _ (by omega) (hV.out.call.cell rfl) (hV.out.var.cell rfl) HW.out).mono ?_); rintro e w3 ⟨rfl, hw⟩)
        have hv3 := Lib.hid (hV.out.wrote ap hr hw)
        clear hw
        go_roundw
        case rel => exact ⟨i + 1, hlt, by rw [HT.out]; exact hv3.out⟩
        case measure =>
          have e1 : w3.iterPos w1.heap.size = i + 1 := by simp only [World.iterPos, hv3.out.it]
          show ls.length - w3.iterPos w1.heap.size < ls.length - wr.iterPos w1.heap.size
          rw [e1, HP.out]; omega
      · change ∀ ty, (Instr.next (.pointer (some ⟨w1.heap.size, 0, none⟩)) true ty).run Tryd.prog wr = .ok (.tuple #[.bool true, .int .i64 i, .int .i32 99]) (wr.iterAt w1.heap.size fs (i + 1)) at hnx
        go_wp2_with fail
        go_still_tail 5, (by kernel_rfl)
        change wpList _ _ _ _ _ (wr.iterAt w1.heap.size fs (i + 1)).drew
        go_wp2_with (go_at_call 36; go_must (refine (cw2_any k 6 b m c.count r _ _ (by omega) (hV.out.call.cell rfl) (hV.out.var.cell rfl) HW.out).mono ?_); rintro e w3 ⟨rfl, hw⟩)
        have hv3 := Lib.hid (hV.out.wrote ap hr hw)
        clear hw
        go_roundw
        case rel => exact ⟨i + 1, hlt, by rw [HT.out]; exact hv3.out⟩
        case measure =>
          have e1 : w3.iterPos w1.heap.size = i + 1 := by simp only [World.iterPos, hv3.out.it]
          show ls.length - w3.iterPos w1.heap.size < ls.length - wr.iterPos w1.heap.size
          rw [e1, HP.out]; omega
      · change ∀ ty, (Instr.next (.pointer (some ⟨w1.heap.size, 0, none⟩)) true ty).run Tryd.prog wr = .ok (.tuple #[.bool true, .int .i64 i, .int .i32 104]) (wr.iterAt w1.heap.size fs (i + 1)) at hnx
        go_wp2_with fail
        go_still_tail 5, (by kernel_rfl)
        change wpList _ _ _ _ _ (wr.iterAt w1.heap.size fs (i + 1)).drew
        go_wp2_with (go_at_call 36; go_must (refine (cw2_any k 7 b m c.how r _ _ (by omega) (hV.out.call.cell rfl) (hV.out.var.cell rfl) HW.out).mono ?_); rintro e w3 ⟨rfl, hw⟩)
        have hv3 := Lib.hid (hV.out.wrote ap hr hw)
        clear hw
        go_roundw
        case rel => exact ⟨i + 1, hlt, by rw [HT.out]; exact hv3.out⟩
        case measure =>
          have e1 : w3.iterPos w1.heap.size = i + 1 := by simp only [World.iterPos, hv3.out.it]
          show ls.length - w3.iterPos w1.heap.size < ls.length - wr.iterPos w1.heap.size
          rw [e1, HP.out]; omega
      · change ∀ ty, (Instr.next (.pointer (some ⟨w1.heap.size, 0, none⟩)) true ty).run Tryd.prog wr = .ok (.tuple #[.bool true, .int .i64 i, .int .i32 100]) (wr.iterAt w1.heap.size fs (i + 1)) at hnx
        go_wp2_with fail
        go_still_tail 5, (by kernel_rfl)
        change wpList _ _ _ _ _ (wr.iterAt w1.heap.size fs (i + 1)).drew
        go_wp2_with (go_at_call 34; go_must (refine (cw1_any k 8 b m 256 c.data r _ _ (by omega) (hV.out.call.cell rfl) (hV.out.var.cell rfl) HW.out).mono ?_); rintro e w3 ⟨rfl, hw⟩)
        have hv3 := Lib.hid (hV.out.wrote ap hr hw)
        clear hw
        go_roundw
        case rel => exact ⟨i + 1, hlt, by rw [HT.out]; exact hv3.out⟩
        case measure =>
          have e1 : w3.iterPos w1.heap.size = i + 1 := by simp only [World.iterPos, hv3.out.it]
          show ls.length - w3.iterPos w1.heap.size < ls.length - wr.iterPos w1.heap.size
          rw [e1, HP.out]; omega
      · change ∀ ty, (Instr.next (.pointer (some ⟨w1.heap.size, 0, none⟩)) true ty).run Tryd.prog wr = .ok (.tuple #[.bool true, .int .i64 i, .int .i32 115]) (wr.iterAt w1.heap.size fs (i + 1)) at hnx
        go_wp2_with fail
        go_still_tail 5, (by kernel_rfl)
        change wpList _ _ _ _ _ (wr.iterAt w1.heap.size fs (i + 1)).drew
        go_wp2_with (go_at_call 42; go_must (refine (cw5_any k b m c.set r _ _ (by omega) (hV.out.call.cell rfl) (hV.out.call.cell rfl) (hV.out.call.cell rfl) (hV.out.call.cell rfl) (hV.out.call.cell rfl) (hV.out.call.cell rfl) (hV.out.call.cell rfl) (hV.out.call.cell rfl) (hV.out.call.cell rfl) (hV.out.call.cell rfl) (hV.out.var.cell rfl) HW.out).mono ?_); rintro e w3 ⟨rfl, hw⟩)
        have hv3 := Lib.hid (hV.out.wrote ap hr hw)
        clear hw
        go_roundw
        case rel => exact ⟨i + 1, hlt, by rw [HT.out]; exact hv3.out⟩
        case measure =>
          have e1 : w3.iterPos w1.heap.size = i + 1 := by simp only [World.iterPos, hv3.out.it]
          show ls.length - w3.iterPos w1.heap.size < ls.length - wr.iterPos w1.heap.size
          rw [e1, HP.out]; omega
      · change ∀ ty, (Instr.next (.pointer (some ⟨w1.heap.size, 0, none⟩)) true ty).run Tryd.prog wr = .ok (.tuple #[.bool true, .int .i64 i, .int .i32 103]) (wr.iterAt w1.heap.size fs (i + 1)) at hnx
        go_wp2_with fail
        go_still_tail 5, (by kernel_rfl)
        change wpList _ _ _ _ _ (wr.iterAt w1.heap.size fs (i + 1)).drew
        go_wp2_with (go_at_call 40; go_must (refine (cw4_any k b m c.guard.is c.guard.n r _ _ (by omega) (hV.out.call.cell rfl) (hV.out.call.cell rfl) (hV.out.var.cell rfl) HW.out).mono ?_); rintro e w3 ⟨rfl, hw⟩)
        have hv3 := Lib.hid (hV.out.wrote ap hr hw)
        clear hw
        go_roundw
        case rel => exact ⟨i + 1, hlt, by rw [HT.out]; exact hv3.out⟩
        case measure =>
          have e1 : w3.iterPos w1.heap.size = i + 1 := by simp only [World.iterPos, hv3.out.it]
          show ls.length - w3.iterPos w1.heap.size < ls.length - wr.iterPos w1.heap.size
          rw [e1, HP.out]; omega
      · change ∀ ty, (Instr.next (.pointer (some ⟨w1.heap.size, 0, none⟩)) true ty).run Tryd.prog wr = .ok (.tuple #[.bool true, .int .i64 i, .int .i32 107]) (wr.iterAt w1.heap.size fs (i + 1)) at hnx
        go_wp2_with fail
        go_still_tail 5, (by kernel_rfl)
        change wpList _ _ _ _ _ (wr.iterAt w1.heap.size fs (i + 1)).drew
        go_wp2_with (go_at_call 38; go_must (refine (cw3_any k 21 b m c.cookie r _ _ (by omega) (hV.out.call.cell rfl) (hV.out.var.cell rfl) HW.out).mono ?_); rintro e w3 ⟨rfl, hw⟩)
        have hv3 := Lib.hid (hV.out.wrote ap hr hw)
        clear hw
        go_roundw
        case rel => exact ⟨i + 1, hlt, by rw [HT.out]; exact hv3.out⟩
        case measure =>
          have e1 : w3.iterPos w1.heap.size = i + 1 := by simp only [World.iterPos, hv3.out.it]
          show ls.length - w3.iterPos w1.heap.size < ls.length - wr.iterPos w1.heap.size
          rw [e1, HP.out]; omega
      · change ∀ ty, (Instr.next (.pointer (some ⟨w1.heap.size, 0, none⟩)) true ty).run Tryd.prog wr = .ok (.tuple #[.bool true, .int .i64 i, .int .i32 118]) (wr.iterAt w1.heap.size fs (i + 1)) at hnx
        go_wp2_with fail
        go_still_tail 5, (by kernel_rfl)
        change wpList _ _ _ _ _ (wr.iterAt w1.heap.size fs (i + 1)).drew
        go_wp2_with (go_at_call 38; go_must (refine (cw3_any k 22 b m c.verf r _ _ (by omega) (hV.out.call.cell rfl) (hV.out.var.cell rfl) HW.out).mono ?_); rintro e w3 ⟨rfl, hw⟩)
        have hv3 := Lib.hid (hV.out.wrote ap hr hw)
        clear hw
        go_roundw
        case rel => exact ⟨i + 1, hlt, by rw [HT.out]; exact hv3.out⟩
        case measure =>
          have e1 : w3.iterPos w1.heap.size = i + 1 := by simp only [World.iterPos, hv3.out.it]
          show ls.length - w3.iterPos w1.heap.size < ls.length - wr.iterPos w1.heap.size
          rw [e1, HP.out]; omega
      · change ∀ ty, (Instr.next (.pointer (some ⟨w1.heap.size, 0, none⟩)) true ty).run Tryd.prog wr = .ok (.tuple #[.bool true, .int .i64 i, .int .i32 116]) (wr.iterAt w1.heap.size fs (i + 1)) at hnx
        go_wp2_with fail
        go_still_tail 5, (by kernel_rfl)
        change wpList _ _ _ _ _ (wr.iterAt w1.heap.size fs (i + 1)).drew
        go_wp2_with (go_at_call 34; go_must (refine (cw1_any k 23 b m 255 c.text r _ _ (by omega) (hV.out.call.cell rfl) (hV.out.var.cell rfl) HW.out).mono ?_); rintro e w3 ⟨rfl, hw⟩)
        have hv3 := Lib.hid (hV.out.wrote ap hr hw)
        clear hw
        go_roundw
        case rel => exact ⟨i + 1, hlt, by rw [HT.out]; exact hv3.out⟩
        case measure =>
          have e1 : w3.iterPos w1.heap.size = i + 1 := by simp only [World.iterPos, hv3.out.it]
          show ls.length - w3.iterPos w1.heap.size < ls.length - wr.iterPos w1.heap.size
          rw [e1, HP.out]; omega
    · obtain rfl : i = ls.length := by omega
      have hnx : ∀ ty, (Instr.next (.pointer (some ⟨w1.heap.size, 0, none⟩)) true ty).run Tryd.prog wr = _ := fun ty => Lib.run_next_end_at wr w1.heap.size fs ls.length ty hit (by rw [HS.out]; omega)
      have HV := Lib.hid hv
      clear hv V0
      go_wp2_with fail
      go_end0
      have hv := HV.out
      rw [List.take_length] at hv
      obtain ⟨r, hr, _⟩ := hv.wr
      exact ⟨rfl, ⟨r, hr⟩, hv.var, hv.low⟩
end Go.Proofs.YtdjnadgcjmlejaaDoor
