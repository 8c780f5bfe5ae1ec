/- Calls: the reference's Get. -/
import Derived.Test.YtdjnadgcjmlejaaDoorCq
import Derived.Test.YtdjnadgcjmlejaaDoorCp
import Derived.Test.YtdjnadgcjmlejaaDoorCr
namespace Go.Proofs.YtdjnadgcjmlejaaDoor
open Go.RowKit Go.Joins

theorem Rf.keepN {k b : Nat} {S rest : ByteArray} {e : Int} {w w' : World} (h : Rf k S rest e w) (hk : Keep b none w w') (h1 : k ≠ b) : Rf k S rest e w' := by
  obtain ⟨p, hp, hst, hr⟩ := h
  exact ⟨p, hp, hst.keepN hk h1, hr⟩
theorem Rf.cellE {k : Nat} {S rest : ByteArray} {e : Int} {w : World} (h : Rf k S rest e w) : w.cell? ⟨k, 2, none⟩ = some (.int .i64 e) := by
  obtain ⟨p, _, hst, _⟩ := h
  exact hst.cell rfl
theorem Ps.vs_one (p : Ps) : p.vs.toArray.all (·.oneCell') = true := by simp [Ps.vs, Po.vs, Value.oneCell']
theorem Ps.vs_size (p : Ps) : p.vs.toArray.size = 10 := by simp [Ps.vs, Po.vs]
/-- While fields are read of the reference's reader. -/
structure VF (a k m : Nat) (S : ByteArray) (w : World) (x : Rst) (W : World) : Prop where
  res : St 30 a #[.int .i64 0, .string ⟨#[]⟩, .string ⟨#[]⟩, .string ⟨#[]⟩, .string ⟨#[]⟩, .int .i64 0, .int .i64 0, .int .i64 0, .string ⟨#[]⟩, .bool false, .int .i64 0, .bool false, .int .i64 0, .bool false, .int .i64 0, .bool false, .int .i64 0, .bool false, .int .i64 0, .bool false, .int .i64 0, .int .i64 0, .int .i64 0, .string ⟨#[]⟩] W
  call : St 30 k x.c.arr W
  rd : Rf m S x.rest x.err W
  low : Below a w W
section
variable {a k m : Nat} {S : ByteArray} {w : World} {x : Rst} {W : World}
theorem VF.took (h : VF a k m S w x W) (h1 : a < m) (h2 : m < k) {w1 : World} {s : ByteArray} {e : Int} (hk : Keep m none W w1) (hr : Rf m S s e w1) : VF a k m S w ⟨s, e, x.serr, x.c⟩ w1 :=
  ⟨h.res.keepN hk (by omega), h.call.keepN hk (by omega), hr, h.low.trans (hk.below (by omega) (by have := h.res.lt; omega) (fun j e => by cases e))⟩
theorem VF.set1 (h : VF a k m S w x W) (h1 : a < m) (h2 : m < k) {o : Nat} {v : Value} {c : Cl} (hc : c.arr = x.c.arr.setIfInBounds o v) : VF a k m S w ⟨x.rest, x.err, x.serr, c⟩ (W.setCell ⟨k, o, none⟩ v) :=
  ⟨h.res.other k o v (by omega), hc ▸ h.call.set o v, h.rd.other k o v (by omega), h.low.setCell (by show a ≤ k; omega) v⟩
theorem VF.setN (h : VF a k m S w x W) (h1 : a < m) (h2 : m < k) {vs : List Value} {c : Cl} (hc : c.arr = over x.c.arr 9 vs) : VF a k m S w ⟨x.rest, x.err, x.serr, c⟩ (W.setCells k 9 vs) :=
  ⟨St.setCells_other (by omega) vs 9 _ h.res, hc ▸ St.setCells vs 9 _ _ h.call, h.rd.setCells (by omega) vs 9, below_setCells (by omega) vs 9 _ h.low⟩
theorem VF.alloc (h : VF a k m S w x W) (o : Obj) : VF a k m S w x (W.alloc o) :=
  ⟨h.res.alloc o, h.call.alloc o, h.rd.alloc o, h.low.alloc (by have := h.res.lt; omega) o⟩
theorem VF.below (h : VF a k m S w x W) {W' : World} (b : Below W.heap.size W W') : VF a k m S w x W' :=
  ⟨h.res.below b, h.call.below b, h.rd.below b, h.low.trans (b.mono (by have := h.res.lt; omega))⟩
theorem VF.serr (h : VF a k m S w x W) (n : Int) : VF a k m S w ⟨x.rest, x.err, n, x.c⟩ W := ⟨h.res, h.call, h.rd, h.low⟩
end
/-- What the reference's Get answers. -/
def getF (p : Int) (S : ByteArray) : Cl × Bool := if good (getX p S) then ((getX p S).c, true) else (Cl.new 0, false)
theorem getF_set {p : Int} {S : ByteArray} {ls1 ls2 : List Lt} (hl : flds p = ls1 ++ .s :: ls2) (h : (rdL .s (rds ls1 ⟨S, 0, 0, Cl.new p⟩)).serr ≠ 0) : getF p S = (Cl.new 0, false) := by
  have hn := flds_nodup p
  rw [hl] at hn
  have hn2 : (.s : Lt) ∉ ls2 := (List.nodup_cons.1 (List.nodup_append.1 hn).2.1).1
  unfold getF
  rw [if_neg]
  intro hg
  have h1 := ((good_iff _).1 hg).1
  unfold getX at h1
  rw [hl] at h1
  have e : rds (ls1 ++ .s :: ls2) ⟨S, 0, 0, Cl.new p⟩ = rds ls2 (rdL .s (rds ls1 ⟨S, 0, 0, Cl.new p⟩)) := by simp [rds]
  rw [e, rds_serr _ _ hn2] at h1
  exact h h1

set_option maxRecDepth 100000 in
set_option maxHeartbeats 8000000 in
theorem cfGet_any (p : Int) (S : ByteArray) (w : World) (hS : S.size ≤ 1073741824) : Calls Tryd.prog 19 #[.int .i64 p, .string S] w fun e w' => e = .returned (.tuple #[.agg (getF p S).1.arr, .bool (getF p S).2]) ∧ Below w.heap.size w w' := by
  have HF := Lib.hid (fun W => cfFields_any p W)
  have hfs := fstr_size p
  have hget := @fstr_get p
  have hgs := @getF_set p S
  have hgd : good (getX p S) = true → getF p S = ((getX p S).c, true) := fun h => by unfold getF; rw [if_pos h]
  have hgn : good (getX p S) = false → getF p S = (Cl.new 0, false) := fun h => by unfold getF; rw [if_neg (by rw [h]; simp)]
  have hxx : getX p S = rds (flds p) ⟨S, 0, 0, Cl.new p⟩ := rfl
  have hno := flds_nodup p
  have hlen := flds_len p
  have hb := call_built p
  have hz : (Cl.new p).arr.size = 24 := rfl
  have ho : (Cl.new p).arr.all (·.oneCell') = true := Cl.arr_one _
  obtain ⟨ls, hls⟩ : ∃ ls, ls = flds p := ⟨_, rfl⟩
  obtain ⟨fs, hfe⟩ : ∃ fs, fs = fstr p := ⟨_, rfl⟩
  rw [← hfe] at HF hfs
  rw [← hls] at hfs hgs hxx hno hlen
  have hget : ∀ (i : Nat) (l : Lt), ls[i]? = some l → ∀ (hi : i < fs.size), (fs[i]'hi) = l.b := by
    intro i l h hi
    subst hls hfe
    exact hget h hi
  have a0 : St 30 w.heap.size #[.int .i64 0, .string ⟨#[]⟩, .string ⟨#[]⟩, .string ⟨#[]⟩, .string ⟨#[]⟩, .int .i64 0, .int .i64 0, .int .i64 0, .string ⟨#[]⟩, .bool false, .int .i64 0, .bool false, .int .i64 0, .bool false, .int .i64 0, .bool false, .int .i64 0, .bool false, .int .i64 0, .bool false, .int .i64 0, .int .i64 0, .int .i64 0, .string ⟨#[]⟩] (((w.alloc (.cells #[.int .i64 0, .string ⟨#[]⟩, .string ⟨#[]⟩, .string ⟨#[]⟩, .string ⟨#[]⟩, .int .i64 0, .int .i64 0, .int .i64 0, .string ⟨#[]⟩, .bool false, .int .i64 0, .bool false, .int .i64 0, .bool false, .int .i64 0, .bool false, .int .i64 0, .bool false, .int .i64 0, .bool false, .int .i64 0, .int .i64 0, .int .i64 0, .string ⟨#[]⟩] 30 (0, 0))).alloc (.cells #[.string S, .int .i64 0, .int .i64 0] 51 (0, 0))).alloc (.cells #[.int .i64 0, .string ⟨#[]⟩, .string ⟨#[]⟩, .string ⟨#[]⟩, .string ⟨#[]⟩, .int .i64 0, .int .i64 0, .int .i64 0, .string ⟨#[]⟩, .bool false, .int .i64 0, .bool false, .int .i64 0, .bool false, .int .i64 0, .bool false, .int .i64 0, .bool false, .int .i64 0, .bool false, .int .i64 0, .int .i64 0, .int .i64 0, .string ⟨#[]⟩] 30 (0, 0))) := ((St.new w 30 _).alloc _).alloc _
  have m0 : Rf (w.heap.size + 1) S S 0 (((w.alloc (.cells #[.int .i64 0, .string ⟨#[]⟩, .string ⟨#[]⟩, .string ⟨#[]⟩, .string ⟨#[]⟩, .int .i64 0, .int .i64 0, .int .i64 0, .string ⟨#[]⟩, .bool false, .int .i64 0, .bool false, .int .i64 0, .bool false, .int .i64 0, .bool false, .int .i64 0, .bool false, .int .i64 0, .bool false, .int .i64 0, .int .i64 0, .int .i64 0, .string ⟨#[]⟩] 30 (0, 0))).alloc (.cells #[.string S, .int .i64 0, .int .i64 0] 51 (0, 0))).alloc (.cells #[.int .i64 0, .string ⟨#[]⟩, .string ⟨#[]⟩, .string ⟨#[]⟩, .string ⟨#[]⟩, .int .i64 0, .int .i64 0, .int .i64 0, .string ⟨#[]⟩, .bool false, .int .i64 0, .bool false, .int .i64 0, .bool false, .int .i64 0, .bool false, .int .i64 0, .bool false, .int .i64 0, .bool false, .int .i64 0, .int .i64 0, .int .i64 0, .string ⟨#[]⟩] 30 (0, 0))) :=
    ⟨0, Nat.zero_le _, (St.newAt (w.alloc (.cells #[.int .i64 0, .string ⟨#[]⟩, .string ⟨#[]⟩, .string ⟨#[]⟩, .string ⟨#[]⟩, .int .i64 0, .int .i64 0, .int .i64 0, .string ⟨#[]⟩, .bool false, .int .i64 0, .bool false, .int .i64 0, .bool false, .int .i64 0, .bool false, .int .i64 0, .bool false, .int .i64 0, .bool false, .int .i64 0, .int .i64 0, .int .i64 0, .string ⟨#[]⟩] 30 (0, 0))) 51 #[.string S, .int .i64 0, .int .i64 0] (w.heap.size + 1) (by simp)).alloc _, fun _ => by apply ByteArray.ext; simp⟩
  have k0 : St 30 (w.heap.size + 1 + 1) #[.int .i64 0, .string ⟨#[]⟩, .string ⟨#[]⟩, .string ⟨#[]⟩, .string ⟨#[]⟩, .int .i64 0, .int .i64 0, .int .i64 0, .string ⟨#[]⟩, .bool false, .int .i64 0, .bool false, .int .i64 0, .bool false, .int .i64 0, .bool false, .int .i64 0, .bool false, .int .i64 0, .bool false, .int .i64 0, .int .i64 0, .int .i64 0, .string ⟨#[]⟩] (((w.alloc (.cells #[.int .i64 0, .string ⟨#[]⟩, .string ⟨#[]⟩, .string ⟨#[]⟩, .string ⟨#[]⟩, .int .i64 0, .int .i64 0, .int .i64 0, .string ⟨#[]⟩, .bool false, .int .i64 0, .bool false, .int .i64 0, .bool false, .int .i64 0, .bool false, .int .i64 0, .bool false, .int .i64 0, .bool false, .int .i64 0, .int .i64 0, .int .i64 0, .string ⟨#[]⟩] 30 (0, 0))).alloc (.cells #[.string S, .int .i64 0, .int .i64 0] 51 (0, 0))).alloc (.cells #[.int .i64 0, .string ⟨#[]⟩, .string ⟨#[]⟩, .string ⟨#[]⟩, .string ⟨#[]⟩, .int .i64 0, .int .i64 0, .int .i64 0, .string ⟨#[]⟩, .bool false, .int .i64 0, .bool false, .int .i64 0, .bool false, .int .i64 0, .bool false, .int .i64 0, .bool false, .int .i64 0, .bool false, .int .i64 0, .int .i64 0, .int .i64 0, .string ⟨#[]⟩] 30 (0, 0))) := St.newAt _ 30 _ (w.heap.size + 1 + 1) (by simp)
  have l0 : Below w.heap.size w (((w.alloc (.cells #[.int .i64 0, .string ⟨#[]⟩, .string ⟨#[]⟩, .string ⟨#[]⟩, .string ⟨#[]⟩, .int .i64 0, .int .i64 0, .int .i64 0, .string ⟨#[]⟩, .bool false, .int .i64 0, .bool false, .int .i64 0, .bool false, .int .i64 0, .bool false, .int .i64 0, .bool false, .int .i64 0, .bool false, .int .i64 0, .int .i64 0, .int .i64 0, .string ⟨#[]⟩] 30 (0, 0))).alloc (.cells #[.string S, .int .i64 0, .int .i64 0] 51 (0, 0))).alloc (.cells #[.int .i64 0, .string ⟨#[]⟩, .string ⟨#[]⟩, .string ⟨#[]⟩, .string ⟨#[]⟩, .int .i64 0, .int .i64 0, .int .i64 0, .string ⟨#[]⟩, .bool false, .int .i64 0, .bool false, .int .i64 0, .bool false, .int .i64 0, .bool false, .int .i64 0, .bool false, .int .i64 0, .bool false, .int .i64 0, .int .i64 0, .int .i64 0, .string ⟨#[]⟩] 30 (0, 0))) := (below_alloc2 w _ _).alloc (by simp; omega) _
  have hsz5 : fs.size ≤ 5 := by rw [hfs]; exact hlen
  have A0 := Lib.hid a0
  have M0 := Lib.hid m0
  have K0 := Lib.hid k0
  have L0 := Lib.hid l0
  have HB := Lib.hid hb
  have HZ := Lib.hid hz
  have HO := Lib.hid ho
  have HG := Lib.hid hget
  have HS := Lib.hid hfs
  have HGS := Lib.hid (fun (ls1 ls2 : List Lt) => @hgs ls1 ls2)
  have HGD := Lib.hid hgd
  have HGN := Lib.hid hgn
  have HXX := Lib.hid hxx
  obtain ⟨x0, hx0⟩ : ∃ x, x = (⟨S, 0, 0, Cl.new p⟩ : Rst) := ⟨_, rfl⟩
  have HX0 := Lib.hid hx0
  have V0 : ∀ W, St 30 w.heap.size #[.int .i64 0, .string ⟨#[]⟩, .string ⟨#[]⟩, .string ⟨#[]⟩, .string ⟨#[]⟩, .int .i64 0, .int .i64 0, .int .i64 0, .string ⟨#[]⟩, .bool false, .int .i64 0, .bool false, .int .i64 0, .bool false, .int .i64 0, .bool false, .int .i64 0, .bool false, .int .i64 0, .bool false, .int .i64 0, .int .i64 0, .int .i64 0, .string ⟨#[]⟩] W → St 30 (w.heap.size + 1 + 1) (Cl.new p).arr W → Rf (w.heap.size + 1) S S 0 W → Below w.heap.size w W → VF w.heap.size (w.heap.size + 1 + 1) (w.heap.size + 1) S w x0 W := by
    intro W h1 h2 h3 h4
    rw [hx0]
    exact ⟨h1, h2, h3, h4⟩
  obtain ⟨row, hrow⟩ : ∃ r, r = (Cl.new p).arr := ⟨_, rfl⟩
  rw [← hrow] at V0 hb hz ho
  replace V0 := Lib.hid V0
  replace HB := Lib.hid hb
  replace HZ := Lib.hid hz
  replace HO := Lib.hid ho
  obtain ⟨q, hq⟩ : ∃ q, q = getF p S := ⟨_, rfl⟩
  rw [← hq]
  have HQ0 := Lib.hid hq
  clear hget hfs hls hfe hgs hgd hgn hxx hno hb hz ho a0 m0 k0 l0 hx0 hrow hq
  go_enter Tryd.func19, Tryd.ntmps19
  go_wp2_with (first
    | ((with_reducible show wpList _ _ _ ({ dst := _, op := .build 30 _, type := _, pos := _, after := _, guard := _ } :: _) _ _); refine wpList_build_as rfl 30 _ rfl row HB.out ?_)
    | ((with_reducible show wpList _ _ _ ({ dst := _, op := .store _ (.tmp 7) _, type := _, pos := _, after := _, guard := _ } :: _) _ _); refine wpList_store_st rfl 30 _ _ rfl (w.heap.size + 1 + 1) row rfl rfl _ K0.out (by rw [HZ.out]; kernel_rfl) (by rw [HZ.out]; rfl) HO.out ?_; intro wz hz hst; have VZ := Lib.hid (V0.out wz (by rw [hz]; exact A0.out.setRow_other (by omega) row) hst (by rw [hz]; exact M0.out.setRow (by omega) row) (by rw [hz]; exact below_row L0.out (by omega) row)); clear hz hst)
    | (go_at_call 8; go_must (refine (HF.out _).mono ?_); rintro e w1 ⟨rfl, b1⟩; have V1 := Lib.hid (VF.below VZ.out b1); clear b1))
  go_loopw [9] (fun i wr => ∃ j : Nat, j ≤ ls.length ∧ i = .int .i64 j ∧ (rds (ls.take j) x0).serr = 0 ∧ VF w.heap.size (w.heap.size + 1 + 1) (w.heap.size + 1) S w (rds (ls.take j) x0) wr) (fun i _ => ls.length - (intOf i).toNat)
  case atStart => exact ⟨0, Nat.zero_le _, rfl, by rw [HX0.out]; rfl, V1.out⟩
  case round =>
    obtain ⟨i, hi, rfl, hse, hv⟩ := hrel
    by_cases hlt : i < ls.length
    · obtain ⟨l, hl⟩ : ∃ l, ls[i]? = some l := ⟨_, List.getElem?_eq_getElem hlt⟩
      have hsz : i < fs.size := by rw [HS.out]; exact hlt
      have hgl := HG.out i l hl hsz
      have htk : rds (ls.take (i + 1)) x0 = rdL l (rds (ls.take i) x0) := by
        rw [List.take_add_one, hl]
        exact rds_snoc _ _ _
      have hsp : ls = ls.take i ++ l :: ls.drop (i + 1) := by
        have h1 : l = ls[i]'hlt := by
          have := List.getElem?_eq_getElem hlt
          rw [hl] at this
          exact Option.some.inj this
        rw [h1, ← List.drop_eq_getElem_cons hlt, List.take_append_drop]
      obtain ⟨x, hx⟩ : ∃ x, x = rds (ls.take i) x0 := ⟨_, rfl⟩
      rw [← hx] at hv htk hse
      have HV := Lib.hid hv
      have HT := Lib.hid htk
      have HSE := Lib.hid hse
      have HSP := Lib.hid hsp
      have HX := Lib.hid hx
      have b0 : (0 : Int) ≤ (i : Int) := by omega
      have b1 : (i : Int) < (fs.size : Int) := by omega
      have hd : decide ((i : Int) < (fs.size : Int)) = true := by simpa using hsz
      have hw1 : IntKind.i64.wrap ((i : Int) + 1) = (i : Int) + 1 := by rw [IntKind.wrap_i64]; omega
      clear hv htk hse hsp hl hx V1 VZ
      cases l
      · have hgl : fs[i]'hsz = 102 := hgl
        have HL := rfText_any (w.heap.size + 1) 64 S x.rest x.err _ hS HV.out.rd
        have hq2 : rdL .f x = ⟨(rdOpaque 64 x.rest x.err).1, (rdOpaque 64 x.rest x.err).2.1, x.serr, { x.c with fh := (rdOpaque 64 x.rest x.err).2.2 }⟩ := rfl
        obtain ⟨qq, hqq⟩ : ∃ q, q = rdOpaque 64 x.rest x.err := ⟨_, rfl⟩
        rw [← hqq] at HL hq2
        obtain ⟨s1, e1, v⟩ := qq
        dsimp only at HL hq2
        have HQ2 := Lib.hid hq2
        replace HL := Lib.hid HL
        clear hqq hq2
        go_wp2_with fail
        go_must (refine (HL.out).mono ?_)
        rintro r w3 ⟨rfl, g3, k3⟩
        have v3 := HV.out.took (by omega) (by omega) k3 g3
        have cc := v3.call.cell (j := 1) rfl
        have ff := v3.call.free 1
        have V4 := Lib.hid (v3.set1 (by omega) (by omega) (o := 1) (v := .string v) (c := { x.c with fh := v }) rfl)
        clear v3 g3 k3
        go_wp2_with fail
        go_roundw
        case rel => exact ⟨i + 1, hlt, by go_num, by rw [HT.out, HQ2.out]; exact HSE.out, by rw [HT.out, HQ2.out]; exact V4.out⟩
        case measure => simp [intOf]; omega
      · have hgl : fs[i]'hsz = 110 := hgl
        have HL := rfText_any (w.heap.size + 1) 255 S x.rest x.err _ hS HV.out.rd
        have hq2 : rdL .n x = ⟨(rdOpaque 255 x.rest x.err).1, (rdOpaque 255 x.rest x.err).2.1, x.serr, { x.c with name := (rdOpaque 255 x.rest x.err).2.2 }⟩ := rfl
        obtain ⟨qq, hqq⟩ : ∃ q, q = rdOpaque 255 x.rest x.err := ⟨_, rfl⟩
        rw [← hqq] at HL hq2
        obtain ⟨s1, e1, v⟩ := qq
        dsimp only at HL hq2
        have HQ2 := Lib.hid hq2
        replace HL := Lib.hid HL
        clear hqq hq2
        go_wp2_with fail
        go_must (refine (HL.out).mono ?_)
        rintro r w3 ⟨rfl, g3, k3⟩
        have v3 := HV.out.took (by omega) (by omega) k3 g3
        have cc := v3.call.cell (j := 2) rfl
        have ff := v3.call.free 2
        have V4 := Lib.hid (v3.set1 (by omega) (by omega) (o := 2) (v := .string v) (c := { x.c with name := v }) rfl)
        clear v3 g3 k3
        go_wp2_with fail
        go_roundw
        case rel => exact ⟨i + 1, hlt, by go_num, by rw [HT.out, HQ2.out]; exact HSE.out, by rw [HT.out, HQ2.out]; exact V4.out⟩
        case measure => simp [intOf]; omega
      · have hgl : fs[i]'hsz = 70 := hgl
        have HL := rfText_any (w.heap.size + 1) 64 S x.rest x.err _ hS HV.out.rd
        have hq2 : rdL .F x = ⟨(rdOpaque 64 x.rest x.err).1, (rdOpaque 64 x.rest x.err).2.1, x.serr, { x.c with fh2 := (rdOpaque 64 x.rest x.err).2.2 }⟩ := rfl
        obtain ⟨qq, hqq⟩ : ∃ q, q = rdOpaque 64 x.rest x.err := ⟨_, rfl⟩
        rw [← hqq] at HL hq2
        obtain ⟨s1, e1, v⟩ := qq
        dsimp only at HL hq2
        have HQ2 := Lib.hid hq2
        replace HL := Lib.hid HL
        clear hqq hq2
        go_wp2_with fail
        go_must (refine (HL.out).mono ?_)
        rintro r w3 ⟨rfl, g3, k3⟩
        have v3 := HV.out.took (by omega) (by omega) k3 g3
        have cc := v3.call.cell (j := 3) rfl
        have ff := v3.call.free 3
        have V4 := Lib.hid (v3.set1 (by omega) (by omega) (o := 3) (v := .string v) (c := { x.c with fh2 := v }) rfl)
        clear v3 g3 k3
        go_wp2_with fail
        go_roundw
        case rel => exact ⟨i + 1, hlt, by go_num, by rw [HT.out, HQ2.out]; exact HSE.out, by rw [HT.out, HQ2.out]; exact V4.out⟩
        case measure => simp [intOf]; omega
      · have hgl : fs[i]'hsz = 78 := hgl
        have HL := rfText_any (w.heap.size + 1) 255 S x.rest x.err _ hS HV.out.rd
        have hq2 : rdL .N x = ⟨(rdOpaque 255 x.rest x.err).1, (rdOpaque 255 x.rest x.err).2.1, x.serr, { x.c with name2 := (rdOpaque 255 x.rest x.err).2.2 }⟩ := rfl
        obtain ⟨qq, hqq⟩ : ∃ q, q = rdOpaque 255 x.rest x.err := ⟨_, rfl⟩
        rw [← hqq] at HL hq2
        obtain ⟨s1, e1, v⟩ := qq
        dsimp only at HL hq2
        have HQ2 := Lib.hid hq2
        replace HL := Lib.hid HL
        clear hqq hq2
        go_wp2_with fail
        go_must (refine (HL.out).mono ?_)
        rintro r w3 ⟨rfl, g3, k3⟩
        have v3 := HV.out.took (by omega) (by omega) k3 g3
        have cc := v3.call.cell (j := 4) rfl
        have ff := v3.call.free 4
        have V4 := Lib.hid (v3.set1 (by omega) (by omega) (o := 4) (v := .string v) (c := { x.c with name2 := v }) rfl)
        clear v3 g3 k3
        go_wp2_with fail
        go_roundw
        case rel => exact ⟨i + 1, hlt, by go_num, by rw [HT.out, HQ2.out]; exact HSE.out, by rw [HT.out, HQ2.out]; exact V4.out⟩
        case measure => simp [intOf]; omega
      · have hgl : fs[i]'hsz = 111 := hgl
        have HL := rfU8_any (w.heap.size + 1) S x.rest x.err _ hS HV.out.rd
        have hq2 : rdL .o x = ⟨(rdU64 x.rest x.err).1, (rdU64 x.rest x.err).2.1, x.serr, { x.c with offset := (rdU64 x.rest x.err).2.2 }⟩ := rfl
        obtain ⟨qq, hqq⟩ : ∃ q, q = rdU64 x.rest x.err := ⟨_, rfl⟩
        rw [← hqq] at HL hq2
        obtain ⟨s1, e1, v⟩ := qq
        dsimp only at HL hq2
        have HQ2 := Lib.hid hq2
        replace HL := Lib.hid HL
        clear hqq hq2
        go_wp2_with fail
        go_must (refine (HL.out).mono ?_)
        rintro r w3 ⟨rfl, g3, k3⟩
        have v3 := HV.out.took (by omega) (by omega) k3 g3
        have cc := v3.call.cell (j := 5) rfl
        have ff := v3.call.free 5
        have V4 := Lib.hid (v3.set1 (by omega) (by omega) (o := 5) (v := .int .i64 v) (c := { x.c with offset := v }) rfl)
        clear v3 g3 k3
        go_wp2_with fail
        go_roundw
        case rel => exact ⟨i + 1, hlt, by go_num, by rw [HT.out, HQ2.out]; exact HSE.out, by rw [HT.out, HQ2.out]; exact V4.out⟩
        case measure => simp [intOf]; omega
      · have hgl : fs[i]'hsz = 99 := hgl
        have HL := rfU4_any (w.heap.size + 1) S x.rest x.err _ hS HV.out.rd
        have hq2 : rdL .c x = ⟨(rdU32 x.rest x.err).1, (rdU32 x.rest x.err).2.1, x.serr, { x.c with count := (rdU32 x.rest x.err).2.2 }⟩ := rfl
        obtain ⟨qq, hqq⟩ : ∃ q, q = rdU32 x.rest x.err := ⟨_, rfl⟩
        rw [← hqq] at HL hq2
        obtain ⟨s1, e1, v⟩ := qq
        dsimp only at HL hq2
        have HQ2 := Lib.hid hq2
        replace HL := Lib.hid HL
        clear hqq hq2
        go_wp2_with fail
        go_must (refine (HL.out).mono ?_)
        rintro r w3 ⟨rfl, g3, k3⟩
        have v3 := HV.out.took (by omega) (by omega) k3 g3
        have cc := v3.call.cell (j := 6) rfl
        have ff := v3.call.free 6
        have V4 := Lib.hid (v3.set1 (by omega) (by omega) (o := 6) (v := .int .i64 v) (c := { x.c with count := v }) rfl)
        clear v3 g3 k3
        go_wp2_with fail
        go_roundw
        case rel => exact ⟨i + 1, hlt, by go_num, by rw [HT.out, HQ2.out]; exact HSE.out, by rw [HT.out, HQ2.out]; exact V4.out⟩
        case measure => simp [intOf]; omega
      · have hgl : fs[i]'hsz = 104 := hgl
        have HL := rfU4_any (w.heap.size + 1) S x.rest x.err _ hS HV.out.rd
        have hq2 : rdL .h x = ⟨(rdU32 x.rest x.err).1, (rdU32 x.rest x.err).2.1, x.serr, { x.c with how := (rdU32 x.rest x.err).2.2 }⟩ := rfl
        obtain ⟨qq, hqq⟩ : ∃ q, q = rdU32 x.rest x.err := ⟨_, rfl⟩
        rw [← hqq] at HL hq2
        obtain ⟨s1, e1, v⟩ := qq
        dsimp only at HL hq2
        have HQ2 := Lib.hid hq2
        replace HL := Lib.hid HL
        clear hqq hq2
        go_wp2_with fail
        go_must (refine (HL.out).mono ?_)
        rintro r w3 ⟨rfl, g3, k3⟩
        have v3 := HV.out.took (by omega) (by omega) k3 g3
        have cc := v3.call.cell (j := 7) rfl
        have ff := v3.call.free 7
        have V4 := Lib.hid (v3.set1 (by omega) (by omega) (o := 7) (v := .int .i64 v) (c := { x.c with how := v }) rfl)
        clear v3 g3 k3
        go_wp2_with fail
        go_roundw
        case rel => exact ⟨i + 1, hlt, by go_num, by rw [HT.out, HQ2.out]; exact HSE.out, by rw [HT.out, HQ2.out]; exact V4.out⟩
        case measure => simp [intOf]; omega
      · have hgl : fs[i]'hsz = 100 := hgl
        have HL := rfText_any (w.heap.size + 1) 256 S x.rest x.err _ hS HV.out.rd
        have hq2 : rdL .d x = ⟨(rdOpaque 256 x.rest x.err).1, (rdOpaque 256 x.rest x.err).2.1, x.serr, { x.c with data := (rdOpaque 256 x.rest x.err).2.2 }⟩ := rfl
        obtain ⟨qq, hqq⟩ : ∃ q, q = rdOpaque 256 x.rest x.err := ⟨_, rfl⟩
        rw [← hqq] at HL hq2
        obtain ⟨s1, e1, v⟩ := qq
        dsimp only at HL hq2
        have HQ2 := Lib.hid hq2
        replace HL := Lib.hid HL
        clear hqq hq2
        go_wp2_with fail
        go_must (refine (HL.out).mono ?_)
        rintro r w3 ⟨rfl, g3, k3⟩
        have v3 := HV.out.took (by omega) (by omega) k3 g3
        have cc := v3.call.cell (j := 8) rfl
        have ff := v3.call.free 8
        have V4 := Lib.hid (v3.set1 (by omega) (by omega) (o := 8) (v := .string v) (c := { x.c with data := v }) rfl)
        clear v3 g3 k3
        go_wp2_with fail
        go_roundw
        case rel => exact ⟨i + 1, hlt, by go_num, by rw [HT.out, HQ2.out]; exact HSE.out, by rw [HT.out, HQ2.out]; exact V4.out⟩
        case measure => simp [intOf]; omega
      · have hgl : fs[i]'hsz = 115 := hgl
        have HL := afGetSet_any (w.heap.size + 1) S x.rest x.err _ hS HV.out.rd
        have hq2 : rdL .s x = ⟨(psTake x.rest x.err).1, (psTake x.rest x.err).2.1, (psGet x.rest x.err).2, { x.c with set := (psGet x.rest x.err).1 }⟩ := rfl
        have hgf : (rdL .s x).serr ≠ 0 → q = (Cl.new 0, false) := fun h => by
          rw [HQ0.out]
          refine HGS.out _ _ HSP.out ?_
          rw [← HX0.out, ← HX.out]
          exact h
        obtain ⟨pp, hpp⟩ : ∃ p, p = (psGet x.rest x.err).1 := ⟨_, rfl⟩
        obtain ⟨n, hnn⟩ : ∃ x1, x1 = (psGet x.rest x.err).2 := ⟨_, rfl⟩
        obtain ⟨s1, hs1⟩ : ∃ p, p = (psTake x.rest x.err).1 := ⟨_, rfl⟩
        obtain ⟨e1, he1⟩ : ∃ x1, x1 = (psTake x.rest x.err).2.1 := ⟨_, rfl⟩
        rw [← hpp, ← hnn, ← hs1, ← he1] at HL hq2
        clear hpp hnn hs1 he1
        have hov := arr_over x.c pp
        rw [hq2] at hgf
        have hgf : n ≠ 0 → q = (Cl.new 0, false) := hgf
        have h1v : pp.vs.toArray.all (·.oneCell') = true := Ps.vs_one pp
        have hzv : pp.vs.toArray.size = 10 := Ps.vs_size pp
        obtain ⟨vs, hvs⟩ : ∃ v, v = pp.vs := ⟨_, rfl⟩
        rw [← hvs] at HL h1v hzv hov
        have HQ2 := Lib.hid hq2
        have HOV := Lib.hid hov
        have H1V := Lib.hid h1v
        have HZV := Lib.hid hzv
        have HGF := Lib.hid hgf
        replace HL := Lib.hid HL
        clear hq2 hov h1v hzv hgf hvs
        by_cases hn0 : n = 0
        · subst hn0
          go_wp2_with (first
            | (go_at_call 31; go_must (refine (HL.out).mono ?_); rintro r w3 ⟨rfl, g3, k3⟩; have V3 := Lib.hid ((HV.out.took (by omega) (by omega) k3 g3).alloc (.cells vs.toArray 28 (0, 0))); have T3 := Lib.hid (St.new w3 28 vs.toArray); clear g3 k3)
            | ((with_reducible show wpList _ _ _ ({ dst := _, op := .store _ (.tmp 10) _, type := _, pos := _, after := _, guard := _ } :: _) _ _); refine wpList_store_st rfl 28 _ _ rfl w3.heap.size vs.toArray rfl rfl _ (St.new w3 28 _) (by rw [HZV.out]; kernel_rfl) (by rw [HZV.out]; rfl) H1V.out ?_; rw [alloc_row]; intro wz hz hst; subst hz; clear hst)
            | ((with_reducible show wpList _ _ _ ({ dst := _, op := .load _ (.tmp 10), type := _, pos := _, after := _, guard := _ } :: _) _ _); refine wpList_load_st rfl 28 _ rfl w3.heap.size rfl 28 vs.toArray T3.out _ Tryd.underlying28 rfl (by rw [HZV.out]; kernel_rfl) ?_)
            | ((with_reducible show wpList _ _ _ ({ dst := _, op := .store _ (.tmp 99) _, type := _, pos := _, after := _, guard := _ } :: _) _ _); refine wpList_store_mid rfl 28 _ _ rfl (w.heap.size + 1 + 1) 9 vs.toArray rfl rfl (V3.out.call.there 9 _ (by rw [HZV.out]; exact (by decide : 9 + 10 ≤ 24))) (by rw [HZV.out]; kernel_rfl) H1V.out ?_; have V4 := Lib.hid (V3.out.setN (by omega) (by omega) (c := { x.c with set := pp }) HOV.out); obtain ⟨w5, hw5⟩ : ∃ w5, w5 = World.setCells (w3.alloc (.cells vs.toArray 28 (0, 0))) (w.heap.size + 1 + 1) 9 vs.toArray.toList := ⟨_, rfl⟩; rw [← hw5]; have V5 := Lib.hid (show VF w.heap.size (w.heap.size + 1 + 1) (w.heap.size + 1) S w ⟨s1, e1, x.serr, { x.c with set := pp }⟩ w5 from by rw [hw5]; exact V4.out); clear hw5))
          go_roundw
          case rel => exact ⟨i + 1, hlt, by go_num, by rw [HT.out, HQ2.out], by rw [HT.out, HQ2.out]; exact V5.out.serr 0⟩
          case measure => simp [intOf]; omega
        · have d1 : (n == 0) = false := by simpa using hn0
          have d2 : (n != 0) = true := by simpa using hn0
          have hqq := HGF.out hn0
          have HQ3 := Lib.hid hqq
          clear hn0 hqq
          go_wp2_with (first
            | (go_at_call 31; go_must (refine (HL.out).mono ?_); rintro r w3 ⟨rfl, g3, k3⟩; have V3 := Lib.hid ((HV.out.took (by omega) (by omega) k3 g3).alloc (.cells vs.toArray 28 (0, 0))); clear g3 k3)
            | ((with_reducible show wpList _ _ _ ({ dst := _, op := .store _ (.tmp 10) _, type := _, pos := _, after := _, guard := _ } :: _) _ _); refine wpList_store_st rfl 28 _ _ rfl w3.heap.size vs.toArray rfl rfl _ (St.new w3 28 _) (by rw [HZV.out]; kernel_rfl) (by rw [HZV.out]; rfl) H1V.out ?_; rw [alloc_row]; intro wz hz hst; subst hz; clear hst)
            | ((with_reducible show wpList _ _ _ ({ dst := _, op := .build 30 _, type := _, pos := _, after := _, guard := _ } :: _) _ _); refine wpList_build_as rfl 30 _ rfl #[.int .i64 0, .string ⟨#[]⟩, .string ⟨#[]⟩, .string ⟨#[]⟩, .string ⟨#[]⟩, .int .i64 0, .int .i64 0, .int .i64 0, .string ⟨#[]⟩, .bool false, .int .i64 0, .bool false, .int .i64 0, .bool false, .int .i64 0, .bool false, .int .i64 0, .bool false, .int .i64 0, .bool false, .int .i64 0, .int .i64 0, .int .i64 0, .string ⟨#[]⟩] zero_built ?_)
            | ((with_reducible show wpList _ _ _ ({ dst := _, op := .store _ (.tmp 4) _, type := _, pos := _, after := _, guard := _ } :: _) _ _); refine wpList_store_st rfl 30 _ _ rfl w.heap.size #[.int .i64 0, .string ⟨#[]⟩, .string ⟨#[]⟩, .string ⟨#[]⟩, .string ⟨#[]⟩, .int .i64 0, .int .i64 0, .int .i64 0, .string ⟨#[]⟩, .bool false, .int .i64 0, .bool false, .int .i64 0, .bool false, .int .i64 0, .bool false, .int .i64 0, .bool false, .int .i64 0, .bool false, .int .i64 0, .int .i64 0, .int .i64 0, .string ⟨#[]⟩] rfl rfl _ V3.out.res (by kernel_rfl) rfl (by kernel_rfl) ?_; intro wz hz hst; have HQ := Lib.hid hz; have HR := Lib.hid hst; clear hz hst))
          refine ret_cell2 (r := 4) (t := 5) (k := w.heap.size) (T := 30) Tryd.results19 rfl rfl HR.out Tryd.underlying30 rfl (by kernel_rfl) rfl ?_
          have e0 := HQ.out
          subst e0
          rw [HQ3.out]
          exact ⟨rfl, below_row V3.out.low (Nat.le_refl _) _⟩
      · have hgl : fs[i]'hsz = 103 := hgl
        have HL := rfOpt_any (w.heap.size + 1) S x.rest x.err _ hS HV.out.rd
        have hq2 : rdL .g x = ⟨(rdOpt x.rest x.err).1, (rdOpt x.rest x.err).2.1, x.serr, { x.c with guard := ⟨(rdOpt x.rest x.err).2.2.1, (rdOpt x.rest x.err).2.2.2⟩ }⟩ := rfl
        obtain ⟨qq, hqq⟩ : ∃ q, q = rdOpt x.rest x.err := ⟨_, rfl⟩
        rw [← hqq] at HL hq2
        obtain ⟨s1, e1, is, n⟩ := qq
        dsimp only at HL hq2
        have HQ2 := Lib.hid hq2
        replace HL := Lib.hid HL
        clear hqq hq2
        go_wp2_with fail
        go_must (refine (HL.out).mono ?_)
        rintro r w3 ⟨rfl, g3, k3⟩
        have v3 := HV.out.took (by omega) (by omega) k3 g3
        have cc := v3.call.cell (j := 19) rfl
        have ff := v3.call.free 19
        have cc1 := v3.call.cell (j := 20) rfl
        have ff1 := v3.call.free 20
        have V4 := Lib.hid ((v3.set1 (by omega) (by omega) (o := 19) (v := .bool is) (c := { x.c with guard := ⟨is, x.c.guard.n⟩ }) rfl).set1 (by omega) (by omega) (o := 20) (v := .int .i64 n) (c := { x.c with guard := ⟨is, n⟩ }) rfl)
        clear v3 g3 k3
        go_wp2_with fail
        go_roundw
        case rel => exact ⟨i + 1, hlt, by go_num, by rw [HT.out, HQ2.out]; exact HSE.out, by rw [HT.out, HQ2.out]; exact V4.out⟩
        case measure => simp [intOf]; omega
      · have hgl : fs[i]'hsz = 107 := hgl
        have HL := rfU8_any (w.heap.size + 1) S x.rest x.err _ hS HV.out.rd
        have hq2 : rdL .k x = ⟨(rdU64 x.rest x.err).1, (rdU64 x.rest x.err).2.1, x.serr, { x.c with cookie := (rdU64 x.rest x.err).2.2 }⟩ := rfl
        obtain ⟨qq, hqq⟩ : ∃ q, q = rdU64 x.rest x.err := ⟨_, rfl⟩
        rw [← hqq] at HL hq2
        obtain ⟨s1, e1, v⟩ := qq
        dsimp only at HL hq2
        have HQ2 := Lib.hid hq2
        replace HL := Lib.hid HL
        clear hqq hq2
        go_wp2_with fail
        go_must (refine (HL.out).mono ?_)
        rintro r w3 ⟨rfl, g3, k3⟩
        have v3 := HV.out.took (by omega) (by omega) k3 g3
        have cc := v3.call.cell (j := 21) rfl
        have ff := v3.call.free 21
        have V4 := Lib.hid (v3.set1 (by omega) (by omega) (o := 21) (v := .int .i64 v) (c := { x.c with cookie := v }) rfl)
        clear v3 g3 k3
        go_wp2_with fail
        go_roundw
        case rel => exact ⟨i + 1, hlt, by go_num, by rw [HT.out, HQ2.out]; exact HSE.out, by rw [HT.out, HQ2.out]; exact V4.out⟩
        case measure => simp [intOf]; omega
      · have hgl : fs[i]'hsz = 118 := hgl
        have HL := rfU8_any (w.heap.size + 1) S x.rest x.err _ hS HV.out.rd
        have hq2 : rdL .v x = ⟨(rdU64 x.rest x.err).1, (rdU64 x.rest x.err).2.1, x.serr, { x.c with verf := (rdU64 x.rest x.err).2.2 }⟩ := rfl
        obtain ⟨qq, hqq⟩ : ∃ q, q = rdU64 x.rest x.err := ⟨_, rfl⟩
        rw [← hqq] at HL hq2
        obtain ⟨s1, e1, v⟩ := qq
        dsimp only at HL hq2
        have HQ2 := Lib.hid hq2
        replace HL := Lib.hid HL
        clear hqq hq2
        go_wp2_with fail
        go_must (refine (HL.out).mono ?_)
        rintro r w3 ⟨rfl, g3, k3⟩
        have v3 := HV.out.took (by omega) (by omega) k3 g3
        have cc := v3.call.cell (j := 22) rfl
        have ff := v3.call.free 22
        have V4 := Lib.hid (v3.set1 (by omega) (by omega) (o := 22) (v := .int .i64 v) (c := { x.c with verf := v }) rfl)
        clear v3 g3 k3
        go_wp2_with fail
        go_roundw
        case rel => exact ⟨i + 1, hlt, by go_num, by rw [HT.out, HQ2.out]; exact HSE.out, by rw [HT.out, HQ2.out]; exact V4.out⟩
        case measure => simp [intOf]; omega
      · have hgl : fs[i]'hsz = 116 := hgl
        have HL := rfText_any (w.heap.size + 1) 255 S x.rest x.err _ hS HV.out.rd
        have hq2 : rdL .t x = ⟨(rdOpaque 255 x.rest x.err).1, (rdOpaque 255 x.rest x.err).2.1, x.serr, { x.c with text := (rdOpaque 255 x.rest x.err).2.2 }⟩ := rfl
        obtain ⟨qq, hqq⟩ : ∃ q, q = rdOpaque 255 x.rest x.err := ⟨_, rfl⟩
        rw [← hqq] at HL hq2
        obtain ⟨s1, e1, v⟩ := qq
        dsimp only at HL hq2
        have HQ2 := Lib.hid hq2
        replace HL := Lib.hid HL
        clear hqq hq2
        go_wp2_with fail
        go_must (refine (HL.out).mono ?_)
        rintro r w3 ⟨rfl, g3, k3⟩
        have v3 := HV.out.took (by omega) (by omega) k3 g3
        have cc := v3.call.cell (j := 23) rfl
        have ff := v3.call.free 23
        have V4 := Lib.hid (v3.set1 (by omega) (by omega) (o := 23) (v := .string v) (c := { x.c with text := v }) rfl)
        clear v3 g3 k3
        go_wp2_with fail
        go_roundw
        case rel => exact ⟨i + 1, hlt, by go_num, by rw [HT.out, HQ2.out]; exact HSE.out, by rw [HT.out, HQ2.out]; exact V4.out⟩
        case measure => simp [intOf]; omega
    · obtain rfl : i = ls.length := by omega
      have hd : decide (ls.length < fs.size) = false := by simp; have := HS.out; omega
      have hd2 : decide ((ls.length : Int) < (fs.size : Int)) = false := by simp; have := HS.out; omega
      have hge : fs.size ≤ ls.length := by have := HS.out; omega
      rw [List.take_length] at hse hv
      have hX : rds ls x0 = getX p S := by rw [HXX.out, HX0.out]
      rw [hX] at hse hv
      have hgi := good_iff (getX p S)
      have hgd := HGD.out
      have hgn := HGN.out
      rw [← HQ0.out] at hgd hgn
      obtain ⟨X, hXX⟩ : ∃ X, X = getX p S := ⟨_, rfl⟩
      rw [← hXX] at hse hv hgi hgd hgn
      clear hX hXX
      obtain ⟨s9, e9, se, c9⟩ := X
      have hse : se = 0 := hse
      subst hse
      dsimp only at hgi hgd
      have ce := hv.rd.cellE
      dsimp only at ce
      have HV := Lib.hid hv
      clear hv V1 VZ
      by_cases he : e9 = 0
      · subst he
        have hl := fun W h => rfLeft_at (w.heap.size + 1) S s9 0 W (fun h => absurd rfl h) hS h
        replace hl := Lib.hid hl
        by_cases hr : s9.size = 0
        · have hgood := hgd (hgi.2 ⟨rfl, rfl, hr⟩)
          have HQ3 := Lib.hid hgood
          have hz9 : decide ((s9.size : Int) > 0) = false := decide_eq_false (by omega)
          obtain ⟨cs, hcs⟩ : ∃ cs, cs = c9.arr := ⟨_, rfl⟩
          have h3 : cs.size = 24 := by rw [hcs]; rfl
          have h4 : cs.all (·.oneCell') = true := by rw [hcs]; exact Cl.arr_one _
          have VV := Lib.hid (show St 30 (w.heap.size + 1 + 1) cs wr from by rw [hcs]; exact HV.out.call)
          have HC := Lib.hid hcs
          have H3 := Lib.hid h3
          have H4 := Lib.hid h4
          clear hgood hgi hgd hgn hcs h3 h4
          go_wp2_with (first
            | (go_at_call 32; go_must (refine (hl.out _ HV.out.rd).mono ?_); rintro r w3 ⟨rfl, g3, k3⟩; have V3 := Lib.hid (HV.out.took (by omega) (by omega) k3 g3); have C3 := Lib.hid (VV.out.keepN k3 (by omega)); clear g3 k3)
            | ((with_reducible show wpList _ _ _ ({ dst := _, op := .load _ (.tmp 7), type := _, pos := _, after := _, guard := _ } :: _) _ _); refine wpList_load_st rfl 30 _ rfl (w.heap.size + 1 + 1) rfl 30 cs C3.out _ Tryd.underlying30 rfl (by rw [H3.out]; kernel_rfl) ?_)
            | ((with_reducible show wpList _ _ _ ({ dst := _, op := .store _ (.tmp 4) _, type := _, pos := _, after := _, guard := _ } :: _) _ _); refine wpList_store_st rfl 30 _ _ rfl w.heap.size cs rfl rfl _ V3.out.res (by rw [H3.out]; kernel_rfl) (by rw [H3.out]; rfl) H4.out ?_; intro wz hz hst; have HQ := Lib.hid hz; have HR := Lib.hid hst; clear hz hst))
          refine ret_cell2 (r := 4) (t := 5) (k := w.heap.size) (T := 30) Tryd.results19 rfl rfl HR.out Tryd.underlying30 rfl (by rw [H3.out]; kernel_rfl) rfl ?_
          have e0 := HQ.out
          subst e0
          rw [HQ3.out, HC.out]
          exact ⟨rfl, below_row V3.out.low (Nat.le_refl _) _⟩
        · have hgood := hgn (by cases hg : good ⟨s9, 0, 0, c9⟩ with | false => rfl | true => exact absurd (hgi.1 hg).2.2 hr)
          have HQ3 := Lib.hid hgood
          have hz9 : decide ((s9.size : Int) > 0) = true := decide_eq_true (by omega)
          have hz8 : 0 < s9.size := by omega
          clear hgood hgi hgd hgn hr
          go_wp2_with (first
            | (go_at_call 32; go_must (refine (hl.out _ HV.out.rd).mono ?_); rintro r w3 ⟨rfl, g3, k3⟩; have V3 := Lib.hid (HV.out.took (by omega) (by omega) k3 g3); clear g3 k3)
            | ((with_reducible show wpList _ _ _ ({ dst := _, op := .build 30 _, type := _, pos := _, after := _, guard := _ } :: _) _ _); refine wpList_build_as rfl 30 _ rfl #[.int .i64 0, .string ⟨#[]⟩, .string ⟨#[]⟩, .string ⟨#[]⟩, .string ⟨#[]⟩, .int .i64 0, .int .i64 0, .int .i64 0, .string ⟨#[]⟩, .bool false, .int .i64 0, .bool false, .int .i64 0, .bool false, .int .i64 0, .bool false, .int .i64 0, .bool false, .int .i64 0, .bool false, .int .i64 0, .int .i64 0, .int .i64 0, .string ⟨#[]⟩] zero_built ?_)
            | ((with_reducible show wpList _ _ _ ({ dst := _, op := .store _ (.tmp 4) _, type := _, pos := _, after := _, guard := _ } :: _) _ _); refine wpList_store_st rfl 30 _ _ rfl w.heap.size #[.int .i64 0, .string ⟨#[]⟩, .string ⟨#[]⟩, .string ⟨#[]⟩, .string ⟨#[]⟩, .int .i64 0, .int .i64 0, .int .i64 0, .string ⟨#[]⟩, .bool false, .int .i64 0, .bool false, .int .i64 0, .bool false, .int .i64 0, .bool false, .int .i64 0, .bool false, .int .i64 0, .bool false, .int .i64 0, .int .i64 0, .int .i64 0, .string ⟨#[]⟩] rfl rfl _ V3.out.res (by kernel_rfl) rfl (by kernel_rfl) ?_; intro wz hz hst; have HQ := Lib.hid hz; have HR := Lib.hid hst; clear hz hst))
          refine ret_cell2 (r := 4) (t := 5) (k := w.heap.size) (T := 30) Tryd.results19 rfl rfl HR.out Tryd.underlying30 rfl (by kernel_rfl) rfl ?_
          have e0 := HQ.out
          subst e0
          rw [HQ3.out]
          exact ⟨rfl, below_row V3.out.low (Nat.le_refl _) _⟩
      · have hgood := hgn (by cases hg : good ⟨s9, e9, 0, c9⟩ with | false => rfl | true => exact absurd (hgi.1 hg).2.1 he)
        have HQ3 := Lib.hid hgood
        have d1 : (e9 == 0) = false := by simpa using he
        have d2 : (e9 != 0) = true := by simpa using he
        clear hgood hgi hgd hgn he
        go_wp2_with (first
          | ((with_reducible show wpList _ _ _ ({ dst := _, op := .build 30 _, type := _, pos := _, after := _, guard := _ } :: _) _ _); refine wpList_build_as rfl 30 _ rfl #[.int .i64 0, .string ⟨#[]⟩, .string ⟨#[]⟩, .string ⟨#[]⟩, .string ⟨#[]⟩, .int .i64 0, .int .i64 0, .int .i64 0, .string ⟨#[]⟩, .bool false, .int .i64 0, .bool false, .int .i64 0, .bool false, .int .i64 0, .bool false, .int .i64 0, .bool false, .int .i64 0, .bool false, .int .i64 0, .int .i64 0, .int .i64 0, .string ⟨#[]⟩] zero_built ?_)
          | ((with_reducible show wpList _ _ _ ({ dst := _, op := .store _ (.tmp 4) _, type := _, pos := _, after := _, guard := _ } :: _) _ _); refine wpList_store_st rfl 30 _ _ rfl w.heap.size #[.int .i64 0, .string ⟨#[]⟩, .string ⟨#[]⟩, .string ⟨#[]⟩, .string ⟨#[]⟩, .int .i64 0, .int .i64 0, .int .i64 0, .string ⟨#[]⟩, .bool false, .int .i64 0, .bool false, .int .i64 0, .bool false, .int .i64 0, .bool false, .int .i64 0, .bool false, .int .i64 0, .bool false, .int .i64 0, .int .i64 0, .int .i64 0, .string ⟨#[]⟩] rfl rfl _ HV.out.res (by kernel_rfl) rfl (by kernel_rfl) ?_; intro wz hz hst; have HQ := Lib.hid hz; have HR := Lib.hid hst; clear hz hst))
        refine ret_cell2 (r := 4) (t := 5) (k := w.heap.size) (T := 30) Tryd.results19 rfl rfl HR.out Tryd.underlying30 rfl (by kernel_rfl) rfl ?_
        have e0 := HQ.out
        subst e0
        rw [HQ3.out]
        exact ⟨rfl, below_row HV.out.low (Nat.le_refl _) _⟩
end Go.Proofs.YtdjnadgcjmlejaaDoor
