/- The program's disk: Read. -/
import Derived.Test.YtfipojmgmmjnmaaPdd
namespace Go.Proofs.Ytfipojmgmmjnmaa
open Go.RowKit

/-- A block of bytes as a string. -/
theorem st_text {P : Program} {w : World} {T src dst e : TypeId} {k : Nat} {x : ByteArray} (h : St T k (tb x).toArray w) (n : Nat) (hn : x.size = n) (hs : P.underlying src = some (.slice e)) (he : P.underlying e = some (.int .u8)) (hd : P.underlying dst = some .string) :
    (convert src dst (.slice (some ⟨k, 0, none⟩) n n)).run P w = .ok (.string x) w := by
  subst hn
  have hr := run_convert_bytes_arg (P := P) w src e hs he k 0 x.size x.size (x.data.toList.map fun b => (b.toNat : Int)) (by simp) (fun i hi => by
    have hi' : i < x.data.size := hi
    have := h.cell (j := i) (v := .int .u8 (x.data[i].toNat)) (by simp [tb, bc, Array.getElem?_eq_getElem hi'])
    rw [Nat.zero_add, this]
    simp [List.getD, Array.getElem?_eq_getElem hi']) dst hd
  rw [hr]
  congr 2
  unfold strOfNums
  apply ByteArray.ext
  show (List.map _ (List.map _ x.data.toList)).toArray = x.data
  rw [List.map_map]
  have e : x.data.toList.map ((fun n : Int => UInt8.ofNat n.toNat) ∘ fun b : UInt8 => (b.toNat : Int)) = x.data.toList := by
    conv => rhs; rw [← List.map_id x.data.toList]
    apply List.map_congr_left
    intro b _
    simp
  rw [e]
theorem DS.read_size {D : DS} (h : D.ok D.kept.length) (j : Nat) (hj : j < D.kept.length) : (lastOf j (D.kept.getD j ⟨#[]⟩) D.wait).size = 128 := by
  rcases lastNo_spec j (D.kept.getD j ⟨#[]⟩) D.wait with ⟨_, h2, _⟩ | ⟨k, t, _, h2, h3⟩
  · rw [h2]
    refine h.full _ (List.mem_of_getElem? (i := j) ?_)
    simp [hj]
  · rw [h3]
    exact h.fulw _ (List.mem_of_getElem? h2)
set_option maxRecDepth 100000 in
theorem dRead_dead {B p : Nat} {kv wv lv : Value} {is : Bool} {N : Int} {D : DS} {w : World} (i : Int) (hd : D.dead = true) (h : PD0 B p kv wv lv is N D w) : Calls Try.prog 25 #[.pointer (some ⟨p, 0, none⟩), .int .i64 i] w fun e w' => e = .returned (.tuple #[.string ⟨#[]⟩, .int .i64 30]) ∧ w = w' := by
  have HR := Lib.hid (drefusal_at h)
  rw [hd] at HR
  clear h hd
  go_enter Try.func25, Try.ntmps25
  go_wp2_with (go_at_call 45; go_must (refine HR.out.mono ?_); rintro e w1 ⟨rfl, rfl⟩)
  go_ret2
  exact ⟨rfl, rfl⟩
set_option maxRecDepth 100000 in
theorem dRead_out {B p : Nat} {kv wv lv : Value} {is : Bool} {N : Int} {D : DS} {w : World} (i : Int) (hd : D.dead = false) (hi : D.inside i = false) (h : PD0 B p kv wv lv is N D w) : Calls Try.prog 25 #[.pointer (some ⟨p, 0, none⟩), .int .i64 i] w fun e w' => e = .returned (.tuple #[.string ⟨#[]⟩, .int .i64 3]) ∧ Below w.heap.size w w' := by
  have HR := Lib.hid (drefusal_at h)
  have HI := Lib.hid (dhas_at i h)
  rw [hd] at HR
  rw [hi] at HI
  clear h hd hi
  go_enter Try.func25, Try.ntmps25
  go_wp2_with (first | (go_at_call 45; go_must (refine HR.out.mono ?_); rintro e w1 ⟨rfl, rfl⟩) | (go_at_call 46; go_must (refine HI.out.mono ?_); rintro e w1 ⟨rfl, q, rfl⟩))
  go_ret2
  exact ⟨rfl, rfl, rfl, rfl, Nat.le_refl _, fun _ _ => rfl⟩
set_option maxRecDepth 100000 in
theorem dRead_in {B p : Nat} {kv wv lv : Value} {is : Bool} {N : Int} {D : DS} {w : World} (j : Nat) (hd : D.dead = false) (hj : j < D.kept.length) (h : PD0 B p kv wv lv is N D w) :
    Calls Try.prog 25 #[.pointer (some ⟨p, 0, none⟩), .int .i64 j] w fun e w' => e = .returned (.tuple #[.string (lastOf j (D.kept.getD j ⟨#[]⟩) D.wait), .int .i64 0]) ∧ Below w.heap.size w w' := by
  have HR := Lib.hid (drefusal_at h)
  have HI := Lib.hid (dhas_at (j : Int) h)
  have hi : D.inside j = true := decide_eq_true ⟨by omega, by omega⟩
  rw [hd] at HR
  rw [hi] at HI
  have hsz := DS.read_size h.ok j hj
  have HC := Lib.hid (show ∀ q, Calls Try.prog 50 #[.pointer (some ⟨p, 0, none⟩), .int .i64 j] (w.drewN q) _ from fun q => dcontents_at B p kv wv lv is N D j (w.drewN q) hj ⟨h.st, h.fz, h.ok, h.pos, h.kr, h.wr, h.lr, h.kp, h.wp, h.lp, h.kw, h.kl, h.wl, h.bp⟩)
  obtain ⟨x, hx⟩ : ∃ x, x = lastOf j (D.kept.getD j ⟨#[]⟩) D.wait := ⟨_, rfl⟩
  rw [← hx] at hsz HC ⊢
  have h1 := tb_arr x hsz
  have h2 := tb_ones x
  have HT := Lib.hid (fun W k (hW : St 87 k (tb x).toArray W) => st_text (P := Try.prog) (src := 88) (dst := 9) hW 128 hsz Try.underlying88 Try.underlying5 Try.underlying9)
  obtain ⟨cs, hcs⟩ : ∃ cs, cs = (tb x).toArray := ⟨_, rfl⟩
  rw [← hcs] at HC HT h1 h2
  have H1 := Lib.hid h1
  have H2 := Lib.hid h2
  clear h hd hi hj hx hsz hcs h1 h2
  go_enter Try.func25, Try.ntmps25
  go_wp2_with (first
    | (go_at_call 45; go_must (refine HR.out.mono ?_); rintro e w1 ⟨rfl, rfl⟩)
    | (go_at_call 46; go_must (refine HI.out.mono ?_); rintro e w1 ⟨rfl, q, rfl⟩)
    | (go_at_call 50; go_must (refine (HC.out q).mono ?_); rintro e w2 ⟨rfl, b2⟩; have B2 := Lib.hid b2; clear b2; have HZ := Lib.hid (St.new w2 87 Try.zeroCells87))
    | ((with_reducible show wpList _ _ _ ({ dst := _, op := .store 87 _ _, type := _, pos := _, after := _, guard := _ } :: _) _ _); refine wpList_store_st rfl 87 _ _ rfl w2.heap.size cs rfl rfl _ HZ.out (by rw [H1.out]; kernel_rfl) (by rw [H1.out]; exact szero_size) H2.out ?_; intro w6 hw6 k6; have K6 := Lib.hid k6; have W6 := Lib.hid hw6; clear hw6 k6; have cv := HT.out w6 w2.heap.size K6.out))
  go_ret2
  refine ⟨rfl, ?_⟩
  rw [W6.out]
  have b3 : Below w.heap.size w w2 := ⟨B2.out.os, B2.out.tape, B2.out.output, B2.out.size, B2.out.block⟩
  exact below_row (b3.alloc b3.size _) b3.size _
end Go.Proofs.Ytfipojmgmmjnmaa
