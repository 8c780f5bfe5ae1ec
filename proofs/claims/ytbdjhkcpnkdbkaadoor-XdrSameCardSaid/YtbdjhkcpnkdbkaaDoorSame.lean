/- PROVED HERE: for every text and every list of kinds, the law XdrSame returns true: what is read of any text, written once more, is the bytes that were taken. CONDITIONS: the two tables that the row lists read as laid; the walks never read them. -/
import Derived.Test.YtbdjhkcpnkdbkaaDoorSp
import Derived.Test.YtbdjhkcpnkdbkaaDoorTh
import Derived.Test.YtbdjhkcpnkdbkaaDoorLw
namespace Go.Proofs.YtbdjhkcpnkdbkaaDoor.xdrSame
open Go.ChangeShapes Go.WideShapes Go.ChangeAt Go.RowKit
open Go.ChangeMaps (open_string shut_string)

theorem _root_.Go.Proofs.YtbdjhkcpnkdbkaaDoor.Wr.keep {T E : TypeId} {k b : Nat} {r : Option Nat} {xs : List UInt8} {w w' : World} (h : Wr T E k r xs w) (hk : Keep b none w w') (h1 : k ≠ b) (h2 : r ≠ some b) : Wr T E k r xs w' := by
  obtain ⟨v, hb, hown, hv⟩ := h
  exact ⟨v, (hk.block k (lt_of_block hb) h1 (by simp)).trans hb, hown.kept (row := some b) ⟨hk.os, hk.tape, hk.output, hk.size, fun j hj hr => hk.block j hj (fun e => hr (by rw [e])) (by simp)⟩ (.inr (by rw [hv]; exact h2)), hv⟩

/-- A slice of bytes that came in. -/
structure Bytes (b off len : Nat) (w : World) : Prop where
  get : ∀ i, i < len → ∃ x : UInt8, w.cell? ⟨b, off + i, none⟩ = some (.int .u8 x.toNat)

set_option maxRecDepth 100000 in
set_option maxHeartbeats 2000000 in
theorem walk (s : ByteArray) (ao : Option Addr) (b off len cap : Nat) (w : World) (hs : s.size ≤ 300) (hl : len ≤ 40) (hao : 0 < len → ao = some ⟨b, off, none⟩ ∧ b < w.heap.size) (ht : Bytes b off len w) :
    Calls Tryd.prog 5 #[.string s, .slice ao len cap] w fun e w' => e = .returned (.bool true) ∧ Below w.heap.size w w' := by
  have d1 : decide ((s.size : Int) > 300) = false := by simp; omega
  have d2 : decide ((len : Int) > 40) = false := by simp; omega
  have HA := Lib.hid hao
  have HT := Lib.hid ht
  clear hao ht
  go_enter Tryd.func5, Tryd.ntmps5
  go_wp2_with (go_at_call 9; go_must (refine (rRead_eq s _).mono ?_); rintro e w1 ⟨rfl, rfl⟩)
  have hR0 : Rd w.heap.size s 0 ((w.alloc (.cells #[.string s, .int .i64 0] 52 (0, 0))).alloc (.cells #[.slice none 0 0] 41)) := St.alloc (St.new w _ _) _
  have hW0 : Wr 41 5 (w.heap.size + 1) none [] ((w.alloc (.cells #[.string s, .int .i64 0] 52 (0, 0))).alloc (.cells #[.slice none 0 0] 41)) := by
    have := wr_new (T := 41) (E := 5) (w := w.alloc (.cells #[.string s, .int .i64 0] 52 (0, 0)))
    simpa using this
  have hb0 : Below w.heap.size w ((w.alloc (.cells #[.string s, .int .i64 0] 52 (0, 0))).alloc (.cells #[.slice none 0 0] 41)) := boxed0.alloc (by simp) _
  go_loopw [7, 8] (fun left c wr => ∃ (i : Nat) (r : Option Nat) (xs : List UInt8) (rest : ByteArray), i ≤ len ∧ c = .int .i64 i ∧ left = .int .i64 rest.size ∧ xs ++ rest.data.toList = s.data.toList ∧ Rd w.heap.size rest 0 wr ∧ Wr 41 5 (w.heap.size + 1) r xs wr ∧ Below w.heap.size w wr) (fun _ c _ => len - (intOf c).toNat)
  case atStart => exact ⟨0, none, [], s, Nat.zero_le _, rfl, rfl, rfl, hR0, hW0, hb0⟩
  case round =>
    obtain ⟨i, r, xs, rest, hi, rfl, rfl, hxr, hrd, hwr, hbel⟩ := hrel
    clear hR0 hW0 hb0
    have hxl : xs.length + rest.size = s.size := by have := congrArg List.length hxr; simpa using this
    by_cases hlt : i < len
    · obtain ⟨rfl, hb⟩ := HA.out (by omega)
      obtain ⟨x, hx⟩ := HT.out.get i hlt
      have c0 := (hbel.cell (p := ⟨b, off + i, none⟩) hb).trans hx
      have HX := Lib.hid hxr
      have HL := Lib.hid hxl
      clear hxr hxl hx
      have hwl := hwr.lt
      have hrs : rest.size ≤ 300 := by have := HL.out; omega
      obtain ⟨K, hK⟩ : ∃ K : Int, K = (x.toNat : Int) % 6 + 1 := ⟨_, rfl⟩
      have hK1 : 1 ≤ K := by omega
      have hK2 : K ≤ 6 := by omega
      have hT := xtake_any w.heap.size K 7 rest 0 wr (by omega) hrd
      have hp := take_put K 7 rest (by omega)
      obtain ⟨p, hpe⟩ : ∃ p, p = rdTake K 7 rest 0 := ⟨_, rfl⟩
      rw [← hpe] at hT hp
      obtain ⟨s1, e1, n1, is1, t1⟩ := p
      dsimp only at hT hp
      have hT2 : Calls Tryd.prog 10 #[.pointer (some ⟨w.heap.size, 0, none⟩), .int .i64 ((x.toNat : Int) % 6 + 1), .int .i64 7] wr fun r w' => Took w.heap.size s1 e1 (.agg #[.int .i64 K, .int .i64 n1, .bool is1, .string t1]) wr r w' := by rw [← hK]; exact hT
      have HTK := Lib.hid hT2
      have HP := Lib.hid hp
      have HK := And.intro (Lib.hid hK1) (Lib.hid hK2)
      clear hT hT2 hp hpe hK hK1 hK2
      by_cases he : e1 = 0
      · subst he
        obtain ⟨bs, hbs, hbr⟩ := HP.out rfl HK.1.out HK.2.out
        have HB := And.intro (Lib.hid hbs) (Lib.hid hbr)
        clear hbs hbr
        go_wp2_with fail
        go_must (refine HTK.out.mono ?_)
        rintro e w1 ⟨rfl, hr1, hk1⟩
        have hwr1 := hwr.keep hk1 (by omega) (fun e => by have := hwl.2 _ e; omega)
        have hbel1 := hbel.trans (hk1.below (B := w.heap.size) (Nat.le_refl _) hbel.size (fun j hj => by cases hj))
        clear hwr hrd c0
        go_wp2_with fail
        have hra : Rd w.heap.size s1 0 (w1.alloc (.cells #[.int .i64 K, .int .i64 n1, .bool is1, .string t1] 32 (0, 0))) := St.alloc hr1 _
        have hwa := hwr1.alloc (.cells #[.int .i64 K, .int .i64 n1, .bool is1, .string t1] 32 (0, 0))
        have hbela := hbel1.alloc hbel1.size (.cells #[.int .i64 K, .int .i64 n1, .bool is1, .string t1] 32 (0, 0))
        have hput : Calls Tryd.prog 16 #[.pointer (some ⟨w.heap.size + 1, 0, none⟩), .agg #[.int .i64 K, .int .i64 n1, .bool is1, .string t1]] (w1.alloc (.cells #[.int .i64 K, .int .i64 n1, .bool is1, .string t1] 32 (0, 0))) fun e w' => e = .returned (.int .i64 0) ∧ Wrote 41 5 (w.heap.size + 1) r (xs ++ bs) (w1.alloc (.cells #[.int .i64 K, .int .i64 n1, .bool is1, .string t1] 32 (0, 0))) w' := by
          have := xput_any (w.heap.size + 1) r xs K n1 is1 t1 _ (by have := HL.out; omega) hwa
          rw [HB.1.out] at this
          exact this
        have HPU := Lib.hid hput
        clear hput hr1 hwr1
        go_must (refine (rErr_at _ s1 0 _ hra).mono ?_)
        rintro e w2 ⟨rfl, rfl⟩
        go_wp2_with fail
        go_must (refine HPU.out.mono ?_)
        rintro e w2 ⟨rfl, r2, hwr2, hk2, hr2⟩
        have hr3 := Rd.keep hra hk2 (by omega) (fun e => by have := hwl.2 _ e.symm; omega)
        have hbel2 := hbela.trans (hk2.below (B := w.heap.size) (by omega) hbela.size (fun j hj => by have := hwl.2 _ hj; omega))
        clear hra hwa
        go_wp2_with fail
        go_must (refine (rLeft_at _ s1 0 _ hr3).mono ?_)
        rintro e w3 ⟨rfl, rfl⟩
        go_wp2_with fail
        go_roundw
        case rel => exact ⟨i + 1, r2, xs ++ bs, s1, by omega, by go_num, rfl, by rw [List.append_assoc, HB.2.out, HX.out], hr3, hwr2, hbel2⟩
        case measure => simp [intOf]; omega
      · go_wp2_with fail
        go_must (refine HTK.out.mono ?_)
        rintro e w1 ⟨rfl, hr1, hk1⟩
        have hwr1 := hwr.keep hk1 (by omega) (fun e => by have := hwl.2 _ e; omega)
        have hbel1 := hbel.trans (hk1.below (B := w.heap.size) (Nat.le_refl _) hbel.size (fun j hj => by cases hj))
        clear hwr hrd c0
        have hra : Rd w.heap.size s1 e1 (w1.alloc (.cells #[.int .i64 K, .int .i64 n1, .bool is1, .string t1] 32 (0, 0))) := St.alloc hr1 _
        have hwa := hwr1.alloc (.cells #[.int .i64 K, .int .i64 n1, .bool is1, .string t1] 32 (0, 0))
        have hbela := hbel1.alloc hbel1.size (.cells #[.int .i64 K, .int .i64 n1, .bool is1, .string t1] 32 (0, 0))
        clear hr1 hwr1
        go_wp2_with fail
        go_must (refine (rErr_at _ s1 e1 _ hra).mono ?_)
        rintro e w2 ⟨rfl, rfl⟩
        go_wp2_with fail
        obtain ⟨u, hu⟩ : ∃ u, u = str xs := ⟨_, rfl⟩
        have hxl := HL.out
        have hle : rest.size ≤ s.size := by omega
        have hex : s.extract 0 (s.size - rest.size) = u := by
          rw [hu, show s.size - rest.size = xs.length from by omega]
          apply ByteArray.ext
          have e1 : (s.extract 0 xs.length).data.toList = s.data.toList.take xs.length := by simp [ByteArray.data_extract]
          have e2 : (s.extract 0 xs.length).data.toList = xs := by rw [e1, ← HX.out]; simp
          exact Array.toList_inj.1 (by simpa [str] using e2)
        obtain ⟨d, hd⟩ : ∃ d, d = s.size - rest.size := ⟨_, rfl⟩
        have hwr0 : IntKind.i64.wrap ((s.size : Int) - (rest.size : Int)) = (d : Int) := by rw [IntKind.wrap_i64]; omega
        have hd0 : (0 : Int) ≤ (d : Int) := by omega
        have hd1 : (d : Int) ≤ (s.size : Int) := by omega
        have hsl : ∀ w', (Instr.slice 9 (.string s) none (some (.int .i64 (d : Int))) none).run Tryd.prog w' = .ok (.string u) w' := fun w' => by rw [run_slice_string_h w' 9 s Tryd.underlying9 .i64 d hd0 hd1, Int.toNat_natCast, hd, hex]
        have hTX : ∀ w', Wr 41 5 (w.heap.size + 1) r xs w' → Calls Tryd.prog 17 #[.pointer (some ⟨w.heap.size + 1, 0, none⟩)] w' fun e w'' => e = .returned (.string u) ∧ w' = w'' := fun w' h => by rw [hu]; exact wText_any _ r xs w' h
        have HTX := Lib.hid hTX
        have hwd := hwa.drew
        have hbd := hbela.drew
        clear hTX hu hxl
        go_region_held3 (fun w' => (Instr.slice 9 (.string s) none (some (.int .i64 (d : Int))) none).run Tryd.prog w' = .ok (.string u) w') (exact hsl _)
          (first
            | (go_at_call 17; go_must (refine (HTX.out _ hwd).mono ?_); rintro e w4 ⟨rfl, rfl⟩)
            | (go_at_call 8; go_must (refine (xknown_any _).mono ?_); rintro e w5 ⟨rfl, hb5⟩))
        all_goals go_wp2
        all_goals go_ret
        all_goals exact ⟨rfl, hbd.trans (hb5.mono hbd.size)⟩
    · obtain rfl : i = len := by omega
      have HX := Lib.hid hxr
      have HL := Lib.hid hxl
      clear hxr hxl
      go_wp2_with fail
      obtain ⟨u, hu⟩ : ∃ u, u = str xs := ⟨_, rfl⟩
      have hxl := HL.out
      have hle : rest.size ≤ s.size := by omega
      have hex : s.extract 0 (s.size - rest.size) = u := by
        rw [hu, show s.size - rest.size = xs.length from by omega]
        apply ByteArray.ext
        have e1 : (s.extract 0 xs.length).data.toList = s.data.toList.take xs.length := by simp [ByteArray.data_extract]
        have e2 : (s.extract 0 xs.length).data.toList = xs := by rw [e1, ← HX.out]; simp
        exact Array.toList_inj.1 (by simpa [str] using e2)
      obtain ⟨d, hd⟩ : ∃ d, d = s.size - rest.size := ⟨_, rfl⟩
      have hwr0 : IntKind.i64.wrap ((s.size : Int) - (rest.size : Int)) = (d : Int) := by rw [IntKind.wrap_i64]; omega
      have hd0 : (0 : Int) ≤ (d : Int) := by omega
      have hd1 : (d : Int) ≤ (s.size : Int) := by omega
      have hsl : ∀ w', (Instr.slice 9 (.string s) none (some (.int .i64 (d : Int))) none).run Tryd.prog w' = .ok (.string u) w' := fun w' => by rw [run_slice_string_h w' 9 s Tryd.underlying9 .i64 d hd0 hd1, Int.toNat_natCast, hd, hex]
      have hTX : ∀ w', Wr 41 5 (w.heap.size + 1) r xs w' → Calls Tryd.prog 17 #[.pointer (some ⟨w.heap.size + 1, 0, none⟩)] w' fun e w'' => e = .returned (.string u) ∧ w' = w'' := fun w' h => by rw [hu]; exact wText_any _ r xs w' h
      have HTX := Lib.hid hTX
      have hwd := hwr.drew
      have hbd := hbel.drew
      clear hTX hu hxl
      go_region_held3 (fun w' => (Instr.slice 9 (.string s) none (some (.int .i64 (d : Int))) none).run Tryd.prog w' = .ok (.string u) w') (exact hsl _)
        (first
          | (go_at_call 17; go_must (refine (HTX.out _ hwd).mono ?_); rintro e w4 ⟨rfl, rfl⟩)
          | (go_at_call 8; go_must (refine (xknown_any _).mono ?_); rintro e w5 ⟨rfl, hb5⟩))
    
      all_goals go_wp2
      all_goals go_ret
      all_goals exact ⟨rfl, hbd.trans (hb5.mono hbd.size)⟩
set_option maxRecDepth 100000 in
theorem walk_long (s : ByteArray) (ao : Option Addr) (len cap : Nat) (w : World) (h : 300 < s.size ∨ (s.size ≤ 300 ∧ 40 < len)) :
    Calls Tryd.prog 5 #[.string s, .slice ao len cap] w fun e w' => e = .returned (.bool true) ∧ Below w.heap.size w w' := by
  rcases h with h | ⟨h1, h2⟩
  · have d1 : decide ((s.size : Int) > 300) = true := by simp; omega
    go_enter Tryd.func5, Tryd.ntmps5
    go_wp2_with (go_at_call 8; go_must (refine (xknown_any _).mono ?_); rintro e w1 ⟨rfl, hb⟩)
    go_ret
    exact ⟨rfl, hb⟩
  · have d1 : decide ((s.size : Int) > 300) = false := by simp; omega
    have d2 : decide ((len : Int) > 40) = true := by simp; omega
    go_enter Tryd.func5, Tryd.ntmps5
    go_wp2_with (go_at_call 8; go_must (refine (xknown_any _).mono ?_); rintro e w1 ⟨rfl, hb⟩)
    go_ret
    exact ⟨rfl, hb⟩

theorem cellsU8 : Tryd.prog.cellsOf 5 = 1 := by kernel_rfl

/-- A slice of bytes that came in. -/
theorem open_bytes {H : Type} {enc : TypeId × Value → H} {W : World} {base fuel : Nat} {held : Bool} {v : Value} {x : DataW H × List MemPlace} (hv : ∃ a len cap, v = .slice a len cap) (h : DataW.trod enc Tryd.prog W base (fun _ => true) held fuel 39 v.cells.toList = some x) :
    ∃ (ao : Option Addr) (b off len cap : Nat), v = .slice ao len cap ∧ (0 < len → ao = some ⟨b, off, none⟩ ∧ b < W.heap.size) ∧ Bytes b off len W := by
  obtain ⟨a0, len, cap, rfl⟩ := hv
  rcases Go.Deep.open_slice Tryd.underlying39 h with ⟨hcs, hx⟩ | ⟨a, len', cap', m, n, D, Pl, hcs, hbase, hl, hm, hmm, hx, hcell⟩
  · simp [Value.cells] at hcs
    obtain ⟨rfl, rfl, rfl⟩ := hcs
    exact ⟨none, 0, 0, 0, 0, rfl, fun h => by omega, ⟨fun i h => by omega⟩⟩
  · simp [Value.cells] at hcs
    obtain ⟨rfl, rfl, rfl⟩ := hcs
    have hmc : m = cap := by simpa using hmm
    have each : ∀ i, i < len → ∃ x : UInt8, W.cell? (a.add i) = some (.int .u8 x.toNat) := fun i hi => by
      obtain ⟨cs', hc', ht'⟩ := hcell i (by omega)
      rw [cellsU8, Nat.mul_one] at hc'
      obtain ⟨_, hl1, hat⟩ := World.cells?_some hc'
      obtain ⟨k, f0, _, w0⟩ := DataW.trod_int Tryd.underlying5 ht'
      obtain ⟨x, rfl⟩ := u8_of w0
      have a0 := hat 0 (by omega)
      rw [f0, Go.Deep.add_add] at a0
      exact ⟨x, by simpa using a0⟩
    by_cases h0 : len = 0
    · subst h0
      exact ⟨some a, 0, 0, 0, cap, rfl, fun h => by omega, ⟨fun i h => by omega⟩⟩
    · obtain ⟨b, off, spot⟩ := a
      have hspot : spot = none := by
        obtain ⟨k, hk⟩ := each 0 (by omega)
        simpa [Addr.add] using World.cell?_spot hk
      subst hspot
      have hbW : b < W.heap.size := by
        obtain ⟨k, hk⟩ := each 0 (by omega)
        have := World.block_lt_of_cell? W _ hk
        simpa [Addr.add] using this
      refine ⟨some ⟨b, off, none⟩, b, off, len, cap, rfl, fun _ => ⟨rfl, hbW⟩, ⟨fun i hi => ?_⟩⟩
      obtain ⟨x, hx⟩ := each i hi
      rw [Go.WideShapes.add_plain] at hx
      exact ⟨x, hx⟩

theorem same_any (s : ByteArray) (ao : Option Addr) (b off len cap : Nat) (w : World) (hao : 0 < len → ao = some ⟨b, off, none⟩ ∧ b < w.heap.size) (ht : Bytes b off len w) :
    Calls Tryd.prog 5 #[.string s, .slice ao len cap] w fun e w' => e = .returned (.bool true) ∧ Below w.heap.size w w' := by
  by_cases h1 : s.size ≤ 300
  · by_cases h2 : len ≤ 40
    · exact walk s ao b off len cap w h1 h2 hao ht
    · exact walk_long s ao len cap w (.inr ⟨h1, by omega⟩)
  · exact walk_long s ao len cap w (.inl (by omega))

theorem laidOut : laidOutB Tryd.prog = true := by kernel_rfl
theorem laid_met (os : Os) : laidMet Tryd.prog Rows.xdrSameRow.laid ((laidWorld os).forCall (fun _ _ => 0) ⟨#[], #[.string ⟨#[]⟩, .slice none 0 0], []⟩).memory :=
  laidMet_of_run' 8 (by kernel_rfl) (by kernel_rfl)
theorem reads (os : Os) {H : Type} (enc : TypeId × Value → H) : ∃ places, DataW.whole enc Tryd.prog ((laidWorld os).forCall (fun _ _ => 0) ⟨#[], #[.string ⟨#[]⟩, .slice none 0 0], []⟩).memory Tryd.f5.params.toList Rows.xdrSameSpec.vars false (#[.string ⟨#[]⟩, .slice none 0 0] : Array Value).toList 8 = some ([.lit (.string []), .nil], [], places) :=
  ⟨[], by kernel_rfl⟩

set_option maxRecDepth 100000 in
theorem contract (H : Type) (enc : TypeId × Value → H) (W : World) (base : Nat) (args : Array Value) (ds gs : List (DataW H)) (before : List MemPlace)
    (hval : ∀ (j : Nat) t v, Tryd.f5.params[j]? = some t → args[j]? = some v → Value.okWide Tryd.prog W .any base t v)
    (hW : DataW.Whole enc Tryd.prog Tryd.f5.params.toList Rows.xdrSameSpec.vars false W args.toList ds gs before) :
    Calls Tryd.prog 5 args W fun e W' => ∃ v, e = .returned v ∧ Rows.xdrSameSpec.post enc Tryd.prog Tryd.f5 false true false false W args v W' := by
  have hW' := hW
  obtain ⟨p, q, hA0, hV, rfl, hfz, hnd⟩ := hW
  have hA : DataW.TrodAll enc Tryd.prog W 0 (fun _ => true) true Tryd.f5.params.toList args.toList ds p := hA0
  rw [Tryd.params5] at hA hval
  obtain ⟨v0, vs0, d0, ds0, p0, q0, hargs, rfl, rfl, h0, r0⟩ := trodAll_cons hA
  obtain ⟨v1, vs1, d1, ds1, p1, q1, rfl, rfl, rfl, h1, r1⟩ := trodAll_cons r0
  obtain ⟨rfl, rfl, rfl⟩ := trodAll_nil r1
  obtain rfl : args = #[v0, v1] := by cases args; simp_all
  have post : ∀ W', Below W.heap.size W W' → Rows.xdrSameSpec.post enc Tryd.prog Tryd.f5 false true false false W #[v0, v1] (.bool true) W' := fun W' hg =>
    law_post laidOut (by rw [Tryd.params5]; decide +kernel) rfl Tryd.underlying4 rfl hW' rfl hg
  have done : ∀ (e : Ending) W', (e = .returned (.bool true) ∧ Below W.heap.size W W') → ∃ v, e = .returned v ∧ Rows.xdrSameSpec.post enc Tryd.prog Tryd.f5 false true false false W #[v0, v1] v W' := fun e W' ⟨he, hg⟩ => ⟨_, he, post W' hg⟩
  clear post
  obtain ⟨s, rfl, rfl, rfl, hs⟩ := open_string Tryd.underlying9 (hval 0 9 v0 rfl rfl) h0
  obtain ⟨fuel, hf⟩ := h1
  obtain ⟨ao, b, off, len, cap, rfl, hao, ht⟩ := open_bytes (okWide_slice Tryd.underlying39 (hval 1 39 v1 rfl rfl)) hf
  exact (same_any s ao b off len cap W hao ht).mono fun e W' h => done e W' h


set_option maxRecDepth 100000 in
theorem lifted (os : Os) (started : os.Started) (H : Type) (enc : TypeId × Value → H) (F : Stop.Interp) :
    ReturnsInHanded {} Tryd.checked os 5 .any ((OpenSpec.ofChange Rows.xdrSameSpec).preRow enc Tryd.prog Tryd.f5 Rows.xdrSameRow.domain false Rows.xdrSameRow.laid) (((OpenSpec.ofChange Rows.xdrSameSpec).at F).post enc Tryd.prog Tryd.f5 false true false false) := by
  obtain ⟨places, hx⟩ := reads os enc
  refine returnsInHanded_of_row (C := Tryd.checked) (s := OpenSpec.ofChange Rows.xdrSameSpec) own started (by kernel_rfl) Tryd.func5
    (witness_row_at (enc := enc) (C := Tryd.checked) false (laidWorld os) #[.string ⟨#[]⟩, .slice none 0 0] rfl (by kernel_rfl) (by kernel_rfl) (by kernel_rfl)
      (OpenSpec.preRow_of_cond 8 hx (by kernel_rfl) (fun k hk => by cases hk) (by kernel_rfl) (laid_met os))) ?_
  intro W base args ds gs before hval hW _ _ _ hL _ _
  exact contract H enc W base args ds gs before hval hW

theorem said : Rows.XdrSameSaid :=
  OpenClaim.holds_of_cond 5 Tryd.f5 rfl rfl rfl rfl rfl rfl rfl ⟨rfl, rfl, rfl, rfl, rfl⟩ rfl rfl rfl rfl rfl (by kernel_rfl) Tryd.func5 (by kernel_rfl)
    (of_decide_eq_true (by kernel_rfl)) (by unfold Func.isWrapper; first | (rw [if_pos (by decide +kernel)]; kernel_rfl) | (rw [if_neg (by decide +kernel)]; exact ⟨rfl, rfl⟩))
    (fun os started H enc _ F => by rw [OpenClaim.pre_eq_preRow]; exact lifted os started H enc F)

theorem plain (f : FuncId) (fn : Func) (hf : Tryd.pinned.checked.prog.funcNamed Rows.xdrSameRow.func = some f) (hfn : Tryd.pinned.checked.prog.funcs[f]? = some fn) :
    false = Tryd.pinned.checked.prog.looks [] ∧ ∀ (j : Nat) t, fn.params[j]? = some t → Tryd.pinned.checked.prog.wantsStandIn t = false := by
  obtain rfl : f = 5 := Option.some.inj ((show Tryd.prog.funcNamed Rows.xdrSameRow.func = some 5 by kernel_rfl).symm.trans hf) |>.symm
  obtain rfl : fn = Tryd.f5 := (Option.some.inj (Tryd.func5.symm.trans hfn)).symm
  refine ⟨by kernel_rfl, fun j t ht => ?_⟩
  have hall : Tryd.f5.params.all (fun t => Tryd.prog.wantsStandIn t == false) = true := by kernel_rfl
  have := Array.all_eq_true.1 hall j (Array.getElem?_eq_some_iff.1 ht).1
  rw [(Array.getElem?_eq_some_iff.1 ht).2] at this
  have h2 : Tryd.prog.wantsStandIn t = false := by simpa using this
  exact h2

theorem card : Rows.XdrSameCardSaid :=
  Claim7.holds_tied_plain_at .later [] _ _ _ _ said (fun _ h => by cases h) (by kernel_rfl) (fun _ h => by cases h) xdrSame_row_tie rfl ⟨rfl, rfl⟩ (by kernel_rfl) rfl plain (by kernel_rfl)

end Go.Proofs.YtbdjhkcpnkdbkaaDoor.xdrSame
