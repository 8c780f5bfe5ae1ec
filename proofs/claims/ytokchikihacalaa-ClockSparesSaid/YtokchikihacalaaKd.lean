/- The law's comparing of a clock with its keys; its fixed calls. -/
import Derived.Test.YtokchikihacalaaKp
import Derived.Deep.RegionHeld3
namespace Go.Proofs.Ytokchikihacalaa
open Go.RowKit

theorem strs_walk {v : Value} {xs : List ByteArray} {w : World} (h : Strs v xs w) : ∃ (ao : Option Addr) (cap b off : Nat), v = .slice ao xs.length cap ∧ xs.length ≤ 9223372036854775807 ∧ ∀ k, k < xs.length → ∃ x, xs[k]? = some x ∧ ao = some ⟨b, off, none⟩ ∧ b < w.heap.size ∧ w.cell? ⟨b, off + k, none⟩ = some (.string x) := by
  obtain ⟨ao, cap, b, off, rfl, h1, h2, h3⟩ := h
  exact ⟨ao, cap, b, off, rfl, h1, fun k hk => ⟨xs[k], List.getElem?_eq_getElem hk, (h2 (by omega)).1, (h2 (by omega)).2, h3 k _ (List.getElem?_eq_getElem hk)⟩⟩

set_option maxRecDepth 100000 in
set_option maxHeartbeats 2000000 in
theorem lksame_any (B p : Nat) (F : Nat → Prop) (l : List (ByteArray × Bool)) (v : Value) (B2 : Nat) (w : World) (h : CL B p F l w) (hr : KRow B2 v l w) :
    Calls Try.prog 20 #[.pointer (some ⟨p, 0, none⟩), v] w fun e w' => e = .returned (.bool true) ∧ Below w.heap.size w w' := by
  have HKe := Lib.hid (kKeys_any B p F l w h)
  have HLe := Lib.hid (fun W (hW : Below w.heap.size w W) => kLen_any B p F l W (h.below hW))
  have HHa := Lib.hid (fun s (hs : s ∈ keys l) W (hW : Below w.heap.size w W) => kHas_any B p F l s (h.small s hs) W (h.below hW))
  have HMa := Lib.hid (fun s (hs : s ∈ keys l) W (hW : Below w.heap.size w W) => kMarked_any B p F l s (h.small s hs) W (h.below hW))
  have HND := Lib.hid (mkd_at l h.nodup)
  have hgb : ∀ g, v.ownBlock = some g → g < w.heap.size := fun g hg => (World.ownsRow.lt hr g hg).2
  obtain ⟨ao, cap, g, rfl, hl, hx⟩ := hr.walk
  have hkl : (keys l).length = l.length := by simp [keys]
  obtain ⟨n, hn⟩ : ∃ n, n = l.length := ⟨_, rfl⟩
  have HG := Lib.hid (show ao = some ⟨g, 0, none⟩ → g < w.heap.size from fun e => hgb g (by rw [e]; rfl))
  rw [← hn] at hl hx HLe hkl ⊢
  have HX := Lib.hid hx
  have HW := Lib.hid (show ∀ (v : Value) (W : World), Strs v (keys l) W → ∃ (ao : Option Addr) (cap b off : Nat), v = .slice ao n cap ∧ n ≤ 9223372036854775807 ∧ ∀ k, k < n → ∃ x, (keys l)[k]? = some x ∧ ao = some ⟨b, off, none⟩ ∧ b < W.heap.size ∧ W.cell? ⟨b, off + k, none⟩ = some (.string x) from fun v W h => by
    have := strs_walk h
    rw [hkl] at this
    exact this)
  have HKA := Lib.hid (show ∀ (i : Nat) (x : ByteArray × Bool), l[i]? = some x → (keys l)[i]? = some x.1 from fun i x h => keys_at h)
  have HIK := Lib.hid (show ∀ (i : Nat) (x : ByteArray × Bool), l[i]? = some x → inK x.1 l = true from fun i x h => (inK_iff x.1 l).2 (List.mem_of_getElem? (keys_at h)))
  clear hx h hr hgb hn hkl
  go_enter Try.func20, Try.ntmps20
  go_wp2_with (first
    | (go_at_call 22; go_must (with_reducible refine HKe.out.mono ?_); rintro e w1 ⟨v1, rfl, hs, b1⟩; obtain ⟨ao1, cap1, bb, off, rfl, hl1, hat⟩ := HW.out _ _ hs; have HAT := Lib.hid hat; have B1 := Lib.hid b1; clear hs b1 hat)
    | (go_at_call 30; go_must (with_reducible refine (HLe.out _ B1.out).mono ?_); rintro e w2 ⟨rfl, q, hq⟩; have B2 := Lib.hid (show Below w.heap.size w w2 from by rw [hq]; exact below_drewN B1.out q); have HS2 := Lib.hid (show w1.heap.size ≤ w2.heap.size from by rw [hq]; exact Nat.le_refl _); have HC2 := Lib.hid (show ∀ a : Addr, a.block < w1.heap.size → w2.cell? a = w1.cell? a from fun a _ => by rw [hq]; rfl); clear hq))
  clear HKe
  go_loopw [6] (fun c wr => ∃ i : Nat, i ≤ n ∧ c = .int .i64 i ∧ Below w2.heap.size w2 wr) (fun c _ => n - (intOf c).toNat)
  case atStart => exact ⟨0, Nat.zero_le _, rfl, Below.refl _ _⟩
  case round =>
    obtain ⟨i, hi, rfl, hwr⟩ := hrel
    have HWR := Lib.hid hwr
    clear hwr
    by_cases hlt : i < n
    · obtain ⟨x, hxi, rfl, c0, c1⟩ := HX.out i hlt
      obtain ⟨y, hyi, rfl, hbb, c2⟩ := HAT.out i hlt
      have hgl := HG.out rfl
      have e := HKA.out i x hxi
      rw [hyi] at e
      obtain rfl : y = x.1 := by injection e
      have HC := Lib.hid (show ∀ W, Below w2.heap.size w2 W → W.cell? ⟨g, i * 2, none⟩ = some (.string x.1) ∧ W.cell? ⟨g, i * 2 + 1, none⟩ = some (.bool x.2) ∧ W.cell? ⟨bb, off + i, none⟩ = some (.string x.1) from fun W hW => by
        have s2 := B2.out.size
        have c2' : w2.cell? ⟨bb, off + i, none⟩ = some (.string x.1) := (HC2.out _ hbb).trans c2
        have hbb2 : bb < w2.heap.size := Nat.lt_of_lt_of_le hbb HS2.out
        exact ⟨(hW.cell (p := ⟨g, i * 2, none⟩) (Nat.lt_of_lt_of_le hgl s2)).trans ((B2.out.cell (p := ⟨g, i * 2, none⟩) hgl).trans c0), (hW.cell (p := ⟨g, i * 2 + 1, none⟩) (Nat.lt_of_lt_of_le hgl s2)).trans ((B2.out.cell (p := ⟨g, i * 2 + 1, none⟩) hgl).trans c1), (hW.cell (p := ⟨bb, off + i, none⟩) hbb2).trans c2'⟩)
      have HHx := Lib.hid (show ∀ W, Below w2.heap.size w2 W → Calls Try.prog 21 #[.pointer (some ⟨p, 0, none⟩), .string x.1] W fun e w' => e = .returned (.bool true) ∧ Below w2.heap.size w2 w' from fun W hW => by
        have := HHa.out x.1 (List.mem_of_getElem? hyi) W (B2.out.trans (hW.mono B2.out.size)); rw [HIK.out i x hxi] at this
        exact this.mono fun e w' ⟨he, q, hq⟩ => ⟨he, by rw [hq]; exact below_drewN hW q⟩)
      have HMx := Lib.hid (show ∀ W, Below w2.heap.size w2 W → Calls Try.prog 23 #[.pointer (some ⟨p, 0, none⟩), .string x.1] W fun e w' => e = .returned (.bool x.2) ∧ Below w2.heap.size w2 w' from fun W hW => by
        have := HMa.out x.1 (List.mem_of_getElem? hyi) W (B2.out.trans (hW.mono B2.out.size)); rw [HND.out i x hxi] at this
        exact this.mono fun e w' ⟨he, hb⟩ => ⟨he, hW.trans (hb.mono hW.size)⟩)
      have hxe : (!x.1.toList == x.1.toList) = false := by simp
      have hb0 : (0 : Int) ≤ (i : Int) := by omega
      have hb1 : (i : Int) < (n : Int) := by omega
      obtain ⟨c0, c1, c2⟩ := HC.out wr HWR.out
      have HWD := Lib.hid (show Below w2.heap.size w2 wr.drew from HWR.out.drew)
      clear hxi hyi e hgl
      generalize x.1 = xs at *
      generalize x.2 = xb at *
      go_wp2_with fail
      go_region_held3 (fun W => W.cell? ⟨g, i * 2, none⟩ = some (.string xs) ∧ W.cell? ⟨g, i * 2 + 1, none⟩ = some (.bool xb) ∧ W.cell? ⟨bb, off + i, none⟩ = some (.string xs)) (first | exact ⟨c0, c1, c2⟩ | exact C6.out | exact C7.out) (first
        | (go_at_call 21; (refine (HHx.out _ HWD.out).mono ?_); rintro e6 w6 ⟨rfl, b6⟩; have C6 := Lib.hid (HC.out _ b6); have B6 := Lib.hid b6; clear b6)
        | (go_at_call 23; (refine (HMx.out _ B6.out).mono ?_); rintro e7 w7 ⟨rfl, b7⟩; have C7 := Lib.hid (HC.out _ b7); have B7 := Lib.hid b7; clear b7))
      all_goals (
        go_wp2_with fail
        go_round
        case rel => exact ⟨i + 1, by omega, by go_num, B7.out⟩
        case measure => simp [intOf]; omega)
    · obtain rfl : i = n := by omega
      go_wp2_with fail
      go_ret
      exact ⟨rfl, B2.out.trans (HWR.out.mono B2.out.size)⟩

def bA : ByteArray := ⟨#[97]⟩
def bB : ByteArray := ⟨#[98]⟩
def bC : ByteArray := ⟨#[99]⟩
def ka1 : List (ByteArray × Bool) := ktouch [] bA
def ka2 : List (ByteArray × Bool) := ktouch ka1 bB
def ka3 : List (ByteArray × Bool) := ktouch ka2 bC
def ka4 : List (ByteArray × Bool) := kspin ka3
def ka5 : List (ByteArray × Bool) := ktouch ka4 bA
def ka6 : List (ByteArray × Bool) := kspin ka5
theorem ka_len : ka1.length ≤ 1073741824 ∧ ka2.length ≤ 1073741824 ∧ ka3.length ≤ 1073741824 ∧ ka4.length ≤ 1073741824 ∧ ka5.length ≤ 1073741824 ∧ ka6.length = 3 := by decide +kernel
theorem ka_vic : vic ka3 = bA ∧ 0 < ka3.length ∧ vic ka5 = bB ∧ 0 < ka5.length := by decide +kernel

set_option maxRecDepth 100000 in
set_option maxHeartbeats 1000000 in
theorem lkknown_any (w : World) : Calls Try.prog 11 #[] w fun e w' => e = .returned (.bool true) ∧ Below w.heap.size w w' := by
  have HN := Lib.hid (fun W => kNew_any W)
  have HT1 := Lib.hid (fun B p F W hB h => (show Calls Try.prog 13 #[.pointer (some ⟨p, 0, none⟩), .string ⟨#[97]⟩] W fun e w' => e = .returned (.tuple #[]) ∧ CLid B p F ka1 W w' from kTouch_any B p F [] bA (by decide) W hB (by decide) h))
  have HT2 := Lib.hid (fun B p F W hB h => (show Calls Try.prog 13 #[.pointer (some ⟨p, 0, none⟩), .string ⟨#[98]⟩] W fun e w' => e = .returned (.tuple #[]) ∧ CLid B p F ka2 W w' from kTouch_any B p F ka1 bB (by decide) W hB ka_len.1 h))
  have HT3 := Lib.hid (fun B p F W hB h => (show Calls Try.prog 13 #[.pointer (some ⟨p, 0, none⟩), .string ⟨#[99]⟩] W fun e w' => e = .returned (.tuple #[]) ∧ CLid B p F ka3 W w' from kTouch_any B p F ka2 bC (by decide) W hB ka_len.2.1 h))
  have HV1 := Lib.hid (fun B p F W hB h => (show Calls Try.prog 18 #[.pointer (some ⟨p, 0, none⟩)] W fun e w' => e = .returned (.tuple #[.string ⟨#[97]⟩, .bool true]) ∧ CLid B p F ka4 W w' from by
    have := kVictim_any B p F ka3 W hB ka_len.2.2.1 h; rw [ka_vic.1, decide_eq_true ka_vic.2.1] at this; exact this))
  have HT5 := Lib.hid (fun B p F W hB h => (show Calls Try.prog 13 #[.pointer (some ⟨p, 0, none⟩), .string ⟨#[97]⟩] W fun e w' => e = .returned (.tuple #[]) ∧ CLid B p F ka5 W w' from kTouch_any B p F ka4 bA (by decide) W hB ka_len.2.2.2.1 h))
  have HV2 := Lib.hid (fun B p F W hB h => (show Calls Try.prog 18 #[.pointer (some ⟨p, 0, none⟩)] W fun e w' => e = .returned (.tuple #[.string ⟨#[98]⟩, .bool true]) ∧ CLid B p F ka6 W w' from by
    have := kVictim_any B p F ka5 W hB ka_len.2.2.2.2.1 h; rw [ka_vic.2.2.1, decide_eq_true ka_vic.2.2.2] at this; exact this))
  have HL := Lib.hid (fun B p F W h => (show Calls Try.prog 30 #[.pointer (some ⟨p, 0, none⟩)] W fun e w' => e = .returned (.int .i64 3) ∧ ∃ q, w' = W.drewN q from by
    have := kLen_any B p F ka6 W h; rw [ka_len.2.2.2.2.2] at this; exact this))
  go_enter Try.func11, Try.ntmps11
  go_wp2_with (first
    | (go_at_call 12; go_must (with_reducible refine (HN.out _).mono ?_); rintro e w1 ⟨p, rfl, hp, b1⟩; have P1 := Lib.hid hp; have B1 := Lib.hid b1; have s1 := b1.size; clear hp b1)
    | (go_at_call 13; (with_reducible refine (HT1.out w.heap.size p _ _ s1 P1.out).mono ?_); rintro e w2 ⟨rfl, h2⟩; have P2 := Lib.hid h2.1; have B2 := Lib.hid (B1.out.trans (h2.below s1 fun j hj => (P1.out.inF j hj).1)); have s2 := B2.out.size; clear h2)
    | (go_at_call 13; (with_reducible refine (HT2.out w.heap.size p _ _ s2 P2.out).mono ?_); rintro e w3 ⟨rfl, h3⟩; have P3 := Lib.hid h3.1; have B3 := Lib.hid (B2.out.trans (h3.below s2 fun j hj => (P2.out.inF j hj).1)); have s3 := B3.out.size; clear h3)
    | (go_at_call 13; (with_reducible refine (HT3.out w.heap.size p _ _ s3 P3.out).mono ?_); rintro e w4 ⟨rfl, h4⟩; have P4 := Lib.hid h4.1; have B4 := Lib.hid (B3.out.trans (h4.below s3 fun j hj => (P3.out.inF j hj).1)); have s4 := B4.out.size; clear h4)
    | (go_at_call 18; (with_reducible refine (HV1.out w.heap.size p _ _ s4 P4.out).mono ?_); rintro e w5 ⟨rfl, h5⟩; have P5 := Lib.hid h5.1; have B5 := Lib.hid (B4.out.trans (h5.below s4 fun j hj => (P4.out.inF j hj).1)); have s5 := B5.out.size; clear h5)
    | (go_at_call 13; (with_reducible refine (HT5.out w.heap.size p _ _ s5 P5.out).mono ?_); rintro e w6 ⟨rfl, h6⟩; have P6 := Lib.hid h6.1; have B6 := Lib.hid (B5.out.trans (h6.below s5 fun j hj => (P5.out.inF j hj).1)); have s6 := B6.out.size; clear h6)
    | (go_at_call 18; (with_reducible refine (HV2.out w.heap.size p _ _ s6 P6.out).mono ?_); rintro e w7 ⟨rfl, h7⟩; have P7 := Lib.hid h7.1; have B7 := Lib.hid (B6.out.trans (h7.below s6 fun j hj => (P6.out.inF j hj).1)); clear h7)
    | (go_at_call 30; (with_reducible refine (HL.out w.heap.size p _ _ P7.out).mono ?_); rintro e w8 ⟨rfl, q, rfl⟩))
  go_ret
  exact ⟨rfl, below_drewN B7.out _⟩
end Go.Proofs.Ytokchikihacalaa
