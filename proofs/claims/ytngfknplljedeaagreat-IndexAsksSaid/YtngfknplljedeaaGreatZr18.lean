/- Lemmas for the laws of index. -/
import Derived.Deep.Cut
import Derived.Test.YtngfknplljedeaaGreatZr08
import Derived.Test.YtngfknplljedeaaGreatZr14
import Derived.Test.YtngfknplljedeaaGreatZrHi
namespace Go.Proofs.YtngfknplljedeaaGreat
open Go.RowKit Go.Joins
def Ch.has (x : Ch) (c : UInt8) : Bool := (lets x.kind).data.toList.contains c
def Ch.okA (x : Ch) : Bool := if x.has 97 then okPa x.attr else decide (x.attr = Pa.zero)
def Ch.ok (x : Ch) : Bool := !decide (lets x.kind = ⟨#[]⟩) && (x.okA && (numB (x.has 101) x.epoch 1 4294967295 && (numB (x.has 115) x.serial 1 9223372036854775807 && (textB (x.has 117) x.up 1 64 && (textB (x.has 110) x.name 1 255 && (textB (x.has 99) x.child 0 64 && (numB (x.has 98) x.no 0 65535 && (numB (x.has 116) x.slot 0 65535))))))))
theorem lets_size (k : Int) : (lets k).size ≤ 3 := by
 unfold lets
 repeat' split
 all_goals decide
def zvA : Array Value := Pa.zero.vs.toArray
theorem builtA : Tryz.prog.built 38 [] = some zvA := by kernel_rfl
set_option maxRecDepth 100000 in
theorem ne0A (a : Pa) (w : World) : (binOp .neq 38 (.agg a.vs.toArray) (.agg zvA)).run Tryz.prog w = .ok (.bool (!decide (a = Pa.zero))) w := by
 rw [run_neq_struct, show (10000 : Nat) = 9998 + 2 from rfl]
 have := eq_at a Pa.zero 9998 w
 rw [show (Op.equalIn (9998 + 2) 38 (.agg a.vs.toArray) (.agg zvA)).run Tryz.prog w = .ok (decide (a = Pa.zero)) w from this]
 rfl
theorem Ch.rangeA (x : Ch) {k : Nat} {W : World} (h : St 40 k x.vs.toArray W) : W.rangeAt k 6 x.attr.vs := by
 have e : (x.vs.toArray.extract 6 (6 + 10)).toList = x.attr.vs := rfl
 rw [← e]
 exact World.rangeAt_of_block h 6 10
set_option maxRecDepth 100000 in
set_option maxHeartbeats 16000000 in
theorem rxCheck_any (x : Ch) (w : World) : Calls Tryz.prog 45 #[.agg x.vs.toArray] w fun e w' => e = .returned (.bool x.ok) ∧ Below w.heap.size w w' := by
 have HLt := hI (fun W => rxLetters_any x.kind W)
 have hsz : (lets x.kind).size ≤ 1073741824 := Nat.le_trans (lets_size x.kind) (by decide)
 have h_e : ∀ W, Calls Tryz.prog 105 #[.string (lets x.kind), .int .u8 101] W fun e w' => e = .returned (.bool (x.has 101)) ∧ w' = W := fun W => (rxhas_any (lets x.kind) 101 W hsz).mono fun e w' ⟨h1, h2⟩ => ⟨h1, h2.symm⟩
 have h_s : ∀ W, Calls Tryz.prog 105 #[.string (lets x.kind), .int .u8 115] W fun e w' => e = .returned (.bool (x.has 115)) ∧ w' = W := fun W => (rxhas_any (lets x.kind) 115 W hsz).mono fun e w' ⟨h1, h2⟩ => ⟨h1, h2.symm⟩
 have h_u : ∀ W, Calls Tryz.prog 105 #[.string (lets x.kind), .int .u8 117] W fun e w' => e = .returned (.bool (x.has 117)) ∧ w' = W := fun W => (rxhas_any (lets x.kind) 117 W hsz).mono fun e w' ⟨h1, h2⟩ => ⟨h1, h2.symm⟩
 have h_n : ∀ W, Calls Tryz.prog 105 #[.string (lets x.kind), .int .u8 110] W fun e w' => e = .returned (.bool (x.has 110)) ∧ w' = W := fun W => (rxhas_any (lets x.kind) 110 W hsz).mono fun e w' ⟨h1, h2⟩ => ⟨h1, h2.symm⟩
 have h_c : ∀ W, Calls Tryz.prog 105 #[.string (lets x.kind), .int .u8 99] W fun e w' => e = .returned (.bool (x.has 99)) ∧ w' = W := fun W => (rxhas_any (lets x.kind) 99 W hsz).mono fun e w' ⟨h1, h2⟩ => ⟨h1, h2.symm⟩
 have h_b : ∀ W, Calls Tryz.prog 105 #[.string (lets x.kind), .int .u8 98] W fun e w' => e = .returned (.bool (x.has 98)) ∧ w' = W := fun W => (rxhas_any (lets x.kind) 98 W hsz).mono fun e w' ⟨h1, h2⟩ => ⟨h1, h2.symm⟩
 have h_t : ∀ W, Calls Tryz.prog 105 #[.string (lets x.kind), .int .u8 116] W fun e w' => e = .returned (.bool (x.has 116)) ∧ w' = W := fun W => (rxhas_any (lets x.kind) 116 W hsz).mono fun e w' ⟨h1, h2⟩ => ⟨h1, h2.symm⟩
 have h_a : ∀ W, Calls Tryz.prog 105 #[.string (lets x.kind), .int .u8 97] W fun e w' => e = .returned (.bool (x.has 97)) ∧ w' = W := fun W => (rxhas_any (lets x.kind) 97 W hsz).mono fun e w' ⟨h1, h2⟩ => ⟨h1, h2.symm⟩
 have t_e : ∀ W, Calls Tryz.prog 107 #[.bool (x.has 101), .int .i64 x.epoch, .int .i64 1, .int .i64 4294967295] W fun e w' => e = .returned (.bool (numB (x.has 101) x.epoch 1 4294967295)) ∧ w' = W := fun W => (rxnum_any (x.has 101) x.epoch 1 4294967295 W).mono fun e w' ⟨h1, h2⟩ => ⟨h1, h2.symm⟩
 have t_s : ∀ W, Calls Tryz.prog 107 #[.bool (x.has 115), .int .i64 x.serial, .int .i64 1, .int .i64 9223372036854775807] W fun e w' => e = .returned (.bool (numB (x.has 115) x.serial 1 9223372036854775807)) ∧ w' = W := fun W => (rxnum_any (x.has 115) x.serial 1 9223372036854775807 W).mono fun e w' ⟨h1, h2⟩ => ⟨h1, h2.symm⟩
 have t_u : ∀ W, Calls Tryz.prog 108 #[.bool (x.has 117), .string x.up, .int .i64 1, .int .i64 64] W fun e w' => e = .returned (.bool (textB (x.has 117) x.up 1 64)) ∧ w' = W := fun W => (rxtext_any (x.has 117) x.up 1 64 W).mono fun e w' ⟨h1, h2⟩ => ⟨h1, h2.symm⟩
 have t_n : ∀ W, Calls Tryz.prog 108 #[.bool (x.has 110), .string x.name, .int .i64 1, .int .i64 255] W fun e w' => e = .returned (.bool (textB (x.has 110) x.name 1 255)) ∧ w' = W := fun W => (rxtext_any (x.has 110) x.name 1 255 W).mono fun e w' ⟨h1, h2⟩ => ⟨h1, h2.symm⟩
 have t_c : ∀ W, Calls Tryz.prog 108 #[.bool (x.has 99), .string x.child, .int .i64 0, .int .i64 64] W fun e w' => e = .returned (.bool (textB (x.has 99) x.child 0 64)) ∧ w' = W := fun W => (rxtext_any (x.has 99) x.child 0 64 W).mono fun e w' ⟨h1, h2⟩ => ⟨h1, h2.symm⟩
 have t_b : ∀ W, Calls Tryz.prog 107 #[.bool (x.has 98), .int .i64 x.no, .int .i64 0, .int .i64 65535] W fun e w' => e = .returned (.bool (numB (x.has 98) x.no 0 65535)) ∧ w' = W := fun W => (rxnum_any (x.has 98) x.no 0 65535 W).mono fun e w' ⟨h1, h2⟩ => ⟨h1, h2.symm⟩
 have t_t : ∀ W, Calls Tryz.prog 107 #[.bool (x.has 116), .int .i64 x.slot, .int .i64 0, .int .i64 65535] W fun e w' => e = .returned (.bool (numB (x.has 116) x.slot 0 65535)) ∧ w' = W := fun W => (rxnum_any (x.has 116) x.slot 0 65535 W).mono fun e w' ⟨h1, h2⟩ => ⟨h1, h2.symm⟩
 obtain ⟨r, hr⟩ : ∃ r, r = x.ok := ⟨_, rfl⟩
 rw [← hr]
 unfold Ch.ok at hr
 obtain ⟨ok, hok⟩ : ∃ b, b = x.okA := ⟨_, rfl⟩
 rw [← hok] at hr
 unfold Ch.okA at hok
 obtain ⟨q_e, hq⟩ : ∃ b, b = numB (x.has 101) x.epoch 1 4294967295 := ⟨_, rfl⟩
 rw [← hq] at t_e hr
 clear hq
 obtain ⟨q_s, hq⟩ : ∃ b, b = numB (x.has 115) x.serial 1 9223372036854775807 := ⟨_, rfl⟩
 rw [← hq] at t_s hr
 clear hq
 obtain ⟨q_u, hq⟩ : ∃ b, b = textB (x.has 117) x.up 1 64 := ⟨_, rfl⟩
 rw [← hq] at t_u hr
 clear hq
 obtain ⟨q_n, hq⟩ : ∃ b, b = textB (x.has 110) x.name 1 255 := ⟨_, rfl⟩
 rw [← hq] at t_n hr
 clear hq
 obtain ⟨q_c, hq⟩ : ∃ b, b = textB (x.has 99) x.child 0 64 := ⟨_, rfl⟩
 rw [← hq] at t_c hr
 clear hq
 obtain ⟨q_b, hq⟩ : ∃ b, b = numB (x.has 98) x.no 0 65535 := ⟨_, rfl⟩
 rw [← hq] at t_b hr
 clear hq
 obtain ⟨q_t, hq⟩ : ∃ b, b = numB (x.has 116) x.slot 0 65535 := ⟨_, rfl⟩
 rw [← hq] at t_t hr
 clear hq
 obtain ⟨b_e, hq⟩ : ∃ b, b = x.has 101 := ⟨_, rfl⟩
 rw [← hq] at h_e t_e
 clear hq
 obtain ⟨b_s, hq⟩ : ∃ b, b = x.has 115 := ⟨_, rfl⟩
 rw [← hq] at h_s t_s
 clear hq
 obtain ⟨b_u, hq⟩ : ∃ b, b = x.has 117 := ⟨_, rfl⟩
 rw [← hq] at h_u t_u
 clear hq
 obtain ⟨b_n, hq⟩ : ∃ b, b = x.has 110 := ⟨_, rfl⟩
 rw [← hq] at h_n t_n
 clear hq
 obtain ⟨b_c, hq⟩ : ∃ b, b = x.has 99 := ⟨_, rfl⟩
 rw [← hq] at h_c t_c
 clear hq
 obtain ⟨b_b, hq⟩ : ∃ b, b = x.has 98 := ⟨_, rfl⟩
 rw [← hq] at h_b t_b
 clear hq
 obtain ⟨b_t, hq⟩ : ∃ b, b = x.has 116 := ⟨_, rfl⟩
 rw [← hq] at h_t t_t
 clear hq
 obtain ⟨b_a, hq⟩ : ∃ b, b = x.has 97 := ⟨_, rfl⟩
 rw [← hq] at h_a hok
 clear hq
 have st0 := hI (St.new w 40 x.vs.toArray)
 have L0 := hI (show Below w.heap.size w (w.alloc (.cells x.vs.toArray 40 (0, 0))) from (Below.refl _ w).alloc (Nat.le_refl _) _)
 have c0 : (w.alloc (.cells x.vs.toArray 40 (0, 0))).cell? ⟨w.heap.size, 0, none⟩ = some (.int .i64 x.kind) := st0.out.cell rfl
 have HRg := hI (fun W (h : St 40 w.heap.size x.vs.toArray W) => x.rangeA h)
 have HCl := hI (show ∀ W, St 40 w.heap.size x.vs.toArray W → W.cell? ⟨w.heap.size, 1, none⟩ = some (.int .i64 x.epoch) ∧ W.cell? ⟨w.heap.size, 2, none⟩ = some (.int .i64 x.serial) ∧ W.cell? ⟨w.heap.size, 3, none⟩ = some (.string x.up) ∧ W.cell? ⟨w.heap.size, 4, none⟩ = some (.string x.name) ∧ W.cell? ⟨w.heap.size, 5, none⟩ = some (.string x.child) ∧ W.cell? ⟨w.heap.size, 16, none⟩ = some (.int .i64 x.no) ∧ W.cell? ⟨w.heap.size, 17, none⟩ = some (.int .i64 x.slot) from fun W h => ⟨h.cell rfl, h.cell rfl, h.cell rfl, h.cell rfl, h.cell rfl, h.cell rfl, h.cell rfl⟩)
 have HAk := hI (fun W => afCheck_any x.attr W)
 have hne := fun W => ne0A x.attr W
 obtain ⟨za, hza⟩ : ∃ b, b = decide (x.attr = Pa.zero) := ⟨_, rfl⟩
 rw [← hza] at hne hok
 obtain ⟨ka, hka⟩ : ∃ b, b = okPa x.attr := ⟨_, rfl⟩
 rw [← hka] at HAk hok
 obtain ⟨lt, hlt⟩ : ∃ l, l = lets x.kind := ⟨_, rfl⟩
 rw [← hlt] at HLt hr hsz
 rw [← hlt] at h_e h_s h_u h_n h_c h_b h_t h_a
 obtain ⟨av, hav⟩ : ∃ av, av = x.attr.vs := ⟨_, rfl⟩
 have hal : av.length = 10 := by rw [hav]; rfl
 rw [← hav] at HRg HAk hne
 obtain ⟨cs, hcs⟩ : ∃ cs, cs = x.vs.toArray := ⟨_, rfl⟩
 rw [← hcs] at st0 L0 c0 HRg HCl ⊢
 obtain ⟨x_e, hx⟩ : ∃ y, y = x.epoch := ⟨_, rfl⟩
 rw [← hx] at t_e HCl
 clear hx
 obtain ⟨x_s, hx⟩ : ∃ y, y = x.serial := ⟨_, rfl⟩
 rw [← hx] at t_s HCl
 clear hx
 obtain ⟨x_u, hx⟩ : ∃ y, y = x.up := ⟨_, rfl⟩
 rw [← hx] at t_u HCl
 clear hx
 obtain ⟨x_n, hx⟩ : ∃ y, y = x.name := ⟨_, rfl⟩
 rw [← hx] at t_n HCl
 clear hx
 obtain ⟨x_c, hx⟩ : ∃ y, y = x.child := ⟨_, rfl⟩
 rw [← hx] at t_c HCl
 clear hx
 obtain ⟨x_b, hx⟩ : ∃ y, y = x.no := ⟨_, rfl⟩
 rw [← hx] at t_b HCl
 clear hx
 obtain ⟨x_t, hx⟩ : ∃ y, y = x.slot := ⟨_, rfl⟩
 rw [← hx] at t_t HCl
 clear hx
 obtain ⟨x_k, hx⟩ : ∃ y, y = x.kind := ⟨_, rfl⟩
 rw [← hx] at HLt c0
 clear hx
 replace h_e := hI h_e
 replace h_s := hI h_s
 replace h_u := hI h_u
 replace h_n := hI h_n
 replace h_c := hI h_c
 replace h_b := hI h_b
 replace h_t := hI h_t
 replace h_a := hI h_a
 replace t_e := hI t_e
 replace t_s := hI t_s
 replace t_u := hI t_u
 replace t_n := hI t_n
 replace t_c := hI t_c
 replace t_b := hI t_b
 replace t_t := hI t_t
 have HR := hI hr
 have HOK := hI hok
 have HAl := hI hal
 clear hr hok hza hka hlt hav hcs hsz hal
 by_cases hl0 : lt = ⟨#[]⟩
 · have d0 : lt.toList.isEmpty = true := by rw [hl0, Lib.toList_data]; rfl
   have HZ := hI (show r = false from by rw [HR.out, decide_eq_true hl0]; rfl)
   clear hl0
   go_enter Tryz.func45, Tryz.ntmps45
   go_wp2_with (first
    | (go_at_call 104; go_must (with_reducible refine (HLt.out _).mono ?_); rintro e w1 ⟨rfl, b1⟩; have S1 := hI (st0.out.below b1); have L1 := hI (L0.out.trans (b1.mono L0.out.size)); clear b1))
   go_returns
   exact ⟨by rw [HZ.out]; rfl, L1.out⟩
 have d0 : lt.toList.isEmpty = false := by
  have hne : ¬ lt.toList = [] := by
   rw [Lib.toList_data]
   intro e
   exact hl0 (ByteArray.ext (Array.toList_eq_nil_iff.1 e))
  simpa using hne
 have HR2 := hI (show r = (ok && (q_e && (q_s && (q_u && (q_n && (q_c && (q_b && (q_t)))))))) from by rw [HR.out, decide_eq_false hl0]; rfl)
 clear HR hl0
 cases b_a with
 | false =>
  cases za with
  | false =>
   have HZ := hI (show r = false from by rw [HR2.out, HOK.out]; rfl)
   go_enter Tryz.func45, Tryz.ntmps45
   go_wp2_with (first
    | (go_at_call 104; go_must (with_reducible refine (HLt.out _).mono ?_); rintro e w1 ⟨rfl, b1⟩; have S1 := hI (st0.out.below b1); have L1 := hI (L0.out.trans (b1.mono L0.out.size)); clear b1)
    | (go_at_call 105; go_must (with_reducible refine (h_a.out _).mono ?_); rintro e w2 ⟨rfl, rfl⟩)
    | ((with_reducible show wpList _ _ _ ({ dst := _, op := .load 38 _, type := _, pos := _, after := _, guard := _ } :: _) _ _); refine wpList_load_midg (by rfl) 38 _ rfl w.heap.size 6 (by simp [Act.eval]) av (HRg.out _ S1.out) _ Tryz.underlying38 rfl (by rw [HAl.out]; kernel_rfl) ?_)
    | ((with_reducible show wpList _ _ _ ({ dst := _, op := .build 38 #[], type := _, pos := _, after := _, guard := _ } :: _) _ _); refine wpList_build_asg (by rfl) 38 _ rfl zvA builtA ?_))
   go_returns
   exact ⟨by rw [HZ.out]; rfl, L1.out⟩
  | true =>
   obtain rfl : ok = true := by rw [HOK.out]; rfl
   go_enter Tryz.func45, Tryz.ntmps45
   go_wp2_with (first
    | (go_at_call 104; go_must (with_reducible refine (HLt.out _).mono ?_); rintro e w1 ⟨rfl, b1⟩; have S1 := hI (st0.out.below b1); have L1 := hI (L0.out.trans (b1.mono L0.out.size)); clear b1)
    | (go_at_call 105; go_must (with_reducible refine (h_a.out _).mono ?_); rintro e w2 ⟨rfl, rfl⟩)
    | ((with_reducible show wpList _ _ _ ({ dst := _, op := .load 38 _, type := _, pos := _, after := _, guard := _ } :: _) _ _); refine wpList_load_midg (by rfl) 38 _ rfl w.heap.size 6 (by simp [Act.eval]) av (HRg.out _ S1.out) _ Tryz.underlying38 rfl (by rw [HAl.out]; kernel_rfl) ?_)
    | ((with_reducible show wpList _ _ _ ({ dst := _, op := .build 38 #[], type := _, pos := _, after := _, guard := _ } :: _) _ _); refine wpList_build_asg (by rfl) 38 _ rfl zvA builtA ?_))
   obtain ⟨k_e, k_s, k_u, k_n, k_c, k_b, k_t⟩ := HCl.out _ S1.out
   cases q_e with
   | false =>
    go_quiet (first | (go_at_call 105; first | with_reducible exact Calls.quiet_of_same (h_e.out _) | with_reducible exact Calls.quiet_of_same (h_s.out _) | with_reducible exact Calls.quiet_of_same (h_u.out _) | with_reducible exact Calls.quiet_of_same (h_n.out _) | with_reducible exact Calls.quiet_of_same (h_c.out _) | with_reducible exact Calls.quiet_of_same (h_b.out _) | with_reducible exact Calls.quiet_of_same (h_t.out _)) | (go_at_call 107; first | with_reducible exact Calls.quiet_of_same (t_e.out _) | with_reducible exact Calls.quiet_of_same (t_s.out _) | with_reducible exact Calls.quiet_of_same (t_b.out _) | with_reducible exact Calls.quiet_of_same (t_t.out _)) | (go_at_call 108; first | with_reducible exact Calls.quiet_of_same (t_u.out _) | with_reducible exact Calls.quiet_of_same (t_n.out _) | with_reducible exact Calls.quiet_of_same (t_c.out _)))
    go_wp2_with fail
    go_returns
    exact ⟨by rw [HR2.out]; rfl, below_drewN L1.out _⟩
   | true =>
    cases q_s with
    | false =>
     go_quiet (first | (go_at_call 105; first | with_reducible exact Calls.quiet_of_same (h_e.out _) | with_reducible exact Calls.quiet_of_same (h_s.out _) | with_reducible exact Calls.quiet_of_same (h_u.out _) | with_reducible exact Calls.quiet_of_same (h_n.out _) | with_reducible exact Calls.quiet_of_same (h_c.out _) | with_reducible exact Calls.quiet_of_same (h_b.out _) | with_reducible exact Calls.quiet_of_same (h_t.out _)) | (go_at_call 107; first | with_reducible exact Calls.quiet_of_same (t_e.out _) | with_reducible exact Calls.quiet_of_same (t_s.out _) | with_reducible exact Calls.quiet_of_same (t_b.out _) | with_reducible exact Calls.quiet_of_same (t_t.out _)) | (go_at_call 108; first | with_reducible exact Calls.quiet_of_same (t_u.out _) | with_reducible exact Calls.quiet_of_same (t_n.out _) | with_reducible exact Calls.quiet_of_same (t_c.out _)))
     go_wp2_with fail
     go_returns
     exact ⟨by rw [HR2.out]; rfl, below_drewN L1.out _⟩
    | true =>
     cases q_u with
     | false =>
      go_quiet (first | (go_at_call 105; first | with_reducible exact Calls.quiet_of_same (h_e.out _) | with_reducible exact Calls.quiet_of_same (h_s.out _) | with_reducible exact Calls.quiet_of_same (h_u.out _) | with_reducible exact Calls.quiet_of_same (h_n.out _) | with_reducible exact Calls.quiet_of_same (h_c.out _) | with_reducible exact Calls.quiet_of_same (h_b.out _) | with_reducible exact Calls.quiet_of_same (h_t.out _)) | (go_at_call 107; first | with_reducible exact Calls.quiet_of_same (t_e.out _) | with_reducible exact Calls.quiet_of_same (t_s.out _) | with_reducible exact Calls.quiet_of_same (t_b.out _) | with_reducible exact Calls.quiet_of_same (t_t.out _)) | (go_at_call 108; first | with_reducible exact Calls.quiet_of_same (t_u.out _) | with_reducible exact Calls.quiet_of_same (t_n.out _) | with_reducible exact Calls.quiet_of_same (t_c.out _)))
      go_wp2_with fail
      go_returns
      exact ⟨by rw [HR2.out]; rfl, below_drewN L1.out _⟩
     | true =>
      cases q_n with
      | false =>
       go_quiet (first | (go_at_call 105; first | with_reducible exact Calls.quiet_of_same (h_e.out _) | with_reducible exact Calls.quiet_of_same (h_s.out _) | with_reducible exact Calls.quiet_of_same (h_u.out _) | with_reducible exact Calls.quiet_of_same (h_n.out _) | with_reducible exact Calls.quiet_of_same (h_c.out _) | with_reducible exact Calls.quiet_of_same (h_b.out _) | with_reducible exact Calls.quiet_of_same (h_t.out _)) | (go_at_call 107; first | with_reducible exact Calls.quiet_of_same (t_e.out _) | with_reducible exact Calls.quiet_of_same (t_s.out _) | with_reducible exact Calls.quiet_of_same (t_b.out _) | with_reducible exact Calls.quiet_of_same (t_t.out _)) | (go_at_call 108; first | with_reducible exact Calls.quiet_of_same (t_u.out _) | with_reducible exact Calls.quiet_of_same (t_n.out _) | with_reducible exact Calls.quiet_of_same (t_c.out _)))
       go_wp2_with fail
       go_returns
       exact ⟨by rw [HR2.out]; rfl, below_drewN L1.out _⟩
      | true =>
       cases q_c with
       | false =>
        go_quiet (first | (go_at_call 105; first | with_reducible exact Calls.quiet_of_same (h_e.out _) | with_reducible exact Calls.quiet_of_same (h_s.out _) | with_reducible exact Calls.quiet_of_same (h_u.out _) | with_reducible exact Calls.quiet_of_same (h_n.out _) | with_reducible exact Calls.quiet_of_same (h_c.out _) | with_reducible exact Calls.quiet_of_same (h_b.out _) | with_reducible exact Calls.quiet_of_same (h_t.out _)) | (go_at_call 107; first | with_reducible exact Calls.quiet_of_same (t_e.out _) | with_reducible exact Calls.quiet_of_same (t_s.out _) | with_reducible exact Calls.quiet_of_same (t_b.out _) | with_reducible exact Calls.quiet_of_same (t_t.out _)) | (go_at_call 108; first | with_reducible exact Calls.quiet_of_same (t_u.out _) | with_reducible exact Calls.quiet_of_same (t_n.out _) | with_reducible exact Calls.quiet_of_same (t_c.out _)))
        go_wp2_with fail
        go_returns
        exact ⟨by rw [HR2.out]; rfl, below_drewN L1.out _⟩
       | true =>
        cases q_b with
        | false =>
         go_quiet (first | (go_at_call 105; first | with_reducible exact Calls.quiet_of_same (h_e.out _) | with_reducible exact Calls.quiet_of_same (h_s.out _) | with_reducible exact Calls.quiet_of_same (h_u.out _) | with_reducible exact Calls.quiet_of_same (h_n.out _) | with_reducible exact Calls.quiet_of_same (h_c.out _) | with_reducible exact Calls.quiet_of_same (h_b.out _) | with_reducible exact Calls.quiet_of_same (h_t.out _)) | (go_at_call 107; first | with_reducible exact Calls.quiet_of_same (t_e.out _) | with_reducible exact Calls.quiet_of_same (t_s.out _) | with_reducible exact Calls.quiet_of_same (t_b.out _) | with_reducible exact Calls.quiet_of_same (t_t.out _)) | (go_at_call 108; first | with_reducible exact Calls.quiet_of_same (t_u.out _) | with_reducible exact Calls.quiet_of_same (t_n.out _) | with_reducible exact Calls.quiet_of_same (t_c.out _)))
         go_wp2_with fail
         go_returns
         exact ⟨by rw [HR2.out]; rfl, below_drewN L1.out _⟩
        | true =>
         cases q_t with
         | false =>
          go_quiet (first | (go_at_call 105; first | with_reducible exact Calls.quiet_of_same (h_e.out _) | with_reducible exact Calls.quiet_of_same (h_s.out _) | with_reducible exact Calls.quiet_of_same (h_u.out _) | with_reducible exact Calls.quiet_of_same (h_n.out _) | with_reducible exact Calls.quiet_of_same (h_c.out _) | with_reducible exact Calls.quiet_of_same (h_b.out _) | with_reducible exact Calls.quiet_of_same (h_t.out _)) | (go_at_call 107; first | with_reducible exact Calls.quiet_of_same (t_e.out _) | with_reducible exact Calls.quiet_of_same (t_s.out _) | with_reducible exact Calls.quiet_of_same (t_b.out _) | with_reducible exact Calls.quiet_of_same (t_t.out _)) | (go_at_call 108; first | with_reducible exact Calls.quiet_of_same (t_u.out _) | with_reducible exact Calls.quiet_of_same (t_n.out _) | with_reducible exact Calls.quiet_of_same (t_c.out _)))
          go_wp2_with fail
          go_returns
          exact ⟨by rw [HR2.out]; rfl, below_drewN L1.out _⟩
         | true =>
          go_quiet (first | (go_at_call 105; first | with_reducible exact Calls.quiet_of_same (h_e.out _) | with_reducible exact Calls.quiet_of_same (h_s.out _) | with_reducible exact Calls.quiet_of_same (h_u.out _) | with_reducible exact Calls.quiet_of_same (h_n.out _) | with_reducible exact Calls.quiet_of_same (h_c.out _) | with_reducible exact Calls.quiet_of_same (h_b.out _) | with_reducible exact Calls.quiet_of_same (h_t.out _)) | (go_at_call 107; first | with_reducible exact Calls.quiet_of_same (t_e.out _) | with_reducible exact Calls.quiet_of_same (t_s.out _) | with_reducible exact Calls.quiet_of_same (t_b.out _) | with_reducible exact Calls.quiet_of_same (t_t.out _)) | (go_at_call 108; first | with_reducible exact Calls.quiet_of_same (t_u.out _) | with_reducible exact Calls.quiet_of_same (t_n.out _) | with_reducible exact Calls.quiet_of_same (t_c.out _)))
          go_wp2_with fail
          go_returns
          exact ⟨by rw [HR2.out]; rfl, below_drewN L1.out _⟩
 | true =>
  cases ka with
  | false =>
   have HZ := hI (show r = false from by rw [HR2.out, HOK.out]; rfl)
   go_enter Tryz.func45, Tryz.ntmps45
   go_wp2_with (first
    | (go_at_call 104; go_must (with_reducible refine (HLt.out _).mono ?_); rintro e w1 ⟨rfl, b1⟩; have S1 := hI (st0.out.below b1); have L1 := hI (L0.out.trans (b1.mono L0.out.size)); clear b1)
    | (go_at_call 105; go_must (with_reducible refine (h_a.out _).mono ?_); rintro e w2 ⟨rfl, rfl⟩)
    | ((with_reducible show wpList _ _ _ ({ dst := _, op := .load 38 _, type := _, pos := _, after := _, guard := _ } :: _) _ _); refine wpList_load_midg (by rfl) 38 _ rfl w.heap.size 6 (by simp [Act.eval]) av (HRg.out _ S1.out) _ Tryz.underlying38 rfl (by rw [HAl.out]; kernel_rfl) ?_)
    | ((with_reducible show wpList _ _ _ ({ dst := _, op := .build 38 #[], type := _, pos := _, after := _, guard := _ } :: _) _ _); refine wpList_build_asg (by rfl) 38 _ rfl zvA builtA ?_)
    | (go_at_call 106; go_must (with_reducible refine (HAk.out _).mono ?_); rintro e w3 ⟨rfl, b3⟩; have S3 := hI (S1.out.below b3); have L3 := hI (L1.out.trans (b3.mono L1.out.size)); clear b3))
   go_returns
   exact ⟨by rw [HZ.out]; rfl, L3.out⟩
  | true =>
   obtain rfl : ok = true := by rw [HOK.out]; rfl
   go_enter Tryz.func45, Tryz.ntmps45
   go_wp2_with (first
    | (go_at_call 104; go_must (with_reducible refine (HLt.out _).mono ?_); rintro e w1 ⟨rfl, b1⟩; have S1 := hI (st0.out.below b1); have L1 := hI (L0.out.trans (b1.mono L0.out.size)); clear b1)
    | (go_at_call 105; go_must (with_reducible refine (h_a.out _).mono ?_); rintro e w2 ⟨rfl, rfl⟩)
    | ((with_reducible show wpList _ _ _ ({ dst := _, op := .load 38 _, type := _, pos := _, after := _, guard := _ } :: _) _ _); refine wpList_load_midg (by rfl) 38 _ rfl w.heap.size 6 (by simp [Act.eval]) av (HRg.out _ S1.out) _ Tryz.underlying38 rfl (by rw [HAl.out]; kernel_rfl) ?_)
    | ((with_reducible show wpList _ _ _ ({ dst := _, op := .build 38 #[], type := _, pos := _, after := _, guard := _ } :: _) _ _); refine wpList_build_asg (by rfl) 38 _ rfl zvA builtA ?_)
    | (go_at_call 106; go_must (with_reducible refine (HAk.out _).mono ?_); rintro e w3 ⟨rfl, b3⟩; have S3 := hI (S1.out.below b3); have L3 := hI (L1.out.trans (b3.mono L1.out.size)); clear b3))
   obtain ⟨k_e, k_s, k_u, k_n, k_c, k_b, k_t⟩ := HCl.out _ S3.out
   cases q_e with
   | false =>
    go_quiet (first | (go_at_call 105; first | with_reducible exact Calls.quiet_of_same (h_e.out _) | with_reducible exact Calls.quiet_of_same (h_s.out _) | with_reducible exact Calls.quiet_of_same (h_u.out _) | with_reducible exact Calls.quiet_of_same (h_n.out _) | with_reducible exact Calls.quiet_of_same (h_c.out _) | with_reducible exact Calls.quiet_of_same (h_b.out _) | with_reducible exact Calls.quiet_of_same (h_t.out _)) | (go_at_call 107; first | with_reducible exact Calls.quiet_of_same (t_e.out _) | with_reducible exact Calls.quiet_of_same (t_s.out _) | with_reducible exact Calls.quiet_of_same (t_b.out _) | with_reducible exact Calls.quiet_of_same (t_t.out _)) | (go_at_call 108; first | with_reducible exact Calls.quiet_of_same (t_u.out _) | with_reducible exact Calls.quiet_of_same (t_n.out _) | with_reducible exact Calls.quiet_of_same (t_c.out _)))
    go_wp2_with fail
    go_returns
    exact ⟨by rw [HR2.out]; rfl, below_drewN L3.out _⟩
   | true =>
    cases q_s with
    | false =>
     go_quiet (first | (go_at_call 105; first | with_reducible exact Calls.quiet_of_same (h_e.out _) | with_reducible exact Calls.quiet_of_same (h_s.out _) | with_reducible exact Calls.quiet_of_same (h_u.out _) | with_reducible exact Calls.quiet_of_same (h_n.out _) | with_reducible exact Calls.quiet_of_same (h_c.out _) | with_reducible exact Calls.quiet_of_same (h_b.out _) | with_reducible exact Calls.quiet_of_same (h_t.out _)) | (go_at_call 107; first | with_reducible exact Calls.quiet_of_same (t_e.out _) | with_reducible exact Calls.quiet_of_same (t_s.out _) | with_reducible exact Calls.quiet_of_same (t_b.out _) | with_reducible exact Calls.quiet_of_same (t_t.out _)) | (go_at_call 108; first | with_reducible exact Calls.quiet_of_same (t_u.out _) | with_reducible exact Calls.quiet_of_same (t_n.out _) | with_reducible exact Calls.quiet_of_same (t_c.out _)))
     go_wp2_with fail
     go_returns
     exact ⟨by rw [HR2.out]; rfl, below_drewN L3.out _⟩
    | true =>
     cases q_u with
     | false =>
      go_quiet (first | (go_at_call 105; first | with_reducible exact Calls.quiet_of_same (h_e.out _) | with_reducible exact Calls.quiet_of_same (h_s.out _) | with_reducible exact Calls.quiet_of_same (h_u.out _) | with_reducible exact Calls.quiet_of_same (h_n.out _) | with_reducible exact Calls.quiet_of_same (h_c.out _) | with_reducible exact Calls.quiet_of_same (h_b.out _) | with_reducible exact Calls.quiet_of_same (h_t.out _)) | (go_at_call 107; first | with_reducible exact Calls.quiet_of_same (t_e.out _) | with_reducible exact Calls.quiet_of_same (t_s.out _) | with_reducible exact Calls.quiet_of_same (t_b.out _) | with_reducible exact Calls.quiet_of_same (t_t.out _)) | (go_at_call 108; first | with_reducible exact Calls.quiet_of_same (t_u.out _) | with_reducible exact Calls.quiet_of_same (t_n.out _) | with_reducible exact Calls.quiet_of_same (t_c.out _)))
      go_wp2_with fail
      go_returns
      exact ⟨by rw [HR2.out]; rfl, below_drewN L3.out _⟩
     | true =>
      cases q_n with
      | false =>
       go_quiet (first | (go_at_call 105; first | with_reducible exact Calls.quiet_of_same (h_e.out _) | with_reducible exact Calls.quiet_of_same (h_s.out _) | with_reducible exact Calls.quiet_of_same (h_u.out _) | with_reducible exact Calls.quiet_of_same (h_n.out _) | with_reducible exact Calls.quiet_of_same (h_c.out _) | with_reducible exact Calls.quiet_of_same (h_b.out _) | with_reducible exact Calls.quiet_of_same (h_t.out _)) | (go_at_call 107; first | with_reducible exact Calls.quiet_of_same (t_e.out _) | with_reducible exact Calls.quiet_of_same (t_s.out _) | with_reducible exact Calls.quiet_of_same (t_b.out _) | with_reducible exact Calls.quiet_of_same (t_t.out _)) | (go_at_call 108; first | with_reducible exact Calls.quiet_of_same (t_u.out _) | with_reducible exact Calls.quiet_of_same (t_n.out _) | with_reducible exact Calls.quiet_of_same (t_c.out _)))
       go_wp2_with fail
       go_returns
       exact ⟨by rw [HR2.out]; rfl, below_drewN L3.out _⟩
      | true =>
       cases q_c with
       | false =>
        go_quiet (first | (go_at_call 105; first | with_reducible exact Calls.quiet_of_same (h_e.out _) | with_reducible exact Calls.quiet_of_same (h_s.out _) | with_reducible exact Calls.quiet_of_same (h_u.out _) | with_reducible exact Calls.quiet_of_same (h_n.out _) | with_reducible exact Calls.quiet_of_same (h_c.out _) | with_reducible exact Calls.quiet_of_same (h_b.out _) | with_reducible exact Calls.quiet_of_same (h_t.out _)) | (go_at_call 107; first | with_reducible exact Calls.quiet_of_same (t_e.out _) | with_reducible exact Calls.quiet_of_same (t_s.out _) | with_reducible exact Calls.quiet_of_same (t_b.out _) | with_reducible exact Calls.quiet_of_same (t_t.out _)) | (go_at_call 108; first | with_reducible exact Calls.quiet_of_same (t_u.out _) | with_reducible exact Calls.quiet_of_same (t_n.out _) | with_reducible exact Calls.quiet_of_same (t_c.out _)))
        go_wp2_with fail
        go_returns
        exact ⟨by rw [HR2.out]; rfl, below_drewN L3.out _⟩
       | true =>
        cases q_b with
        | false =>
         go_quiet (first | (go_at_call 105; first | with_reducible exact Calls.quiet_of_same (h_e.out _) | with_reducible exact Calls.quiet_of_same (h_s.out _) | with_reducible exact Calls.quiet_of_same (h_u.out _) | with_reducible exact Calls.quiet_of_same (h_n.out _) | with_reducible exact Calls.quiet_of_same (h_c.out _) | with_reducible exact Calls.quiet_of_same (h_b.out _) | with_reducible exact Calls.quiet_of_same (h_t.out _)) | (go_at_call 107; first | with_reducible exact Calls.quiet_of_same (t_e.out _) | with_reducible exact Calls.quiet_of_same (t_s.out _) | with_reducible exact Calls.quiet_of_same (t_b.out _) | with_reducible exact Calls.quiet_of_same (t_t.out _)) | (go_at_call 108; first | with_reducible exact Calls.quiet_of_same (t_u.out _) | with_reducible exact Calls.quiet_of_same (t_n.out _) | with_reducible exact Calls.quiet_of_same (t_c.out _)))
         go_wp2_with fail
         go_returns
         exact ⟨by rw [HR2.out]; rfl, below_drewN L3.out _⟩
        | true =>
         cases q_t with
         | false =>
          go_quiet (first | (go_at_call 105; first | with_reducible exact Calls.quiet_of_same (h_e.out _) | with_reducible exact Calls.quiet_of_same (h_s.out _) | with_reducible exact Calls.quiet_of_same (h_u.out _) | with_reducible exact Calls.quiet_of_same (h_n.out _) | with_reducible exact Calls.quiet_of_same (h_c.out _) | with_reducible exact Calls.quiet_of_same (h_b.out _) | with_reducible exact Calls.quiet_of_same (h_t.out _)) | (go_at_call 107; first | with_reducible exact Calls.quiet_of_same (t_e.out _) | with_reducible exact Calls.quiet_of_same (t_s.out _) | with_reducible exact Calls.quiet_of_same (t_b.out _) | with_reducible exact Calls.quiet_of_same (t_t.out _)) | (go_at_call 108; first | with_reducible exact Calls.quiet_of_same (t_u.out _) | with_reducible exact Calls.quiet_of_same (t_n.out _) | with_reducible exact Calls.quiet_of_same (t_c.out _)))
          go_wp2_with fail
          go_returns
          exact ⟨by rw [HR2.out]; rfl, below_drewN L3.out _⟩
         | true =>
          go_quiet (first | (go_at_call 105; first | with_reducible exact Calls.quiet_of_same (h_e.out _) | with_reducible exact Calls.quiet_of_same (h_s.out _) | with_reducible exact Calls.quiet_of_same (h_u.out _) | with_reducible exact Calls.quiet_of_same (h_n.out _) | with_reducible exact Calls.quiet_of_same (h_c.out _) | with_reducible exact Calls.quiet_of_same (h_b.out _) | with_reducible exact Calls.quiet_of_same (h_t.out _)) | (go_at_call 107; first | with_reducible exact Calls.quiet_of_same (t_e.out _) | with_reducible exact Calls.quiet_of_same (t_s.out _) | with_reducible exact Calls.quiet_of_same (t_b.out _) | with_reducible exact Calls.quiet_of_same (t_t.out _)) | (go_at_call 108; first | with_reducible exact Calls.quiet_of_same (t_u.out _) | with_reducible exact Calls.quiet_of_same (t_n.out _) | with_reducible exact Calls.quiet_of_same (t_c.out _)))
          go_wp2_with fail
          go_returns
          exact ⟨by rw [HR2.out]; rfl, below_drewN L3.out _⟩
end Go.Proofs.YtngfknplljedeaaGreat
namespace Go.Proofs.YtngfknplljedeaaGreat
open Go.RowKit
def slt (a b : ByteArray) : Bool := Op.bytesLess a.toList b.toList
def ltHd (a b : Hd) : Bool := decide (a.epoch < b.epoch) || (decide (a.epoch = b.epoch) && decide (a.serial < b.serial))
def ltKn (a b : Kn) : Bool := slt a.dir b.dir || (decide (a.dir = b.dir) && slt a.name b.name)
def ltBk (a b : Bk) : Bool := slt a.up b.up || (decide (a.up = b.up) && decide (a.no < b.no))
set_option maxRecDepth 100000 in
set_option maxHeartbeats 2000000 in
theorem ixlessHeld_any (a b : Hd) (w : World) : Calls Tryz.prog 109 #[.agg a.vs.toArray, .agg b.vs.toArray] w fun e w' => e = .returned (.bool (ltHd a b)) ∧ Below w.heap.size w w' := by
 obtain ⟨a0, a1, a2⟩ := a
 obtain ⟨b0, b1, b2⟩ := b
 show Calls Tryz.prog 109 #[.agg #[.int .i64 a0, .int .i64 a1, .string a2], .agg #[.int .i64 b0, .int .i64 b1, .string b2]] w _
 have HB := hI (show Below w.heap.size w ((w.alloc (.cells #[.int .i64 a0, .int .i64 a1, .string a2] 49 (0, 0))).alloc (.cells #[.int .i64 b0, .int .i64 b1, .string b2] 49 (0, 0))) from ((Below.refl _ w).alloc (Nat.le_refl _) _).alloc (by simp) _)
 obtain ⟨r, hr⟩ : ∃ r, r = ltHd ⟨a0, a1, a2⟩ ⟨b0, b1, b2⟩ := ⟨_, rfl⟩
 rw [← hr]
 unfold ltHd at hr
 dsimp only at hr
 by_cases h0 : a0 < b0
 · have d0 : decide (a0 < b0) = true := decide_eq_true h0
   rw [d0, Bool.true_or] at hr
   have HR := hI hr
   clear hr h0
   go_enter Tryz.func109, Tryz.ntmps109
   go_wp2
   go_returns
   exact ⟨by rw [HR.out]; rfl, HB.out⟩
 have d0 : decide (a0 < b0) = false := decide_eq_false h0
 rw [d0, Bool.false_or] at hr
 by_cases h1 : a0 = b0
 · have e0 : (a0 == b0) = true := beq_iff_eq.2 h1
   rw [decide_eq_true h1, Bool.true_and] at hr
   have HR := hI hr
   clear hr h1 h0
   go_enter Tryz.func109, Tryz.ntmps109
   go_wp2
   go_returns
   exact ⟨by rw [HR.out]; rfl, HB.out⟩
 · have e0 : (a0 == b0) = false := beq_eq_false_iff_ne.2 h1
   rw [decide_eq_false h1, Bool.false_and] at hr
   have HR := hI hr
   clear hr h1 h0
   go_enter Tryz.func109, Tryz.ntmps109
   go_wp2
   go_returns
   exact ⟨by rw [HR.out]; rfl, HB.out⟩
set_option maxRecDepth 100000 in
set_option maxHeartbeats 2000000 in
theorem ixlessKnown_any (a b : Kn) (w : World) : Calls Tryz.prog 44 #[.agg a.vs.toArray, .agg b.vs.toArray] w fun e w' => e = .returned (.bool (ltKn a b)) ∧ Below w.heap.size w w' := by
 obtain ⟨a0, a1, a2⟩ := a
 obtain ⟨b0, b1, b2⟩ := b
 show Calls Tryz.prog 44 #[.agg #[.string a0, .string a1, .string a2], .agg #[.string b0, .string b1, .string b2]] w _
 have HB := hI (show Below w.heap.size w ((w.alloc (.cells #[.string a0, .string a1, .string a2] 61 (0, 0))).alloc (.cells #[.string b0, .string b1, .string b2] 61 (0, 0))) from ((Below.refl _ w).alloc (Nat.le_refl _) _).alloc (by simp) _)
 obtain ⟨r, hr⟩ : ∃ r, r = ltKn ⟨a0, a1, a2⟩ ⟨b0, b1, b2⟩ := ⟨_, rfl⟩
 rw [← hr]
 unfold ltKn at hr
 dsimp only at hr
 unfold slt at hr
 cases d0 : Op.bytesLess a0.toList b0.toList with
 | true =>
  rw [d0, Bool.true_or] at hr
  have HR := hI hr
  clear hr
  go_enter Tryz.func44, Tryz.ntmps44
  go_wp2
  go_returns
  exact ⟨by rw [HR.out]; rfl, HB.out⟩
 | false =>
  rw [d0, Bool.false_or] at hr
  by_cases h1 : a0 = b0
  · have e0 := str_is h1
    rw [decide_eq_true h1, Bool.true_and] at hr
    have HR := hI hr
    clear hr h1
    go_enter Tryz.func44, Tryz.ntmps44
    go_wp2
    go_returns
    exact ⟨by rw [HR.out]; rfl, HB.out⟩
  · have e0 := str_not h1
    rw [decide_eq_false h1, Bool.false_and] at hr
    have HR := hI hr
    clear hr h1
    go_enter Tryz.func44, Tryz.ntmps44
    go_wp2
    go_returns
    exact ⟨by rw [HR.out]; rfl, HB.out⟩
set_option maxRecDepth 100000 in
set_option maxHeartbeats 2000000 in
theorem ixlessPlaced_any (a b : Bk) (w : World) : Calls Tryz.prog 110 #[.agg a.vs.toArray, .agg b.vs.toArray] w fun e w' => e = .returned (.bool (ltBk a b)) ∧ Below w.heap.size w w' := by
 obtain ⟨a0, a1, a2⟩ := a
 obtain ⟨b0, b1, b2⟩ := b
 show Calls Tryz.prog 110 #[.agg #[.string a0, .int .i64 a1, .int .i64 a2], .agg #[.string b0, .int .i64 b1, .int .i64 b2]] w _
 have HB := hI (show Below w.heap.size w ((w.alloc (.cells #[.string a0, .int .i64 a1, .int .i64 a2] 66 (0, 0))).alloc (.cells #[.string b0, .int .i64 b1, .int .i64 b2] 66 (0, 0))) from ((Below.refl _ w).alloc (Nat.le_refl _) _).alloc (by simp) _)
 obtain ⟨r, hr⟩ : ∃ r, r = ltBk ⟨a0, a1, a2⟩ ⟨b0, b1, b2⟩ := ⟨_, rfl⟩
 rw [← hr]
 unfold ltBk at hr
 dsimp only at hr
 unfold slt at hr
 cases d0 : Op.bytesLess a0.toList b0.toList with
 | true =>
  rw [d0, Bool.true_or] at hr
  have HR := hI hr
  clear hr
  go_enter Tryz.func110, Tryz.ntmps110
  go_wp2
  go_returns
  exact ⟨by rw [HR.out]; rfl, HB.out⟩
 | false =>
  rw [d0, Bool.false_or] at hr
  by_cases h1 : a0 = b0
  · have e0 := str_is h1
    rw [decide_eq_true h1, Bool.true_and] at hr
    have HR := hI hr
    clear hr h1
    go_enter Tryz.func110, Tryz.ntmps110
    go_wp2
    go_returns
    exact ⟨by rw [HR.out]; rfl, HB.out⟩
  · have e0 := str_not h1
    rw [decide_eq_false h1, Bool.false_and] at hr
    have HR := hI hr
    clear hr h1
    go_enter Tryz.func110, Tryz.ntmps110
    go_wp2
    go_returns
    exact ⟨by rw [HR.out]; rfl, HB.out⟩
end Go.Proofs.YtngfknplljedeaaGreat
namespace Go.Proofs.YtngfknplljedeaaGreat
open Go.RowKit
section
variable {α : Type}
def ins (ge keep : α → Bool) (x : α) (s : List α × Bool) (y : α) : List α × Bool := ((s.1 ++ (if !s.2 && ge y then [x] else [])) ++ (if keep y then [y] else []), s.2 || ge y)
def insTo (ge keep : α → Bool) (x : α) (xs : List α) (i : Nat) : List α × Bool := (xs.take i).foldl (ins ge keep x) ([], false)
def putIn (ge keep : α → Bool) (x : α) (xs : List α) : List α := (insTo ge keep x xs xs.length).1 ++ (if (insTo ge keep x xs xs.length).2 then [] else [x])
def OwnAt (T : TypeId) (k : Nat) (f : α → List Value) (B : Nat) (v : Value) (xs : List α) (w : World) : Prop := w.ownsRow B T k v xs.length (xs.flatMap f)
theorem OwnAt.rows {T : TypeId} {k : Nat} {f : α → List Value} {B : Nat} {v : Value} {xs : List α} {w : World} (hf : ∀ x, (f x).length = k) (h : OwnAt T k f B v xs w) : RowsAt w.heap.size k f v xs w := RowsAt.own hf h
theorem OwnAt.more {T : TypeId} {k : Nat} {f : α → List Value} {B : Nat} {v : Value} {xs : List α} {x : α} {n : Nat} {w : World} (hn : n = xs.length) (h : w.ownsRow B T k v (n + 1) (xs.flatMap f ++ f x)) : OwnAt T k f B v (xs ++ [x]) w := by
 unfold OwnAt
 rw [List.length_append, List.length_singleton, ← hn, List.flatMap_append, List.flatMap_singleton]
 exact h
theorem OwnAt.row {T : TypeId} {k : Nat} {f : α → List Value} {B : Nat} {v : Value} {xs : List α} {n : Nat} {w : World} (h : OwnAt T k f B v xs w) (hn : n = xs.length) : w.ownsRow B T k v n (xs.flatMap f) := by
 subst hn
 exact h
theorem OwnAt.below {T : TypeId} {k : Nat} {f : α → List Value} {B : Nat} {v : Value} {xs : List α} {w w' : World} (h : OwnAt T k f B v xs w) (hb : Below w.heap.size w w') : OwnAt T k f B v xs w' := (Frm.of_below (F := fun _ => False) hb).own h fun _ _ e => e
end
end Go.Proofs.YtngfknplljedeaaGreat
namespace Go.Proofs.YtngfknplljedeaaGreat
open Go.RowKit
theorem Tryz.infoHd : (Tryz.prog.info? 49).map (fun i => (i.zero, i.size, i.bytes)) = some (some (.agg #[.int .i64 0, .int .i64 0, .string ⟨#[]⟩]), 3, 32) := by kernel_rfl
theorem Tryz.infoKn : (Tryz.prog.info? 61).map (fun i => (i.zero, i.size, i.bytes)) = some (some (.agg #[.string ⟨#[]⟩, .string ⟨#[]⟩, .string ⟨#[]⟩]), 3, 48) := by kernel_rfl
theorem Tryz.infoCd : (Tryz.prog.info? 57).map (fun i => (i.zero, i.size, i.bytes)) = some (some (.agg #[.string ⟨#[]⟩, .int .i64 0, .int .i64 0, .int .i64 0, .int .i64 0, .int .i64 0, .int .i64 0, .int .i64 0, .int .i64 0, .int .i64 0, .int .i64 0]), 11, 96) := by kernel_rfl
theorem Tryz.infoBk : (Tryz.prog.info? 66).map (fun i => (i.zero, i.size, i.bytes)) = some (some (.agg #[.string ⟨#[]⟩, .int .i64 0, .int .i64 0]), 3, 32) := by kernel_rfl
def tkn (x : Ch) (b : Bk) : Bool := decide (b.slot = x.slot) && (!decide (b.up = x.up) || !decide (b.no = x.no))
end Go.Proofs.YtngfknplljedeaaGreat
namespace Go.Proofs.YtngfknplljedeaaGreat
open Go.RowKit
section
variable {α : Type}
theorem OwnAt.low {T : TypeId} {k : Nat} {f : α → List Value} {B B' : Nat} {v : Value} {xs : List α} {w : World} (h : OwnAt T k f B v xs w) (hB : B' ≤ B) : OwnAt T k f B' v xs w := by
 refine ⟨h.1, ?_⟩
 rcases h.2 with e | ⟨g, cap, cur, hv, hb, rest⟩
 · exact .inl e
 · exact .inr ⟨g, cap, cur, hv, Nat.le_trans hB hb, rest⟩
theorem OwnAt.slice {T : TypeId} {k : Nat} {f : α → List Value} {B : Nat} {v : Value} {xs : List α} {w : World} (h : OwnAt T k f B v xs w) : ∃ a n c, v = .slice a n c := by
 rcases h.2 with ⟨hv, _⟩ | ⟨g, cap, cur, hv, _⟩ <;> exact ⟨_, _, _, hv⟩
end
end Go.Proofs.YtngfknplljedeaaGreat
namespace Go.Proofs.YtngfknplljedeaaGreat
open Go.RowKit
def CA.bare (c : CA) (u : ByteArray) : CA := ⟨c.helds, c.files, c.names.filter (fun y => !decide (y.dir = u)), c.blocks.filter (fun y => !decide (y.up = u))⟩
end Go.Proofs.YtngfknplljedeaaGreat
namespace Go.Proofs.YtngfknplljedeaaGreat
open Go.RowKit
section
variable {α : Type}
theorem rows_part {k : Nat} {f : α → List Value} {xs : List α} {w : World} {b off : Nat} (hf : ∀ x, (f x).length = k) (hx : ∀ i x, xs[i]? = some x → w.rangeAt b (off + i * k) (f x)) (s m : Nat) : ∀ j u, (((xs.drop s).take m).flatMap f)[j]? = some u → w.cell? ⟨b, off + s * k + j, none⟩ = some u := by
 intro j u hu
 have hj := (List.getElem?_eq_some_iff.1 hu).1
 rw [flat_length hf] at hj
 by_cases hk : k = 0
 · subst hk; omega
 · have hkp : 0 < k := by omega
   have hq : j / k < ((xs.drop s).take m).length := Nat.div_lt_of_lt_mul (by rw [Nat.mul_comm]; exact hj)
   have e1 := List.getElem?_eq_getElem hq
   have e2 : j / k * k + j % k = j := by rw [Nat.mul_comm]; exact Nat.div_add_mod j k
   have e3 := flat_at hf _ (j / k) _ e1 (j % k) (Nat.mod_lt _ hkp)
   rw [e2, hu] at e3
   have e4 : xs[s + j / k]? = some (((xs.drop s).take m)[j / k]) := by
    rw [← e1, List.getElem?_take, List.getElem?_drop]
    have : j / k < m := by have := hq; rw [List.length_take] at this; omega
    rw [if_pos this]
   have e5 := hx _ _ e4 (j % k) u e3.symm
   rw [Nat.add_mul, show off + (s * k + j / k * k) + j % k = off + s * k + (j / k * k + j % k) from by omega, e2] at e5
   exact e5
end
end Go.Proofs.YtngfknplljedeaaGreat
namespace Go.Proofs.YtngfknplljedeaaGreat
open Go.RowKit
def CA.goes (c : CA) (x : Ch) : CA × Bool :=
 if x.kind = 2 then (if fnd (pHeld x.epoch x.serial) c.helds < 0 then (c, false) else (⟨c.helds.eraseIdx (fnd (pHeld x.epoch x.serial) c.helds).toNat, c.files, c.names, c.blocks⟩, true))
 else if x.kind = 4 then (if fnd (pFile x.up) c.files < 0 then (c, false) else (⟨c.helds, c.files.eraseIdx (fnd (pFile x.up) c.files).toNat, (c.bare x.up).names, (c.bare x.up).blocks⟩, true))
 else if x.kind = 5 then (if fnd (pFile x.up) c.files < 0 then (c, false) else (c.bare x.up, true))
 else if x.kind = 7 then (if fnd (pName x.up x.name) c.names < 0 then (c, false) else (⟨c.helds, c.files, c.names.eraseIdx (fnd (pName x.up x.name) c.names).toNat, c.blocks⟩, true))
 else (if fnd (pBlock x.up x.no) c.blocks < 0 then (c, false) else (⟨c.helds, c.files, c.names, c.blocks.eraseIdx (fnd (pBlock x.up x.no) c.blocks).toNat⟩, true))
theorem CAt.raise {B B' : Nat} {cs : List Value} {c : CA} {w : World} (h : CAt B cs c w) (hB : B ≤ B') : CAt B' cs c w := by
 obtain ⟨v1, v2, v3, v4, e, h1, h2, h3, h4⟩ := h
 exact ⟨v1, v2, v3, v4, e, h1.raise hB, h2.raise hB, h3.raise hB, h4.raise hB⟩
def CA.apply (c : CA) (x : Ch) : CA × Bool :=
 if x.ok = false then (c, false)
 else if x.kind = 1 then (if 0 ≤ fnd (pHeld x.epoch x.serial) c.helds ∨ 0 ≤ fnd (pIssued x.up) c.helds then (c, false) else (⟨putIn (fun y => !ltHd y ⟨x.epoch, x.serial, x.up⟩) (fun _ => true) ⟨x.epoch, x.serial, x.up⟩ c.helds, c.files, c.names, c.blocks⟩, true))
 else if x.kind = 3 then (⟨c.helds, putIn (fun y => !slt y.up x.up) (fun y => !decide (y.up = x.up)) ⟨x.up, x.attr⟩ c.files, c.names, c.blocks⟩, true)
 else if x.kind = 6 then (if fnd (pFile x.up) c.files < 0 then (c, false) else (⟨c.helds, c.files, putIn (fun y => !ltKn y ⟨x.up, x.name, x.child⟩) (fun y => !(decide (y.dir = x.up) && decide (y.name = x.name))) ⟨x.up, x.name, x.child⟩ c.names, c.blocks⟩, true))
 else if x.kind = 8 then (if fnd (pFile x.up) c.files < 0 ∨ c.blocks.any (tkn x) = true then (c, false) else (⟨c.helds, c.files, c.names, putIn (fun y => !ltBk y ⟨x.up, x.no, x.slot⟩) (fun y => !(decide (y.up = x.up) && decide (y.no = x.no))) ⟨x.up, x.no, x.slot⟩ c.blocks⟩, true))
 else c.goes x
end Go.Proofs.YtngfknplljedeaaGreat
namespace Go.Proofs.YtngfknplljedeaaGreat
section
variable {α : Type}
theorem tw_mem {p : α → Bool} : ∀ {xs : List α} {y : α}, y ∈ xs.takeWhile p → p y = true
 | [], y, h => by simp at h
 | z :: xs, y, h => by
  rw [List.takeWhile_cons] at h
  by_cases hz : p z = true
  · rw [if_pos hz] at h
    rcases List.mem_cons.1 h with rfl | h
    · exact hz
    · exact tw_mem h
  · rw [if_neg hz] at h
    simp at h
theorem dw_head {p : α → Bool} : ∀ {xs : List α} {z : α} {zs : List α}, xs.dropWhile p = z :: zs → p z = false
 | [], z, zs, h => by simp at h
 | y :: xs, z, zs, h => by
  rw [List.dropWhile_cons] at h
  by_cases hy : p y = true
  · rw [if_pos hy] at h
    exact dw_head h
  · rw [if_neg hy] at h
    cases h
    simpa using hy
theorem foldl_ins_done (ge keep : α → Bool) (x : α) : ∀ (xs out : List α), xs.foldl (ins ge keep x) (out, true) = (out ++ xs.filter keep, true)
 | [], out => by simp
 | y :: xs, out => by
  rw [List.foldl_cons, show ins ge keep x (out, true) y = (out ++ (if keep y then [y] else []), true) from by simp [ins], foldl_ins_done ge keep x xs]
  cases h : keep y <;> simp [h]
theorem foldl_ins (ge keep : α → Bool) (x : α) : ∀ (xs out : List α), (xs.foldl (ins ge keep x) (out, false)).1 ++ (if (xs.foldl (ins ge keep x) (out, false)).2 then [] else [x]) = out ++ (xs.takeWhile (fun y => !ge y)).filter keep ++ x :: (xs.dropWhile (fun y => !ge y)).filter keep
 | [], out => by simp
 | y :: xs, out => by
  rw [List.foldl_cons]
  cases h : ge y with
  | true =>
   rw [show ins ge keep x (out, false) y = (out ++ [x] ++ (if keep y then [y] else []), true) from by simp [ins, h], foldl_ins_done]
   cases hk : keep y <;> simp [h, hk]
  | false =>
   rw [show ins ge keep x (out, false) y = (out ++ (if keep y then [y] else []), false) from by simp [ins, h], foldl_ins ge keep x xs]
   cases hk : keep y <;> simp [h, hk]
theorem putIn_eq (ge keep : α → Bool) (x : α) (xs : List α) : putIn ge keep x xs = (xs.takeWhile (fun y => !ge y)).filter keep ++ x :: (xs.dropWhile (fun y => !ge y)).filter keep := by
 unfold putIn insTo
 rw [List.take_length, foldl_ins]
 simp
theorem mem_putIn {ge keep : α → Bool} {x z : α} {xs : List α} : z ∈ putIn ge keep x xs ↔ z = x ∨ (z ∈ xs ∧ keep z = true) := by
 rw [putIn_eq, List.mem_append, List.mem_cons, List.mem_filter, List.mem_filter]
 have : z ∈ xs ↔ z ∈ xs.takeWhile (fun y => !ge y) ∨ z ∈ xs.dropWhile (fun y => !ge y) := by
  rw [← List.mem_append, List.takeWhile_append_dropWhile]
 rw [this]
 constructor
 · rintro (⟨h, k⟩ | rfl | ⟨h, k⟩)
   · exact .inr ⟨.inl h, k⟩
   · exact .inl rfl
   · exact .inr ⟨.inr h, k⟩
 · rintro (rfl | ⟨h | h, k⟩)
   · exact .inr (.inl rfl)
   · exact .inl ⟨h, k⟩
   · exact .inr (.inr ⟨h, k⟩)
theorem putIn_length {ge keep : α → Bool} {x : α} {xs : List α} : (putIn ge keep x xs).length ≤ xs.length + 1 := by
 rw [putIn_eq, List.length_append, List.length_cons]
 have h1 := List.length_filter_le keep (xs.takeWhile (fun y => !ge y))
 have h2 := List.length_filter_le keep (xs.dropWhile (fun y => !ge y))
 have h3 : (xs.takeWhile (fun y => !ge y)).length + (xs.dropWhile (fun y => !ge y)).length = xs.length := by
  rw [← List.length_append, List.takeWhile_append_dropWhile]
 omega
theorem putIn_pairs {R : α → α → Prop} {ge keep : α → Bool} {x : α} {xs : List α} (h : xs.Pairwise R) (hx : ∀ y ∈ xs, keep y = true → R y x ∧ R x y) : (putIn ge keep x xs).Pairwise R := by
 rw [putIn_eq, List.pairwise_append, List.pairwise_cons]
 have hs : xs = xs.takeWhile (fun y => !ge y) ++ xs.dropWhile (fun y => !ge y) := List.takeWhile_append_dropWhile.symm
 rw [hs, List.pairwise_append] at h
 obtain ⟨h1, h2, h3⟩ := h
 have m1 : ∀ y ∈ xs.takeWhile (fun y => !ge y), y ∈ xs := fun y hy => by rw [hs]; exact List.mem_append_left _ hy
 have m2 : ∀ y ∈ xs.dropWhile (fun y => !ge y), y ∈ xs := fun y hy => by rw [hs]; exact List.mem_append_right _ hy
 refine ⟨h1.filter _, ⟨fun y hy => ?_, h2.filter _⟩, fun y hy z hz => ?_⟩
 · obtain ⟨hy, hk⟩ := List.mem_filter.1 hy
   exact (hx y (m2 y hy) hk).2
 · obtain ⟨hy, hk⟩ := List.mem_filter.1 hy
   rcases List.mem_cons.1 hz with rfl | hz
   · exact (hx y (m1 y hy) hk).1
   · exact h3 y hy z (List.mem_filter.1 hz).1
theorem putIn_rises {lt : α → α → Bool} {ge keep : α → Bool} {x : α} {xs : List α} (hge : ∀ y, ge y = !lt y x) (ht : ∀ a b c, lt a b = true → lt b c = true → lt a c = true) (h : xs.Pairwise fun a b => lt a b = true)
 (hk : ∀ y ∈ xs, keep y = true → lt y x = false → lt x y = true) : (putIn ge keep x xs).Pairwise fun a b => lt a b = true := by
 rw [putIn_eq, List.pairwise_append, List.pairwise_cons]
 have hs : xs = xs.takeWhile (fun y => !ge y) ++ xs.dropWhile (fun y => !ge y) := List.takeWhile_append_dropWhile.symm
 rw [hs, List.pairwise_append] at h
 obtain ⟨h1, h2, h3⟩ := h
 have m2 : ∀ y ∈ xs.dropWhile (fun y => !ge y), y ∈ xs := fun y hy => by rw [hs]; exact List.mem_append_right _ hy
 have a1 : ∀ y ∈ xs.takeWhile (fun y => !ge y), lt y x = true := fun y hy => by
  have := tw_mem hy
  simp only [hge, Bool.not_not] at this
  exact this
 have a2 : ∀ y ∈ xs.dropWhile (fun y => !ge y), lt y x = false := by
  cases hd : xs.dropWhile (fun y => !ge y) with
  | nil => intro y hy; simp at hy
  | cons z zs =>
   have hz : lt z x = false := by
    have := dw_head hd
    simp only [hge, Bool.not_not] at this
    exact this
   rw [hd, List.pairwise_cons] at h2
   intro y hy
   rcases List.mem_cons.1 hy with rfl | hy
   · exact hz
   · cases e : lt y x with
     | false => rfl
     | true => rw [ht z y x (h2.1 y hy) e] at hz; cases hz
 refine ⟨h1.filter _, ⟨fun y hy => ?_, h2.filter _⟩, fun y hy z hz => ?_⟩
 · obtain ⟨hy, hky⟩ := List.mem_filter.1 hy
   exact hk y (m2 y hy) hky (a2 y hy)
 · obtain ⟨hy, hky⟩ := List.mem_filter.1 hy
   rcases List.mem_cons.1 hz with rfl | hz
   · exact a1 y hy
   · exact h3 y hy z (List.mem_filter.1 hz).1
end
end Go.Proofs.YtngfknplljedeaaGreat
namespace Go.Proofs.YtngfknplljedeaaGreat
theorem bl_irr : ∀ x : List UInt8, Op.bytesLess x x = false
 | [] => rfl
 | a :: x => by simp [Op.bytesLess, bl_irr x]
theorem bl_trans : ∀ x y z : List UInt8, Op.bytesLess x y = true → Op.bytesLess y z = true → Op.bytesLess x z = true
 | [], [], z, h, _ => by simp [Op.bytesLess] at h
 | a :: x, [], z, h, _ => by simp [Op.bytesLess] at h
 | x, b :: y, [], _, h => by simp [Op.bytesLess] at h
 | [], b :: y, c :: z, _, _ => by simp [Op.bytesLess]
 | a :: x, b :: y, c :: z, h, g => by
  simp only [Op.bytesLess, Bool.or_eq_true, decide_eq_true_eq, Bool.and_eq_true, beq_iff_eq] at h g ⊢
  rcases h with h | ⟨rfl, h⟩
  · rcases g with g | ⟨rfl, g⟩
    · exact .inl (UInt8.lt_trans h g)
    · exact .inl h
  · rcases g with g | ⟨rfl, g⟩
    · exact .inl g
    · exact .inr ⟨rfl, bl_trans x y z h g⟩
theorem bl_tri : ∀ x y : List UInt8, Op.bytesLess x y = false → Op.bytesLess y x = false → x = y
 | [], [], _, _ => rfl
 | a :: x, [], _, h => by simp [Op.bytesLess] at h
 | [], b :: y, h, _ => by simp [Op.bytesLess] at h
 | a :: x, b :: y, h, g => by
  simp only [Op.bytesLess, Bool.or_eq_false_iff, decide_eq_false_iff_not, Bool.and_eq_false_iff, beq_eq_false_iff_ne] at h g
  have e : a = b := by
   have h1 := h.1
   have g1 := g.1
   rw [UInt8.not_lt] at h1 g1
   exact UInt8.le_antisymm g1 h1
  subst e
  rw [bl_tri x y (by rcases h.2 with h | h; exact absurd rfl h; exact h) (by rcases g.2 with h | h; exact absurd rfl h; exact h)]
theorem bytes_ext {a b : ByteArray} (h : a.toList = b.toList) : a = b := by
 rw [Lib.toList_data, Lib.toList_data] at h
 exact ByteArray.ext (Array.toList_inj.1 h)
theorem slt_irr (a : ByteArray) : slt a a = false := bl_irr _
theorem slt_trans (a b c : ByteArray) (h : slt a b = true) (g : slt b c = true) : slt a c = true := bl_trans _ _ _ h g
theorem slt_tri (a b : ByteArray) (h : slt a b = false) (g : slt b a = false) : a = b := bytes_ext (bl_tri _ _ h g)
theorem ltHd_trans (a b c : Hd) (h : ltHd a b = true) (g : ltHd b c = true) : ltHd a c = true := by
 simp only [ltHd, Bool.or_eq_true, Bool.and_eq_true, decide_eq_true_eq] at h g ⊢
 omega
theorem ltHd_tri (a b : Hd) (h : ltHd a b = false) (g : ltHd b a = false) : a.epoch = b.epoch ∧ a.serial = b.serial := by
 simp only [ltHd, Bool.or_eq_false_iff, Bool.and_eq_false_iff, decide_eq_false_iff_not] at h g
 omega
theorem ltKn_trans (a b c : Kn) (h : ltKn a b = true) (g : ltKn b c = true) : ltKn a c = true := by
 simp only [ltKn, Bool.or_eq_true, Bool.and_eq_true, decide_eq_true_eq] at h g ⊢
 rcases h with h | ⟨h, h2⟩
 · rcases g with g | ⟨g, g2⟩
   · exact .inl (slt_trans _ _ _ h g)
   · exact .inl (by rw [← g]; exact h)
 · rcases g with g | ⟨g, g2⟩
   · exact .inl (by rw [h]; exact g)
   · exact .inr ⟨h.trans g, slt_trans _ _ _ h2 g2⟩
theorem ltKn_tri (a b : Kn) (h : ltKn a b = false) (g : ltKn b a = false) : a.dir = b.dir ∧ a.name = b.name := by
 simp only [ltKn, Bool.or_eq_false_iff, Bool.and_eq_false_iff, decide_eq_false_iff_not] at h g
 have e := slt_tri _ _ h.1 g.1
 refine ⟨e, slt_tri _ _ ?_ ?_⟩
 · rcases h.2 with h | h
   · exact absurd e h
   · exact h
 · rcases g.2 with g | g
   · exact absurd e.symm g
   · exact g
theorem ltBk_trans (a b c : Bk) (h : ltBk a b = true) (g : ltBk b c = true) : ltBk a c = true := by
 simp only [ltBk, Bool.or_eq_true, Bool.and_eq_true, decide_eq_true_eq] at h g ⊢
 rcases h with h | ⟨h, h2⟩
 · rcases g with g | ⟨g, g2⟩
   · exact .inl (slt_trans _ _ _ h g)
   · exact .inl (by rw [← g]; exact h)
 · rcases g with g | ⟨g, g2⟩
   · exact .inl (by rw [h]; exact g)
   · exact .inr ⟨h.trans g, by omega⟩
theorem ltBk_tri (a b : Bk) (h : ltBk a b = false) (g : ltBk b a = false) : a.up = b.up ∧ a.no = b.no := by
 simp only [ltBk, Bool.or_eq_false_iff, Bool.and_eq_false_iff, decide_eq_false_iff_not] at h g
 have e := slt_tri _ _ h.1 g.1
 refine ⟨e, ?_⟩
 have h2 : ¬ a.no < b.no := by
  rcases h.2 with h | h
  · exact absurd e h
  · exact h
 have g2 : ¬ b.no < a.no := by
  rcases g.2 with g | g
  · exact absurd e.symm g
  · exact g
 omega
structure CA.Ok (c : CA) : Prop where
 files : c.files.Pairwise fun a b => slt a.up b.up = true
 names : c.names.Pairwise fun a b => ltKn a b = true
 dirs : ∀ x ∈ c.names, ∃ f ∈ c.files, f.up = x.dir
 chs : ∀ x ∈ c.changes, x.ok = true
 helds : c.helds.Pairwise fun a b => ltHd a b = true
 ups : c.helds.Pairwise fun a b => a.up ≠ b.up
 blocks : c.blocks.Pairwise fun a b => ltBk a b = true
 ofs : ∀ x ∈ c.blocks, ∃ f ∈ c.files, f.up = x.up
 slots : c.blocks.Pairwise fun a b => a.slot ≠ b.slot
def CA.none : CA := ⟨[], [], [], []⟩
theorem CA.none_ok : CA.none.Ok := ⟨.nil, .nil, by simp [CA.none], by simp [CA.none, CA.changes], .nil, .nil, .nil, by simp [CA.none], .nil⟩
theorem CA.mem_changes {c : CA} {x : Ch} : x ∈ c.changes ↔ (∃ y ∈ c.helds, y.ch = x) ∨ (∃ y ∈ c.files, y.ch = x) ∨ (∃ y ∈ c.names, y.ch = x) ∨ ∃ y ∈ c.blocks, y.ch = x := by
 simp only [CA.changes, List.mem_append, List.mem_map, or_assoc]
theorem textB_no {s : ByteArray} {lo hi : Int} (h : textB false s lo hi = true) : s = ⟨#[]⟩ := by simpa [textB] using h
theorem numB_no {n lo hi : Int} (h : numB false n lo hi = true) : n = 0 := by simpa [numB] using h
theorem okA_no {x : Ch} (hh : x.has 97 = false) (h : x.okA = true) : x.attr = Pa.zero := by simpa [Ch.okA, hh] using h
theorem Ch.ok_parts {x : Ch} (h : x.ok = true) : x.okA = true ∧ numB (x.has 101) x.epoch 1 4294967295 = true ∧ numB (x.has 115) x.serial 1 9223372036854775807 = true ∧ textB (x.has 117) x.up 1 64 = true ∧ textB (x.has 110) x.name 1 255 = true ∧ textB (x.has 99) x.child 0 64 = true ∧ numB (x.has 98) x.no 0 65535 = true ∧ numB (x.has 116) x.slot 0 65535 = true := by
 unfold Ch.ok at h
 simp only [Bool.and_eq_true] at h
 exact ⟨h.2.1, h.2.2.1, h.2.2.2.1, h.2.2.2.2.1, h.2.2.2.2.2.1, h.2.2.2.2.2.2.1, h.2.2.2.2.2.2.2.1, h.2.2.2.2.2.2.2.2⟩
theorem Ch.ok_hold {x : Ch} (h : x.ok = true) (hk : x.kind = 1) : x = Hd.ch ⟨x.epoch, x.serial, x.up⟩ := by
 obtain ⟨h1, h2, h3, h4, h5, h6, h7, h8⟩ := x.ok_parts h
 obtain ⟨k, e, s, u, n, c, a, no, sl⟩ := x
 simp only at hk
 subst hk
 rw [show a = Pa.zero from okA_no rfl h1, show n = ⟨#[]⟩ from textB_no h5, show c = ⟨#[]⟩ from textB_no h6, show no = 0 from numB_no h7, show sl = 0 from numB_no h8]
 rfl
theorem Ch.ok_file {x : Ch} (h : x.ok = true) (hk : x.kind = 3) : x = Cd.ch ⟨x.up, x.attr⟩ := by
 obtain ⟨h1, h2, h3, h4, h5, h6, h7, h8⟩ := x.ok_parts h
 obtain ⟨k, e, s, u, n, c, a, no, sl⟩ := x
 simp only at hk
 subst hk
 rw [show e = 0 from numB_no h2, show s = 0 from numB_no h3, show n = ⟨#[]⟩ from textB_no h5, show c = ⟨#[]⟩ from textB_no h6, show no = 0 from numB_no h7, show sl = 0 from numB_no h8]
 rfl
theorem Ch.ok_name {x : Ch} (h : x.ok = true) (hk : x.kind = 6) : x = Kn.ch ⟨x.up, x.name, x.child⟩ := by
 obtain ⟨h1, h2, h3, h4, h5, h6, h7, h8⟩ := x.ok_parts h
 obtain ⟨k, e, s, u, n, c, a, no, sl⟩ := x
 simp only at hk
 subst hk
 rw [show a = Pa.zero from okA_no rfl h1, show e = 0 from numB_no h2, show s = 0 from numB_no h3, show no = 0 from numB_no h7, show sl = 0 from numB_no h8]
 rfl
theorem Ch.ok_block {x : Ch} (h : x.ok = true) (hk : x.kind = 8) : x = Bk.ch ⟨x.up, x.no, x.slot⟩ := by
 obtain ⟨h1, h2, h3, h4, h5, h6, h7, h8⟩ := x.ok_parts h
 obtain ⟨k, e, s, u, n, c, a, no, sl⟩ := x
 simp only at hk
 subst hk
 rw [show a = Pa.zero from okA_no rfl h1, show e = 0 from numB_no h2, show s = 0 from numB_no h3, show n = ⟨#[]⟩ from textB_no h5, show c = ⟨#[]⟩ from textB_no h6]
 rfl
end Go.Proofs.YtngfknplljedeaaGreat
namespace Go.Proofs.YtngfknplljedeaaGreat
section
variable {α : Type}
theorem fnd_neg {p : α → Bool} {xs : List α} (h : fnd p xs < 0) : ∀ x ∈ xs, p x = false := by
 rcases fnd_cases p xs with ⟨_, h2⟩ | ⟨i, x, h1, _⟩
 · exact h2
 · rw [h1] at h; omega
theorem fnd_pos {p : α → Bool} {xs : List α} (h : ¬ fnd p xs < 0) : ∃ (i : Nat) (x : α), fnd p xs = i ∧ xs[i]? = some x ∧ p x = true := by
 rcases fnd_cases p xs with ⟨h1, _⟩ | ⟨i, x, h1, h2, h3, _⟩
 · rw [h1] at h; omega
 · exact ⟨i, x, h1, h2, h3⟩
theorem any_hit' {p : α → Bool} {xs : List α} {y : α} (hy : y ∈ xs) (hp : p y = true) : xs.any p = true := List.any_eq_true.2 ⟨y, hy, hp⟩
theorem mem_erase_ne {xs : List α} {i : Nat} {x y : α} (h : xs[i]? = some x) (hy : y ∈ xs) (hne : y ≠ x) : y ∈ xs.eraseIdx i := by
 obtain ⟨j, hj, rfl⟩ := List.getElem_of_mem hy
 rw [List.mem_eraseIdx_iff_getElem]
 refine ⟨j, hj, ?_, rfl⟩
 rintro rfl
 rw [List.getElem?_eq_getElem hj] at h
 exact hne (Option.some.inj h)
end
end Go.Proofs.YtngfknplljedeaaGreat
namespace Go.Proofs.YtngfknplljedeaaGreat
theorem CA.Ok.of {c d : CA} (h : c.Ok) (hh : d.helds.Sublist c.helds) (hf : d.files = c.files) (hn : d.names.Sublist c.names) (hb : d.blocks.Sublist c.blocks) : d.Ok := by
 refine ⟨by rw [hf]; exact h.files, h.names.sublist hn, ?_, ?_, h.helds.sublist hh, h.ups.sublist hh, h.blocks.sublist hb, ?_, h.slots.sublist hb⟩
 · intro x hx
   rw [hf]
   exact h.dirs x (hn.subset hx)
 · intro x hx
   refine h.chs x (CA.mem_changes.2 ?_)
   rcases CA.mem_changes.1 hx with ⟨y, hy, e⟩ | ⟨y, hy, e⟩ | ⟨y, hy, e⟩ | ⟨y, hy, e⟩
   · exact .inl ⟨y, hh.subset hy, e⟩
   · exact .inr (.inl ⟨y, hf ▸ hy, e⟩)
   · exact .inr (.inr (.inl ⟨y, hn.subset hy, e⟩))
   · exact .inr (.inr (.inr ⟨y, hb.subset hy, e⟩))
 · intro x hx
   rw [hf]
   exact h.ofs x (hb.subset hx)
theorem CA.Ok.hold {c : CA} (h : c.Ok) {z : Hd} (hz : z.ch.ok = true) (h1 : ∀ y ∈ c.helds, pHeld z.epoch z.serial y = false) (h2 : ∀ y ∈ c.helds, pIssued z.up y = false) (keep : Hd → Bool) :
 (CA.mk (putIn (fun y => !ltHd y z) keep z c.helds) c.files c.names c.blocks).Ok := by
 refine ⟨h.files, h.names, h.dirs, ?_, putIn_rises (fun _ => rfl) ltHd_trans h.helds ?_, putIn_pairs h.ups ?_, h.blocks, h.ofs, h.slots⟩
 · intro x hx
   rcases CA.mem_changes.1 hx with ⟨y, hy, e⟩ | hx
   · rcases mem_putIn.1 hy with rfl | ⟨hy, _⟩
     · rw [← e]; exact hz
     · exact h.chs x (CA.mem_changes.2 (.inl ⟨y, hy, e⟩))
   · exact h.chs x (CA.mem_changes.2 (.inr hx))
 · intro y hy _ hl
   cases e : ltHd z y with
   | true => rfl
   | false =>
    have := ltHd_tri y z hl e
    have h3 := h1 y hy
    simp [pHeld, this.1, this.2] at h3
 · intro y hy _
   have h3 := h2 y hy
   simp only [pIssued, decide_eq_false_iff_not] at h3
   exact ⟨h3, fun e => h3 e.symm⟩
theorem CA.Ok.file {c : CA} (h : c.Ok) {z : Cd} (hz : z.ch.ok = true) : (CA.mk c.helds (putIn (fun y => !slt y.up z.up) (fun y => !decide (y.up = z.up)) z c.files) c.names c.blocks).Ok := by
 have hup : ∀ u, (∃ f ∈ c.files, f.up = u) → ∃ f ∈ putIn (fun y => !slt y.up z.up) (fun y => !decide (y.up = z.up)) z c.files, f.up = u := by
  rintro u ⟨f, hf, rfl⟩
  by_cases e : f.up = z.up
  · exact ⟨z, mem_putIn.2 (.inl rfl), e.symm⟩
  · exact ⟨f, mem_putIn.2 (.inr ⟨hf, by simp [e]⟩), rfl⟩
 refine ⟨putIn_rises (lt := fun (a b : Cd) => slt a.up b.up) (fun _ => rfl) (fun a b c => slt_trans _ _ _) h.files ?_, h.names, fun x hx => hup _ (h.dirs x hx), ?_, h.helds, h.ups, h.blocks, fun x hx => hup _ (h.ofs x hx), h.slots⟩
 · intro y hy hk hl
   cases e : slt z.up y.up with
   | true => rfl
   | false =>
    have := slt_tri _ _ hl e
    simp [this] at hk
 · intro x hx
   rcases CA.mem_changes.1 hx with hx | ⟨y, hy, e⟩ | hx
   · exact h.chs x (CA.mem_changes.2 (.inl hx))
   · rcases mem_putIn.1 hy with rfl | ⟨hy, _⟩
     · rw [← e]; exact hz
     · exact h.chs x (CA.mem_changes.2 (.inr (.inl ⟨y, hy, e⟩)))
   · exact h.chs x (CA.mem_changes.2 (.inr (.inr hx)))
theorem CA.Ok.name {c : CA} (h : c.Ok) {z : Kn} (hz : z.ch.ok = true) (hf : ∃ f ∈ c.files, f.up = z.dir) :
 (CA.mk c.helds c.files (putIn (fun y => !ltKn y z) (fun y => !(decide (y.dir = z.dir) && decide (y.name = z.name))) z c.names) c.blocks).Ok := by
 refine ⟨h.files, putIn_rises (fun _ => rfl) ltKn_trans h.names ?_, ?_, ?_, h.helds, h.ups, h.blocks, h.ofs, h.slots⟩
 · intro y hy hk hl
   cases e : ltKn z y with
   | true => rfl
   | false =>
    have := ltKn_tri y z hl e
    simp [this.1, this.2] at hk
 · intro x hx
   rcases mem_putIn.1 hx with rfl | ⟨hx, _⟩
   · exact hf
   · exact h.dirs x hx
 · intro x hx
   rcases CA.mem_changes.1 hx with hx | hx | ⟨y, hy, e⟩ | hx
   · exact h.chs x (CA.mem_changes.2 (.inl hx))
   · exact h.chs x (CA.mem_changes.2 (.inr (.inl hx)))
   · rcases mem_putIn.1 hy with rfl | ⟨hy, _⟩
     · rw [← e]; exact hz
     · exact h.chs x (CA.mem_changes.2 (.inr (.inr (.inl ⟨y, hy, e⟩))))
   · exact h.chs x (CA.mem_changes.2 (.inr (.inr (.inr hx))))
theorem CA.Ok.block {c : CA} (h : c.Ok) {z : Bk} (hz : z.ch.ok = true) (hf : ∃ f ∈ c.files, f.up = z.up) (hs : ∀ y ∈ c.blocks, y.slot = z.slot → y.up = z.up ∧ y.no = z.no) :
 (CA.mk c.helds c.files c.names (putIn (fun y => !ltBk y z) (fun y => !(decide (y.up = z.up) && decide (y.no = z.no))) z c.blocks)).Ok := by
 refine ⟨h.files, h.names, h.dirs, ?_, h.helds, h.ups, putIn_rises (fun _ => rfl) ltBk_trans h.blocks ?_, ?_, putIn_pairs h.slots ?_⟩
 · intro x hx
   rcases CA.mem_changes.1 hx with hx | hx | hx | ⟨y, hy, e⟩
   · exact h.chs x (CA.mem_changes.2 (.inl hx))
   · exact h.chs x (CA.mem_changes.2 (.inr (.inl hx)))
   · exact h.chs x (CA.mem_changes.2 (.inr (.inr (.inl hx))))
   · rcases mem_putIn.1 hy with rfl | ⟨hy, _⟩
     · rw [← e]; exact hz
     · exact h.chs x (CA.mem_changes.2 (.inr (.inr (.inr ⟨y, hy, e⟩))))
 · intro y hy hk hl
   cases e : ltBk z y with
   | true => rfl
   | false =>
    have := ltBk_tri y z hl e
    simp [this.1, this.2] at hk
 · intro x hx
   rcases mem_putIn.1 hx with rfl | ⟨hx, _⟩
   · exact hf
   · exact h.ofs x hx
 · intro y hy hk
   have hne : y.slot ≠ z.slot := by
    intro e
    have := hs y hy e
    simp [this.1, this.2] at hk
   exact ⟨hne, fun e => hne e.symm⟩
theorem CA.Ok.gone {c : CA} (h : c.Ok) {u : ByteArray} {i : Nat} {f : Cd} (hi : c.files[i]? = some f) (hu : f.up = u) : (CA.mk c.helds (c.files.eraseIdx i) (c.bare u).names (c.bare u).blocks).Ok := by
 have hup : ∀ v, v ≠ u → (∃ g ∈ c.files, g.up = v) → ∃ g ∈ c.files.eraseIdx i, g.up = v := by
  rintro v hv ⟨g, hg, rfl⟩
  exact ⟨g, mem_erase_ne hi hg (fun e => hv (by rw [e, hu])), rfl⟩
 have hn : ∀ x, x ∈ (c.bare u).names → x ∈ c.names ∧ x.dir ≠ u := by
  intro x hx
  simpa [CA.bare] using hx
 have hb : ∀ x, x ∈ (c.bare u).blocks → x ∈ c.blocks ∧ x.up ≠ u := by
  intro x hx
  simpa [CA.bare] using hx
 refine ⟨h.files.sublist (List.eraseIdx_sublist _ _), h.names.filter _, ?_, ?_, h.helds, h.ups, h.blocks.filter _, ?_, h.slots.filter _⟩
 · intro x hx
   exact hup _ (hn x hx).2 (h.dirs x (hn x hx).1)
 · intro x hx
   refine h.chs x (CA.mem_changes.2 ?_)
   rcases CA.mem_changes.1 hx with ⟨y, hy, e⟩ | ⟨y, hy, e⟩ | ⟨y, hy, e⟩ | ⟨y, hy, e⟩
   · exact .inl ⟨y, hy, e⟩
   · exact .inr (.inl ⟨y, (List.eraseIdx_sublist _ _).subset hy, e⟩)
   · exact .inr (.inr (.inl ⟨y, (hn y hy).1, e⟩))
   · exact .inr (.inr (.inr ⟨y, (hb y hy).1, e⟩))
 · intro x hx
   exact hup _ (hb x hx).2 (h.ofs x (hb x hx).1)
theorem CA.Ok.goes {c : CA} (h : c.Ok) (x : Ch) : (c.goes x).1.Ok := by
 unfold CA.goes
 split
 · split
   · exact h
   · exact h.of (List.eraseIdx_sublist _ _) rfl (List.Sublist.refl _) (List.Sublist.refl _)
 split
 · rename_i hk2 hk
   split
   · exact h
   · rename_i hf
     obtain ⟨i, f, e, hi, hp⟩ := fnd_pos hf
     rw [e, Int.toNat_natCast]
     exact h.gone hi (by simpa [pFile] using hp)
 split
 · split
   · exact h
   · exact h.of (List.Sublist.refl _) rfl List.filter_sublist List.filter_sublist
 split
 · split
   · exact h
   · exact h.of (List.Sublist.refl _) rfl (List.eraseIdx_sublist _ _) (List.Sublist.refl _)
 · split
   · exact h
   · exact h.of (List.Sublist.refl _) rfl (List.Sublist.refl _) (List.eraseIdx_sublist _ _)
theorem has_file {c : CA} {u : ByteArray} (h : ¬ fnd (pFile u) c.files < 0) : ∃ f ∈ c.files, f.up = u := by
 obtain ⟨i, f, _, hi, hp⟩ := fnd_pos h
 exact ⟨f, List.mem_of_getElem? hi, by simpa [pFile] using hp⟩
theorem CA.Ok.apply {c : CA} (h : c.Ok) (x : Ch) : (c.apply x).1.Ok := by
 unfold CA.apply
 split
 · exact h
 rename_i hok
 have hok : x.ok = true := by simpa using hok
 split
 · rename_i hk
   split
   · exact h
   · rename_i hn
     rw [not_or, Int.not_le, Int.not_le] at hn
     exact h.hold (by rw [← x.ok_hold hok hk]; exact hok) (fnd_neg hn.1) (fnd_neg hn.2) _
 split
 · rename_i hk
   exact h.file (z := ⟨x.up, x.attr⟩) (by rw [← x.ok_file hok hk]; exact hok)
 split
 · rename_i hk
   split
   · exact h
   · rename_i hf
     exact h.name (z := ⟨x.up, x.name, x.child⟩) (by rw [← x.ok_name hok hk]; exact hok) (has_file hf)
 split
 · rename_i hk
   split
   · exact h
   · rename_i hf
     rw [not_or] at hf
     refine h.block (z := ⟨x.up, x.no, x.slot⟩) (by rw [← x.ok_block hok hk]; exact hok) (has_file hf.1) ?_
     intro y hy e
     have := fun g => hf.2 (any_hit' hy g)
     simp only [tkn, Bool.and_eq_true, decide_eq_true_eq, Bool.or_eq_true, Bool.not_eq_true', decide_eq_false_iff_not] at this
     have e2 : y.slot = x.slot := e
     constructor
     · exact Classical.byContradiction fun g => this ⟨e2, .inl g⟩
     · exact Classical.byContradiction fun g => this ⟨e2, .inr g⟩
 · exact h.goes x
def CA.allFrom : CA → List Ch → CA × Bool
 | c, [] => (c, true)
 | c, x :: l => if (c.apply x).2 = true then (c.apply x).1.allFrom l else (c, false)
def CA.all (c : CA) (l : List Ch) : CA × Bool := if (c.allFrom l).2 = true then ((c.allFrom l).1, true) else (c, false)
theorem CA.allFrom_append : ∀ (l m : List Ch) (c : CA), (c.allFrom l).2 = true → c.allFrom (l ++ m) = (c.allFrom l).1.allFrom m
 | [], m, c, _ => rfl
 | x :: l, m, c, h => by
  rw [List.cons_append, CA.allFrom, CA.allFrom]
  rw [CA.allFrom] at h
  by_cases e : (c.apply x).2 = true
  · rw [if_pos e] at h ⊢
    rw [if_pos e]
    exact CA.allFrom_append l m _ h
  · rw [if_neg e] at h
    cases h
theorem CA.allFrom_one {c d : CA} {l : List Ch} {x : Ch} (h : c.allFrom l = (d, true)) : c.allFrom (l ++ [x]) = if (d.apply x).2 = true then ((d.apply x).1, true) else (d, false) := by
 rw [CA.allFrom_append l [x] c (by rw [h]), h, CA.allFrom]
 rfl
theorem CA.allFrom_stop : ∀ (l m : List Ch) (c : CA), (c.allFrom l).2 = false → (c.allFrom (l ++ m)).2 = false
 | [], m, c, h => by cases h
 | x :: l, m, c, h => by
  rw [List.cons_append, CA.allFrom]
  rw [CA.allFrom] at h
  by_cases e : (c.apply x).2 = true
  · rw [if_pos e] at h ⊢
    exact CA.allFrom_stop l m _ h
  · rw [if_neg e]
theorem CA.Ok.allFrom : ∀ (l : List Ch) {c : CA} (_ : c.Ok), (c.allFrom l).1.Ok
 | [], _, h => h
 | x :: l, _, h => by
  rw [CA.allFrom]
  split
  · exact CA.Ok.allFrom l (h.apply x)
  · exact h
theorem not_int {a b : Int} (h : decide (a = b) = false) : ¬ a = b := of_decide_eq_false h
theorem CA.apply_file (c : CA) (x : Cd) (hok : x.ch.ok = true) : c.apply x.ch = (⟨c.helds, putIn (fun y => !slt y.up x.up) (fun y => !decide (y.up = x.up)) x c.files, c.names, c.blocks⟩, true) := by
 unfold CA.apply
 exact (if_neg (by rw [hok]; decide)).trans ((if_neg (not_int (a := 3) rfl)).trans (if_pos rfl))
theorem CA.apply_name (c : CA) (x : Kn) (hok : x.ch.ok = true) (hf : ¬ fnd (pFile x.dir) c.files < 0) : c.apply x.ch = (⟨c.helds, c.files, putIn (fun y => !ltKn y x) (fun y => !(decide (y.dir = x.dir) && decide (y.name = x.name))) x c.names, c.blocks⟩, true) := by
 unfold CA.apply
 exact (if_neg (by rw [hok]; decide)).trans ((if_neg (not_int (a := 6) rfl)).trans ((if_neg (not_int (a := 6) rfl)).trans ((if_pos rfl).trans (if_neg hf))))
theorem fnd_file {fs : List Cd} {u : ByteArray} (h : ∃ f ∈ fs, f.up = u) : ¬ fnd (pFile u) fs < 0 := fun hn => by
 obtain ⟨f, hf, e⟩ := h
 have := fnd_neg hn f hf
 simp [pFile, e] at this
def CA.lens (n : Nat) (c : CA) : Prop := c.helds.length ≤ n ∧ c.files.length ≤ n ∧ c.names.length ≤ n ∧ c.blocks.length ≤ n
theorem CA.lens.mono {n m : Nat} {c : CA} (h : c.lens n) (hm : n ≤ m) : c.lens m := ⟨Nat.le_trans h.1 hm, Nat.le_trans h.2.1 hm, Nat.le_trans h.2.2.1 hm, Nat.le_trans h.2.2.2 hm⟩
theorem CA.lens.goes {n : Nat} {c : CA} (h : c.lens n) (x : Ch) : (c.goes x).1.lens n := by
 have e : ∀ {α : Type} (l : List α) (i : Nat), (l.eraseIdx i).length ≤ l.length := fun l i => (List.eraseIdx_sublist l i).length_le
 have f : ∀ {α : Type} (l : List α) (p : α → Bool), (l.filter p).length ≤ l.length := fun l p => List.length_filter_le p l
 obtain ⟨h1, h2, h3, h4⟩ := h
 unfold CA.goes
 repeat' split
 all_goals first
  | exact ⟨h1, h2, h3, h4⟩
  | exact ⟨Nat.le_trans (e _ _) h1, h2, h3, h4⟩
  | exact ⟨h1, Nat.le_trans (e _ _) h2, Nat.le_trans (f _ _) h3, Nat.le_trans (f _ _) h4⟩
  | exact ⟨h1, h2, Nat.le_trans (f _ _) h3, Nat.le_trans (f _ _) h4⟩
  | exact ⟨h1, h2, Nat.le_trans (e _ _) h3, h4⟩
  | exact ⟨h1, h2, h3, Nat.le_trans (e _ _) h4⟩
theorem CA.lens.apply {n : Nat} {c : CA} (h : c.lens n) (x : Ch) : (c.apply x).1.lens (n + 1) := by
 have hg := (h.goes x).mono (Nat.le_succ n)
 have h0 := h.mono (Nat.le_succ n)
 obtain ⟨h1, h2, h3, h4⟩ := h0
 obtain ⟨q1, q2, q3, q4⟩ := h
 unfold CA.apply
 repeat' split
 all_goals first
  | exact ⟨h1, h2, h3, h4⟩
  | exact hg
  | exact ⟨Nat.le_trans putIn_length (by omega), h2, h3, h4⟩
  | exact ⟨h1, Nat.le_trans putIn_length (by omega), h3, h4⟩
  | exact ⟨h1, h2, Nat.le_trans putIn_length (by omega), h4⟩
  | exact ⟨h1, h2, h3, Nat.le_trans putIn_length (by omega)⟩
end Go.Proofs.YtngfknplljedeaaGreat
namespace Go.Proofs.YtngfknplljedeaaGreat
open Go.RowKit
theorem CAt.slices {B : Nat} {cs : List Value} {c : CA} {w : World} (h : CAt B cs c w) : ∃ a1 n1 c1 a2 n2 c2 a3 n3 c3 a4 n4 c4, cs = [.slice a1 n1 c1, .slice a2 n2 c2, .slice a3 n3 c3, .slice a4 n4 c4] := by
 obtain ⟨v1, v2, v3, v4, e, ⟨a1, c1, _, _, rfl, _⟩, ⟨a2, c2, _, _, rfl, _⟩, ⟨a3, c3, _, _, rfl, _⟩, ⟨a4, c4, _, _, rfl, _⟩⟩ := h
 exact ⟨_, _, _, _, _, _, _, _, _, _, _, _, e⟩
theorem rises_of {α : Type} {lt : α → α → Bool} (ht : ∀ a b c, lt a b = true → lt b c = true → lt a c = true) {xs : List α} (h : ∀ i x y, xs[i]? = some y → xs[i + 1]? = some x → lt y x = true) : xs.Pairwise fun a b => lt a b = true := by
 rw [List.pairwise_iff_getElem]
 intro i j hi hj hij
 obtain ⟨d, rfl⟩ : ∃ d, j = i + 1 + d := ⟨j - (i + 1), by omega⟩
 induction d with
 | zero => exact h i _ _ (List.getElem?_eq_getElem hi) (List.getElem?_eq_getElem hj)
 | succ d ih => exact ht _ _ _ (ih (by omega) (by omega)) (h (i + 1 + d) _ _ (List.getElem?_eq_getElem (by omega)) (List.getElem?_eq_getElem hj))
theorem rises_at {α : Type} {R : α → α → Prop} {xs : List α} (h : xs.Pairwise R) {i j : Nat} {x y : α} (hij : i < j) (hy : xs[i]? = some y) (hx : xs[j]? = some x) : R y x := by
 obtain ⟨hi, rfl⟩ := List.getElem?_eq_some_iff.1 hy
 obtain ⟨hj, rfl⟩ := List.getElem?_eq_some_iff.1 hx
 exact List.pairwise_iff_getElem.1 h i j hi hj hij
theorem zero_at (B : Nat) (w : World) : CAt B [.slice none 0 0, .slice none 0 0, .slice none 0 0, .slice none 0 0] CA.none w :=
 ⟨_, _, _, _, rfl, ⟨none, 0, 0, 0, rfl, ⟨by simp [CA.none], by simp [CA.none]⟩, fun h => by simp [CA.none] at h, fun i x hi => by simp [CA.none] at hi⟩, ⟨none, 0, 0, 0, rfl, ⟨by simp [CA.none], by simp [CA.none]⟩, fun h => by simp [CA.none] at h, fun i x hi => by simp [CA.none] at hi⟩, ⟨none, 0, 0, 0, rfl, ⟨by simp [CA.none], by simp [CA.none]⟩, fun h => by simp [CA.none] at h, fun i x hi => by simp [CA.none] at hi⟩, ⟨none, 0, 0, 0, rfl, ⟨by simp [CA.none], by simp [CA.none]⟩, fun h => by simp [CA.none] at h, fun i x hi => by simp [CA.none] at hi⟩⟩
theorem CA.allFrom_take (c : CA) (xs : List Ch) (i : Nat) (x : Ch) (h : xs[i]? = some x) (hd : (c.allFrom (xs.take i)).2 = true) :
 c.allFrom (xs.take (i + 1)) = if ((c.allFrom (xs.take i)).1.apply x).2 = true then (((c.allFrom (xs.take i)).1.apply x).1, true) else ((c.allFrom (xs.take i)).1, false) := by
 rw [take_one xs i x h]
 exact CA.allFrom_one (by rw [← hd])
theorem CA.all_stop (c : CA) (xs : List Ch) (i : Nat) (h : (c.allFrom (xs.take i)).2 = false) : c.all xs = (c, false) := by
 unfold CA.all
 have := CA.allFrom_stop (xs.take i) (xs.drop i) c h
 rw [List.take_append_drop] at this
 rw [this]
 rfl
theorem CA.lens.allFrom : ∀ (l : List Ch) {n : Nat} {c : CA} (_ : c.lens n), (c.allFrom l).1.lens (n + l.length)
 | [], _, _, h => h
 | x :: l, n, c, h => by
  rw [CA.allFrom]
  split
  · have := CA.lens.allFrom l (h.apply x)
    rw [List.length_cons, show n + (l.length + 1) = n + 1 + l.length from by omega]
    exact this
  · exact h.mono (Nat.le_add_right _ _)
def BigSays (c : CA) (e : Ending) : Prop := ∃ r, e = .returned (.bool r) ∧ (r = false → c.lens 60)
theorem BigSays.any (c : CA) (r : Bool) (h : c.lens 60) : BigSays c (.returned (.bool r)) := ⟨r, rfl, fun _ => h⟩
end Go.Proofs.YtngfknplljedeaaGreat
