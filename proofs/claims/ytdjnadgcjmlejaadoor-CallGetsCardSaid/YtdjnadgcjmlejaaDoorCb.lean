/- Calls: what is written is read, and what is read was written; no function of call is named here. -/
import Derived.Test.YtdjnadgcjmlejaaDoorCa
import Derived.Test.YtdjnadgcjmlejaaDoorRv
namespace Go.Proofs.YtdjnadgcjmlejaaDoor
open Go.RowKit

theorem rdFail_err {c : Int} {s : ByteArray} {e : Int} (h : e ≠ 0) : rdFail c s e = (s, e) := by unfold rdFail; rw [if_pos h]
theorem rdOpaque_err {most : Int} {s : ByteArray} {e : Int} (h : e ≠ 0) : rdOpaque most s e = (s, e, ⟨#[]⟩) := by
  unfold rdOpaque
  rw [rdU32_err h]
  dsimp only
  split
  · rw [rdFail_err h]
  · exact rdFixed_err h
theorem psTake_err2 {s : ByteArray} {e : Int} (h : e ≠ 0) : (psTake s e).2.1 ≠ 0 := by rw [psTake_err h]; exact h

theorem tk_opaque {most : Int} {s : ByteArray} {e : Int} (hm : most ≤ 1048576) (h : (rdOpaque most s e).2.1 = 0) :
    e = 0 ∧ ((rdOpaque most s e).2.2.size : Int) ≤ most ∧ (putOpaque (rdOpaque most s e).2.2).2 ++ (rdOpaque most s e).1.data.toList = s.data.toList := by
  have he : e = 0 := by
    rcases Decidable.em (e = 0) with h0 | h0
    · exact h0
    · rw [rdOpaque_err h0] at h; exact absurd h h0
  subst he
  refine ⟨rfl, ?_⟩
  unfold rdOpaque at h ⊢
  split at h
  · exact absurd h (rdFail_no (by decide))
  · rename_i hm1
    obtain ⟨m, hm2, he, hl, hz, ed⟩ := rdFixed_ok h
    obtain ⟨_, hl4, eu⟩ := rdU32_ok he
    rw [if_neg hm1, ed]
    rw [eu] at hm1 hm2 hl hz ⊢
    dsimp only at hm1 hm2 hl hz ⊢
    have hm3 : num (s.extract 0 4).data.toList = m := by exact_mod_cast hm2
    have hsz := size_first (s.extract 4 s.size) m (by omega)
    refine ⟨by rw [hsz]; omega, ?_⟩
    unfold putOpaque
    rw [if_neg (by rw [hsz]; omega), hsz]
    dsimp only
    rw [← hm3, be_first s 4 hl4, hm3, List.append_assoc, padded_first _ m hl hz]
    exact cut s 4 hl4
theorem pt_opaque {most : Int} (t : ByteArray) (ys : List UInt8) (hm : most ≤ 1048576) (h : (t.size : Int) ≤ most) : rdOpaque most (str ((putOpaque t).2 ++ ys)) 0 = (str ys, 0, t) := by
  have e : putOpaque t = (0, be 4 t.size ++ padded t) := by unfold putOpaque; rw [if_neg (by omega)]
  rw [e]
  unfold rdOpaque
  dsimp only
  rw [List.append_assoc, rdU32_be t.size (by omega)]
  dsimp only
  rw [if_neg (by omega), rdFixed_pad]
theorem tk_u32 {s : ByteArray} {e : Int} (h : (rdU32 s e).2.1 = 0) : e = 0 ∧ okIn (rdU32 s e).2.2 4294967295 = true ∧ (putU32 (rdU32 s e).2.2).2 ++ (rdU32 s e).1.data.toList = s.data.toList := by
  obtain ⟨he, hl, ed⟩ := rdU32_ok h
  have hn := num4 (s.extract 0 4) (size_first s 4 hl)
  rw [ed]
  dsimp only
  refine ⟨he, (okIn_iff _ _).2 ⟨by omega, by omega⟩, ?_⟩
  rw [putU32_ok (by omega) (by omega), Int.toNat_natCast, be_first s 4 hl]
  exact cut s 4 hl
theorem pt_u32 (n : Int) (ys : List UInt8) (h : okIn n 4294967295 = true) : rdU32 (str ((putU32 n).2 ++ ys)) 0 = (str ys, 0, n) := by
  obtain ⟨h0, h1⟩ := (okIn_iff _ _).1 h
  obtain ⟨m, rfl⟩ := Int.eq_ofNat_of_zero_le h0
  rw [putU32_ok h0 h1, Int.toNat_natCast]
  exact rdU32_be m (by omega) ys
theorem tk_u64 {s : ByteArray} {e : Int} (h : (rdU64 s e).2.1 = 0) : e = 0 ∧ okIn (rdU64 s e).2.2 most64 = true ∧ (putU64 (rdU64 s e).2.2).2 ++ (rdU64 s e).1.data.toList = s.data.toList := by
  obtain ⟨he, hl, hx, ed⟩ := rdU64_ok h
  rw [ed]
  dsimp only
  refine ⟨he, (okIn_iff _ _).2 ⟨by omega, by unfold most64; omega⟩, ?_⟩
  rw [putU64_ok (by omega), Int.toNat_natCast, be_first s 8 hl]
  exact cut s 8 hl
theorem pt_u64 (n : Int) (ys : List UInt8) (h : okIn n most64 = true) : rdU64 (str ((putU64 n).2 ++ ys)) 0 = (str ys, 0, n) := by
  obtain ⟨h0, h1⟩ := (okIn_iff _ _).1 h
  unfold most64 at h1
  obtain ⟨m, rfl⟩ := Int.eq_ofNat_of_zero_le h0
  rw [putU64_ok h0, Int.toNat_natCast]
  exact rdU64_be m (by omega) ys
theorem rdOpt_val (s : ByteArray) (e : Int) (h : (rdOpt s e).2.1 = 0) : okPo ⟨(rdOpt s e).2.2.1, (rdOpt s e).2.2.2⟩ most64 = true := by
  unfold rdOpt at h ⊢
  split at h
  · rename_i hb
    rw [if_pos hb]
    rfl
  · rename_i hb
    rw [if_neg hb]
    split at h
    · rename_i hu
      exact absurd h hu
    · rename_i hu
      rw [if_neg hu]
      have hu' : (rdU64 (rdBool s e).1 (rdBool s e).2.1).2.1 = 0 := by simpa using hu
      exact (tk_u64 hu').2.1
theorem tk_opt {s : ByteArray} {e : Int} (h : (rdOpt s e).2.1 = 0) : e = 0 ∧ okPo ⟨(rdOpt s e).2.2.1, (rdOpt s e).2.2.2⟩ most64 = true ∧ (putOpt (rdOpt s e).2.2.1 (rdOpt s e).2.2.2).2 ++ (rdOpt s e).1.data.toList = s.data.toList := by
  have he : e = 0 := by
    rcases Decidable.em (e = 0) with h0 | h0
    · exact h0
    · rw [rdOpt_err h0] at h; exact absurd h h0
  subst he
  refine ⟨rfl, rdOpt_val s 0 h, ?_⟩
  obtain ⟨bs, h1, h2⟩ := take_put 6 0 s (by omega) h (by omega) (by omega)
  have h3 : putOpt (rdOpt s 0).2.2.1 (rdOpt s 0).2.2.2 = (0, bs) := h1
  rw [h3]
  exact h2
theorem pt_opt (o : Po) (ys : List UInt8) (most : Int) (hm : most ≤ most64) (h : okPo o most = true) : rdOpt (str ((putOpt o.is o.n).2 ++ ys)) 0 = (str ys, 0, o.is, o.n) := by
  obtain ⟨is, n⟩ := o
  have hp := putOpt_ok h
  have hb : (back 6 n is ⟨#[]⟩).1 = n ∧ (back 6 n is ⟨#[]⟩).2.1 = is := by
    rcases (okPo_iff _ _).1 h with ⟨h1, _, _⟩ | ⟨h1, h2⟩
    · have h1 : is = true := h1
      subst h1
      exact ⟨rfl, rfl⟩
    · have h1 : is = false := h1
      have h2 : n = 0 := h2
      subst h1 h2
      exact ⟨rfl, rfl⟩
  have hn : n ≤ 9223372036854775807 := by
    unfold most64 at hm
    rcases (okPo_iff _ _).1 h with ⟨_, _, h3⟩ | ⟨_, h2⟩
    · have h3 : n ≤ most := h3
      omega
    · have h2 : n = 0 := h2
      omega
  have hp2 : thPut 6 n is ⟨#[]⟩ = (0, poBytes ⟨is, n⟩) := hp
  have := put_take 6 n is ⟨#[]⟩ (poBytes ⟨is, n⟩) ys (by decide) hn hp2
  rw [hb.1, hb.2] at this
  simp only at hp
  dsimp only
  rw [hp]
  have e : rdTake 6 ((⟨#[]⟩ : ByteArray).size) (str (poBytes ⟨is, n⟩ ++ ys)) 0 = ((rdOpt (str (poBytes ⟨is, n⟩ ++ ys)) 0).1, (rdOpt (str (poBytes ⟨is, n⟩ ++ ys)) 0).2.1, (rdOpt (str (poBytes ⟨is, n⟩ ++ ys)) 0).2.2.2, (rdOpt (str (poBytes ⟨is, n⟩ ++ ys)) 0).2.2.1, ⟨#[]⟩) := rfl
  rw [e] at this
  injection this with t1 t2
  injection t2 with t2 t3
  injection t3 with t3 t4
  injection t4 with t4 t5
  exact Prod.ext t1 (Prod.ext t2 (Prod.ext t4 t3))

theorem putOpt_bytes {o : Po} {most : Int} (h : okPo o most = true) : (putOpt o.is o.n).2 = poBytes o := by rw [putOpt_ok h]
theorem pt_set (s : Ps) (ys : List UInt8) (h : okPs s = true) : psTake (str (psBytes s ++ ys)) 0 = (str ys, 0, s) := by
  obtain ⟨o0, o1, o2, o3, o4⟩ := s
  simp only [okPs, Bool.and_eq_true] at h
  obtain ⟨⟨⟨⟨h0, h1⟩, h2⟩, h3⟩, h4⟩ := h
  simp only [psBytes, ← putOpt_bytes h0, ← putOpt_bytes h1, ← putOpt_bytes h2, ← putOpt_bytes h3, ← putOpt_bytes h4, List.append_assoc]
  exact psTake_of (pt_opt o0 _ _ (by decide) h0) (pt_opt o1 _ _ (by decide) h1) (pt_opt o2 _ _ (by decide) h2) (pt_opt o3 _ _ (by decide) h3) (pt_opt o4 _ _ (by decide) h4)
theorem psGet_ok {s : ByteArray} {e : Int} (h : (psGet s e).2 = 0) : (psTake s e).2.1 = 0 ∧ okPs (psTake s e).2.2 = true ∧ (psGet s e).1 = (psTake s e).2.2 := by
  unfold psGet got at h ⊢
  split at h
  · rename_i h1
    exact absurd h h1
  · rename_i h1
    split at h
    · rename_i h2
      refine ⟨by simpa using h1, h2, ?_⟩
      rw [if_neg h1, if_pos h2]
    · cases h
theorem tk_opt2 {s : ByteArray} {e : Int} {s1 : ByteArray} {e1 n : Int} {b : Bool} (he : e1 = 0) (hr : rdOpt s e = (s1, e1, b, n)) : e = 0 ∧ okPo ⟨b, n⟩ most64 = true ∧ (putOpt b n).2 ++ s1.data.toList = s.data.toList := by
  have h : (rdOpt s e).2.1 = 0 := by rw [hr]; exact he
  have := tk_opt h
  rw [hr] at this
  exact this
theorem tk_set {s : ByteArray} {e : Int} (h : (psGet s e).2 = 0) : e = 0 ∧ okPs (psGet s e).1 = true ∧ psPut (psGet s e).1 ++ (psTake s e).1.data.toList = s.data.toList := by
  obtain ⟨h1, h2, h3⟩ := psGet_ok h
  rw [h3]
  unfold psPut
  rw [if_pos h2]
  obtain ⟨s1, e1, b1, n1, hr1⟩ : ∃ s1 e1 b1 n1, rdOpt s e = (s1, e1, b1, n1) := ⟨_, _, _, _, rfl⟩
  obtain ⟨s2, e2, b2, n2, hr2⟩ : ∃ s2 e2 b2 n2, rdOpt s1 e1 = (s2, e2, b2, n2) := ⟨_, _, _, _, rfl⟩
  obtain ⟨s3, e3, b3, n3, hr3⟩ : ∃ s3 e3 b3 n3, rdOpt s2 e2 = (s3, e3, b3, n3) := ⟨_, _, _, _, rfl⟩
  obtain ⟨s4, e4, b4, n4, hr4⟩ : ∃ s4 e4 b4 n4, rdOpt s3 e3 = (s4, e4, b4, n4) := ⟨_, _, _, _, rfl⟩
  obtain ⟨s5, e5, b5, n5, hr5⟩ : ∃ s5 e5 b5 n5, rdOpt s4 e4 = (s5, e5, b5, n5) := ⟨_, _, _, _, rfl⟩
  have ht := psTake_of hr1 hr2 hr3 hr4 hr5
  rw [ht] at h1 h2 ⊢
  dsimp only at h1 h2 ⊢
  obtain ⟨z4, k5, c5⟩ := tk_opt2 h1 hr5
  obtain ⟨z3, k4, c4⟩ := tk_opt2 z4 hr4
  obtain ⟨z2, k3, c3⟩ := tk_opt2 z3 hr3
  obtain ⟨z1, k2, c2⟩ := tk_opt2 z2 hr2
  obtain ⟨z0, k1, c1⟩ := tk_opt2 z1 hr1
  refine ⟨z0, h2, ?_⟩
  rw [← c1, ← c2, ← c3, ← c4, ← c5]
  simp only [psBytes, ← putOpt_bytes k1, ← putOpt_bytes k2, ← putOpt_bytes k3, ← putOpt_bytes k4, ← putOpt_bytes k5, List.append_assoc]
theorem pt_get (s : Ps) (ys : List UInt8) (h : okPs s = true) : psGet (str (psBytes s ++ ys)) 0 = (s, 0) := by
  unfold psGet
  rw [pt_set s ys h]
  exact got_ok h

/-! ### A letter -/
theorem rdL_tk (l : Lt) (x : Rst) (h : (rdL l x).err = 0) (hs : l = .s → (rdL l x).serr = 0) :
    x.err = 0 ∧ okL l (rdL l x).c = true ∧ wrL l (rdL l x).c ++ (rdL l x).rest.data.toList = x.rest.data.toList := by
  have T : ∀ {most : Int} {m : Nat}, most ≤ 1048576 → most = m → (rdOpaque most x.rest x.err).2.1 = 0 → x.err = 0 ∧ decide ((rdOpaque most x.rest x.err).2.2.size ≤ m) = true ∧ (putOpaque (rdOpaque most x.rest x.err).2.2).2 ++ (rdOpaque most x.rest x.err).1.data.toList = x.rest.data.toList := by
    intro most m h1 h2 h3
    obtain ⟨a, b, c⟩ := tk_opaque h1 h3
    exact ⟨a, by simp only [decide_eq_true_eq]; omega, c⟩
  cases l
  · exact T (by decide) rfl h
  · exact T (by decide) rfl h
  · exact T (by decide) rfl h
  · exact T (by decide) rfl h
  · exact tk_u64 h
  · exact tk_u32 h
  · exact tk_u32 h
  · exact T (by decide) rfl h
  · exact tk_set (hs rfl)
  · exact tk_opt h
  · exact tk_u64 h
  · exact tk_u64 h
  · exact T (by decide) rfl h
theorem rdL_pt (l : Lt) (c : Cl) (x : Rst) (ys : List UInt8) (hok : okL l c = true) (he : x.err = 0) (hr : x.rest = str (wrL l c ++ ys)) :
    (rdL l x).rest = str ys ∧ (rdL l x).err = 0 ∧ (rdL l x).serr = (if l = .s then 0 else x.serr) ∧ eqL l (rdL l x).c c := by
  obtain ⟨rest, err, serr, d⟩ := x
  dsimp only at he hr
  subst he hr
  have T : ∀ {most : Int} {m : Nat} (t : ByteArray), most ≤ 1048576 → most = m → decide (t.size ≤ m) = true → rdOpaque most (str ((putOpaque t).2 ++ ys)) 0 = (str ys, 0, t) := by
    intro most m t h1 h2 h3
    simp only [decide_eq_true_eq] at h3
    exact pt_opaque t ys h1 (by omega)
  cases l
  · simp only [rdL, wrL, eqL, T c.fh (most := 64) (by decide) rfl hok]; exact ⟨trivial, trivial, by simp, trivial⟩
  · simp only [rdL, wrL, eqL, T c.name (most := 255) (by decide) rfl hok]; exact ⟨trivial, trivial, by simp, trivial⟩
  · simp only [rdL, wrL, eqL, T c.fh2 (most := 64) (by decide) rfl hok]; exact ⟨trivial, trivial, by simp, trivial⟩
  · simp only [rdL, wrL, eqL, T c.name2 (most := 255) (by decide) rfl hok]; exact ⟨trivial, trivial, by simp, trivial⟩
  · simp only [rdL, wrL, eqL, pt_u64 c.offset ys hok]; exact ⟨trivial, trivial, by simp, trivial⟩
  · simp only [rdL, wrL, eqL, pt_u32 c.count ys hok]; exact ⟨trivial, trivial, by simp, trivial⟩
  · simp only [rdL, wrL, eqL, pt_u32 c.how ys hok]; exact ⟨trivial, trivial, by simp, trivial⟩
  · simp only [rdL, wrL, eqL, T c.data (most := 256) (by decide) rfl hok]; exact ⟨trivial, trivial, by simp, trivial⟩
  · have hok : okPs c.set = true := hok
    have e : wrL .s c = psBytes c.set := by simp only [wrL, psPut]; rw [if_pos hok]
    rw [e]
    simp only [rdL, eqL, pt_set c.set ys hok, pt_get c.set ys hok]
    exact ⟨trivial, trivial, by simp, trivial⟩
  · simp only [rdL, wrL, eqL, pt_opt c.guard ys most64 (by decide) hok]; exact ⟨trivial, trivial, by simp, trivial⟩
  · simp only [rdL, wrL, eqL, pt_u64 c.cookie ys hok]; exact ⟨trivial, trivial, by simp, trivial⟩
  · simp only [rdL, wrL, eqL, pt_u64 c.verf ys hok]; exact ⟨trivial, trivial, by simp, trivial⟩
  · simp only [rdL, wrL, eqL, T c.text (most := 255) (by decide) rfl hok]; exact ⟨trivial, trivial, by simp, trivial⟩

/-! ### Letters -/
theorem wrs_cons (l : Lt) (ls : List Lt) (c : Cl) : wrs (l :: ls) c = wrL l c ++ wrs ls c := rfl
theorem rds_pt : ∀ (ls : List Lt) (c : Cl) (x : Rst) (ys : List UInt8), ls.Nodup → (∀ l ∈ ls, okL l c = true) → x.err = 0 → x.serr = 0 → x.rest = str (wrs ls c ++ ys) →
    (rds ls x).rest = str ys ∧ (rds ls x).err = 0 ∧ (rds ls x).serr = 0 ∧ ∀ l ∈ ls, eqL l (rds ls x).c c
  | [], _, x, ys, _, _, h1, h2, h3 => ⟨h3, h1, h2, fun _ h => by cases h⟩
  | l :: ls, c, x, ys, hn, hok, h1, h2, h3 => by
    rw [wrs_cons, List.append_assoc] at h3
    obtain ⟨a, b, d, e⟩ := rdL_pt l c x _ (hok l List.mem_cons_self) h1 h3
    have hn2 := List.nodup_cons.1 hn
    obtain ⟨p, q, r, t⟩ := rds_pt ls c (rdL l x) ys hn2.2 (fun m hm => hok m (List.mem_cons_of_mem _ hm)) b (by rw [d]; split <;> first | rfl | exact h2) a
    refine ⟨p, q, r, fun m hm => ?_⟩
    rcases List.mem_cons.1 hm with rfl | hm
    · exact eqL_trans (rds_other ls m (rdL m x) hn2.1) e
    · exact t m hm
theorem rds_tk : ∀ (ls : List Lt) (x : Rst), ls.Nodup → (rds ls x).err = 0 → (.s ∈ ls → (rds ls x).serr = 0) →
    x.err = 0 ∧ (∀ l ∈ ls, okL l (rds ls x).c = true) ∧ wrs ls (rds ls x).c ++ (rds ls x).rest.data.toList = x.rest.data.toList
  | [], x, _, h, _ => ⟨h, fun _ h => (by cases h), rfl⟩
  | l :: ls, x, hn, h, hs => by
    have hn2 := List.nodup_cons.1 hn
    rw [rds_cons] at h hs ⊢
    obtain ⟨a, b, c⟩ := rds_tk ls (rdL l x) hn2.2 h (fun e => hs (List.mem_cons_of_mem _ e))
    obtain ⟨d, e, f⟩ := rdL_tk l x a (fun e => by
      subst e
      rw [← rds_serr ls (rdL .s x) hn2.1]
      exact hs List.mem_cons_self)
    have g := rds_other ls l (rdL l x) hn2.1
    refine ⟨d, fun m hm => ?_, ?_⟩
    · rcases List.mem_cons.1 hm with rfl | hm
      · rw [okL_eq g]; exact e
      · exact b m hm
    · rw [wrs_cons, List.append_assoc, c, wrL_eq g, f]

/-! ### Calls -/
def allL : List Lt := [.f, .F, .n, .N, .t, .d, .o, .c, .h, .k, .v, .s, .g]
def oneB (l : Lt) (c : Cl) : Bool := if l ∈ flds c.proc then okL l c else decide (eqL l c (Cl.new 0))
def okB (c : Cl) : Bool := allL.all fun l => oneB l c
theorem allL_mem (l : Lt) : l ∈ allL := by cases l <;> decide
theorem okB_iff (c : Cl) : okB c = true ↔ (∀ l ∈ flds c.proc, okL l c = true) ∧ ∀ l, l ∉ flds c.proc → eqL l c (Cl.new 0) := by
  unfold okB
  rw [List.all_eq_true]
  constructor
  · intro h
    refine ⟨fun l hl => ?_, fun l hl => ?_⟩
    · have := h l (allL_mem l)
      unfold oneB at this
      rw [if_pos hl] at this
      exact this
    · have := h l (allL_mem l)
      unfold oneB at this
      rw [if_neg hl] at this
      simpa using this
  · rintro ⟨h1, h2⟩ l _
    unfold oneB
    split
    · rename_i hl
      exact h1 l hl
    · rename_i hl
      simpa using h2 l hl
def getX (p : Int) (s : ByteArray) : Rst := rds (flds p) ⟨s, 0, 0, Cl.new p⟩
def good (x : Rst) : Bool := decide (x.serr = 0) && decide (rdDone x.rest x.err = 0)
theorem good_iff (x : Rst) : good x = true ↔ x.serr = 0 ∧ x.err = 0 ∧ x.rest.size = 0 := by
  unfold good rdDone
  simp only [Bool.and_eq_true, decide_eq_true_eq]
  refine and_congr_right fun _ => ?_
  split
  · rename_i h
    exact ⟨fun e => absurd e h, fun e => absurd e.1 h⟩
  · rename_i h
    have h' : x.err = 0 := by simpa using h
    split
    · rename_i h2
      exact ⟨fun e => absurd e (by decide), fun e => by omega⟩
    · rename_i h2
      exact ⟨fun _ => ⟨h', by omega⟩, fun _ => rfl⟩
def getR (p : Int) (s : ByteArray) : Cl × Int := if there p then (if good (getX p s) then ((getX p s).c, 0) else (Cl.new 0, 14)) else (Cl.new 0, 22)
def putR (c : Cl) : List UInt8 × Int := if there c.proc then (if okB c then (clBytes c, 0) else ([], 14)) else ([], 22)
theorem getX_proc (p : Int) (s : ByteArray) : (getX p s).c.proc = p := rds_proc _ _
theorem nil_of {s : ByteArray} (h : s.size = 0) : s.data.toList = [] := by
  apply List.eq_nil_of_length_eq_zero
  rw [len_data]
  exact h
theorem get_good {p : Int} {s : ByteArray} (h : good (getX p s) = true) : okB (getX p s).c = true ∧ clBytes (getX p s).c = s.data.toList := by
  obtain ⟨h1, h2, h3⟩ := (good_iff _).1 h
  obtain ⟨_, a, b⟩ := rds_tk (flds p) ⟨s, 0, 0, Cl.new p⟩ (flds_nodup p) h2 (fun _ => h1)
  constructor
  · rw [okB_iff, getX_proc]
    refine ⟨a, fun l hl => ?_⟩
    refine eqL_trans (rds_other (flds p) l ⟨s, 0, 0, Cl.new p⟩ hl) ?_
    cases l <;> rfl
  · unfold clBytes
    rw [getX_proc]
    have e : (getX p s).rest.data.toList = [] := nil_of h3
    unfold getX at e ⊢
    rw [e, List.append_nil] at b
    exact b
theorem get_of_ok {c : Cl} (ys : List UInt8) (h : okB c = true) : (getX c.proc (str (clBytes c ++ ys))).rest = str ys ∧ (getX c.proc (str (clBytes c ++ ys))).err = 0 ∧ (getX c.proc (str (clBytes c ++ ys))).serr = 0 ∧ (getX c.proc (str (clBytes c ++ ys))).c = c := by
  obtain ⟨h1, h2⟩ := (okB_iff c).1 h
  obtain ⟨a, b, d, e⟩ := rds_pt (flds c.proc) c ⟨str (clBytes c ++ ys), 0, 0, Cl.new c.proc⟩ ys (flds_nodup _) h1 rfl rfl rfl
  refine ⟨a, b, d, Cl.ext_by (getX_proc _ _) fun l => ?_⟩
  by_cases hl : l ∈ flds c.proc
  · exact e l hl
  · refine eqL_trans (rds_other (flds c.proc) l ⟨str (clBytes c ++ ys), 0, 0, Cl.new c.proc⟩ hl) (eqL_symm (eqL_trans (h2 l hl) ?_))
    cases l <;> rfl
theorem get_ok {c : Cl} (ht : there c.proc = true) (h : okB c = true) : getR c.proc (str (clBytes c)) = (c, 0) := by
  have := get_of_ok [] h
  rw [List.append_nil] at this
  obtain ⟨a, b, d, e⟩ := this
  unfold getR
  rw [if_pos ht, if_pos ((good_iff _).2 ⟨d, b, by rw [a]; rfl⟩), e]
theorem put_eq (c : Cl) : (if (getR c.proc (str (clBytes c))).2 ≠ 0 then ([], (getR c.proc (str (clBytes c))).2) else if (getR c.proc (str (clBytes c))).1 ≠ c then ([], 14) else (clBytes c, 0)) = putR c := by
  unfold putR
  cases ht : there c.proc with
  | false =>
    have e : getR c.proc (str (clBytes c)) = (Cl.new 0, 22) := by unfold getR; rw [ht]; rfl
    rw [e]
    rfl
  | true =>
    rw [if_pos rfl]
    cases hok : okB c with
    | true =>
      rw [get_ok ht hok, if_neg (by simp), if_neg (by simp), if_pos rfl]
    | false =>
      rw [show (if false = true then (clBytes c, 0) else ([], 14)) = (([], 14) : List UInt8 × Int) from rfl]
      cases hg : good (getX c.proc (str (clBytes c))) with
      | false =>
        have e : getR c.proc (str (clBytes c)) = (Cl.new 0, 14) := by unfold getR; rw [ht, hg]; rfl
        rw [e]
        rfl
      | true =>
        have e : getR c.proc (str (clBytes c)) = ((getX c.proc (str (clBytes c))).c, 0) := by unfold getR; rw [ht, hg]; rfl
        rw [e, if_neg (by simp), if_pos]
        intro e2
        have := (get_good hg).1
        dsimp only at e2
        rw [e2, hok] at this
        cases this
theorem cut_more {c : Cl} (ys : List UInt8) (ht : there c.proc = true) (h : okB c = true) (hy : ys ≠ []) : getR c.proc (str (clBytes c ++ ys)) = (Cl.new 0, 14) := by
  obtain ⟨a, b, d, e⟩ := get_of_ok ys h
  unfold getR
  rw [if_pos ht, if_neg]
  intro hg
  obtain ⟨_, _, h3⟩ := (good_iff _).1 hg
  rw [a, str_size] at h3
  exact hy (List.eq_nil_of_length_eq_zero h3)
theorem cut_less {c : Cl} (n : Nat) (ht : there c.proc = true) (h : okB c = true) (hn : n < (clBytes c).length) : getR c.proc (str ((clBytes c).take n)) = (Cl.new 0, 14) := by
  unfold getR
  rw [if_pos ht, if_neg]
  intro hg
  obtain ⟨h1, h2⟩ := get_good hg
  have hp := getX_proc c.proc (str ((clBytes c).take n))
  obtain ⟨d, hd⟩ : ∃ d, d = (getX c.proc (str ((clBytes c).take n))).c := ⟨_, rfl⟩
  rw [← hd] at h1 h2 hp
  rw [str_toList] at h2
  obtain ⟨a, _, _, _⟩ := get_of_ok ((clBytes c).drop n) h1
  rw [h2, List.take_append_drop, hp] at a
  have := get_of_ok [] h
  rw [List.append_nil] at this
  rw [this.1] at a
  have e : ([] : List UInt8) = (clBytes c).drop n := by
    have := congrArg (fun s : ByteArray => s.data.toList) a
    simpa [str_toList] using this
  have := congrArg List.length e
  simp only [List.length_nil, List.length_drop] at this
  omega
end Go.Proofs.YtdjnadgcjmlejaaDoor
