/- Calls: plain definitions over the reader's and the writer's words; no function of call is named here. -/
import Derived.Test.YtdjnadgcjmlejaaDoorAq
import Derived.Test.YtdjnadgcjmlejaaDoorSq
import Derived.Test.YtdjnadgcjmlejaaDoorAd
namespace Go.Proofs.YtdjnadgcjmlejaaDoor
open Go.RowKit

structure Cl where
  proc : Int
  fh : ByteArray
  name : ByteArray
  fh2 : ByteArray
  name2 : ByteArray
  offset : Int
  count : Int
  how : Int
  data : ByteArray
  set : Ps
  guard : Po
  cookie : Int
  verf : Int
  text : ByteArray
deriving DecidableEq
def Cl.new (p : Int) : Cl := ⟨p, ⟨#[]⟩, ⟨#[]⟩, ⟨#[]⟩, ⟨#[]⟩, 0, 0, 0, ⟨#[]⟩, .zero, .zero, 0, 0, ⟨#[]⟩⟩
/-- A call's cells. -/
def Cl.arr (c : Cl) : Array Value :=
  #[.int .i64 c.proc, .string c.fh, .string c.name, .string c.fh2, .string c.name2, .int .i64 c.offset, .int .i64 c.count, .int .i64 c.how, .string c.data, .bool c.set.mode.is, .int .i64 c.set.mode.n, .bool c.set.uid.is, .int .i64 c.set.uid.n, .bool c.set.gid.is, .int .i64 c.set.gid.n,
    .bool c.set.size.is, .int .i64 c.set.size.n, .bool c.set.time.is, .int .i64 c.set.time.n, .bool c.guard.is, .int .i64 c.guard.n, .int .i64 c.cookie, .int .i64 c.verf, .string c.text]

/-- The letters. -/
inductive Lt where
  | f | n | F | N | o | c | h | d | s | g | k | v | t
deriving DecidableEq
def Lt.b : Lt → UInt8
  | .f => 102 | .n => 110 | .F => 70 | .N => 78 | .o => 111 | .c => 99 | .h => 104 | .d => 100 | .s => 115 | .g => 103 | .k => 107 | .v => 118 | .t => 116
def fldsN : Nat → List Lt
  | 1 => [.f] | 2 => [.f, .s, .g] | 3 => [.f, .n] | 4 => [.f, .h] | 5 => [.f] | 6 => [.f, .o, .c] | 7 => [.f, .o, .h, .d] | 8 => [.f, .n, .h, .s, .v] | 9 => [.f, .n, .s] | 10 => [.f, .n, .s, .t] | 11 => [.f, .n, .h, .s]
  | 12 => [.f, .n] | 13 => [.f, .n] | 14 => [.f, .n, .F, .N] | 15 => [.f, .F, .N] | 16 => [.f, .k, .v, .c] | 17 => [.f, .k, .v, .c] | 18 => [.f] | 19 => [.f] | 20 => [.f] | 21 => [.f, .o, .c]
  | _ => []
def there (p : Int) : Bool := decide (0 ≤ p) && decide (p ≤ 21)
def flds (p : Int) : List Lt := if there p then fldsN p.toNat else []
/-- The letters' own string. -/
def fstr (p : Int) : ByteArray := str ((flds p).map Lt.b)
theorem there_cases {p : Int} (h : there p = true) : ∃ n : Nat, n < 22 ∧ p = n := by
  simp only [there, Bool.and_eq_true, decide_eq_true_eq] at h
  exact ⟨p.toNat, by omega, by omega⟩
theorem flds_nodup (p : Int) : (flds p).Nodup := by
  unfold flds
  split
  · rename_i h
    obtain ⟨n, hn, rfl⟩ := there_cases h
    rw [Int.toNat_natCast]
    revert n
    decide
  · exact List.nodup_nil
theorem flds_len (p : Int) : (flds p).length ≤ 5 := by
  unfold flds
  split
  · rename_i h
    obtain ⟨n, hn, rfl⟩ := there_cases h
    rw [Int.toNat_natCast]
    revert n
    decide
  · simp

/-- What a letter's field is. -/
def eqL : Lt → Cl → Cl → Prop
  | .f, a, b => a.fh = b.fh | .n, a, b => a.name = b.name | .F, a, b => a.fh2 = b.fh2 | .N, a, b => a.name2 = b.name2 | .o, a, b => a.offset = b.offset | .c, a, b => a.count = b.count | .h, a, b => a.how = b.how
  | .d, a, b => a.data = b.data | .s, a, b => a.set = b.set | .g, a, b => a.guard = b.guard | .k, a, b => a.cookie = b.cookie | .v, a, b => a.verf = b.verf | .t, a, b => a.text = b.text
instance (l : Lt) (a b : Cl) : Decidable (eqL l a b) := by cases l <;> unfold eqL <;> infer_instance
theorem Cl.ext_by {a b : Cl} (hp : a.proc = b.proc) (h : ∀ l, eqL l a b) : a = b := by
  have h1 := h .f; have h2 := h .n; have h3 := h .F; have h4 := h .N; have h5 := h .o; have h6 := h .c; have h7 := h .h; have h8 := h .d; have h9 := h .s; have h10 := h .g; have h11 := h .k; have h12 := h .v; have h13 := h .t
  cases a; cases b
  simp only [eqL] at *
  subst_vars
  rfl
theorem eqL_refl (l : Lt) (a : Cl) : eqL l a a := by cases l <;> rfl
theorem eqL_symm {l : Lt} {a b : Cl} (h : eqL l a b) : eqL l b a := by cases l <;> exact Eq.symm h
theorem eqL_trans {l : Lt} {a b c : Cl} (h : eqL l a b) (g : eqL l b c) : eqL l a c := by cases l <;> exact Eq.trans h g

/-- What is written of a letter's field. -/
def wrL : Lt → Cl → List UInt8
  | .f, c => (putOpaque c.fh).2 | .n, c => (putOpaque c.name).2 | .F, c => (putOpaque c.fh2).2 | .N, c => (putOpaque c.name2).2 | .o, c => (putU64 c.offset).2 | .c, c => (putU32 c.count).2 | .h, c => (putU32 c.how).2
  | .d, c => (putOpaque c.data).2 | .s, c => psPut c.set | .g, c => (putOpt c.guard.is c.guard.n).2 | .k, c => (putU64 c.cookie).2 | .v, c => (putU64 c.verf).2 | .t, c => (putOpaque c.text).2
def most64 : Int := 9223372036854775807
/-- May a letter's field be? -/
def okL : Lt → Cl → Bool
  | .f, c => decide (c.fh.size ≤ 64) | .n, c => decide (c.name.size ≤ 255) | .F, c => decide (c.fh2.size ≤ 64) | .N, c => decide (c.name2.size ≤ 255) | .o, c => okIn c.offset most64 | .c, c => okIn c.count 4294967295 | .h, c => okIn c.how 4294967295
  | .d, c => decide (c.data.size ≤ 256) | .s, c => okPs c.set | .g, c => okPo c.guard most64 | .k, c => okIn c.cookie most64 | .v, c => okIn c.verf most64 | .t, c => decide (c.text.size ≤ 255)
theorem wrL_eq {l : Lt} {a b : Cl} (h : eqL l a b) : wrL l a = wrL l b := by cases l <;> simp only [eqL] at h <;> simp only [wrL, h]
theorem okL_eq {l : Lt} {a b : Cl} (h : eqL l a b) : okL l a = okL l b := by cases l <;> simp only [eqL] at h <;> simp only [okL, h]
def wrs (ls : List Lt) (c : Cl) : List UInt8 := ls.flatMap fun l => wrL l c
/-- A call's bytes. -/
def clBytes (c : Cl) : List UInt8 := wrs (flds c.proc) c

/-- A reader that is at a call's fields: what is left, its error, the set's own error, and the call so far. -/
structure Rst where
  rest : ByteArray
  err : Int
  serr : Int
  c : Cl
def psGet (s : ByteArray) (e : Int) : Ps × Int := got Ps.zero okPs (psTake s e)
def rdL : Lt → Rst → Rst
  | .f, x => ⟨(rdOpaque 64 x.rest x.err).1, (rdOpaque 64 x.rest x.err).2.1, x.serr, { x.c with fh := (rdOpaque 64 x.rest x.err).2.2 }⟩
  | .n, x => ⟨(rdOpaque 255 x.rest x.err).1, (rdOpaque 255 x.rest x.err).2.1, x.serr, { x.c with name := (rdOpaque 255 x.rest x.err).2.2 }⟩
  | .F, x => ⟨(rdOpaque 64 x.rest x.err).1, (rdOpaque 64 x.rest x.err).2.1, x.serr, { x.c with fh2 := (rdOpaque 64 x.rest x.err).2.2 }⟩
  | .N, x => ⟨(rdOpaque 255 x.rest x.err).1, (rdOpaque 255 x.rest x.err).2.1, x.serr, { x.c with name2 := (rdOpaque 255 x.rest x.err).2.2 }⟩
  | .o, x => ⟨(rdU64 x.rest x.err).1, (rdU64 x.rest x.err).2.1, x.serr, { x.c with offset := (rdU64 x.rest x.err).2.2 }⟩
  | .c, x => ⟨(rdU32 x.rest x.err).1, (rdU32 x.rest x.err).2.1, x.serr, { x.c with count := (rdU32 x.rest x.err).2.2 }⟩
  | .h, x => ⟨(rdU32 x.rest x.err).1, (rdU32 x.rest x.err).2.1, x.serr, { x.c with how := (rdU32 x.rest x.err).2.2 }⟩
  | .d, x => ⟨(rdOpaque 256 x.rest x.err).1, (rdOpaque 256 x.rest x.err).2.1, x.serr, { x.c with data := (rdOpaque 256 x.rest x.err).2.2 }⟩
  | .s, x => ⟨(psTake x.rest x.err).1, (psTake x.rest x.err).2.1, (psGet x.rest x.err).2, { x.c with set := (psGet x.rest x.err).1 }⟩
  | .g, x => ⟨(rdOpt x.rest x.err).1, (rdOpt x.rest x.err).2.1, x.serr, { x.c with guard := ⟨(rdOpt x.rest x.err).2.2.1, (rdOpt x.rest x.err).2.2.2⟩ }⟩
  | .k, x => ⟨(rdU64 x.rest x.err).1, (rdU64 x.rest x.err).2.1, x.serr, { x.c with cookie := (rdU64 x.rest x.err).2.2 }⟩
  | .v, x => ⟨(rdU64 x.rest x.err).1, (rdU64 x.rest x.err).2.1, x.serr, { x.c with verf := (rdU64 x.rest x.err).2.2 }⟩
  | .t, x => ⟨(rdOpaque 255 x.rest x.err).1, (rdOpaque 255 x.rest x.err).2.1, x.serr, { x.c with text := (rdOpaque 255 x.rest x.err).2.2 }⟩
def rds (ls : List Lt) (x : Rst) : Rst := ls.foldl (fun x l => rdL l x) x
theorem rds_cons (l : Lt) (ls : List Lt) (x : Rst) : rds (l :: ls) x = rds ls (rdL l x) := rfl
theorem rds_snoc (ls : List Lt) (l : Lt) (x : Rst) : rds (ls ++ [l]) x = rdL l (rds ls x) := by simp [rds]
theorem rdL_other {l m : Lt} (h : l ≠ m) (x : Rst) : eqL l (rdL m x).c x.c := by
  cases l <;> cases m <;> first | exact absurd rfl h | rfl
theorem rdL_proc (l : Lt) (x : Rst) : (rdL l x).c.proc = x.c.proc := by cases l <;> rfl
theorem rdL_serr {l : Lt} (h : l ≠ .s) (x : Rst) : (rdL l x).serr = x.serr := by cases l <;> first | exact absurd rfl h | rfl
theorem rds_other : ∀ (ls : List Lt) (l : Lt) (x : Rst), l ∉ ls → eqL l (rds ls x).c x.c
  | [], l, x, _ => eqL_refl l _
  | m :: ls, l, x, h => by
    rw [rds_cons]
    refine eqL_trans (rds_other ls l _ (fun e => h (List.mem_cons_of_mem _ e))) (rdL_other (fun e => h (by subst e; exact List.mem_cons_self)) x)
theorem rds_proc : ∀ (ls : List Lt) (x : Rst), (rds ls x).c.proc = x.c.proc
  | [], _ => rfl
  | m :: ls, x => by rw [rds_cons, rds_proc ls, rdL_proc]
theorem rds_serr : ∀ (ls : List Lt) (x : Rst), .s ∉ ls → (rds ls x).serr = x.serr
  | [], _, _ => rfl
  | m :: ls, x, h => by rw [rds_cons, rds_serr ls _ (fun e => h (List.mem_cons_of_mem _ e)), rdL_serr (fun e => h (by subst e; exact List.mem_cons_self))]
end Go.Proofs.YtdjnadgcjmlejaaDoor
