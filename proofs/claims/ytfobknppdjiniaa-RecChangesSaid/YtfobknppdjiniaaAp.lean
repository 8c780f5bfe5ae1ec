/- Attributes, options and changes: plain definitions over the writer's words; no function of attr is named here. -/
import Derived.Test.YtfobknppdjiniaaWm
namespace Go.Proofs.Ytfobknppdjiniaa
open Go.RowKit

structure Pa where
  ty : Int
  mode : Int
  nlink : Int
  uid : Int
  gid : Int
  size : Int
  id : Int
  gen : Int
  change : Int
  time : Int
deriving DecidableEq
def Pa.zero : Pa := ⟨0, 0, 0, 0, 0, 0, 0, 0, 0, 0⟩
structure Po where
  is : Bool
  n : Int
deriving DecidableEq
def Po.zero : Po := ⟨false, 0⟩
structure Pp where
  is : Bool
  attr : Pa
deriving DecidableEq
def Pp.zero : Pp := ⟨false, .zero⟩
structure Pw where
  before : Po
  after : Pp
deriving DecidableEq
def Pw.zero : Pw := ⟨.zero, .zero⟩
structure Ps where
  mode : Po
  uid : Po
  gid : Po
  size : Po
  time : Po
deriving DecidableEq
def Ps.zero : Ps := ⟨.zero, .zero, .zero, .zero, .zero⟩
/-- The cells of each, in their order. -/
def Pa.vs (a : Pa) : List Value := [.int .i64 a.ty, .int .i64 a.mode, .int .i64 a.nlink, .int .i64 a.uid, .int .i64 a.gid, .int .i64 a.size, .int .i64 a.id, .int .i64 a.gen, .int .i64 a.change, .int .i64 a.time]
def Po.vs (o : Po) : List Value := [.bool o.is, .int .i64 o.n]
def Pp.vs (p : Pp) : List Value := .bool p.is :: p.attr.vs
def Pw.vs (c : Pw) : List Value := c.before.vs ++ c.after.vs
def Ps.vs (s : Ps) : List Value := s.mode.vs ++ s.uid.vs ++ s.gid.vs ++ s.size.vs ++ s.time.vs

/-- May they be? -/
def okIn (n most : Int) : Bool := decide (0 ≤ n) && decide (n ≤ most)
def okPa (a : Pa) : Bool :=
  decide (1 ≤ a.ty) && decide (a.ty ≤ 7) && okIn a.mode 4095 && okIn a.nlink 4294967295 && okIn a.uid 4294967295 && okIn a.gid 4294967295 && okIn a.id 4294967295 &&
    decide (0 ≤ a.size) && decide (0 ≤ a.gen) && decide (0 ≤ a.change) && decide (0 ≤ a.time)
def okPo (o : Po) (most : Int) : Bool := if o.is then okIn o.n most else decide (o.n = 0)
def okPp (p : Pp) : Bool := if p.is then okPa p.attr else decide (p.attr = .zero)
def okPw (c : Pw) : Bool := okPo c.before 9223372036854775807 && okPp c.after
def okPs (s : Ps) : Bool := okPo s.mode 4095 && okPo s.uid 4294967295 && okPo s.gid 4294967295 && okPo s.size 9223372036854775807 && okPo s.time 9223372036854775807
theorem okIn_iff (n most : Int) : okIn n most = true ↔ 0 ≤ n ∧ n ≤ most := by simp [okIn]
theorem okPa_iff (a : Pa) : okPa a = true ↔ 1 ≤ a.ty ∧ a.ty ≤ 7 ∧ (0 ≤ a.mode ∧ a.mode ≤ 4095) ∧ (0 ≤ a.nlink ∧ a.nlink ≤ 4294967295) ∧ (0 ≤ a.uid ∧ a.uid ≤ 4294967295) ∧ (0 ≤ a.gid ∧ a.gid ≤ 4294967295) ∧
    (0 ≤ a.id ∧ a.id ≤ 4294967295) ∧ 0 ≤ a.size ∧ 0 ≤ a.gen ∧ 0 ≤ a.change ∧ 0 ≤ a.time := by
  simp only [okPa, okIn_iff, Bool.and_eq_true, decide_eq_true_eq, and_assoc]
theorem Pa.ext10 {a b : Pa} (h1 : a.ty = b.ty) (h2 : a.mode = b.mode) (h3 : a.nlink = b.nlink) (h4 : a.uid = b.uid) (h5 : a.gid = b.gid) (h6 : a.size = b.size) (h7 : a.id = b.id) (h8 : a.gen = b.gen)
    (h9 : a.change = b.change) (h10 : a.time = b.time) : a = b := by
  cases a; cases b; simp_all
theorem Pa.zero_iff (a : Pa) : a = Pa.zero ↔ a.ty = 0 ∧ a.mode = 0 ∧ a.nlink = 0 ∧ a.uid = 0 ∧ a.gid = 0 ∧ a.size = 0 ∧ a.id = 0 ∧ a.gen = 0 ∧ a.change = 0 ∧ a.time = 0 := by
  cases a; simp [Pa.zero]
theorem okPo_iff (o : Po) (most : Int) : okPo o most = true ↔ (o.is = true ∧ 0 ≤ o.n ∧ o.n ≤ most) ∨ (o.is = false ∧ o.n = 0) := by
  unfold okPo
  cases o.is <;> simp [okIn_iff]

/-- Their bytes. -/
def poBytes (o : Po) : List UInt8 := if o.is then be 4 1 ++ be 8 o.n.toNat else be 4 0
def paBytes (a : Pa) : List UInt8 :=
  be 4 a.ty.toNat ++ be 4 a.mode.toNat ++ be 4 a.nlink.toNat ++ be 4 a.uid.toNat ++ be 4 a.gid.toNat ++ be 8 a.size.toNat ++ be 4 a.id.toNat ++ be 8 a.gen.toNat ++ be 8 a.change.toNat ++ be 8 a.time.toNat
def ppBytes (p : Pp) : List UInt8 := if p.is then be 4 1 ++ paBytes p.attr else be 4 0
def pwBytes (c : Pw) : List UInt8 := poBytes c.before ++ ppBytes c.after
def psBytes (s : Ps) : List UInt8 := poBytes s.mode ++ poBytes s.uid ++ poBytes s.gid ++ poBytes s.size ++ poBytes s.time
theorem putOpt_ok {o : Po} {most : Int} (h : okPo o most = true) : putOpt o.is o.n = (0, poBytes o) := by
  rcases (okPo_iff o most).1 h with ⟨h1, h2, _⟩ | ⟨h1, _⟩
  · unfold putOpt poBytes; rw [h1, if_pos rfl, if_pos rfl, if_neg (by omega)]
  · unfold putOpt poBytes; rw [h1, if_neg (by simp), if_neg (by simp)]
theorem putU32_ok {n : Int} (h0 : 0 ≤ n) (h1 : n ≤ 4294967295) : putU32 n = (0, be 4 n.toNat) := by
  unfold putU32; rw [if_neg (by omega)]
theorem putU64_ok {n : Int} (h0 : 0 ≤ n) : putU64 n = (0, be 8 n.toNat) := by
  unfold putU64; rw [if_neg (by omega)]

/-- What comes of a change. -/
def psEmpty (s : Ps) : Bool := !s.mode.is && !s.uid.is && !s.gid.is && !s.size.is && !s.time.is
def paApply (a : Pa) (s : Ps) (now : Int) : Pa :=
  { a with
    mode := if s.mode.is then s.mode.n else a.mode
    uid := if s.uid.is then s.uid.n else a.uid
    gid := if s.gid.is then s.gid.n else a.gid
    time := if s.time.is then s.time.n else if s.size.is then now else a.time
    change := if psEmpty s then a.change else now }
end Go.Proofs.Ytfobknppdjiniaa
