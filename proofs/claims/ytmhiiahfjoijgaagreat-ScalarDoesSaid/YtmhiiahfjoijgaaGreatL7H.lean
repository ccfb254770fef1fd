/-
  The kinds of values of package scalar, and when they are equal.
-/
import Derived.Test.YtmhiiahfjoijgaaGreatRxW
import Derived.Test.YtmhiiahfjoijgaaGreatL7Math
import Derived.Lib.BitFns
import Derived.Lib.ItoaNum
import Derived.Laws.StructEq
import Derived.Laws.EntriesVeiled
import Derived.Test.YtmhiiahfjoijgaaGreatProg
namespace Go.Proofs.YtmhiiahfjoijgaaGreat
open Go.RowKit
set_option linter.unusedVariables false
set_option linter.unusedSimpArgs false
set_option maxRecDepth 100000
def tv (t : T) : Value := .agg #[.int .u64 (nn t.v), .int .u64 (nn t.m)]
structure S where
  t : T
  umin : BitVec 64
  umax : BitVec 64
  smin : BitVec 64
  smax : BitVec 64
  deriving DecidableEq, Inhabited
def sv (s : S) : Value := .agg #[.int .u64 (nn s.t.v), .int .u64 (nn s.t.m), .int .u64 (nn s.umin), .int .u64 (nn s.umax), .int .i64 (ii s.smin), .int .i64 (ii s.smax)]
structure TT where
  a : T
  b : T
  deriving Inhabited
def ttv (p : TT) : Value := .agg #[.int .u64 (nn p.a.v), .int .u64 (nn p.a.m), .int .u64 (nn p.b.v), .int .u64 (nn p.b.m)]
structure SS where
  a : S
  b : S
  deriving Inhabited
def ssv (p : SS) : Value := .agg #[.int .u64 (nn p.a.t.v), .int .u64 (nn p.a.t.m), .int .u64 (nn p.a.umin), .int .u64 (nn p.a.umax), .int .i64 (ii p.a.smin), .int .i64 (ii p.a.smax), .int .u64 (nn p.b.t.v), .int .u64 (nn p.b.t.m), .int .u64 (nn p.b.umin), .int .u64 (nn p.b.umax), .int .i64 (ii p.b.smin), .int .i64 (ii p.b.smax)]
structure OO where
  a : S
  b : S
  w : BitVec 64
  deriving Inhabited
def ov (p : OO) : Value := .agg #[.int .u64 (nn p.a.t.v), .int .u64 (nn p.a.t.m), .int .u64 (nn p.a.umin), .int .u64 (nn p.a.umax), .int .i64 (ii p.a.smin), .int .i64 (ii p.a.smax), .int .u64 (nn p.b.t.v), .int .u64 (nn p.b.t.m), .int .u64 (nn p.b.umin), .int .u64 (nn p.b.umax), .int .i64 (ii p.b.smin), .int .i64 (ii p.b.smax), .int .i64 (ii p.w)]
structure Sp where
  least : BitVec 64
  most : BitVec 64
  some : Bool
  deriving Inhabited
def spv (p : Sp) : Value := .agg #[.int .u64 (nn p.least), .int .u64 (nn p.most), .bool p.some]
theorem eqi25 (d : Nat) (x0 x1 y0 y1 : Int) (w : World) : (Op.equalIn (d + 3) 25 (.agg #[.int .u64 x0, .int .u64 x1]) (.agg #[.int .u64 y0, .int .u64 y1])).run Tryz.prog w = .ok (x0 == y0 && x1 == y1) w := by
  rw [run_equalIn_agg w (d + 2) 25 _ _ (by kernel_rfl) (by kernel_rfl)]
  by_cases h0 : x0 = y0 <;> by_cases h1 : x1 = y1 <;> go_simp <;> simp [h0, h1]
theorem eqi27 (d : Nat) (x0 x1 x2 x3 x4 x5 y0 y1 y2 y3 y4 y5 : Int) (w : World) : (Op.equalIn (d + 4) 27 (.agg #[.int .u64 x0, .int .u64 x1, .int .u64 x2, .int .u64 x3, .int .i64 x4, .int .i64 x5]) (.agg #[.int .u64 y0, .int .u64 y1, .int .u64 y2, .int .u64 y3, .int .i64 y4, .int .i64 y5])).run Tryz.prog w = .ok ((x0 == y0 && x1 == y1) && (x2 == y2 && (x3 == y3 && (x4 == y4 && x5 == y5)))) w := by
  rw [run_equalIn_agg w (d + 3) 27 _ _ (by kernel_rfl) (by kernel_rfl)]
  have h := eqi25 d x0 x1 y0 y1
  go_simp
  by_cases h0 : x0 = y0 <;> by_cases h1 : x1 = y1 <;> simp [h0, h1] <;> (repeat' split) <;> simp_all
theorem eqi97 (d : Nat) (x0 x1 x2 x3 x4 x5 y0 y1 y2 y3 y4 y5 : Int) (w : World) : (Op.equalIn (d + 5) 97 (.agg #[.int .u64 x0, .int .u64 x1, .int .u64 x2, .int .u64 x3, .int .i64 x4, .int .i64 x5]) (.agg #[.int .u64 y0, .int .u64 y1, .int .u64 y2, .int .u64 y3, .int .i64 y4, .int .i64 y5])).run Tryz.prog w = .ok ((x0 == y0 && x1 == y1) && (x2 == y2 && (x3 == y3 && (x4 == y4 && x5 == y5)))) w := by
  rw [run_equalIn_agg w (d + 4) 97 _ _ (by kernel_rfl) (by kernel_rfl)]
  have h := eqi27 d x0 x1 x2 x3 x4 x5 y0 y1 y2 y3 y4 y5
  go_simp
  split <;> simp_all
/-- The equality of structs, of whose parts it is known when they are equal. -/
theorem run_aggeq {P : Program} (T : TypeId) (xs ys : Array Value) (r : Bool) (hg : P.eqGuardType P.depth T = false) (h : ∀ w, (Op.equalIn 10000 T (.agg xs) (.agg ys)).run P w = .ok r w) (xo yo : Operand) (w : World) :
    (Q.bin .eql T xo yo (.agg xs) (.agg ys)).sem.run P w = .ok (.value (.bool r)) w ∧ (Q.bin .neq T xo yo (.agg xs) (.agg ys)).sem.run P w = .ok (.value (.bool (!r))) w := by
  constructor <;> simp [Q.sem, eqGuard, binOp, Op.equal, Op.maxDepth, Sem.run, hg, h]
theorem eqT_dec (a b : T) : (nn a.v == nn b.v && nn a.m == nn b.m) = decide (a = b) := by
  rw [u_eq, u_eq, Bool.eq_iff_iff]
  simp only [Bool.and_eq_true, decide_eq_true_eq, beq_iff_eq]
  exact ⟨fun h => by cases a; cases b; simp_all, fun h => by rw [h]; exact ⟨rfl, rfl⟩⟩
theorem eqS_dec (a b : S) : ((nn a.t.v == nn b.t.v && nn a.t.m == nn b.t.m) && (nn a.umin == nn b.umin && (nn a.umax == nn b.umax && (ii a.smin == ii b.smin && ii a.smax == ii b.smax)))) = decide (a = b) := by
  rw [eqT_dec, u_eq, u_eq, i_eq, i_eq, Bool.eq_iff_iff]
  simp only [Bool.and_eq_true, decide_eq_true_eq, beq_iff_eq]
  exact ⟨fun h => by cases a; cases b; simp_all, fun h => by rw [h]; simp⟩
theorem eq25 (a b : T) (r : Bool) (h : decide (a = b) = r) (xo yo : Operand) (w : World) : (Q.bin .eql 25 xo yo (tv a) (tv b)).sem.run Tryz.prog w = .ok (.value (.bool r)) w ∧ (Q.bin .neq 25 xo yo (tv a) (tv b)).sem.run Tryz.prog w = .ok (.value (.bool (!r))) w :=
  run_aggeq 25 _ _ r (by kernel_rfl) (fun w => (eqi25 9997 _ _ _ _ w).trans (by rw [eqT_dec, h])) xo yo w
theorem eq27 (a b : S) (r : Bool) (h : decide (a = b) = r) (xo yo : Operand) (w : World) : (Q.bin .eql 27 xo yo (sv a) (sv b)).sem.run Tryz.prog w = .ok (.value (.bool r)) w ∧ (Q.bin .neq 27 xo yo (sv a) (sv b)).sem.run Tryz.prog w = .ok (.value (.bool (!r))) w :=
  run_aggeq 27 _ _ r (by kernel_rfl) (fun w => (eqi27 9996 _ _ _ _ _ _ _ _ _ _ _ _ w).trans (by rw [eqS_dec, h])) xo yo w
theorem eq97 (a b : S) (r : Bool) (h : decide (a = b) = r) (xo yo : Operand) (w : World) : (Q.bin .eql 97 xo yo (sv a) (sv b)).sem.run Tryz.prog w = .ok (.value (.bool r)) w ∧ (Q.bin .neq 97 xo yo (sv a) (sv b)).sem.run Tryz.prog w = .ok (.value (.bool (!r))) w :=
  run_aggeq 97 _ _ r (by kernel_rfl) (fun w => (eqi97 9995 _ _ _ _ _ _ _ _ _ _ _ _ w).trans (by rw [eqS_dec, h])) xo yo w
def addc (a b : BitVec 64) : BitVec 64 := bif decide (18446744073709551616 ≤ a.toNat + b.toNat) then 1#64 else 0#64
def subc (a b : BitVec 64) : BitVec 64 := bif a.ult b then 1#64 else 0#64
theorem add64_v (a b : BitVec 64) : Value.tuple #[.int .u64 (Int.ofNat (((nn a).toNat + (nn b).toNat + 0) % 18446744073709551616)), .int .u64 (Int.ofNat (((nn a).toNat + (nn b).toNat + 0) / 18446744073709551616))] = .tuple #[.int .u64 (nn (a + b)), .int .u64 (nn (addc a b))] := by
  have h1 : Int.ofNat (((nn a).toNat + (nn b).toNat + 0) % 18446744073709551616) = nn (a + b) := by
    unfold nn; rw [BitVec.toNat_add]; simp
  have h2 : Int.ofNat (((nn a).toNat + (nn b).toNat + 0) / 18446744073709551616) = nn (addc a b) := by
    unfold nn addc
    have := a.isLt
    have := b.isLt
    simp only [Int.toNat_natCast, Nat.add_zero]
    by_cases h : 18446744073709551616 ≤ a.toNat + b.toNat
    · simp only [h, decide_true, cond_true]; simp; omega
    · simp only [h, decide_false, cond_false]; simp; omega
  rw [h1, h2]
theorem sub64_v (a b : BitVec 64) : Value.tuple #[.int .u64 (Int.ofNat (((nn a).toNat + 18446744073709551616 - (nn b).toNat - 0) % 18446744073709551616)), .int .u64 (Int.ofNat (if (nn a).toNat < (nn b).toNat + 0 then 1 else 0))] = .tuple #[.int .u64 (nn (a - b)), .int .u64 (nn (subc a b))] := by
  have h1 : Int.ofNat (((nn a).toNat + 18446744073709551616 - (nn b).toNat - 0) % 18446744073709551616) = nn (a - b) := by
    unfold nn; rw [BitVec.toNat_sub]
    have := b.isLt
    simp only [Int.toNat_natCast, Nat.sub_zero]
    show ((_ : Nat) : Int) = _
    congr 1
    omega
  have h2 : Int.ofNat (if (nn a).toNat < (nn b).toNat + 0 then 1 else 0) = nn (subc a b) := by
    unfold nn subc BitVec.ult
    simp only [Int.toNat_natCast, Nat.add_zero]
    by_cases h : a.toNat < b.toNat <;> simp [h]
  rw [h1, h2]
theorem ii_pos {y : BitVec 64} (h : BitVec.slt y 0#64 = false) : ii y = (y.toNat : Int) := by
  apply ii_nat
  unfold BitVec.slt at h
  have h : ¬ y.toInt < 0 := by simpa using h
  rw [BitVec.toInt_eq_toNat_cond] at h
  split at h <;> omega
theorem lt_small {y : BitVec 64} {n : Nat} (h : BitVec.slt y 0#64 = false) (g : BitVec.slt y (BitVec.ofNat 64 n) = true) : y.toNat < n := by
  have h1 : y.toInt = _ := ii_pos h
  unfold BitVec.slt at g
  have g : y.toInt < (BitVec.ofNat 64 n).toInt := by simpa using g
  rw [h1, BitVec.toInt_eq_toNat_cond, BitVec.toNat_ofNat] at g
  have := Nat.mod_le n (2 ^ 64)
  split at g <;> omega
theorem out_of (n : Nat) (hn : n < 2 ^ 63) (x : BitVec 64) (h : BitVec.slt x 0#64 = false) (g : BitVec.slt x (BitVec.ofNat 64 n) = true) (hk : ∀ k, k < n → (x == BitVec.ofNat 64 k) = false) : False := by
  have h1 := lt_small h g
  have h2 := hk x.toNat h1
  rw [BitVec.ofNat_toNat, BitVec.setWidth_eq] at h2
  simp at h2
/-- How many bits a number has. -/
def blen (x : BitVec 64) : Nat := Lib.bitLen x.toNat
theorem blen_le (x : BitVec 64) : blen x ≤ 64 := Lib.bitLen_le _ _ (Nat.le_refl _) x.isLt
def m_Len64 (x : BitVec 64) : BitVec 64 := BitVec.ofNat 64 (blen x)
theorem len_toNat (x : BitVec 64) : (m_Len64 x).toNat = blen x := by
  have := blen_le x
  unfold m_Len64
  rw [BitVec.toNat_ofNat, Nat.mod_eq_of_lt (by omega)]
theorem len_nat (x : BitVec 64) : ii (m_Len64 x) = ((m_Len64 x).toNat : Int) := ii_nat _ (by have := blen_le x; have := len_toNat x; omega)
end Go.Proofs.YtmhiiahfjoijgaaGreat
