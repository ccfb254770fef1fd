/-
  Layer 7's statements: arrays of four numbers, their places; tests on arguments.
-/
import Derived.Test.YtmhiiahfjoijgaaGreatL7N
namespace Go.Proofs.YtmhiiahfjoijgaaGreat
open Go.RowKit
set_option linter.unusedVariables false
set_option linter.unusedSimpArgs false
structure A4 where
  a : BitVec 64
  b : BitVec 64
  c : BitVec 64
  d : BitVec 64
def a4v (l : A4) : Value := .agg #[.int .u64 (nn l.a), .int .u64 (nn l.b), .int .u64 (nn l.c), .int .u64 (nn l.d)]
def sel4 (a b c d : BitVec 64) (k : Nat) : BitVec 64 := match k with
  | 0 => a
  | 1 => b
  | 2 => c
  | _ => d
theorem at4' (a b c d : BitVec 64) (k : Nat) (h : k < 4) : (#[.int .u64 (nn a), .int .u64 (nn b), .int .u64 (nn c), .int .u64 (nn d)] : Array Value)[0 + k]? = some (.int .u64 (nn (sel4 a b c d k))) := by
  rw [Nat.zero_add]
  match k, h with
  | 0, _ => rfl
  | 1, _ => rfl
  | 2, _ => rfl
  | 3, _ => rfl
theorem at4 (a b c d : BitVec 64) (k : Nat) (h : k < 4) : (#[.int .u64 (nn a), .int .u64 (nn b), .int .u64 (nn c), .int .u64 (nn d)] : Array Value)[k]? = some (.int .u64 (nn (sel4 a b c d k))) := by
  match k, h with
  | 0, _ => rfl
  | 1, _ => rfl
  | 2, _ => rfl
  | 3, _ => rfl
def md4 (x : BitVec 64) : BitVec 64 := ((x.srem 4#64) + 4#64).srem 4#64
theorem md4_lt (x : BitVec 64) : (((x.srem 4#64) + 4#64).srem 4#64).toNat < 4 ∧ ii (((x.srem 4#64) + 4#64).srem 4#64) = ((((x.srem 4#64) + 4#64).srem 4#64).toNat : Int) := by
  have h1 : (x.srem 4#64).toInt = x.toInt.tmod 4 := by rw [BitVec.toInt_srem]; rfl
  have h2 := toInt_cond ((x.srem 4#64) + 4#64)
  have b1 : -4 < x.toInt.tmod 4 ∧ x.toInt.tmod 4 < 4 := by
    have := Int.tmod_lt_of_pos x.toInt (show (0 : Int) < 4 by omega)
    have := Int.lt_tmod_of_pos x.toInt (show (0 : Int) < 4 by omega)
    omega
  have h3 : ((x.srem 4#64) + 4#64).toInt = x.toInt.tmod 4 + 4 := by
    rw [BitVec.toInt_add, h1, show (4#64).toInt = 4 from by decide]
    rw [Int.bmod_eq_of_le] <;> omega
  have h4 : (((x.srem 4#64) + 4#64).srem 4#64).toInt = (x.toInt.tmod 4 + 4) % 4 := by
    rw [BitVec.toInt_srem, h3, show (4#64).toInt = 4 from by decide, Int.tmod_eq_emod_of_nonneg (by omega)]
  have h5 := toInt_cond (((x.srem 4#64) + 4#64).srem 4#64)
  have b2 := (((x.srem 4#64) + 4#64).srem 4#64).isLt
  unfold ii
  rw [h4] at h5 ⊢
  split at h5 <;> omega
theorem ix34 (x : BitVec 64) (h : x.toNat < 4 ∧ ii x = (x.toNat : Int)) (a : Addr) (w : World) : (Instr.indexAt 34 (.pointer (some a)) (.int .i64 (ii x))).run Tryz.prog w = .ok (.pointer (some (a.add x.toNat))) w := by
  have hu : Tryz.prog.underlying 34 = some (.array (Tryz.prog.arrayLen 34) (Tryz.prog.elem 34)) := by kernel_rfl
  have hl : Tryz.prog.arrayLen 34 = 4 := by kernel_rfl
  have he : (sizeOf (Tryz.prog.elem 34)).run Tryz.prog w = .ok 1 w := by kernel_rfl
  rw [run_indexAt_array (h := hu), hl, if_pos (by rw [h.2]; omega), he, h.2]
  simp [Result.andThen]
end Go.Proofs.YtmhiiahfjoijgaaGreat
