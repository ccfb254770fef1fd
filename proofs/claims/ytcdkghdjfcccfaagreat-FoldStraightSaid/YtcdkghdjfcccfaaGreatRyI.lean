/-
  Equality of arrays, shifts by what is left of a division. Nothing of the program stands here.
-/
import Derived.Test.YtcdkghdjfcccfaaGreatRyH
import Derived.ChangeKeysEq
namespace Go.Proofs.YtcdkghdjfcccfaaGreat
open Go.RowKit
set_option linter.unusedVariables false
set_option linter.unusedSimpArgs false
theorem mod_small {n k : Nat} (x m : BitVec n) (h : (decide (0 < m.toNat) && decide (m.toNat ≤ k)) = true) : (x % m).toNat < k := by
  simp only [Bool.and_eq_true, decide_eq_true_eq] at h
  rw [BitVec.toNat_umod]
  exact Nat.lt_of_lt_of_le (Nat.mod_lt _ h.1) h.2
theorem u32_neg0 (a : BitVec 32) : IntKind.u32.wrap (0 - nn a) = nn (-a) := by rw [Int.zero_sub]; exact u32_neg' a
theorem u64_neg0 (a : BitVec 64) : IntKind.u64.wrap (0 - nn a) = nn (-a) := by rw [Int.zero_sub]; exact u64_neg' a
section
variable {P : Program} {w : World} {d : Nat} {t e : TypeId} {n c : Nat}
end
end Go.Proofs.YtcdkghdjfcccfaaGreat

