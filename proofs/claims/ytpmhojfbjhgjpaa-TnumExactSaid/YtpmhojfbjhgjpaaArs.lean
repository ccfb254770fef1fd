/-
  The arithmetic shifts of a tnum, narrow ones too: contracts over the program's own text.
-/
import Derived.Test.YtpmhojfbjhgjpaaRefL
import Derived.BigRegion
namespace Go.Proofs.Ytpmhojfbjhgjpaa
open Go.ChangeShapes Go.WideShapes Go.ChangeAt Go.RowKit
set_option linter.unusedVariables false
set_option linter.unusedSimpArgs false
/-- The lowest 32 bits shifted, with their sign. -/
def s32 (x : BitVec 64) (k : Nat) : BitVec 64 := ((x.setWidth 32).sshiftRight k).setWidth 64
theorem int32_of (x : BitVec 64) : wrap32 (nn x) = (x.setWidth 32).toInt := by
  have := x.isLt
  unfold nn wrap32
  rw [BitVec.toInt_eq_toNat_cond, BitVec.toNat_setWidth]
  split <;> omega
theorem int32_of' (x : BitVec 64) : IntKind.i32.wrap (nn x) = (x.setWidth 32).toInt := by
  rw [← int32_of, IntKind.wrap_i32]; unfold wrap32; omega
theorem int32_low (x : BitVec 64) : wrap32 (nn x % 4294967296) = (x.setWidth 32).toInt := by
  rw [← int32_of]
  unfold wrap32; omega
theorem int32_low' (x : BitVec 64) : IntKind.i32.wrap (nn x % 4294967296) = (x.setWidth 32).toInt := by
  rw [← int32_low, IntKind.wrap_i32]; unfold wrap32; omega
theorem s32_of (x : BitVec 64) (k : Nat) : ((x.setWidth 32).toInt / 2 ^ k) % 4294967296 = nn (s32 x k) := by
  have e : ((x.setWidth 32).sshiftRight k).toInt = (x.setWidth 32).toInt / 2 ^ k := by
    rw [BitVec.toInt_sshiftRight, Int.shiftRight_eq_div_pow]; simp
  rw [← e]
  unfold nn s32
  generalize (x.setWidth 32).sshiftRight k = y
  have := y.isLt
  rw [BitVec.toNat_setWidth, BitVec.toInt_eq_toNat_cond]
  split <;> omega
theorem s32_of' (x : BitVec 64) (k : Nat) : IntKind.u32.wrap ((x.setWidth 32).toInt / 2 ^ k) = nn (s32 x k) := by
  rw [← s32_of]; simp [IntKind.wrap, IntKind.signed, IntKind.bits]
def sarN (a : T) (k : Nat) : T := ⟨s32 (kn a).v k, s32 (kn a).m k⟩
theorem kk1' (n : Int) : IntKind.i64.wrap (n.tmod 32 + 32) = n.tmod 32 + 32 := by
  have h1 := Int.lt_tmod_of_pos n (by decide : (0 : Int) < 32)
  have h2 := Int.tmod_lt_of_pos n (by decide : (0 : Int) < 32)
  rw [IntKind.wrap_i64]; omega
theorem kk2' (n : Int) : wrap64 (n.tmod 32 + 32) = n.tmod 32 + 32 := by
  have h1 := Int.lt_tmod_of_pos n (by decide : (0 : Int) < 32)
  have h2 := Int.tmod_lt_of_pos n (by decide : (0 : Int) < 32)
  unfold wrap64; omega
theorem kk3' (n : Int) : (n.tmod 32 + 32).tmod 32 = (cnt n 32 : Int) := by
  have h1 := Int.lt_tmod_of_pos n (by decide : (0 : Int) < 32)
  have h2 := Int.tmod_lt_of_pos n (by decide : (0 : Int) < 32)
  rw [Int.tmod_eq_emod_of_nonneg (by omega)]
  unfold cnt
  have h3 := Int.tmod_def n 32
  have h4 : n.tmod 32 % 32 = n % 32 := by
    rw [h3, Int.sub_mul_emod_self_left]
  omega
theorem times32 (n : Int) (w : World) : Calls Try.prog 63 #[.int .i64 n, .int .i64 32] w fun e w' => e = .returned (.int .i64 (cnt n 32 : Nat)) ∧ w = w' := by
  have e1 := kk1' n
  have e2 := kk2' n
  have e3 := kk3' n
  go_enter Try.func63, Try.ntmps63
  go_wp2
  go_ret
  exact ⟨rfl, rfl⟩
end Go.Proofs.Ytpmhojfbjhgjpaa
