/-
  The shifts of package tnum, as contracts over the program's own text.
-/
import Derived.Test.YtpmhojfbjhgjpaaOf
import Derived.BigRegion
namespace Go.Proofs.Ytpmhojfbjhgjpaa
open Go.ChangeShapes Go.WideShapes Go.ChangeAt Go.RowKit
set_option linter.unusedVariables false
set_option linter.unusedSimpArgs false
theorem b_shl (x : BitVec 64) (k : Nat) : IntKind.u64.wrap (nn x * 2 ^ k) = nn (x <<< k) := by
  unfold nn
  rw [IntKind.wrap_u64, BitVec.toNat_shiftLeft, Nat.shiftLeft_eq]
  simp
theorem b_shr (x : BitVec 64) (k : Nat) : nn x / 2 ^ k = nn (x >>> k) := by
  unfold nn
  rw [BitVec.toNat_ushiftRight, Nat.shiftRight_eq_div_pow]
  simp
theorem b_int (x : BitVec 64) : wrap64 (nn x) = x.toInt := by
  have := x.isLt
  unfold nn wrap64
  rw [BitVec.toInt_eq_toNat_cond]
  split <;> omega
theorem b_sar (x : BitVec 64) (k : Nat) : IntKind.u64.wrap (x.toInt / 2 ^ k) = nn (x.sshiftRight k) := by
  have e : (x.sshiftRight k).toInt = x.toInt / 2 ^ k := by
    rw [BitVec.toInt_sshiftRight, Int.shiftRight_eq_div_pow]; simp
  rw [← e]
  generalize x.sshiftRight k = y
  have := y.isLt
  unfold nn
  rw [IntKind.wrap_u64, BitVec.toInt_eq_toNat_cond]
  split <;> omega
/-- A number of bits, from 0 on. -/
def cnt (n : Int) (m : Nat) : Nat := (n % (m : Int)).toNat
theorem b_cnt64 (n : Int) : bits .and .i64 n 63 = (cnt n 64 : Int) := by
  have h : (BitVec.ofInt 64 n &&& BitVec.ofInt 64 63).toNat = (n % 64).toNat := by
    rw [BitVec.toNat_and, show (BitVec.ofInt 64 63).toNat = 2 ^ 6 - 1 from rfl, Nat.and_two_pow_sub_one_eq_mod, BitVec.toNat_ofInt]
    omega
  show IntKind.i64.wrap ((BitVec.ofInt 64 n &&& BitVec.ofInt 64 63).toNat : Int) = _
  rw [h, IntKind.wrap_i64]
  unfold cnt
  omega
theorem b_cnt32 (n : Int) : bits .and .i64 n 31 = (cnt n 32 : Int) := by
  have h : (BitVec.ofInt 64 n &&& BitVec.ofInt 64 31).toNat = (n % 32).toNat := by
    rw [BitVec.toNat_and, show (BitVec.ofInt 64 31).toNat = 2 ^ 5 - 1 from rfl, Nat.and_two_pow_sub_one_eq_mod, BitVec.toNat_ofInt]
    omega
  show IntKind.i64.wrap ((BitVec.ofInt 64 n &&& BitVec.ofInt 64 31).toNat : Int) = _
  rw [h, IntKind.wrap_i64]
  unfold cnt
  omega
theorem cnt_min64 (n : Int) : min (cnt n 64) 64 = cnt n 64 := by unfold cnt; omega
theorem cnt_min32 (n : Int) : min (cnt n 32) 32 = cnt n 32 := by unfold cnt; omega
theorem cnt_min3264 (n : Int) : min (cnt n 32) 64 = cnt n 32 := by unfold cnt; omega

theorem ret_tv {v m : Int} {t : T} (h1 : v = nn t.v) (h2 : m = nn t.m) : Ending.returned (.agg #[.int .u64 v, .int .u64 m]) = .returned (tv t) := by
  rw [h1, h2]; rfl
theorem unk_v : nn unk.v = 0 := rfl
theorem unk_m : nn unk.m = 18446744073709551615 := rfl
theorem b_low (x : BitVec 64) : nn x % 4294967296 = nn (x &&& 0xffffffff#64) := by
  unfold nn
  rw [BitVec.toNat_and, show (0xffffffff#64).toNat = 2 ^ 32 - 1 from rfl, Nat.and_two_pow_sub_one_eq_mod]
  omega
set_option maxRecDepth 100000 in
theorem lsh_any (a : T) (n : Int) (w : World) : Calls Try.prog 34 #[.agg #[.int .u64 (nn a.v), .int .u64 (nn a.m)], .int .i64 n] w fun e w' => e = .returned (tv (shl a (cnt n 64))) ∧ Below w.heap.size w w' := by
  by_cases h : a.v &&& a.m = 0#64
  · have hk : kn a = a := if_pos h
    have h1 := b_and
    have h2 : (nn (a.v &&& a.m) == 0) = true := by rw [b_eq0]; simp [h]
    unfold shl
    rw [hk]
    clear hk h
    have hf0 := b_cnt64 n
    have hf1 := b_shl
    have hf2 := cnt_min64 n
    go_enter Try.func34, Try.ntmps34
    go_wp2
    go_region
    go_wp2
    clear h1 h2 hf0 hf1 hf2
    go_returns
    exact ⟨rfl, by go_grown⟩
  · have hk : kn a = unk := if_neg h
    have h1 := b_and
    have h2 : (nn (a.v &&& a.m) == 0) = false := by rw [b_eq0]; simp [h]
    unfold shl
    rw [hk]
    clear hk h
    have hf0 := b_cnt64 n
    have hf1 := b_shl
    have hf2 := cnt_min64 n
    go_enter Try.func34, Try.ntmps34
    go_wp2
    go_region
    go_wp2
    clear h1 h2 hf0 hf1 hf2
    go_returns
    exact ⟨ret_tv (by rw [show unk.v = 0#64 from rfl]; simp [nn]) (by rw [← b_shl, unk_m]), by go_grown⟩
set_option maxRecDepth 100000 in
theorem rsh_any (a : T) (n : Int) (w : World) : Calls Try.prog 36 #[.agg #[.int .u64 (nn a.v), .int .u64 (nn a.m)], .int .i64 n] w fun e w' => e = .returned (tv (shr a (cnt n 64))) ∧ Below w.heap.size w w' := by
  by_cases h : a.v &&& a.m = 0#64
  · have hk : kn a = a := if_pos h
    have h1 := b_and
    have h2 : (nn (a.v &&& a.m) == 0) = true := by rw [b_eq0]; simp [h]
    unfold shr
    rw [hk]
    clear hk h
    have hf0 := b_cnt64 n
    have hf1 := b_shr
    have hf2 := cnt_min64 n
    go_enter Try.func36, Try.ntmps36
    go_wp2
    go_region
    go_wp2
    clear h1 h2 hf0 hf1 hf2
    go_returns
    exact ⟨rfl, by go_grown⟩
  · have hk : kn a = unk := if_neg h
    have h1 := b_and
    have h2 : (nn (a.v &&& a.m) == 0) = false := by rw [b_eq0]; simp [h]
    unfold shr
    rw [hk]
    clear hk h
    have hf0 := b_cnt64 n
    have hf1 := b_shr
    have hf2 := cnt_min64 n
    go_enter Try.func36, Try.ntmps36
    go_wp2
    go_region
    go_wp2
    clear h1 h2 hf0 hf1 hf2
    go_returns
    exact ⟨ret_tv (by rw [show unk.v = 0#64 from rfl]; simp [nn]) (by rw [← b_shr, unk_m]), by go_grown⟩
set_option maxRecDepth 100000 in
theorem arsh_any (a : T) (n : Int) (w : World) : Calls Try.prog 38 #[.agg #[.int .u64 (nn a.v), .int .u64 (nn a.m)], .int .i64 n, .bool true] w fun e w' => e = .returned (tv (sar a (cnt n 64))) ∧ Below w.heap.size w w' := by
  by_cases h : a.v &&& a.m = 0#64
  · have hk : kn a = a := if_pos h
    have h1 := b_and
    have h2 : (nn (a.v &&& a.m) == 0) = true := by rw [b_eq0]; simp [h]
    unfold sar
    rw [hk]
    clear hk h
    have hf0 := b_cnt64 n
    have hf1 := b_int
    have hf2 := b_sar
    have hf3 := cnt_min64 n
    go_enter Try.func38, Try.ntmps38
    go_wp2
    go_region
    go_wp2
    clear h1 h2 hf0 hf1 hf2 hf3
    go_returns
    exact ⟨rfl, by go_grown⟩
  · have hk : kn a = unk := if_neg h
    have h1 := b_and
    have h2 : (nn (a.v &&& a.m) == 0) = false := by rw [b_eq0]; simp [h]
    unfold sar
    rw [hk]
    clear hk h
    have hf0 := b_cnt64 n
    have hf1 := b_int
    have hf2 := b_sar
    have hf3 := cnt_min64 n
    go_enter Try.func38, Try.ntmps38
    go_wp2
    go_region
    go_wp2
    clear h1 h2 hf0 hf1 hf2 hf3
    go_returns
    exact ⟨ret_tv (by rw [show unk.v = 0#64 from rfl]; simp [nn]) (by rw [← b_sar, ← b_int, unk_m]), by go_grown⟩
set_option maxRecDepth 100000 in
theorem low_any (a : T) (w : World) : Calls Try.prog 40 #[.agg #[.int .u64 (nn a.v), .int .u64 (nn a.m)]] w fun e w' => e = .returned (tv (low a)) ∧ Below w.heap.size w w' := by
  by_cases h : a.v &&& a.m = 0#64
  · have hk : kn a = a := if_pos h
    have h1 := b_and
    have h2 : (nn (a.v &&& a.m) == 0) = true := by rw [b_eq0]; simp [h]
    unfold low
    rw [hk]
    clear hk h
    go_enter Try.func40, Try.ntmps40
    go_wp2
    clear h1 h2 
    go_returns
    exact ⟨ret_tv (b_low _) (b_low _), by go_grown⟩
  · have hk : kn a = unk := if_neg h
    have h1 := b_and
    have h2 : (nn (a.v &&& a.m) == 0) = false := by rw [b_eq0]; simp [h]
    unfold low
    rw [hk]
    clear hk h
    go_enter Try.func40, Try.ntmps40
    go_wp2
    clear h1 h2 
    go_returns
    exact ⟨rfl, by go_grown⟩
set_option maxRecDepth 100000 in
theorem least_any (a : T) (w : World) : Calls Try.prog 42 #[.agg #[.int .u64 (nn a.v), .int .u64 (nn a.m)]] w fun e w' => e = .returned (.int .u64 (nn (kn a).v)) ∧ Below w.heap.size w w' := by
  by_cases h : a.v &&& a.m = 0#64
  · have hk : kn a = a := if_pos h
    have h1 := b_and
    have h2 : (nn (a.v &&& a.m) == 0) = true := by rw [b_eq0]; simp [h]
    rw [hk]
    clear hk h
    have h5 : ∀ w, (Instr.field 24 (.agg #[.int .u64 (nn a.v), .int .u64 (nn a.m)]) 0).run Try.prog w = .ok (.int .u64 (nn a.v)) w := fun _ => by kernel_rfl
    go_enter Try.func42, Try.ntmps42
    go_wp2
    clear h1 h2 
    go_returns
    exact ⟨rfl, by go_grown⟩
  · have hk : kn a = unk := if_neg h
    have h1 := b_and
    have h2 : (nn (a.v &&& a.m) == 0) = false := by rw [b_eq0]; simp [h]
    rw [hk]
    clear hk h
    have h5 : ∀ w, (Instr.field 24 (.agg #[.int .u64 (0), .int .u64 (18446744073709551615)]) 0).run Try.prog w = .ok (.int .u64 (0)) w := fun _ => by kernel_rfl
    go_enter Try.func42, Try.ntmps42
    go_wp2
    clear h1 h2 
    go_returns
    exact ⟨rfl, by go_grown⟩
set_option maxRecDepth 100000 in
theorem most_any (a : T) (w : World) : Calls Try.prog 44 #[.agg #[.int .u64 (nn a.v), .int .u64 (nn a.m)]] w fun e w' => e = .returned (.int .u64 (nn (hi (kn a)))) ∧ Below w.heap.size w w' := by
  by_cases h : a.v &&& a.m = 0#64
  · have hk : kn a = a := if_pos h
    have h1 := b_and
    have h2 : (nn (a.v &&& a.m) == 0) = true := by rw [b_eq0]; simp [h]
    unfold hi
    rw [hk]
    clear hk h
    have hf0 := b_or
    go_enter Try.func44, Try.ntmps44
    go_wp2
    clear h1 h2 hf0
    go_returns
    exact ⟨rfl, by go_grown⟩
  · have hk : kn a = unk := if_neg h
    have h1 := b_and
    have h2 : (nn (a.v &&& a.m) == 0) = false := by rw [b_eq0]; simp [h]
    unfold hi
    rw [hk]
    clear hk h
    have hf0 := b_or
    go_enter Try.func44, Try.ntmps44
    go_wp2
    clear h1 h2 hf0
    go_returns
    exact ⟨rfl, by go_grown⟩
end Go.Proofs.Ytpmhojfbjhgjpaa
