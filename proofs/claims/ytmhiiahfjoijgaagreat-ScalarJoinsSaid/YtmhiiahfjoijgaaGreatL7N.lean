/-
  Numbers that count rounds.
-/
import Derived.Test.YtmhiiahfjoijgaaGreatL7Sync
import Derived.Test.YtmhiiahfjoijgaaGreatRxI
namespace Go.Proofs.YtmhiiahfjoijgaaGreat
open Go.RowKit
set_option linter.unusedVariables false
set_option linter.unusedSimpArgs false
theorem slt0_le {s : BitVec 64} (h : s.toNat ≤ 64) : BitVec.slt s 0#64 = false := by
  rw [slt_iff, toInt_cond]; simp; omega
theorem down1 {s : BitVec 64} (h : ¬ BitVec.slt s 0#64 = true) : (s - 1#64).toInt = s.toInt - 1 ∧ 0 ≤ s.toInt := by
  rw [slt_iff] at h
  simp at h
  have h1 := toInt_cond s
  have h2 := toInt_cond (s - 1#64)
  have e : (s - 1#64).toNat = (s.toNat + 18446744073709551615) % 18446744073709551616 := by
    rw [BitVec.toNat_sub]; simp; omega
  have := s.isLt
  rw [e] at h2
  split at h1 <;> split at h2 <;> omega
theorem up1 {s : BitVec 64} {n : Nat} (hI : s.toNat ≤ n) (hn : n < 2 ^ 63) (h : BitVec.slt s (BitVec.ofNat 64 n) = true) : (s + 1#64).toNat = s.toNat + 1 ∧ s.toNat < n := by
  rw [slt_iff] at h
  simp only [decide_eq_true_eq] at h
  have e : (BitVec.ofNat 64 n).toNat = n := by rw [BitVec.toNat_ofNat]; omega
  have h1 := toInt_cond s
  have h2 := toInt_cond (BitVec.ofNat 64 n)
  rw [e] at h2
  have e2 : (s + 1#64).toNat = (s.toNat + 1) % 18446744073709551616 := by rw [BitVec.toNat_add]; rfl
  rw [e2]
  split at h1 <;> split at h2 <;> omega
theorem slt0_ge {s : BitVec 64} (h : (0 : Int) ≤ s.toInt) : BitVec.slt s 0#64 = false := by
  rw [slt_iff]; simp; omega
theorem up2 {s w : BitVec 64} (hI : (0 : Int) ≤ s.toInt) (h : BitVec.slt s w = true) : (s + 1#64).toInt = s.toInt + 1 ∧ s.toInt < w.toInt := by
  rw [slt_iff] at h
  simp only [decide_eq_true_eq] at h
  have h1 := toInt_cond s
  have h2 := toInt_cond w
  have h3 := toInt_cond (s + 1#64)
  have e2 : (s + 1#64).toNat = (s.toNat + 1) % 18446744073709551616 := by rw [BitVec.toNat_add]; rfl
  rw [e2] at h3
  have := s.isLt
  have := w.isLt
  split at h1 <;> split at h2 <;> split at h3 <;> omega
theorem lt64 {s w : BitVec 64} (h0 : BitVec.slt s 0#64 = false) (h : BitVec.slt s w = true) (g : BitVec.ult 64#64 w = false) : BitVec.slt s 64#64 = true := by
  rw [slt_iff] at *
  rw [ult_iff] at g
  simp only [decide_eq_true_eq, decide_eq_false_iff_not] at *
  have h1 := toInt_cond s
  have h2 := toInt_cond w
  have h3 : (64#64).toInt = 64 := by decide
  have h4 : (64#64).toNat = 64 := by decide
  split at h1 <;> split at h2 <;> omega
end Go.Proofs.YtmhiiahfjoijgaaGreat
