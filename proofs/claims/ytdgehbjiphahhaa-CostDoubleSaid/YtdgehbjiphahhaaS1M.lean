/-
  Instructions: what the check comes to, in plain words (no program).
-/
import Derived.Test.YtdgehbjiphahhaaS1B
namespace Go.Proofs.Ytdgehbjiphahhaa
open Go.RowKit
set_option linter.unusedVariables false
set_option linter.unusedSimpArgs false
theorem wr {x : Int} (h0 : -9223372036854775808 ≤ x) (h1 : x < 9223372036854775808) : IntKind.i64.wrap x = x := z_wrap h0 h1
theorem ii32 (x : BitVec 32) : -2147483648 ≤ ii x ∧ ii x < 2147483648 := by
  have h1 := BitVec.le_toInt x
  have h2 := BitVec.toInt_lt (x := x)
  unfold ii
  constructor <;> simpa using by assumption
theorem ii16 (x : BitVec 16) : -32768 ≤ ii x ∧ ii x < 32768 := by
  have h1 := BitVec.le_toInt x
  have h2 := BitVec.toInt_lt (x := x)
  unfold ii
  constructor <;> simpa using by assumption
theorem inR_nat' {k n : Nat} (h : k < n) : inR (k : Int) n = true := inR_iff.2 ⟨by omega, by omega⟩
theorem d_t {p : Prop} [Decidable p] (h : p) : decide p = true := decide_eq_true h
theorem d_f {p : Prop} [Decidable p] (h : ¬ p) : decide p = false := decide_eq_false h
/-- Is it a wide load? Is a slot a second one? -/
def wideB (x : Insn) : Bool := x.fOp == 24#8
def sec (A : Nat → Insn) : Nat → Bool
  | 0 => false
  | k + 1 => wideB (A k) && !sec A k
def wid (x : Insn) : Nat := if wideB x then 2 else 1
/-- Where the row of wide loads' Ops ahead of k begins. -/
def runS (A : Nat → Insn) : Nat → Nat
  | 0 => 0
  | k + 1 => if wideB (A k) then runS A k else k + 1
theorem runS_le (A : Nat → Insn) : ∀ k, runS A k ≤ k
  | 0 => Nat.le_refl _
  | k + 1 => by
    unfold runS
    split
    · exact Nat.le_succ_of_le (runS_le A k)
    · exact Nat.le_refl _
theorem sec_run (A : Nat → Insn) : ∀ k, sec A k = decide ((k - runS A k) % 2 = 1)
  | 0 => by simp [sec, runS]
  | k + 1 => by
    unfold sec runS
    have h := runS_le A k
    by_cases hw : wideB (A k) = true
    · rw [if_pos hw, hw, sec_run A k, Bool.true_and]
      by_cases h1 : (k - runS A k) % 2 = 1
      · rw [d_t h1, d_f (by omega)]; rfl
      · rw [d_f h1, d_t (by omega)]; rfl
    · rw [if_neg hw]
      have : wideB (A k) = false := by simpa using hw
      rw [this]
      simp
theorem width_eq (x : Insn) : m_op_Width x = (wid x : Int) := by
  unfold m_op_Width wid wideB
  cases x.fOp == 24#8 <;> rfl
theorem lp_second (n : Nat) (A : Nat → Insn) (hn : n ≤ 1000000) : ∀ k, k ≤ n → lpO (st_op_IsSecond_L0 n A) (.c0 (k : Int)) = some (.e0 (runS A k : Int))
  | 0, _ => lpO_end (by simp [st_op_IsSecond_L0, runS])
  | k + 1, hk => by
    have e1 : IntKind.i64.wrap (((k + 1 : Nat) : Int) - 1) = (k : Int) := by rw [wr] <;> omega
    have e2 : inR (k : Int) n = true := inR_nat' (by omega)
    have e3 : decide (0 < ((k + 1 : Nat) : Int)) = true := d_t (by omega)
    by_cases hw : wideB (A k) = true
    · rw [lpO_next (s' := .c0 (k : Int)) (by
        have hw' : ((A k).fOp == 24#8) = true := hw
        simp only [st_op_IsSecond_L0, e1, e2, e3, cond_true, Int.toNat_natCast, hw'])]
      rw [lp_second n A hn k (by omega)]
      simp [runS, hw]
    · have hw' : ((A k).fOp == 24#8) = false := by simpa [wideB] using hw
      rw [lpO_end (r := .e0 ((k + 1 : Nat) : Int)) (by simp only [st_op_IsSecond_L0, e1, e2, e3, cond_true, cond_false, Int.toNat_natCast, hw'])]
      simp [runS, hw]
theorem second_eq {n : Nat} {A : Nat → Insn} (hn : n ≤ 1000000) {k : Nat} (hk : k ≤ n) : m_op_IsSecond n A (k : Int) = some (sec A k) := by
  unfold m_op_IsSecond
  rw [lp_second n A hn k hk]
  have h := runS_le A k
  have e1 : IntKind.i64.wrap ((k : Int) - (runS A k : Int)) = ((k - runS A k : Nat) : Int) := by rw [wr] <;> omega
  simp only [Option.bind_some, e1, zrem, sec_run]
  congr 1
  rw [Bool.eq_iff_iff, beq_iff_eq, decide_eq_true_eq]
  rw [Int.tmod_eq_emod_of_nonneg (by omega)]
  omega
/-- May a subprogram be called there? Has a wide load its second slot? -/
def callB (n : Nat) (A : Nat → Insn) (t : Int) : Bool := decide (0 < t) && (decide (t < n) && !sec A t.toNat)
theorem callable_eq {n : Nat} {A : Nat → Insn} (hn : n ≤ 1000000) (t : Int) : m_insn_callable n A t = some (callB n A t) := by
  unfold m_insn_callable callB
  by_cases h0 : 0 < t
  · by_cases h1 : t < n
    · obtain ⟨k, rfl⟩ := Int.eq_ofNat_of_zero_le (show 0 ≤ t by omega)
      rw [d_t h0, d_t h1, second_eq hn (by omega)]
      simp only [cond_true, Option.bind_some, Int.toNat_natCast, Bool.true_and]
      cases sec A k <;> rfl
    · rw [d_t h0, d_f h1]; rfl
  · rw [d_f h0]; rfl
def rightB (n : Nat) (A : Nat → Insn) (k : Nat) : Bool :=
  decide (k + 1 < n) && (((A (k + 1)).fOp == 0#8) && (((A (k + 1)).fDst == 0#8) && (((A (k + 1)).fSrc == 0#8) && (((A (k + 1)).fOff == 0#16) && (((A k).fSrc == 0#8) || ((A (k + 1)).fImm == 0#32))))))
theorem right_eq {n : Nat} {A : Nat → Insn} (hn : n ≤ 1000000) {k : Nat} (hk : k < n) : m_op_RightSecond n A (k : Int) = some (rightB n A k) := by
  unfold m_op_RightSecond rightB
  have e1 : IntKind.i64.wrap ((k : Int) + 1) = ((k + 1 : Nat) : Int) := by rw [wr] <;> omega
  rw [e1, inR_nat' hk]
  by_cases h : k + 1 < n
  · rw [d_f (p := (n : Int) ≤ ((k + 1 : Nat) : Int)) (by omega), d_t h, inR_nat' h]
    simp only [cond_true, cond_false, Int.toNat_natCast, Bool.true_and]
    cases (A k).fSrc == 0#8 <;> simp
  · rw [d_t (p := (n : Int) ≤ ((k + 1 : Nat) : Int)) (by omega), d_f h]; rfl
/-- The error of the slot k by itself. -/
noncomputable def errB (n : Nat) (A : Nat → Insn) (k : Nat) : Int :=
  bif !m_insn_known (A k) then 11
  else bif (BitVec.ult 10#8 (A k).fDst || (BitVec.ult 10#8 (A k).fSrc || (((A k).fDst == 10#8) && m_insn_writes (A k)))) then 12
  else bif (wideB (A k) && !rightB n A k) then 13
  else bif (((A k).fOp == 133#8) && (((A k).fSrc == 0#8) && (BitVec.slt (A k).fImm 1#32 || BitVec.slt 28#32 (A k).fImm))) then 14
  else bif (m_insn_names (A k) && !callB n A ((k : Int) + 1 + ii (A k).fImm)) then 14
  else 0
set_option maxRecDepth 100000 in
theorem check_eq {n : Nat} {A : Nat → Insn} (hn : n ≤ 1000000) {k : Nat} (hk : k < n) : m_insn_checkSlot n A (k : Int) = some (errB n A k) := by
  unfold m_insn_checkSlot errB wideB
  have h32 := ii32 (A k).fImm
  have e1 : IntKind.i64.wrap ((k : Int) + 1) = (k : Int) + 1 := by rw [wr] <;> omega
  have e2 : IntKind.i64.wrap ((k : Int) + 1 + ii (A k).fImm) = (k : Int) + 1 + ii (A k).fImm := by rw [wr] <;> omega
  rw [inR_nat' hk]
  simp only [e1, e2, right_eq hn hk, callable_eq hn, Option.bind_some, cond_true, Int.toNat_natCast]
  generalize m_insn_known (A k) = b1
  generalize BitVec.ult 10#8 (A k).fDst = b2
  generalize BitVec.ult 10#8 (A k).fSrc = b3
  generalize ((A k).fDst == 10#8) = b4
  generalize m_insn_writes (A k) = b5
  generalize ((A k).fOp == 24#8) = b6
  generalize rightB n A k = b7
  generalize ((A k).fOp == 133#8) = b8
  generalize ((A k).fSrc == 0#8) = b9
  generalize BitVec.slt (A k).fImm 1#32 = b10
  generalize BitVec.slt 28#32 (A k).fImm = b11
  generalize m_insn_names (A k) = b12
  generalize callB n A ((k : Int) + 1 + ii (A k).fImm) = b13
  revert b1 b2 b3 b4 b5 b6 b7 b8 b9 b10 b11 b12 b13
  decide
end Go.Proofs.Ytdgehbjiphahhaa

