/-
  Instructions: the reference's words on one slot are the program's.
-/
import Derived.Test.YtnoflelhkgdebaaRxJ
import Derived.Test.YtnoflelhkgdebaaS1O
import Derived.Test.YtnoflelhkgdebaaS1CC
namespace Go.Proofs.Ytnoflelhkgdebaa
open Go.RowKit
set_option linter.unusedVariables false
set_option linter.unusedSimpArgs false
set_option maxRecDepth 100000
theorem four_s (s : BitVec 8) : (s == 0#8, s == 1#8, s == 4#8, BitVec.ult 1#8 s) = (true, false, false, false) ∨ (s == 0#8, s == 1#8, s == 4#8, BitVec.ult 1#8 s) = (false, true, false, false) ∨ (s == 0#8, s == 1#8, s == 4#8, BitVec.ult 1#8 s) = (false, false, true, true) ∨ (s == 0#8, s == 1#8, s == 4#8, BitVec.ult 1#8 s) = (false, false, false, true) := by
  revert s; decide +kernel
theorem five_i (i : BitVec 32) : (i == 0#32, i == 16#32, i == 32#32, i == 64#32) = (true, false, false, false) ∨ (i == 0#32, i == 16#32, i == 32#32, i == 64#32) = (false, true, false, false) ∨ (i == 0#32, i == 16#32, i == 32#32, i == 64#32) = (false, false, true, false) ∨ (i == 0#32, i == 16#32, i == 32#32, i == 64#32) = (false, false, false, true) ∨ (i == 0#32, i == 16#32, i == 32#32, i == 64#32) = (false, false, false, false) := by
  by_cases h0 : i = 0#32
  · subst h0; simp
  · by_cases h1 : i = 16#32
    · subst h1; simp
    · by_cases h2 : i = 32#32
      · subst h2; simp
      · by_cases h3 : i = 64#32
        · subst h3; simp
        · simp [h0, h1, h2, h3]
set_option maxHeartbeats 4000000 in
theorem known_eq (x : Insn) : m_barbicanref1_Known x = m_insn_known x := by
  obtain ⟨o, d, s, f, i⟩ := x
  have hs := four_s s
  have hi := five_i i
  unfold m_barbicanref1_Known m_insn_known m_insn_knownAlu m_insn_compares m_insn_plainOperand jp_barbicanref1_Known_J0 jp_barbicanref1_Known_J1 jp_barbicanref1_Known_J2 jp_barbicanref1_Known_J1_J0 jp_barbicanref1_Known_J1_J1 jp_barbicanref1_Known_J1_J2 jp_barbicanref1_Known_J1_J3 jp_barbicanref1_Known_J1_J4 jp_barbicanref1_Known_J1_J1_J0 jp_barbicanref1_Known_J1_J1_J1 jp_barbicanref1_Known_J1_J3_J0 jp_barbicanref1_Known_J1_J3_J1 jp_barbicanref1_Known_J1_J4_J0 jp_barbicanref1_Known_J1_J4_J1 jp_barbicanref1_Known_J1_J4_J2 m_barbicanref1_Size m_barbicanref1_IsWide m_barbicanref1_X m_barbicanref1_Class m_barbicanref1_Code
  dsimp only
  rw [show (f == f) = true from beq_self_eq_true f]
  generalize (s == 0#8) = s0 at *
  generalize (s == 1#8) = s1 at *
  generalize (s == 4#8) = s4 at *
  generalize (BitVec.ult 1#8 s) = sg at *
  generalize (i == 0#32) = i0 at *
  generalize (i == 16#32) = i16 at *
  generalize (i == 32#32) = i32 at *
  generalize (i == 64#32) = i64 at *
  generalize (d == 0#8) = d0 at *
  generalize (f == 0#16) = f0 at *
  clear s i d f
  simp only [Prod.mk.injEq] at hs hi
  rcases hs with ⟨rfl, rfl, rfl, rfl⟩ | ⟨rfl, rfl, rfl, rfl⟩ | ⟨rfl, rfl, rfl, rfl⟩ | ⟨rfl, rfl, rfl, rfl⟩ <;> rcases hi with ⟨rfl, rfl, rfl, rfl⟩ | ⟨rfl, rfl, rfl, rfl⟩ | ⟨rfl, rfl, rfl, rfl⟩ | ⟨rfl, rfl, rfl, rfl⟩ | ⟨rfl, rfl, rfl, rfl⟩ <;> (revert o d0 f0; decide +kernel)
end Go.Proofs.Ytnoflelhkgdebaa

