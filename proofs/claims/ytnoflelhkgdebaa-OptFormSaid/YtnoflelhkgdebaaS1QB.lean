/-
  Instructions: the reference's words on known slots are the program's.
-/
import Derived.Test.YtnoflelhkgdebaaS1QA
namespace Go.Proofs.Ytnoflelhkgdebaa
open Go.RowKit
set_option linter.unusedVariables false
set_option linter.unusedSimpArgs false
set_option maxRecDepth 100000
/-- The Ops of known operations, as far as it matters. -/
def okOp (o : BitVec 8) : Bool :=
  (!(o &&& 7#8 == 5#8) || (o == 5#8 || (o == 133#8 || (o == 149#8 || !(o >>> 4 == 0#8 || (o >>> 4 == 8#8 || o >>> 4 == 9#8)))))) && (!(o &&& 7#8 == 6#8) || !(o >>> 4 == 0#8 || (o >>> 4 == 8#8 || o >>> 4 == 9#8)))
set_option maxHeartbeats 4000000 in
theorem known_op {x : Insn} (h : m_insn_known x = true) : okOp x.fOp = true := by
  obtain ⟨o, d, s, f, i⟩ := x
  revert h
  unfold m_insn_known m_insn_knownAlu m_insn_compares m_insn_plainOperand okOp
  dsimp only
  generalize (f == f) = ff
  generalize (s == 0#8) = s0
  generalize (s == 1#8) = s1
  generalize (s == 4#8) = s4
  generalize (i == 0#32) = i0
  generalize (i == 16#32) = i16
  generalize (i == 32#32) = i32
  generalize (i == 64#32) = i64
  generalize (d == 0#8) = d0
  generalize (f == 0#16) = f0
  clear s i d f
  have key : ∀ (o : BitVec 8) (a : Bool), ((!(o &&& 7#8 == 5#8) || (o == 5#8 || (o == 133#8 || (o == 149#8 || !(o >>> 4 == 0#8 || (o >>> 4 == 8#8 || o >>> 4 == 9#8)))))) && (!(o &&& 7#8 == 6#8) || !(o >>> 4 == 0#8 || (o >>> 4 == 8#8 || o >>> 4 == 9#8)))) = false →
      (o == 24#8) = false ∧ (o == 98#8) = false ∧ (o == 106#8) = false ∧ (o == 114#8) = false ∧ (o == 122#8) = false ∧ (o == 97#8) = false ∧ (o == 105#8) = false ∧ (o == 113#8) = false ∧ (o == 121#8) = false ∧ (o == 99#8) = false ∧ (o == 107#8) = false ∧ (o == 115#8) = false ∧ (o == 123#8) = false ∧ (o == 5#8) = false ∧ (o == 133#8) = false ∧ (o == 149#8) = false ∧ ((o &&& 7#8) == 4#8) = false ∧ ((o &&& 7#8) == 7#8) = false ∧ ((o >>> 4) == 1#8) = false ∧ ((o >>> 4) == 2#8) = false ∧ ((o >>> 4) == 3#8) = false ∧ ((o >>> 4) == 4#8) = false ∧ ((o >>> 4) == 5#8) = false ∧ ((o >>> 4) == 6#8) = false ∧ ((o >>> 4) == 7#8) = false ∧ ((o >>> 4) == 10#8) = false ∧ ((o >>> 4) == 11#8) = false ∧ ((o >>> 4) == 12#8) = false ∧ ((o >>> 4) == 13#8) = false := by decide +kernel
  intro h
  rcases Bool.eq_false_or_eq_true (((!(o &&& 7#8 == 5#8) || (o == 5#8 || (o == 133#8 || (o == 149#8 || !(o >>> 4 == 0#8 || (o >>> 4 == 8#8 || o >>> 4 == 9#8)))))) && (!(o &&& 7#8 == 6#8) || !(o >>> 4 == 0#8 || (o >>> 4 == 8#8 || o >>> 4 == 9#8))))) with hb | hb
  rotate_left
  · obtain ⟨h1, h2, h3, h4, h5, h6, h7, h8, h9, h10, h11, h12, h13, h14, h15, h16, h17, h18, h19, h20, h21, h22, h23, h24, h25, h26, h27, h28, h29⟩ := key o true hb
    rw [h1, h2, h3, h4, h5, h6, h7, h8, h9, h10, h11, h12, h13, h14, h15, h16, h17, h18, h19, h20, h21, h22, h23, h24, h25, h26, h27, h28, h29] at h
    revert h
    cases ((o &&& 7#8) == 5#8) <;> cases ((o &&& 7#8) == 6#8) <;> simp
  · exact hb
theorem names_eq {x : Insn} (h : m_insn_known x = true) : m_barbicanref1_Names x = m_insn_names x := by
  have ho := known_op h
  clear h
  obtain ⟨o, d, s, f, i⟩ := x
  revert ho
  unfold m_barbicanref1_Names m_insn_names m_barbicanref1_Is m_barbicanref1_IsWide m_barbicanref1_Class m_barbicanref1_Code
  dsimp only
  generalize (s == 1#8) = s1
  generalize (s == 4#8) = s4
  clear s
  revert o s1 s4
  decide +kernel
theorem helper_eq {x : Insn} (h : m_insn_known x = true) : m_barbicanref1_Helper x = ((x.fOp == 133#8) && (x.fSrc == 0#8)) := by
  have ho := known_op h
  clear h
  obtain ⟨o, d, s, f, i⟩ := x
  revert ho
  unfold m_barbicanref1_Helper m_barbicanref1_Is m_barbicanref1_Class m_barbicanref1_Code
  dsimp only
  generalize (s == 0#8) = s1
  clear s
  revert o s1
  decide +kernel
theorem writes_eq (x : Insn) : m_barbicanref1_Writes x = m_insn_writes x := by
  obtain ⟨o, d, s, f, i⟩ := x
  unfold m_barbicanref1_Writes m_insn_writes m_barbicanref1_Class
  dsimp only
  clear d s f i
  revert o
  decide +kernel
theorem exit_eq {x : Insn} (h : m_insn_known x = true) : m_barbicanref1_Is x 9 = (x.fOp == 149#8) := by
  have ho := known_op h
  clear h
  obtain ⟨o, d, s, f, i⟩ := x
  revert ho
  unfold m_barbicanref1_Is m_barbicanref1_Class m_barbicanref1_Code
  dsimp only
  clear d s f i
  revert o
  decide +kernel
theorem ja_eq {x : Insn} (h : m_insn_known x = true) : m_barbicanref1_Is x 0 = (x.fOp == 5#8) := by
  have ho := known_op h
  clear h
  obtain ⟨o, d, s, f, i⟩ := x
  revert ho
  unfold m_barbicanref1_Is m_barbicanref1_Class m_barbicanref1_Code
  dsimp only
  clear d s f i
  revert o
  decide +kernel
theorem jumps_eq {x : Insn} (h : m_insn_known x = true) : (m_barbicanref1_Is x 0 || m_barbicanref1_Compares x) = m_op_Jumps x := by
  have ho := known_op h
  clear h
  obtain ⟨o, d, s, f, i⟩ := x
  revert ho
  unfold m_barbicanref1_Is m_barbicanref1_Compares m_op_Jumps m_barbicanref1_Class m_barbicanref1_Code
  dsimp only
  clear d s f i
  revert o
  decide +kernel
end Go.Proofs.Ytnoflelhkgdebaa

