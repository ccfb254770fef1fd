/-
  A scalar of four numbers has them; And by its operands.
-/
import Derived.Test.YtmhiiahfjoijgaaGreatL7M6
import Derived.Test.YtmhiiahfjoijgaaGreatL7G
namespace Go.Proofs.YtmhiiahfjoijgaaGreat
open Go.RowKit
set_option linter.unusedVariables false
set_option linter.unusedSimpArgs false
theorem made_has (a b c d : BitVec 64) : isS (m_barbicanlaw7_made_4 a b c d) ∧ hs (m_barbicanlaw7_made_4 a b c d) a ∧ hs (m_barbicanlaw7_made_4 a b c d) b ∧ hs (m_barbicanlaw7_made_4 a b c d) c ∧ hs (m_barbicanlaw7_made_4 a b c d) d := by
  have i1 := join_is (isS_K a) (isS_K b)
  have i2 := join_is i1 (isS_K c)
  have i3 := join_is i2 (isS_K d)
  have l1 := join_left (isS_K a) (isS_K b)
  have r1 := join_right (isS_K a) (isS_K b)
  have l2 := join_left i1 (isS_K c)
  have r2 := join_right i1 (isS_K c)
  have l3 := join_left i2 (isS_K d)
  have r3 := join_right i2 (isS_K d)
  exact ⟨i3, hs_sub i3 l3 (hs_sub i2 l2 (hs_sub i1 l1 (hs_K.2 rfl))), hs_sub i3 l3 (hs_sub i2 l2 (hs_sub i1 r1 (hs_K.2 rfl))), hs_sub i3 l3 (hs_sub i2 r2 (hs_K.2 rfl)), hs_sub i3 r3 (hs_K.2 rfl)⟩
theorem do5 {a b : S} {w : Bool} (ha : isS a) (hb : isS b) : m_scalar_Do 5#64 w a b =
    bif m_scalar_isConst a then (bif m_scalar_isConst b then K (bif w then a.umin &&& b.umin else (a.umin.setWidth 32 &&& b.umin.setWidth 32).setWidth 64)
      else bif w then m_scalar_operands_and ⟨m_scalar_exact a, m_scalar_exact b, 64#64⟩ else m_scalar_low (m_scalar_operands_and ⟨m_scalar_exact (m_scalar_low a), m_scalar_exact (m_scalar_low b), 32#64⟩))
    else bif w then m_scalar_operands_and ⟨m_scalar_exact a, m_scalar_exact b, 64#64⟩ else m_scalar_low (m_scalar_operands_and ⟨m_scalar_exact (m_scalar_low a), m_scalar_exact (m_scalar_low b), 32#64⟩) := by
  have e : (m_alu_Do 5#64 w a.umin b.umin).1 = bif w then a.umin &&& b.umin else (a.umin.setWidth 32 &&& b.umin.setWidth 32).setWidth 64 := by
    unfold m_alu_Do m_alu_operations_11 m_alu_operations_12
    cases w <;> simp only [BitVec.reduceBEq, BitVec.reduceSLT, cond_true, cond_false] <;> rfl
  unfold m_scalar_Do
  rw [known_of ha, known_of hb]
  simp only [BitVec.reduceBEq, BitVec.reduceSLT, cond_true, cond_false, e]
end Go.Proofs.YtmhiiahfjoijgaaGreat
