/-
  Of each kind of map just those of sizes within the limits may be, in plain words (no program).
-/
import Derived.Test.YtjfiakgkeniocaaL5D
namespace Go.Proofs.Ytjfiakgkeniocaa
open Go.RowKit
set_option linter.unusedVariables false
set_option linter.unusedSimpArgs false
theorem defs_true (y0 y1 y2 y3 : Int) (y4 : Bool) : m_barbicanlaw5_ObjectDefs y0 y1 y2 y3 y4 = true := by
  unfold m_barbicanlaw5_ObjectDefs m_object_Def m_object_rightValue m_object_plain m_object_within
  simp only [bindT]
  have e16 : decide (y2 < 16) = !decide (16 ≤ y2) := by
    by_cases h : y2 < 16
    · rw [decide_eq_true h, decide_eq_false (by omega)]; rfl
    · rw [decide_eq_false h, decide_eq_true (by omega)]; rfl
  rw [e16]
  generalize (y0 == 1) = a1
  generalize (y0 == 2) = a2
  generalize (y0 == 3) = a3
  generalize (y0 == 4) = a4
  generalize (y1 == 4) = c1
  generalize (y1 == 0) = c2
  generalize decide (1 ≤ y1) = c3
  generalize decide (y1 ≤ 16) = c4
  generalize decide (1 ≤ y2) = d1
  generalize decide (y2 ≤ 256) = d2
  generalize decide (16 ≤ y2) = d3
  generalize (y2 == 4) = d4
  generalize (y2 == 0) = d5
  generalize decide (1 ≤ y3) = e1
  generalize decide (y3 ≤ 64) = e2
  generalize decide (8 ≤ y3) = e3
  generalize decide (y3 ≤ 4096) = e4
  generalize (zrem y3 8 == 0) = e5
  cases a1 with
  | true =>
    simp only [cond_true]
    clear e16
    revert c1 d1 d2 d3 e1 e2 y4
    decide
  | false =>
    simp only [cond_false]
    cases a2 with
    | true =>
      simp only [cond_true]
      clear e16
      revert c3 c4 d1 d2 d3 e1 e2 y4
      decide
    | false =>
      simp only [cond_false]
      cases a3 with
      | true =>
        simp only [cond_true]
        clear e16
        revert c1 d4 e1 e2 y4
        decide
      | false =>
        simp only [cond_false]
        cases a4 with
        | true =>
          simp only [cond_true]
          clear e16
          revert c2 d5 e3 e4 e5 y4
          decide
        | false => rfl
end Go.Proofs.Ytjfiakgkeniocaa
