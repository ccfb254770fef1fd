/-
  A part of a string, with ends that aren't known; two strings joined. Nothing of the program stands here.
-/
import Derived.Test.YtlpjdjbophcomaaDoorRyL
namespace Go.Proofs.YtlpjdjbophcomaaDoor
open Go.RowKit
set_option linter.unusedVariables false
set_option linter.unusedSimpArgs false
theorem slcS_ok {P : Program} {T : TypeId} {s : ByteArray} {x y : Int} (hT : P.underlying T = some .string) (h : inR x (y.toNat + 1) = true) (hy : inR y (s.size + 1) = true) :
    ∀ w, (Q.slc T (.string s) (some (.int .i64 x)) (some (.int .i64 y)) none).sem.run P w = .ok (.value (.string (s.extract x.toNat y.toNat))) w := by
  intro w
  obtain ⟨h0, h1⟩ := inR_iff.1 h
  obtain ⟨h2, h3⟩ := inR_iff.1 hy
  have a1 : 0 ≤ y ∧ y ≤ (s.size : Int) := ⟨h2, by omega⟩
  have a2 : 0 ≤ x ∧ x ≤ (y.toNat : Int) := ⟨h0, by omega⟩
  simp only [Q.sem, Instr.sliceAt, Instr.slice, Instr.sliceBounds, Instr.sliceBound, asIntOf, Sem.run_bind, Sem.run_pure, Result.andThen_ok, run_underlying hT, if_pos a1, if_pos a2]
  simp
  rw [if_pos a1, if_pos ⟨h0, by omega⟩]
theorem catS_ok {P : Program} (T : TypeId) (a b : ByteArray) (xo yo : Operand) (hg : P.eqGuardType P.depth T = false) (h : decide (a.size + b.size ≤ 9223372036854775807) = true) (w : World) : (Q.bin .add T xo yo (.string a) (.string b)).sem.run P w = .ok (.value (.string (a ++ b))) w := by
  have e : binOp .add T (.string a) (.string b) = pure (.string (a ++ b)) := by
    have h' := of_decide_eq_true h
    simp [binOp, Op.stringOp]
    omega
  simp [Q.sem, eqGuard, Sem.run, hg, e]
end Go.Proofs.YtlpjdjbophcomaaDoor

