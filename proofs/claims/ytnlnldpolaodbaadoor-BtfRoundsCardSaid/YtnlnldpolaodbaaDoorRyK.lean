/-
  At an assignment: a slice of a whole block is a row without room. Nothing of the program stands here.
-/
import Derived.Test.YtnlnldpolaodbaaDoorRyG
namespace Go.Proofs.YtnlnldpolaodbaaDoor
open Go.RowKit
set_option linter.unusedVariables false
set_option linter.unusedSimpArgs false
section
variable {P : Program}
theorem litRow_ok {S : World → Prop} {es : List Value} {e n sz : Nat} :
    SpcOk P S ⟨fun ls => .op (.mv (.slice (some ⟨(lget ls 0).n, 0, none⟩) n n)),
      fun ls => [.cells ⟨es⟩ e], 1, .normal, fun ls => [rowV (lget ls 1) n sz], fun _ => [unb], fun ls => [rowO (lget ls 1) es e n sz]⟩ := by
  intro ls w hlen hsat hS
  match ls, hlen with
  | [l], _ =>
    have hg : w.heap[l.n]? = some (.cells ⟨es⟩ e) := hsat.holds 0 _ l rfl rfl rfl
    have hpad : padL (⟨l.n, fun _ => .nilFunc⟩ : L1) n sz = [] := by
      unfold padL padR
      simp
    refine ⟨_, w, .inl rfl, [⟨l.n, fun _ => .nilFunc⟩], rfl, ?_, sat_unb1 ?_, ?_, ⟨rfl, rfl, rfl, Nat.le_refl _, fun _ _ _ => rfl⟩⟩
    · show [Value.slice (some ⟨l.n, 0, none⟩) n n] = [rowV ⟨l.n, fun _ => .nilFunc⟩ n sz]
      unfold rowV
      rw [hpad]
      simp
    · show w.heap[l.n]? = some (rowO ⟨l.n, fun _ => .nilFunc⟩ es e n sz)
      unfold rowO
      rw [hpad, List.append_nil]
      exact hg
    · intro j o x hj hreal hx
      match j, hx with
      | 0, hx =>
        obtain rfl : (⟨l.n, fun _ => .nilFunc⟩ : L1) = x := by simpa using hx
        exact .inr ⟨0, _, l, rfl, rfl, rfl, rfl⟩
      | k + 1, hx => simp at hx
end
end Go.Proofs.YtnlnldpolaodbaaDoor
