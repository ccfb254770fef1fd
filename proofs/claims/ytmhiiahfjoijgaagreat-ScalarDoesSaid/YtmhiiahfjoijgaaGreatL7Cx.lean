/-
  Scalars: what settling and the exact ends come to.
-/
import Derived.Test.YtmhiiahfjoijgaaGreatL7C
namespace Go.Proofs.YtmhiiahfjoijgaaGreat
open Go.RowKit
set_option linter.unusedVariables false
set_option linter.unusedSimpArgs false
abbrev U : S := m_scalar_Unknown
def isS (s : S) : Prop := m_Sync s = (s, true)
theorem isS.fix {s : S} (h : isS s) : Synced s s := by
  unfold isS at h
  rcases sync_cases s with ⟨e, _⟩ | ⟨t, e, ht⟩
  · rw [e] at h; cases h
  · rw [e] at h; cases h; exact ht
theorem isS.good {s : S} (h : isS s) : good s := h.fix.good
theorem Synced.isS {s t : S} (h : Synced s t) : isS t := h.again
theorem good_U : good U := by
  refine ⟨?_, ?_, ?_⟩
  · show wf ⟨0#64, 18446744073709551615#64⟩; decide
  · decide
  · decide
theorem isS_U : isS U := F0_fix good_U (by decide +kernel) (by decide +kernel) (by decide +kernel) (by decide +kernel)
theorem hs_U (x : BitVec 64) : hs U x := by
  refine ⟨⟨by decide, ?_⟩, ?_, ?_, ?_, ?_⟩
  · show x &&& ~~~18446744073709551615#64 = 0#64
    rw [show ~~~18446744073709551615#64 = 0#64 from by decide]; exact BitVec.and_zero
  · show (0#64).toNat ≤ _; simp
  · show _ ≤ (18446744073709551615#64).toNat; have := x.isLt; simp; omega
  · show (9223372036854775808#64).toInt ≤ _
    rw [show (9223372036854775808#64).toInt = -9223372036854775808 from by decide, toInt_cond]; have := x.isLt; split <;> omega
  · show _ ≤ (9223372036854775807#64).toInt
    rw [show (9223372036854775807#64).toInt = 9223372036854775807 from by decide, toInt_cond]; have := x.isLt; split <;> omega
theorem settle_cases (s : S) : (m_Sync s = (zS, false) ∧ m_scalar_settle s = U ∧ ∀ x, ¬ hs s x) ∨ (m_Sync s = (m_scalar_settle s, true) ∧ Synced s (m_scalar_settle s)) := by
  unfold m_scalar_settle
  rcases sync_cases s with ⟨e, h⟩ | ⟨t, e, h⟩
  · rw [e]; exact .inl ⟨rfl, rfl, h⟩
  · rw [e]; exact .inr ⟨rfl, h⟩
theorem settle_is (s : S) : isS (m_scalar_settle s) := by
  rcases settle_cases s with ⟨_, e, _⟩ | ⟨_, h⟩
  · rw [e]; exact isS_U
  · exact h.isS
/-- What has numbers is settled without a loss. -/
theorem settle_has {s : S} {x : BitVec 64} (h : hs s x) : Synced s (m_scalar_settle s) := by
  rcases settle_cases s with ⟨_, _, k⟩ | ⟨_, k⟩
  · exact absurd h (k x)
  · exact k
theorem exact_le (s : S) : BitVec.ult (m_scalar_exact s).umax (m_scalar_exact s).umin = false := by
  have key : ∀ t : S, isS t → BitVec.ult t.umax t.umin = false := fun t h => by
    have := h.good.2.1
    rw [ult_iff, decide_eq_false_iff_not]; omega
  unfold m_scalar_exact
  cases hc : m_scalar_isConst s
  · simp only [cond_false]
    cases (m_scalar_members s (sMax s.smin 0#64) s.smax).some <;> cases (m_scalar_members s s.smin (sMin s.smax 18446744073709551615#64)).some <;> simp only [cond_false, cond_true] <;> exact key _ (settle_is _)
  · simp only [cond_true]
    have : s.umin = s.umax := by simpa [m_scalar_isConst] using hc
    rw [this, ult_iff, decide_eq_false_iff_not]; omega
end Go.Proofs.YtmhiiahfjoijgaaGreat
