/-
  Products of scalars keep all numbers.
-/
import Derived.Test.YtmhiiahfjoijgaaGreatL7MC
namespace Go.Proofs.YtmhiiahfjoijgaaGreat
open Go.RowKit
set_option linter.unusedVariables false
set_option linter.unusedSimpArgs false
theorem wf0 (m : BitVec 64) : wf ⟨0#64, m⟩ := BitVec.zero_and
theorem lp_mul (a b : T) (r0 r1 : T) : ∀ s, inv_tnum_pair_mul_L0 ⟨a, b⟩ r0 r1 s → s.2 = mulU a b s.1.toNat → lp_tnum_pair_mul_L0 ⟨a, b⟩ r0 r1 s = mulU a b 64 := by
  have key := lp_ind (z := (⟨0#64, 0#64⟩ : T)) (dec_tnum_pair_mul_L0 ⟨a, b⟩ r0 r1) (fun s r => s.2 = mulU a b s.1.toNat → r = mulU a b 64) ?_ ?_
  · exact key
  · rintro ⟨s0, s1⟩ ⟨t0, t1⟩ r hI hI' e hP hJ
    apply hP
    have hI : s0.toNat ≤ 64 := hI
    have hJ : s1 = mulU a b s0.toNat := hJ
    unfold st_tnum_pair_mul_L0 at e
    dsimp only at e
    cases c : BitVec.slt s0 64#64 <;> rw [c] at e
    · cases e
    · rw [cond_true] at e
      obtain ⟨h1, h2⟩ := up1 (n := 64) hI (by decide) c
      rw [and_zero_iff _ _ h2, and_zero_iff _ _ h2, add_eq', add_eq', kn_wf (wf0 _), kn_wf (wf0 _), kn_wf (show wf s1 from hJ ▸ wf_mulU a b _)] at e
      show t1 = mulU a b t0.toNat
      have et : t0 = s0 + 1#64 ∧ t1 = st a b s0.toNat s1 := by
        unfold st
        cases hv : a.v.getLsbD s0.toNat <;> cases hm : a.m.getLsbD s0.toNat <;> rw [hv, hm] at e <;> simp only [Bool.not_true, Bool.not_false, cond_true, cond_false, Sum.inl.injEq, Prod.mk.injEq] at e <;> exact ⟨e.1.symm, by simp [e.2.symm]⟩
      rw [et.1, et.2, h1, hJ]
      rfl
  · rintro ⟨s0, s1⟩ r hI e hJ
    have hI : s0.toNat ≤ 64 := hI
    have hJ : s1 = mulU a b s0.toNat := hJ
    unfold st_tnum_pair_mul_L0 at e
    dsimp only at e
    cases c : BitVec.slt s0 64#64 <;> rw [c] at e
    · obtain rfl : s1 = r := by simpa using e
      rw [slt_iff, decide_eq_false_iff_not] at c
      have h1 := toInt_cond s0
      have h2 : (64#64).toInt = 64 := by decide
      rw [h2] at c
      have : s0.toNat = 64 := by split at h1 <;> omega
      rw [hJ, this]
    · exfalso
      revert e
      rw [cond_true]
      cases (({ a := a, b := b } : TT).a.v &&& 1#64 <<< s0.toNat == 0#64) <;> cases (({ a := a, b := b } : TT).a.m &&& 1#64 <<< s0.toNat == 0#64) <;> intro e <;> cases e
theorem mul_eq' (a b : T) (ha : wf a) (hb : wf b) : m_tnum_Mul a b = pmul a b := by
  unfold m_tnum_Mul m_tnum_of_153 m_tnum_pair_mul
  rw [kn_eq, kn_eq, kn_wf ha, kn_wf hb, add_eq']
  have := lp_mul a b (m_tnum_Const (a.v * b.v)) (m_tnum_Const 0#64) (0#64, m_tnum_Const 0#64) (show (0#64).toNat ≤ 64 from by decide) rfl
  dsimp only
  rw [this, kn_wf (wf_mulU a b 64)]
  unfold pmul
  rw [show kn (m_tnum_Const (a.v * b.v)) = ⟨a.v * b.v, 0#64⟩ from kn_wf (show wf ⟨a.v * b.v, 0#64⟩ from BitVec.and_zero)]
section
variable {a b : S} {w x y : BitVec 64}
theorem op_mul (hx : hs a x) (hy : hs b y) : hs (m_scalar_operands_mul ⟨a, b, w⟩) (x * y) ∧ isS (m_scalar_operands_mul ⟨a, b, w⟩) := by
  have t : has (m_tnum_Mul a.t b.t) (x * y) := by rw [mul_eq' _ _ hx.1.1 hy.1.1]; exact pmul_has hx.1 hy.1
  unfold m_scalar_operands_mul
  dsimp only
  refine pick_hs (fun c => ?_) (fun _ => settle_keep (ofBits_hs t))
  obtain ⟨h1, h2⟩ := mul_ends hx hy c
  exact settle_keep (mk_hs t h1 h2 (s0' _) (sM _))
end
end Go.Proofs.YtmhiiahfjoijgaaGreat
