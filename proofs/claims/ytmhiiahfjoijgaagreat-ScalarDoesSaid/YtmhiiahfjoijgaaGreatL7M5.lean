/-
  Exact ends: no number is lost, and they lie within.
-/
import Derived.Test.YtmhiiahfjoijgaaGreatL7M4
namespace Go.Proofs.YtmhiiahfjoijgaaGreat
open Go.RowKit
set_option linter.unusedVariables false
set_option linter.unusedSimpArgs false
theorem not_n (x : BitVec 64) : (~~~x).toNat = 18446744073709551615 - x.toNat := by rw [BitVec.toNat_not]
theorem max_sub (x : BitVec 64) : 18446744073709551615#64 - x = ~~~x := by
  apply BitVec.eq_of_toNat_eq
  have := x.isLt
  rw [not_n, BitVec.toNat_sub]
  simp
  omega
def cmpl (t : T) : T := ⟨~~~hi t, t.m⟩
theorem wf_cmpl (t : T) : wf (cmpl t) := by
  apply bit_ext
  intro i h
  show (~~~hi t &&& t.m).getLsbD i = _
  unfold hi
  simp [h]
theorem has_cmpl {t : T} {x : BitVec 64} (h : has t x) : has (cmpl t) (~~~x) := by
  refine has_of (wf_cmpl t) fun i hi' hm => ?_
  have hm : t.m.getLsbD i = false := hm
  have := has_bit h i hi' hm
  show (~~~x).getLsbD i = (~~~hi t).getLsbD i
  unfold hi
  rw [BitVec.getLsbD_not, BitVec.getLsbD_not, BitVec.getLsbD_or, this, hm, Bool.or_false]
theorem atLeast_spec (t : T) (hw : wf t) (n : BitVec 64) :
    ((m_scalar_atLeast t n).2 = true → n.toNat ≤ (m_scalar_atLeast t n).1.toNat ∧ ∀ x, has t x → n.toNat ≤ x.toNat → (m_scalar_atLeast t n).1.toNat ≤ x.toNat) ∧ ((m_scalar_atLeast t n).2 = false → ∀ x, has t x → ¬ n.toNat ≤ x.toNat) := by
  unfold m_scalar_atLeast
  rw [most_eq hw, max_sub]
  show (_ → _) ∧ _
  have h := atMost_spec (cmpl t) (wf_cmpl t) (~~~n)
  rw [show (⟨~~~hi t, t.m⟩ : T) = cmpl t from rfl]
  generalize m_scalar_atMost (cmpl t) (~~~n) = r at *
  have hn := n.isLt
  cases hr : r.2
  · rw [cond_false]
    refine ⟨fun k => absurd (show false = true from k) (by decide), fun _ x h1 h2 => ?_⟩
    refine h.2 hr (~~~x) (has_cmpl h1) ?_
    rw [not_n, not_n]; omega
  · rw [cond_true, max_sub]
    refine ⟨fun _ => ?_, fun k => absurd (show true = false from k) (by decide)⟩
    obtain ⟨h1, h2⟩ := h.1 hr
    rw [not_n] at h1
    have h3 := r.1.isLt
    dsimp only
    rw [not_n]
    refine ⟨by omega, fun x h4 h5 => ?_⟩
    have := h2 (~~~x) (has_cmpl h4) (by rw [not_n, not_n]; omega)
    rw [not_n] at this
    omega
/-- What the search for members tells. -/
theorem members_in {s : S} (hw : wf s.t) (least most : BitVec 64) {x : BitVec 64} (hx : hs s x) (h1 : least.toInt ≤ x.toInt) (h2 : x.toInt ≤ most.toInt) (hsg : 0 ≤ least.toInt ∨ most.toInt < 0) :
    (m_scalar_members s least most).some = true ∧ (m_scalar_members s least most).least.toNat ≤ x.toNat ∧ x.toNat ≤ (m_scalar_members s least most).most.toNat := by
  have c1 := toInt_cond least
  have c2 := toInt_cond most
  have c3 := toInt_cond x
  have b1 := least.isLt
  have b2 := most.isLt
  have b3 := x.isLt
  have hf : (uMax s.umin least).toNat ≤ x.toNat := by
    rw [uMax_n]
    have := hx.2.1
    split at c1 <;> split at c3 <;> split at c2 <;> omega
  have ht : x.toNat ≤ (uMin s.umax most).toNat := by
    rw [uMin_n]
    have := hx.2.2.1
    split at c1 <;> split at c3 <;> split at c2 <;> omega
  have A := atLeast_spec s.t hw (uMax s.umin least)
  have M := atMost_spec s.t hw (uMin s.umax most)
  unfold m_scalar_members
  generalize m_scalar_atLeast s.t (uMax s.umin least) = a at *
  generalize m_scalar_atMost s.t (uMin s.umax most) = m at *
  rw [slt_iff, ult_iff, ult_iff]
  have e1 : ¬ most.toInt < least.toInt := by omega
  cases ha : a.2
  · exact absurd hf (A.2 ha x hx.1)
  · cases hm : m.2
    · exact absurd ht (M.2 hm x hx.1)
    · have h3 := (A.1 ha).2 x hx.1 hf
      have h4 := (M.1 hm).2 x hx.1 ht
      have e2 : ¬ (uMin s.umax most).toNat < a.1.toNat := by omega
      have e3 : ¬ m.1.toNat < (uMax s.umin least).toNat := by omega
      simp only [e1, e2, e3, decide_false, cond_false, cond_true]
      exact ⟨trivial, h3, h4⟩
theorem members_of {s : S} (hw : wf s.t) (least most : BitVec 64) (h : (m_scalar_members s least most).some = true) :
    least.toInt ≤ most.toInt ∧ max s.umin.toNat least.toNat ≤ (m_scalar_members s least most).least.toNat ∧ (m_scalar_members s least most).least.toNat ≤ min s.umax.toNat most.toNat ∧
      max s.umin.toNat least.toNat ≤ (m_scalar_members s least most).most.toNat ∧ (m_scalar_members s least most).most.toNat ≤ min s.umax.toNat most.toNat := by
  have A := atLeast_spec s.t hw (uMax s.umin least)
  have M := atMost_spec s.t hw (uMin s.umax most)
  rw [uMax_n] at A
  rw [uMin_n] at M
  unfold m_scalar_members at *
  generalize m_scalar_atLeast s.t (uMax s.umin least) = a at *
  generalize m_scalar_atMost s.t (uMin s.umax most) = m at *
  rw [slt_iff, ult_iff, ult_iff, uMax_n, uMin_n] at *
  by_cases e1 : most.toInt < least.toInt
  · simp [e1] at h
  · cases ha : a.2 <;> cases hm : m.2 <;> rw [ha, hm] at h <;> simp only [e1, decide_false, cond_false, cond_true] at h <;> first | (cases h; done) | skip
    by_cases e2 : min s.umax.toNat most.toNat < a.1.toNat
    · simp [e2] at h
    · by_cases e3 : m.1.toNat < max s.umin.toNat least.toNat
      · simp only [e2, e3, decide_false, decide_true, cond_false, cond_true] at h; cases h
      · have h3 := (A.1 ha).1
        have h4 := (M.1 hm).1
        simp only [e1, e2, e3, decide_false, cond_false, cond_true]
        refine ⟨by omega, h3, by omega, by omega, h4⟩
theorem ends_of {s : S} {e : S} (ht : e.t = s.t) (hx : ∀ x, hs s x → e.umin.toNat ≤ x.toNat ∧ x.toNat ≤ e.umax.toNat ∧ e.smin.toInt ≤ x.toInt ∧ x.toInt ≤ e.smax.toInt) : ∀ x, hs s x → hs e x :=
  fun x h => ⟨by rw [ht]; exact h.1, hx x h⟩
/-- The exact ends lose no number; and if there is one they lie within. -/
theorem exact_spec {s : S} (h : isS s) : isS (m_scalar_exact s) ∧ (∀ x, hs s x → hs (m_scalar_exact s) x) ∧ (∀ x, hs s x → sub' (m_scalar_exact s) s) := by
  unfold m_scalar_exact
  cases hc : m_scalar_isConst s
  · rw [cond_false]
    have hw := h.wf
    have zero : (0#64 : BitVec 64).toInt = 0 := by decide
    have neg1 : (18446744073709551615#64 : BitVec 64).toInt = -1 := by decide
    have lowI : ∀ x, hs s x → 0 ≤ x.toInt → _ := fun x hx h0 => members_in hw (sMax s.smin 0#64) s.smax hx (by rw [sMax_i, zero]; have := hx.2.2.2.1; omega) hx.2.2.2.2 (.inl (by rw [sMax_i, zero]; omega))
    have highI : ∀ x, hs s x → x.toInt < 0 → _ := fun x hx h0 => members_in hw s.smin (sMin s.smax 18446744073709551615#64) hx hx.2.2.2.1 (by rw [sMin_i, neg1]; have := hx.2.2.2.2; omega) (.inr (by rw [sMin_i, neg1]; omega))
    have lowO := members_of hw (sMax s.smin 0#64) s.smax
    have highO := members_of hw s.smin (sMin s.smax 18446744073709551615#64)
    rw [sMax_i, zero] at lowO
    rw [sMin_i, neg1] at highO
    generalize m_scalar_members s (sMax s.smin 0#64) s.smax = L at *
    generalize m_scalar_members s s.smin (sMin s.smax 18446744073709551615#64) = G at *
    have i1 := toInt_cond (sMax s.smin 0#64)
    have i2 := toInt_cond s.smax
    have i3 := toInt_cond s.smin
    have i4 := toInt_cond (sMin s.smax 18446744073709551615#64)
    rw [sMax_i, zero] at i1
    rw [sMin_i, neg1] at i4
    have l1 := toInt_cond L.least
    have l2 := toInt_cond L.most
    have g1 := toInt_cond G.least
    have g2 := toInt_cond G.most
    have bl1 := L.least.isLt
    have bl2 := L.most.isLt
    have bg1 := G.least.isLt
    have bg2 := G.most.isLt
    have b1 := (sMax s.smin 0#64).isLt
    have b2 := s.smax.isLt
    have b3 := s.smin.isLt
    have b4 := (sMin s.smax 18446744073709551615#64).isLt
    have fin : ∀ e : S, (∀ x, hs s x → hs e x) → (sub' e s) → isS (m_scalar_settle e) ∧ (∀ x, hs s x → hs (m_scalar_settle e) x) ∧ (∀ x, hs s x → sub' (m_scalar_settle e) s) := fun e h1 h2 =>
      ⟨settle_is e, fun x hx => ((settle_has (h1 x hx)).keep x).1 (h1 x hx), fun x hx => (settle_has (h1 x hx)).sub.trans h2⟩
    generalize (sMax s.smin 0#64).toNat = p1 at *
    generalize (sMin s.smax 18446744073709551615#64).toNat = p2 at *
    cases hl : L.some <;> cases hg : G.some <;> simp only [cond_false, cond_true]
    · exact fin s (fun x hx => hx) (.refl s)
    · obtain ⟨o1, o2, o3, o4, o5⟩ := highO hg
      refine fin ⟨s.t, G.least, G.most, G.least, G.most⟩ (ends_of rfl fun x hx => ?_) ⟨inn_refl _, ?_, ?_, ?_, ?_⟩
      · have hneg : x.toInt < 0 := by
          rcases Int.lt_or_le x.toInt 0 with k | k
          · exact k
          · have := (lowI x hx k).1; rw [hl] at this; cases this
        obtain ⟨_, k1, k2⟩ := highI x hx hneg
        have c := toInt_cond x
        have bx := x.isLt
        dsimp only
        split at c <;> split at g1 <;> split at g2 <;> split at i3 <;> split at i4 <;> omega
      · dsimp only; omega
      · dsimp only; omega
      · dsimp only; split at g1 <;> split at i3 <;> split at i4 <;> omega
      · dsimp only; split at g2 <;> split at i3 <;> split at i4 <;> omega
    · obtain ⟨o1, o2, o3, o4, o5⟩ := lowO hl
      refine fin ⟨s.t, L.least, L.most, L.least, L.most⟩ (ends_of rfl fun x hx => ?_) ⟨inn_refl _, ?_, ?_, ?_, ?_⟩
      · have hpos : 0 ≤ x.toInt := by
          rcases Int.lt_or_le x.toInt 0 with k | k
          · have := (highI x hx k).1; rw [hg] at this; cases this
          · exact k
        obtain ⟨_, k1, k2⟩ := lowI x hx hpos
        have c := toInt_cond x
        have bx := x.isLt
        dsimp only
        split at c <;> split at l1 <;> split at l2 <;> split at i1 <;> split at i2 <;> omega
      · dsimp only; omega
      · dsimp only; omega
      · dsimp only; split at l1 <;> split at i1 <;> split at i2 <;> omega
      · dsimp only; split at l2 <;> split at i1 <;> split at i2 <;> omega
    · obtain ⟨o1, o2, o3, o4, o5⟩ := lowO hl
      obtain ⟨q1, q2, q3, q4, q5⟩ := highO hg
      refine fin ⟨s.t, L.least, G.most, G.least, L.most⟩ (ends_of rfl fun x hx => ?_) ⟨inn_refl _, ?_, ?_, ?_, ?_⟩
      · have c := toInt_cond x
        have bx := x.isLt
        dsimp only
        rcases Int.lt_or_le x.toInt 0 with k | k
        · obtain ⟨_, k1, k2⟩ := highI x hx k
          split at c <;> split at g1 <;> split at l2 <;> split at i1 <;> split at i2 <;> split at i3 <;> split at i4 <;> omega
        · obtain ⟨_, k1, k2⟩ := lowI x hx k
          split at c <;> split at g1 <;> split at l2 <;> split at i1 <;> split at i2 <;> split at i3 <;> split at i4 <;> omega
      · dsimp only; omega
      · dsimp only; omega
      · dsimp only; split at g1 <;> split at i3 <;> split at i4 <;> omega
      · dsimp only; split at l2 <;> split at i1 <;> split at i2 <;> omega
  · rw [cond_true]
    exact ⟨h, fun x hx => hx, fun x _ => .refl s⟩
end Go.Proofs.YtmhiiahfjoijgaaGreat
