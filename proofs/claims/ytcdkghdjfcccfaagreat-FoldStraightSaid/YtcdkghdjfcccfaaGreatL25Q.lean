/-
  Operations on registers that all have a known number: the law's answer is true, in plain words (no program).
-/
import Derived.Test.YtcdkghdjfcccfaaGreatL25P
namespace Go.Proofs.YtcdkghdjfcccfaaGreat
open Go.RowKit
set_option linter.unusedVariables false
set_option linter.unusedSimpArgs false
theorem mod4 (d : BitVec 8) : (d % 4#8).toNat < 4 := by
  rw [BitVec.toNat_umod]
  exact Nat.mod_lt _ (by decide)
theorem in4 {d : BitVec 8} (h : d.toNat < 4) : inR (nn d) 4 = true := by
  rw [(nn_dst h).1, inR_nat' h]
/-- What the law makes of a slot. -/
def norm (x : Insn) : Insn := bif (x.fOp &&& 8#8) == 0#8 then ⟨x.fOp, x.fDst % 4#8, 0#8, 0#16, x.fImm⟩ else ⟨x.fOp, x.fDst % 4#8, x.fSrc % 4#8, 0#16, 0#32⟩
theorem norm_ok {x : Insn} (h : okOp x.fOp = true) : OkI (norm x) := by
  unfold norm
  cases hb : (x.fOp &&& 8#8) == 0#8 with
  | true => exact .imm _ _ _ h (by simpa using hb) (mod4 _)
  | false => exact .reg _ _ _ h (by simpa using hb) (mod4 _) (mod4 _)
theorem norm_dst (x : Insn) : (norm x).fDst = x.fDst % 4#8 := by
  unfold norm
  cases (x.fOp &&& 8#8) == 0#8 <;> rfl
theorem law_imm {x : Insn} (h : okOp x.fOp = true) (hb : ((x.fOp &&& 8#8) == 0#8) = true) (r : Nat → BitVec 64) :
    m_alu_Do (nn (x.fOp / 16#8)) ((x.fOp % 8#8) == 7#8) (r (x.fDst % 4#8).toNat) (BitVec.ofInt 64 (ii x.fImm)) = some (vI (norm x) r, true) := by
  obtain ⟨v, hv⟩ := (norm_ok h).do r
  have e : vI (norm x) r = v := by unfold vI; rw [hv]; rfl
  rw [e, (op_same _).1, (op_same _).2.1, ← hv]
  unfold doI norm
  rw [hb]
  simp only [cond_true, hb]
theorem law_reg {x : Insn} (h : okOp x.fOp = true) (hb : ((x.fOp &&& 8#8) == 0#8) = false) (r : Nat → BitVec 64) :
    m_alu_Do (nn (x.fOp / 16#8)) ((x.fOp % 8#8) == 7#8) (r (x.fDst % 4#8).toNat) (r (x.fSrc % 4#8).toNat) = some (vI (norm x) r, true) := by
  obtain ⟨v, hv⟩ := (norm_ok h).do r
  have e : vI (norm x) r = v := by unfold vI; rw [hv]; rfl
  rw [e, (op_same _).1, (op_same _).2.1, ← hv]
  unfold doI norm
  rw [hb]
  simp only [cond_false, hb]
/-- What the registers hold ahead of each. -/
def Ew (m : Nat) (w : Nat → Arr26) (R : Nat → BitVec 64) (j i : Nat) : BitVec 64 := if j < m then g_Arr26 (w j) i else R i
structure RowW (m : Nat) (f : Nat → BitVec 32) (Q : Nat → Insn) (w : Nat → Arr26) (t : Nat → BitVec 8) (R : Nat → BitVec 64) : Prop where
  law : LawR m f Q (Ew m w R)
  dst : ∀ j, j < m → t j = (Q (4 + j)).fDst
def a26 (R : Nat → BitVec 64) : Arr26 := ⟨R 0, R 1, R 2, R 3⟩
theorem g26 (R : Nat → BitVec 64) {i : Nat} (hi : i < 4) : g_Arr26 (a26 R) i = R i := by
  have : i = 0 ∨ i = 1 ∨ i = 2 ∨ i = 3 := by omega
  rcases this with rfl | rfl | rfl | rfl <;> rfl
theorem Ew_old (m : Nat) (w : Nat → Arr26) (R R' : Nat → BitVec 64) {j : Nat} (hj : j ≤ m) {i : Nat} (hi : i < 4) : Ew (m + 1) (updF w m (a26 R)) R' j i = Ew m w R j i := by
  unfold Ew
  rw [if_pos (by omega)]
  by_cases e : j = m
  · rw [e, updF_at, if_neg (by omega), g26 R hi]
  · rw [updF_ne _ _ e, if_pos (by omega)]
theorem RowW.push {m : Nat} {f : Nat → BitVec 32} {Q : Nat → Insn} {w : Nat → Arr26} {t : Nat → BitVec 8} {R : Nat → BitVec 64} (h : RowW m f Q w t R) {x : Insn} (hx : OkI x) :
    RowW (m + 1) f (updF Q (4 + m) x) (updF w m (a26 R)) (updF t m x.fDst) (updF R x.fDst.toNat (vI x R)) where
  law := {
    mov := fun i hi => by rw [updF_ne _ _ (by omega)]; exact h.law.mov i hi
    ok := fun j hj => by
      by_cases e : j = m
      · rw [e, updF_at]; exact hx
      · rw [updF_ne _ _ (by omega)]; exact h.law.ok j (by omega)
    first := fun i hi => by rw [Ew_old m w R _ (by omega) hi]; exact h.law.first i hi
    step := fun j hj i hi => by
      by_cases e : j = m
      · subst e
        have e1 : Ew (j + 1) (updF w j (a26 R)) (updF R x.fDst.toNat (vI x R)) (j + 1) i = updF R x.fDst.toNat (vI x R) i := by unfold Ew; rw [if_neg (by omega)]
        have e2 : Ew j w R j i = R i := by unfold Ew; rw [if_neg (by omega)]
        have e3 : vI x (Ew (j + 1) (updF w j (a26 R)) (updF R x.fDst.toNat (vI x R)) j) = vI x R := vI_congr hx fun i hi => by rw [Ew_old j w R _ (by omega) hi]; unfold Ew; rw [if_neg (by omega)]
        rw [e1, updF_at, e3, Ew_old j w R _ (by omega) hi, e2]
        rfl
      · rw [updF_ne _ _ (by omega), Ew_old m w R _ (by omega) hi, Ew_old m w R _ (by omega) hi, h.law.step j (by omega) i hi, vI_congr (h.law.ok j (by omega)) fun i hi => Ew_old m w R (updF R x.fDst.toNat (vI x R)) (show j ≤ m by omega) hi] }
  dst := fun j hj => by
    by_cases e : j = m
    · rw [e, updF_at, updF_at]
    · rw [updF_ne _ _ e, updF_ne _ _ (by omega)]; exact h.dst j (by omega)
theorem step0 (y0 : Arr22) (n : Nat) (A : Nat → Insn) (r3 : Nat → BitVec 64) (r4 : Nat → Insn) {k : Nat} (hk : k < n) (hn : n ≤ 60) (R : Nat → BitVec 64) (hR : updF r3 3 (BitVec.ofInt 64 (ii ((fun k => g_Arr22 y0 k) 3))) = R) :
    st_barbicanlaw25_FoldStraight_L1 y0 n A r3 r4 (.c0 (k : Int)) = some (.inl (bif okOp (A k).fOp then .c1 (fun k => g_Arr22 y0 k) (updF R ((A k).fDst % 4#8).toNat (vI (norm (A k)) R)) (g_Arr22 y0 0) (g_Arr22 y0 1) (g_Arr22 y0 2) (g_Arr22 y0 3) 5 (updF r4 4 (norm (A k))) 1 (fun _ => a26 R) 1 (fun _ => (A k).fDst % 4#8) ((k + 1 : Nat) : Int) else .c0 ((k + 1 : Nat) : Int))) := by
  have e1 : IntKind.i64.wrap ((k : Int) + 1) = ((k + 1 : Nat) : Int) := by rw [wr] <;> omega
  obtain ⟨x, hx⟩ : ∃ x, A ((k : Int)).toNat = x := ⟨_, rfl⟩
  rw [show A k = x from hx]
  unfold st_barbicanlaw25_FoldStraight_L1
  dsimp only
  rw [hx]
  simp only [d_t (show (k : Int) < (n : Int) by omega), inR_nat' hk, cond_true, e1, hR]
  have n1 : ∀ d : BitVec 8, (nn (d % 4#8)).toNat = (d % 4#8).toNat := fun d => (nn_dst (mod4 d)).2.1
  cases ho : okOp x.fOp with
  | false =>
    have ho' := ho
    unfold okOp at ho'
    revert ho'
    cases h4 : x.fOp % 8#8 == 4#8 <;> cases h7 : x.fOp % 8#8 == 7#8 <;> cases hg : decide (12 < nn (x.fOp / 16#8)) <;> cases h8 : nn (x.fOp / 16#8) == 8 <;> intro ho' <;> first | rfl | (simp at ho'; done)
  | true =>
    have ho' := ho
    unfold okOp at ho'
    simp only [Bool.and_eq_true, Bool.or_eq_true, Bool.not_eq_true'] at ho'
    obtain ⟨hc, hg, h8⟩ := ho'
    have hs := (op_same x.fOp).2.2
    cases hb : (x.fOp &&& 8#8) == 0#8 with
    | true =>
      have hl := law_imm ho hb R
      have hnm : norm x = ⟨x.fOp, x.fDst % 4#8, 0#8, 0#16, x.fImm⟩ := by unfold norm; rw [hb]; rfl
      rw [hb] at hs
      cases h4 : x.fOp % 8#8 == 4#8 with
      | true =>
        simp only [hg, h8, cond_true, cond_false, hs, Bool.not_true, in4 (mod4 _), hl, Option.bind_some, bindT, n1, hnm]
        rfl
      | false =>
        have h7 : (x.fOp % 8#8 == 7#8) = true := by rcases hc with h | h; · rw [h4] at h; cases h
                                                    · exact h
        rw [h7] at hl
        simp only [hg, h8, h7, cond_true, cond_false, hs, Bool.not_true, in4 (mod4 _), hl, Option.bind_some, bindT, n1, hnm]
        rfl
    | false =>
      have hl := law_reg ho hb R
      have hnm : norm x = ⟨x.fOp, x.fDst % 4#8, x.fSrc % 4#8, 0#16, 0#32⟩ := by unfold norm; rw [hb]; rfl
      rw [hb] at hs
      cases h4 : x.fOp % 8#8 == 4#8 with
      | true =>
        simp only [hg, h8, cond_true, cond_false, hs, Bool.not_false, in4 (mod4 _), hl, Option.bind_some, bindT, n1, hnm]
        rfl
      | false =>
        have h7 : (x.fOp % 8#8 == 7#8) = true := by rcases hc with h | h; · rw [h4] at h; cases h
                                                    · exact h
        rw [h7] at hl
        simp only [hg, h8, h7, cond_true, cond_false, hs, Bool.not_false, in4 (mod4 _), hl, Option.bind_some, bindT, n1, hnm]
        rfl
theorem step1 (y0 : Arr22) (n : Nat) (A : Nat → Insn) (r3 : Nat → BitVec 64) (r4 : Nat → Insn) {k : Nat} (hk : k < n) (hn : n ≤ 60) (f : Nat → BitVec 32) (R : Nat → BitVec 64) (a b c d : BitVec 32) (N : Nat) (Q : Nat → Insn) (M : Nat) (w : Nat → Arr26) (T : Nat) (t : Nat → BitVec 8) (hN : N ≤ 100) (hM : M ≤ 100) (hT : T ≤ 100) :
    st_barbicanlaw25_FoldStraight_L1 y0 n A r3 r4 (.c1 f R a b c d N Q M w T t (k : Int)) = some (.inl (bif okOp (A k).fOp then .c1 f (updF R ((A k).fDst % 4#8).toNat (vI (norm (A k)) R)) a b c d (N + 1) (updF Q N (norm (A k))) (M + 1) (updF w M (a26 R)) (T + 1) (updF t T ((A k).fDst % 4#8)) ((k + 1 : Nat) : Int) else .c1 f R a b c d N Q M w T t ((k + 1 : Nat) : Int))) := by
  have e1 : IntKind.i64.wrap ((k : Int) + 1) = ((k + 1 : Nat) : Int) := by rw [wr] <;> omega
  have b1 : decide (N ≤ 1000000) = true := d_t (by omega)
  have b2 : decide (M ≤ 1000000) = true := d_t (by omega)
  have b3 : decide (T ≤ 1000000) = true := d_t (by omega)
  obtain ⟨x, hx⟩ : ∃ x, A ((k : Int)).toNat = x := ⟨_, rfl⟩
  rw [show A k = x from hx]
  unfold st_barbicanlaw25_FoldStraight_L1
  dsimp only
  rw [hx]
  simp only [d_t (show (k : Int) < (n : Int) by omega), inR_nat' hk, cond_true, e1, b1, b2, b3]
  have n1 : ∀ d : BitVec 8, (nn (d % 4#8)).toNat = (d % 4#8).toNat := fun d => (nn_dst (mod4 d)).2.1
  cases ho : okOp x.fOp with
  | false =>
    have ho' := ho
    unfold okOp at ho'
    revert ho'
    cases h4 : x.fOp % 8#8 == 4#8 <;> cases h7 : x.fOp % 8#8 == 7#8 <;> cases hg : decide (12 < nn (x.fOp / 16#8)) <;> cases h8 : nn (x.fOp / 16#8) == 8 <;> intro ho' <;> first | rfl | (simp at ho'; done)
  | true =>
    have ho' := ho
    unfold okOp at ho'
    simp only [Bool.and_eq_true, Bool.or_eq_true, Bool.not_eq_true'] at ho'
    obtain ⟨hc, hg, h8⟩ := ho'
    have hs := (op_same x.fOp).2.2
    cases hb : (x.fOp &&& 8#8) == 0#8 with
    | true =>
      have hl := law_imm ho hb R
      have hnm : norm x = ⟨x.fOp, x.fDst % 4#8, 0#8, 0#16, x.fImm⟩ := by unfold norm; rw [hb]; rfl
      rw [hb] at hs
      cases h4 : x.fOp % 8#8 == 4#8 with
      | true =>
        simp only [hg, h8, cond_true, cond_false, hs, Bool.not_true, in4 (mod4 _), hl, Option.bind_some, bindT, n1, hnm]
        rfl
      | false =>
        have h7 : (x.fOp % 8#8 == 7#8) = true := by rcases hc with h | h; · rw [h4] at h; cases h
                                                    · exact h
        rw [h7] at hl
        simp only [hg, h8, h7, cond_true, cond_false, hs, Bool.not_true, in4 (mod4 _), hl, Option.bind_some, bindT, n1, hnm]
        rfl
    | false =>
      have hl := law_reg ho hb R
      have hnm : norm x = ⟨x.fOp, x.fDst % 4#8, x.fSrc % 4#8, 0#16, 0#32⟩ := by unfold norm; rw [hb]; rfl
      rw [hb] at hs
      cases h4 : x.fOp % 8#8 == 4#8 with
      | true =>
        simp only [hg, h8, cond_true, cond_false, hs, Bool.not_false, in4 (mod4 _), hl, Option.bind_some, bindT, n1, hnm]
        rfl
      | false =>
        have h7 : (x.fOp % 8#8 == 7#8) = true := by rcases hc with h | h; · rw [h4] at h; cases h
                                                    · exact h
        rw [h7] at hl
        simp only [hg, h8, h7, cond_true, cond_false, hs, Bool.not_false, in4 (mod4 _), hl, Option.bind_some, bindT, n1, hnm]
        rfl
end Go.Proofs.YtcdkghdjfcccfaaGreat

