/-
  What is known at each slot of a row of operations on registers, and what it is folded to, in plain words (no program).
-/
import Derived.Test.YtcdkghdjfcccfaaGreatL25N
import Derived.Test.YtcdkghdjfcccfaaGreatL25S
namespace Go.Proofs.YtcdkghdjfcccfaaGreat
open Go.RowKit
set_option linter.unusedVariables false
set_option linter.unusedSimpArgs false
noncomputable def vI (x : Insn) (r : Nat → BitVec 64) : BitVec 64 := ((doI x r).getD (0#64, true)).1
theorem vI_congr {x : Insn} (h : OkI x) {r s : Nat → BitVec 64} (e : ∀ i, i < 4 → r i = s i) : vI x r = vI x s := by
  unfold vI doI
  rw [e _ h.dst, e _ h.src]
theorem valI_eq {x : Insn} (h : OkI x) {r : Nat → Val} {s : Nat → BitVec 64} (e : ∀ i, i < 4 → (r i).fNum = s i) : valI x r = vI x s := vI_congr h e
theorem stepR_congr {x : Insn} (h : OkI x) {r s : Nat → Val} (e : ∀ i, i < 11 → r i = s i) {i : Nat} (hi : i < 11) : stepR x r i = stepR x s i := by
  unfold stepR
  have e1 : valI x r = valI x s := vI_congr h fun i hi => by rw [e i (by omega)]
  rw [e1]
  by_cases h1 : i = x.fDst.toNat
  · rw [h1, updF_at, updF_at]
  · rw [updF_ne _ _ h1, updF_ne _ _ h1, e i hi]
/-- What is known at each slot. -/
noncomputable def rowF (P : Nat → Insn) : Nat → Nat → Val
  | 0 => fun _ => non
  | k + 1 => stepR (P k) (rowF P k)
namespace Fd
variable {n : Nat} {P : Nat → Insn}
theorem look (h : Fd n P) (hK : ∀ k, k < n → Kn (P k) (rowF P k)) : ∃ g c R, m_fold_look_v1 (n + 1) P = some (.e0 g c R) ∧ (∀ k, k ≤ n → g k = true) ∧ ∀ k, k ≤ n → ∀ i, i < 11 → g_Arr42 (R k) i = rowF P k i := by
  have hm := h.most
  obtain ⟨g, hg1, hg2⟩ := h.reached
  obtain ⟨Q, hs1, hs2⟩ := h.subs
  have i01 : inR 0 (n + 1) = true := inR_nat' (k := 0) (by omega)
  have l0 : lpO (st_fold_look_v1_L0 (n + 1) g 1 Q) .c0 = some (.e0 (updF (fun _ => false) 0 true) (fun _ => (⟨non, non, non, non, non, non, non, non, non, non, non⟩ : Arr42)) 1 (fun _ => 0)) := by
    have s1 : st_fold_look_v1_L0 (n + 1) g 1 Q .c0 = some (.inl (.c1 (updF (fun _ => false) 0 true) (fun _ => (⟨non, non, non, non, non, non, non, non, non, non, non⟩ : Arr42)) 1 (fun _ => 0) 1)) := by
      unfold st_fold_look_v1_L0
      simp only [hs2, i01, Int.toNat_zero, hg2 0 (by omega)]
      rfl
    rw [lpO_next s1]
    exact lpO_end (by unfold st_fold_look_v1_L0; rfl)
  have key := lpO_ind (st := st_fold_look_v1_L1 (n + 1) P g)
    (fun | .c0 c R X N Q => N = 0 ∧ (∀ j, j ≤ n → ∀ i, i < 11 → g_Arr42 (R j) i = rowF P j i) ∨
        N = 1 ∧ ∃ k : Nat, k ≤ n ∧ Q 0 = (k : Int) ∧ (∀ j, c j = decide (j ≤ k)) ∧ (∀ j, j ≤ k → ∀ i, i < 11 → g_Arr42 (R j) i = rowF P j i) ∧ ∀ j, k ≤ j → (X j).1 = 0)
    (fun | .c0 c R X N Q => if N = 0 then 0 else n + 2 - (Q 0).toNat)
    (fun _ r => match r with | .e0 c R X => ∀ j, j ≤ n → ∀ i, i < 11 → g_Arr42 (R j) i = rowF P j i)
    (fun s hI => by
      obtain ⟨c, R, X, N, Q⟩ := s
      rcases hI with ⟨rfl, hR⟩ | ⟨rfl, k, hk, hQ, hc, hR, hX⟩
      · refine .inr ⟨.e0 c R X, ?_, hR⟩
        unfold st_fold_look_v1_L1
        rfl
      · have ew : IntKind.i64.wrap (((1 : Nat) : Int) - 1) = 0 := by rw [wr] <;> omega
        have i0 : inR 0 1 = true := rfl
        have i1 : inR 0 2 = true := rfl
        have e0 := h.next hk
        have hX0 := hX k (by omega)
        have d0 : decide (0 < (X k).1) = false := d_f (by omega)
        by_cases e : k = n
        · rw [if_pos e] at e0
          refine .inl ⟨.c0 c R (updF X k (0, fun _ => 0)) 0 Q, ?_, .inl ⟨rfl, fun j hj => hR j (by omega)⟩, ?_, fun _ hr => hr⟩
          · unfold st_fold_look_v1_L1
            simp only [ew, Int.toNat_zero, hQ, Int.toNat_natCast, inR_nat' (show k < n + 1 by omega), d0, e0, Option.bind_some, cond_false, updF_at]
            rfl
          · show (if (0 : Nat) = 0 then 0 else n + 2 - (Q 0).toNat) < (if (1 : Nat) = 0 then 0 else n + 2 - (Q 0).toNat)
            rw [if_pos rfl, if_neg (by decide), hQ]
            omega
        · rw [if_neg e] at e0
          have hKk : Kn (P k) (g_Arr42 (R k)) := fun i hi hb => by rw [hR k (by omega) i hi]; exact hK k (by omega) i hi hb
          obtain ⟨z, hz1, hz2⟩ := behind_is (n := n + 1) (show k < n + 1 by omega) (h.ok k (by omega)) (R k) hKk
          have hck : c (k + 1) = false := by rw [hc, d_f (by omega)]
          have l2 : lpO (st_fold_look_v1_L1_L2v17 (n + 1) g X 1 Q ((k + 1 : Nat) : Int) z) (.c0 c R 0 Q 0) = some (.e0 (updF c (k + 1) true) (updF R (k + 1) z) (updF X k (1, fun _ => ((k + 1 : Nat) : Int))) (fun j => g_Arr42 z j) 1 (updF Q 0 ((k + 1 : Nat) : Int))) := by
            have ew1 : IntKind.i64.wrap (0 + 1) = 1 := by rw [wr] <;> omega
            have i2 : inR 0 ((1, fun _ => ((k + 1 : Nat) : Int)) : Nat × (Nat → Int)).1 = true := rfl
            have hj : m_fold_facts_join_v3 ((k + 1 : Nat) : Int) z (n + 1) g c R = some (.e0 (updF c (k + 1) true) (updF R (k + 1) z)) := by
              unfold m_fold_facts_join_v3
              rw [inR_nat' (show k + 1 < n + 1 by omega), cond_true, Int.toNat_natCast, hck]
              rfl
            have s1 : st_fold_look_v1_L1_L2v17 (n + 1) g X 1 Q ((k + 1 : Nat) : Int) z (.c0 c R 0 Q 0) = some (.inl (.c0 (updF c (k + 1) true) (updF R (k + 1) z) 1 (updF Q 0 ((k + 1 : Nat) : Int)) 1)) := by
              unfold st_fold_look_v1_L1_L2v17
              simp only [ew, Int.toNat_zero, hQ, Int.toNat_natCast, updF_at, i2, inR_nat' (show k < n + 1 by omega), hj, Option.bind_some, ew1, cond_true]
              rfl
            have s2 : st_fold_look_v1_L1_L2v17 (n + 1) g X 1 Q ((k + 1 : Nat) : Int) z (.c0 (updF c (k + 1) true) (updF R (k + 1) z) 1 (updF Q 0 ((k + 1 : Nat) : Int)) 1) = some (.inr (.e0 (updF c (k + 1) true) (updF R (k + 1) z) (updF X k (1, fun _ => ((k + 1 : Nat) : Int))) (fun j => g_Arr42 z j) 1 (updF Q 0 ((k + 1 : Nat) : Int)))) := by
              unfold st_fold_look_v1_L1_L2v17
              simp only [ew, Int.toNat_zero, hQ, Int.toNat_natCast, updF_at]
              rfl
            rw [lpO_next s1, lpO_end s2]
          refine .inl ⟨.c0 (updF c (k + 1) true) (updF R (k + 1) z) (updF X k (1, fun _ => ((k + 1 : Nat) : Int))) 1 (updF Q 0 ((k + 1 : Nat) : Int)), ?_, .inr ⟨rfl, k + 1, by omega, rfl, fun j => ?_, fun j hj i hi => ?_, fun j hj => ?_⟩, ?_, fun _ hr => hr⟩
          · unfold st_fold_look_v1_L1
            simp only [ew, Int.toNat_zero, hQ, Int.toNat_natCast, inR_nat' (show k < n + 1 by omega), d0, e0, Option.bind_some, cond_false, updF_at]
            have hz1' : m_fold_behind_v3 (n + 1) P (k : Int) (⟨(R k).x0, (R k).x1, (R k).x2, (R k).x3, (R k).x4, (R k).x5, (R k).x6, (R k).x7, (R k).x8, (R k).x9, (R k).x10⟩ : Arr42) = some z := hz1
            simp only [hz1', Option.bind_some, l2]
            rfl
          · by_cases j1 : j = k + 1
            · rw [j1, updF_at, d_t (by omega)]
            · rw [updF_ne _ _ j1, hc]
              congr 1
              exact propext ⟨fun _ => by omega, fun _ => by omega⟩
          · by_cases j1 : j = k + 1
            · rw [j1, updF_at, hz2 i hi]
              exact stepR_congr (h.ok k (by omega)) (fun i hi => hR k (by omega) i hi) hi
            · rw [updF_ne _ _ j1]; exact hR j (by omega) i hi
          · rw [updF_ne _ _ (by omega)]; exact hX j (by omega)
          · show (if (1 : Nat) = 0 then 0 else n + 2 - (((k + 1 : Nat) : Int)).toNat) < (if (1 : Nat) = 0 then 0 else n + 2 - (Q 0).toNat)
            rw [if_neg (by decide), if_neg (by decide), hQ]
            omega)
    (.c0 (updF (fun _ => false) 0 true) (fun _ => (⟨non, non, non, non, non, non, non, non, non, non, non⟩ : Arr42)) (fun _ => (0, fun _ => 0)) 1 (fun _ => 0))
    (.inr ⟨rfl, 0, by omega, rfl, fun j => by
      by_cases e : j = 0
      · rw [e]; rfl
      · rw [updF_ne _ _ e, d_f (by omega)], fun j hj i hi => by
      obtain rfl : j = 0 := by omega
      exact g42 (fun _ => non) hi, fun j hj => rfl⟩)
  obtain ⟨⟨c, R, X⟩, hr, hp⟩ := key
  refine ⟨g, c, R, ?_, hg2, hp⟩
  unfold m_fold_look_v1
  rw [d_t (show n + 1 ≤ 1000000 by omega), cond_true, hg1, Option.bind_some]
  simp only
  rw [hs1, Option.bind_some]
  simp only
  rw [l0, Option.bind_some]
  simp only
  rw [hr]
  rfl
end Fd
end Go.Proofs.YtcdkghdjfcccfaaGreat

