/-
  Operations on registers that all have a known number: the law's answer is true, in plain words, on (no program).
-/
import Derived.Test.YtcdkghdjfcccfaaGreatL25Q
namespace Go.Proofs.YtcdkghdjfcccfaaGreat
open Go.RowKit
set_option linter.unusedVariables false
set_option linter.unusedSimpArgs false
theorem loop1 (y0 : Arr22) (n : Nat) (A : Nat → Insn) (r3 : Nat → BitVec 64) (r4 : Nat → Insn) (hn : n ≤ 60) (R : Nat → BitVec 64) (hR : updF r3 3 (BitVec.ofInt 64 (ii ((fun k => g_Arr22 y0 k) 3))) = R)
    (hb : ∀ w t, RowW 0 (g_Arr22 y0) r4 w t R) :
    ∃ r, lpO (st_barbicanlaw25_FoldStraight_L1 y0 n A r3 r4) (.c0 0) = some r ∧ (match r with
      | .e0 _ R' _ _ _ _ => R' = R
      | .e1 _ R' _ _ _ _ N Q M w T t => ∃ m : Nat, 1 ≤ m ∧ m ≤ 60 ∧ N = 4 + m ∧ M = m ∧ T = m ∧ RowW m (g_Arr22 y0) Q w t R') :=
  lpO_ind (st := st_barbicanlaw25_FoldStraight_L1 y0 n A r3 r4)
    (fun | .c0 a => ∃ k : Nat, a = (k : Int) ∧ k ≤ n
         | .c1 _ R' _ _ _ _ N Q M w T t a => ∃ k m : Nat, a = (k : Int) ∧ k ≤ n ∧ m ≤ k ∧ 1 ≤ m ∧ N = 4 + m ∧ M = m ∧ T = m ∧ RowW m (g_Arr22 y0) Q w t R')
    (fun | .c0 a => n - a.toNat
         | .c1 _ _ _ _ _ _ _ _ _ _ _ _ a => n - a.toNat)
    (fun _ r => match r with
      | .e0 _ R' _ _ _ _ => R' = R
      | .e1 _ R' _ _ _ _ N Q M w T t => ∃ m : Nat, 1 ≤ m ∧ m ≤ 60 ∧ N = 4 + m ∧ M = m ∧ T = m ∧ RowW m (g_Arr22 y0) Q w t R')
    (fun s hI => by
      cases s with
      | c0 a =>
        obtain ⟨k, rfl, hk⟩ := hI
        by_cases h : k < n
        · refine .inl ⟨_, step0 y0 n A r3 r4 h hn R hR, ?_⟩
          cases ho : okOp (A k).fOp with
          | false => exact ⟨⟨k + 1, rfl, by omega⟩, by show n - ((k + 1 : Nat) : Int).toNat < n - (k : Int).toNat; omega, fun r hr => hr⟩
          | true =>
            have hp := (hb (fun _ => a26 R) (fun _ => (A k).fDst % 4#8)).push (norm_ok ho)
            rw [norm_dst] at hp
            have e1 : updF (fun _ => a26 R) 0 (a26 R) = fun _ => a26 R := by funext j; unfold updF; split <;> rfl
            have e2 : updF (fun _ => (A k).fDst % 4#8) 0 ((A k).fDst % 4#8) = fun _ => (A k).fDst % 4#8 := by funext j; unfold updF; split <;> rfl
            rw [e1, e2] at hp
            exact ⟨⟨k + 1, 1, rfl, by omega, by omega, by omega, rfl, rfl, rfl, hp⟩, by show n - ((k + 1 : Nat) : Int).toNat < n - (k : Int).toNat; omega, fun r hr => hr⟩
        · refine .inr ⟨.e0 (fun k => g_Arr22 y0 k) R (g_Arr22 y0 0) (g_Arr22 y0 1) (g_Arr22 y0 2) (g_Arr22 y0 3), ?_, rfl⟩
          unfold st_barbicanlaw25_FoldStraight_L1
          simp only [d_f (show ¬ ((k : Int) < (n : Int)) by omega), cond_false, hR]
      | c1 f R' a b c d N Q M w T t i =>
        obtain ⟨k, m, rfl, hk, hm, h1, rfl, rfl, rfl, hw⟩ := hI
        by_cases h : k < n
        · refine .inl ⟨_, step1 y0 n A r3 r4 h hn f R' a b c d _ Q _ w _ t (by omega) (by omega) (by omega), ?_⟩
          cases ho : okOp (A k).fOp with
          | false => exact ⟨⟨k + 1, _, rfl, by omega, by omega, h1, rfl, rfl, rfl, hw⟩, by show n - ((k + 1 : Nat) : Int).toNat < n - (k : Int).toNat; omega, fun r hr => hr⟩
          | true =>
            have hp := hw.push (norm_ok ho)
            rw [norm_dst] at hp
            exact ⟨⟨k + 1, _, rfl, by omega, by omega, by omega, rfl, rfl, rfl, hp⟩, by show n - ((k + 1 : Nat) : Int).toNat < n - (k : Int).toNat; omega, fun r hr => hr⟩
        · refine .inr ⟨.e1 f R' a b c d (4 + T) Q T w T t, ?_, _, h1, by omega, rfl, rfl, rfl, hw⟩
          unfold st_barbicanlaw25_FoldStraight_L1
          simp only [d_f (show ¬ ((k : Int) < (n : Int)) by omega), cond_false])
    (.c0 0) ⟨0, rfl, by omega⟩
/-! ### What the law asks of the results -/
theorem num_ok {v : Val} {x : BitVec 64} (h : v = num x) : ((v.fKind == 1) && ((v.fNum == x) && ((v.fId == 0) && (v.fOff == 0)))) = true := by
  rw [h]
  simp [num]
theorem inner {N m : Nat} {K : Nat → Arr42} {w : Nat → Arr26} {j : Nat} (hj : j ≤ m) (hN : N = 4 + m) (hm : m ≤ 60) (h : ∀ i, i < 4 → g_Arr42 (K (4 + j)) i = num (g_Arr26 (w j) i)) :
    lpO (st_barbicanlaw25_FoldStraight_L2v1_L3v2 N m K w (j : Int)) (.c0 0) = some .e0 := by
  have key := lpO_ind (st := st_barbicanlaw25_FoldStraight_L2v1_L3v2 N m K w (j : Int))
    (fun | .c0 a => ∃ i : Nat, a = (i : Int) ∧ i ≤ 4)
    (fun | .c0 a => 4 - a.toNat)
    (fun _ r => r = .e0)
    (fun s hI => by
      obtain ⟨a⟩ := s
      obtain ⟨i, rfl, hi⟩ := hI
      have e1 : IntKind.i64.wrap ((i : Int) + 1) = ((i + 1 : Nat) : Int) := by rw [wr] <;> omega
      have e2 : IntKind.i64.wrap (4 + (j : Int)) = ((4 + j : Nat) : Int) := by rw [wr] <;> omega
      by_cases hi4 : i < 4
      · refine .inl ⟨.c0 ((i + 1 : Nat) : Int), ?_, ⟨i + 1, rfl, by omega⟩, by show 4 - ((i + 1 : Nat) : Int).toNat < 4 - (i : Int).toNat; omega, fun r hr => hr⟩
        unfold st_barbicanlaw25_FoldStraight_L2v1_L3v2
        simp only [d_t (show (i : Int) < 4 by omega), cond_true, e2, inR_nat' (show 4 + j < N + 1 by omega), inR_nat' (show i < 11 by omega), inR_nat' (show j < m + 1 by omega), inR_nat' (show i < 4 by omega), Int.toNat_natCast, num_ok (h i hi4), e1]
      · refine .inr ⟨_, ?_, rfl⟩
        unfold st_barbicanlaw25_FoldStraight_L2v1_L3v2
        simp only [d_f (show ¬ ((i : Int) < 4) by omega), cond_false])
    (.c0 0) ⟨0, rfl, by omega⟩
  obtain ⟨r, hr, rfl⟩ := key
  exact hr
theorem low32 (v : BitVec 64) : (v % 4294967296#64).setWidth 32 = v.setWidth 32 := by
  apply BitVec.eq_of_toNat_eq
  rw [BitVec.toNat_setWidth, BitVec.toNat_setWidth, BitVec.toNat_umod]
  show v.toNat % 4294967296 % 2 ^ 32 = v.toNat % 2 ^ 32
  omega
theorem small_eq (v : BitVec 64) : (BitVec.ofInt 64 (ii (v.setWidth 32)) == v) = small v := by
  unfold small
  rw [Bool.eq_iff_iff, beq_iff_eq, beq_iff_eq]
  exact eq_comm
theorem loop2 {m : Nat} {f : Nat → BitVec 32} {P : Nat → Insn} {E : Nat → Nat → BitVec 64} (h : LawR m f P E) (hm : m ≤ 60) {K : Nat → Arr42} {F : Nat → Insn} {w : Nat → Arr26} {t : Nat → BitVec 8}
    (hK : ∀ k, k ≤ 4 + m → ∀ i, i < 11 → g_Arr42 (K k) i = rowF P k i) (hF : ∀ k, k < 4 + m → F k = foldI (P k) (valI (P k) (rowF P k))) (hw : ∀ j, j ≤ m → ∀ i, i < 4 → g_Arr26 (w j) i = E j i) (ht : ∀ j, j < m → t j = (P (4 + j)).fDst) (a b c d : BitVec 64) :
    ∃ r, lpO (st_barbicanlaw25_FoldStraight_L2v1 (4 + m) m m t K F) (.c0 P a b c d w 0) = some r := by
  have key := lpO_ind (st := st_barbicanlaw25_FoldStraight_L2v1 (4 + m) m m t K F)
    (fun | .c0 P' a' b' c' d' w' s => P' = P ∧ w' = w ∧ ∃ j : Nat, s = (j : Int) ∧ j ≤ m + 1)
    (fun | .c0 _ _ _ _ _ _ s => m + 1 - s.toNat)
    (fun _ _ => True)
    (fun s hI => by
      obtain ⟨P', a', b', c', d', w', s⟩ := s
      obtain ⟨rfl, rfl, j, rfl, hj⟩ := hI
      have e1 : IntKind.i64.wrap ((j : Int) + 1) = ((j + 1 : Nat) : Int) := by rw [wr] <;> omega
      have e2 : IntKind.i64.wrap (4 + (j : Int)) = ((4 + j : Nat) : Int) := by rw [wr] <;> omega
      by_cases hjm : j < m + 1
      · have hin := inner (N := 4 + m) (m := m) (K := K) (w := w') (j := j) (by omega) rfl hm fun i hi => by rw [hK _ (by omega) i (by omega), h.rows j (by omega) i hi, hw j (by omega) i hi]
        refine .inl ⟨.c0 P' a' b' c' d' w' ((j + 1 : Nat) : Int), ?_, ⟨rfl, rfl, j + 1, rfl, by omega⟩, by show m + 1 - ((j + 1 : Nat) : Int).toNat < m + 1 - (j : Int).toNat; omega, fun r hr => hr⟩
        unfold st_barbicanlaw25_FoldStraight_L2v1
        simp only [d_t (show (j : Int) < ((m + 1 : Nat) : Int) by omega), show ((m : Int) + 1) = ((m + 1 : Nat) : Int) from rfl, cond_true, hin, Option.bind_some, e1]
        by_cases hjl : j < m
        · have hdst := (h.ok j hjl).dst
          have hFj : F (4 + j) = foldI (P' (4 + j)) (E (j + 1) (P' (4 + j)).fDst.toNat) := by rw [hF _ (by omega), h.fv hjl]
          have hv := hw (j + 1) (by omega) _ hdst
          simp only [d_t (show ((j + 1 : Nat) : Int) < ((m + 1 : Nat) : Int) by omega), cond_true, inR_nat' hjl, inR_nat' (show j + 1 < m + 1 by omega), Int.toNat_natCast, ht j hjl, in4 hdst, (nn_dst hdst).2.1, hv, e2, inR_nat' (show 4 + j < 4 + m + 1 by omega), inR_nat' (show 4 + j < 0 + (4 + m + 1) by omega), low32, small_eq, hFj]
          generalize E (j + 1) (P' (4 + j)).fDst.toNat = v
          generalize P' (4 + j) = x
          unfold foldI
          cases small v <;> cases h1 : x.fOp == 183#8 <;> cases h2 : x.fOp == 180#8 <;> simp
        · simp only [d_f (show ¬ (((j + 1 : Nat) : Int) < ((m + 1 : Nat) : Int)) by omega), cond_false]
      · refine .inr ⟨.e0 P' a' b' c' d' w', ?_, trivial⟩
        unfold st_barbicanlaw25_FoldStraight_L2v1
        simp only [show ((m : Int) + 1) = ((m + 1 : Nat) : Int) from rfl, d_f (show ¬ ((j : Int) < ((m + 1 : Nat) : Int)) by omega), cond_false])
    (.c0 P a b c d w 0) ⟨rfl, rfl, 0, rfl, by omega⟩
  obtain ⟨r, hr, _⟩ := key
  exact ⟨r, hr⟩
theorem fold_true (y0 : Arr22) (n : Nat) (A : Nat → Insn) : m_barbicanlaw25_FoldStraight y0 n A = some true := by
  unfold m_barbicanlaw25_FoldStraight
  by_cases hn : n ≤ 60
  case neg => rw [d_t (show (60 : Int) < (n : Int) by omega)]; rfl
  rw [d_f (show ¬ ((60 : Int) < (n : Int)) by omega), cond_false]
  simp only [bindT]
  obtain ⟨f, hf⟩ : ∃ f, f = g_Arr22 y0 := ⟨_, rfl⟩
  generalize hr3 : updF (updF (updF (fun _ => 0#64) 0 (BitVec.ofInt 64 (ii (g_Arr22 y0 0)))) 1 (BitVec.ofInt 64 (ii (g_Arr22 y0 1)))) 2 (BitVec.ofInt 64 (ii (g_Arr22 y0 2))) = r3
  generalize hr4 : updF (updF (updF (fun _ => (⟨183#8, 0#8, 0#8, 0#16, g_Arr22 y0 0⟩ : Insn)) 1 (⟨183#8, 1#8, 0#8, 0#16, g_Arr22 y0 1⟩ : Insn)) 2 (⟨183#8, 2#8, 0#8, 0#16, g_Arr22 y0 2⟩ : Insn)) 3 (⟨183#8, 3#8, 0#8, 0#16, g_Arr22 y0 3⟩ : Insn) = r4
  obtain ⟨R, hR⟩ : ∃ R, updF r3 3 (BitVec.ofInt 64 (ii ((fun k => g_Arr22 y0 k) 3))) = R := ⟨_, rfl⟩
  have hbase : ∀ w t, RowW 0 (g_Arr22 y0) r4 w t R := fun w t => {
    law := {
      mov := fun i hi => by
        rw [← hr4]
        have : i = 0 ∨ i = 1 ∨ i = 2 ∨ i = 3 := by omega
        rcases this with rfl | rfl | rfl | rfl <;> rfl
      ok := fun j hj => by omega
      first := fun i hi => by
        show R i = _
        rw [← hR, ← hr3]
        have : i = 0 ∨ i = 1 ∨ i = 2 ∨ i = 3 := by omega
        rcases this with rfl | rfl | rfl | rfl <;> rfl
      step := fun j hj => by omega }
    dst := fun j hj => by omega }
  obtain ⟨r, hr, hp⟩ := loop1 y0 n A r3 r4 hn R hR hbase
  rw [hr, Option.bind_some]
  have main : ∀ {m Q w t R'}, m ≤ 60 → RowW m (g_Arr22 y0) Q w t R' → ∃ K F, m_fold_Known (4 + m + 1) (updF Q (4 + m) xit) = some (.e0 K) ∧ m_fold_Fold_v1 (4 + m + 1) (updF Q (4 + m) xit) = some (.e0 F) ∧
      (∀ a b c d, ∃ r, lpO (st_barbicanlaw25_FoldStraight_L2v1 (4 + m) m m t K F) (.c0 (updF Q (4 + m) xit) a b c d (updF w m (a26 R')) 0) = some r) ∧ ∀ i, i < 4 → m = 0 → g_Arr42 (K 4) i = num (R' i) := fun {m Q w t R'} hm hw => by
    have hl : LawR m (g_Arr22 y0) (updF Q (4 + m) xit) (Ew m w R') := {
      mov := fun i hi => by rw [updF_ne _ _ (by omega)]; exact hw.law.mov i hi
      ok := fun j hj => by rw [updF_ne _ _ (by omega)]; exact hw.law.ok j hj
      first := hw.law.first
      step := fun j hj i hi => by rw [updF_ne _ _ (by omega)]; exact hw.law.step j hj i hi }
    have hfd := hl.fd (by omega) (updF_at _ _ _)
    obtain ⟨K, hK1, hK2⟩ := hfd.knownIs hl.kn
    obtain ⟨F, hF1, hF2⟩ := hfd.fold hl.kn
    refine ⟨K, F, hK1, hF1, fun a b c d => loop2 hl hm hK2 hF2 (fun j hj i hi => ?_) (fun j hj => ?_) a b c d, fun i hi h0 => ?_⟩
    · unfold Ew
      by_cases e : j = m
      · rw [e, updF_at, if_neg (by omega), g26 R' hi]
      · rw [updF_ne _ _ e, if_pos (by omega)]
    · rw [updF_ne _ _ (by omega)]; exact hw.dst j hj
    · subst h0
      rw [hK2 4 (by omega) i (by omega), hl.rows 0 (by omega) i hi]
      rfl
  cases r with
  | e0 f0 R' a b c d =>
    obtain rfl : R' = R := hp
    obtain ⟨K, F, h1, h2, h3, h4⟩ := main (by omega) (hbase (fun _ => a26 R') (fun _ => 0#8))
    have h1 : m_fold_Known 5 (updF r4 4 (⟨149#8, 0#8, 0#8, 0#16, 0#32⟩ : Insn)) = some (.e0 K) := h1
    have h2 : m_fold_Fold_v1 5 (updF r4 4 (⟨149#8, 0#8, 0#8, 0#16, 0#32⟩ : Insn)) = some (.e0 F) := h2
    simp only [h1, h2, Option.bind_some]
    have s3 : ∀ i : Nat, i < 4 → st_barbicanlaw25_FoldStraight_L2_L3v2 K (fun _ => (⟨R' 0, R' 1, R' 2, R' 3⟩ : Arr26)) 0 (.c0 (i : Int)) = some (.inl (.c0 ((i + 1 : Nat) : Int))) := fun i hi => by
      have e1 : IntKind.i64.wrap ((i : Int) + 1) = ((i + 1 : Nat) : Int) := by rw [wr] <;> omega
      have e2 : IntKind.i64.wrap (4 + (0 : Int)) = ((4 : Nat) : Int) := by rw [wr] <;> omega
      have hg := num_ok ((h4 i hi rfl).trans (by rw [← g26 R' hi]))
      unfold st_barbicanlaw25_FoldStraight_L2_L3v2
      simp only [d_t (show (i : Int) < 4 by omega), cond_true, e2, inR_nat' (show 4 < 5 by omega), inR_nat' (show i < 11 by omega), show inR 0 1 = true from rfl, inR_nat' (show i < 4 by omega), Int.toNat_natCast, e1]
      have hg' : (((g_Arr42 (K 4) i).fKind == 1) && (((g_Arr42 (K 4) i).fNum == g_Arr26 (⟨R' 0, R' 1, R' 2, R' 3⟩ : Arr26) i) && (((g_Arr42 (K 4) i).fId == 0) && ((g_Arr42 (K 4) i).fOff == 0)))) = true := hg
      rw [hg', cond_true]
    have l3 : lpO (st_barbicanlaw25_FoldStraight_L2_L3v2 K (fun _ => (⟨R' 0, R' 1, R' 2, R' 3⟩ : Arr26)) 0) (.c0 0) = some .e0 := by
      show lpO _ (Sh_barbicanlaw25_FoldStraight_L2_L3v2.c0 ((0 : Nat) : Int)) = _
      rw [lpO_next (s3 0 (by omega)), lpO_next (s3 1 (by omega)), lpO_next (s3 2 (by omega)), lpO_next (s3 3 (by omega))]
      exact lpO_end rfl
    have s1 : ∀ p a b c d, st_barbicanlaw25_FoldStraight_L2 K (.c0 p a b c d (fun _ => (⟨R' 0, R' 1, R' 2, R' 3⟩ : Arr26)) 0) = some (.inl (.c0 p a b c d (fun _ => (⟨R' 0, R' 1, R' 2, R' 3⟩ : Arr26)) 1)) := fun p a b c d => by
      unfold st_barbicanlaw25_FoldStraight_L2
      simp only [l3, Option.bind_some]
      rw [show IntKind.i64.wrap (0 + 1) = 1 by rw [wr] <;> omega]
      rfl
    have s2 : ∀ p a b c d, st_barbicanlaw25_FoldStraight_L2 K (.c0 p a b c d (fun _ => (⟨R' 0, R' 1, R' 2, R' 3⟩ : Arr26)) 1) = some (.inr (.e0 p a b c d (fun _ => (⟨R' 0, R' 1, R' 2, R' 3⟩ : Arr26)))) := fun _ _ _ _ _ => rfl
    rw [lpO_next (s1 _ _ _ _ _), lpO_end (s2 _ _ _ _ _)]
    rfl
  | e1 f0 R' a b c d N Q M w T t =>
    obtain ⟨m, h1, hm, rfl, rfl, rfl, hw⟩ := hp
    obtain ⟨K, F, g1, g2, g3, _⟩ := main hm hw
    obtain ⟨r, g3⟩ := g3 (R' 0) (R' 1) (R' 2) (R' 3)
    simp only
    rw [d_t (show 4 + T ≤ 1000000 by omega), d_t (show T ≤ 1000000 by omega), cond_true, cond_true]
    have g1 : m_fold_Known (4 + T + 1) (updF Q (4 + T) (⟨149#8, 0#8, 0#8, 0#16, 0#32⟩ : Insn)) = some (.e0 K) := g1
    have g2 : m_fold_Fold_v1 (4 + T + 1) (updF Q (4 + T) (⟨149#8, 0#8, 0#8, 0#16, 0#32⟩ : Insn)) = some (.e0 F) := g2
    have g3 : lpO (st_barbicanlaw25_FoldStraight_L2v1 (4 + T) T T t K F) (.c0 (updF Q (4 + T) (⟨149#8, 0#8, 0#8, 0#16, 0#32⟩ : Insn)) (R' 0) (R' 1) (R' 2) (R' 3) (updF w T (⟨R' 0, R' 1, R' 2, R' 3⟩ : Arr26)) 0) = some r := g3
    rw [g1, Option.bind_some]
    simp only
    rw [g2, Option.bind_some]
    simp only
    have z1 : ((((4 + T : Nat) : Int) + 1) == (((4 + T : Nat) : Int) + 1)) = true := by simp
    have z2 : ((0 + (((4 + T : Nat) : Int) + 1)) == (((4 + T : Nat) : Int) + 1)) = true := by simp
    rw [z1, z2, cond_true, cond_true, g3]
    cases r
    rfl
end Go.Proofs.YtcdkghdjfcccfaaGreat

