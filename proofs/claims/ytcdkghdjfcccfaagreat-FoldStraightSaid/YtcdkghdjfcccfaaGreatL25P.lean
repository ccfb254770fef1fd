/-
  What a row of operations on registers is folded to, and the law's row, in plain words (no program).
-/
import Derived.Test.YtcdkghdjfcccfaaGreatL25O
import Derived.Test.YtcdkghdjfcccfaaGreatL25Sb
namespace Go.Proofs.YtcdkghdjfcccfaaGreat
open Go.RowKit
set_option linter.unusedVariables false
set_option linter.unusedSimpArgs false
theorem mov_ops : ∀ c : BitVec 8, okOp c = true → ((c &&& 7#8 == 4#8) || (c &&& 7#8 == 7#8)) = true ∧ (((c >>> 4) == 11#8) && ((c &&& 8#8) == 0#8)) = ((c == 183#8) || (c == 180#8)) := by decide +kernel
theorem OkI.movs {x : Insn} (h : OkI x) : m_fold_movesImmediate_v3 x = ((x.fOp == 183#8) || (x.fOp == 180#8)) := by
  unfold m_fold_movesImmediate_v3
  rw [h.isAlu, cond_true, ← (mov_ops _ h.op).2]
  cases (x.fOp >>> 4) == 11#8 <;> rfl
def small (v : BitVec 64) : Bool := v == BitVec.ofInt 64 (ii (v.setWidth 32))
def foldI (x : Insn) (v : BitVec 64) : Insn := bif (x.fOp == 183#8) || (x.fOp == 180#8) then x else bif small v then ⟨183#8, x.fDst, 0#8, 0#16, v.setWidth 32⟩ else x
namespace Fd
variable {n : Nat} {P : Nat → Insn}
theorem fold (h : Fd n P) (hK : ∀ k, k < n → Kn (P k) (rowF P k)) : ∃ F, m_fold_Fold_v1 (n + 1) P = some (.e0 F) ∧ ∀ k, k < n → F k = foldI (P k) (valI (P k) (rowF P k)) := by
  have hm := h.most
  obtain ⟨g, c, R, h1, h2, h3⟩ := h.look hK
  have key := lpO_ind (st := st_fold_Fold_v1_L0 (n + 1) P g R)
    (fun | .c0 M a => ∃ k : Nat, a = (k : Int) ∧ k ≤ n + 1 ∧ (∀ j, j < k → j < n → M j = foldI (P j) (valI (P j) (rowF P j))) ∧ ∀ j, k ≤ j → M j = P j)
    (fun | .c0 _ a => n + 1 - a.toNat)
    (fun _ r => match r with | .e0 F => ∀ k, k < n → F k = foldI (P k) (valI (P k) (rowF P k)))
    (fun s hI => by
      obtain ⟨M, a⟩ := s
      obtain ⟨k, rfl, hk, hM, hM'⟩ := hI
      have e1 : IntKind.i64.wrap ((k : Int) + 1) = ((k + 1 : Nat) : Int) := by rw [wr] <;> omega
      by_cases hkn : k < n + 1
      · by_cases e : k = n
        · refine .inl ⟨.c0 M ((k + 1 : Nat) : Int), ?_, ⟨k + 1, rfl, by omega, fun j hj hjn => hM j (by omega) hjn, fun j hj => hM' j (by omega)⟩, by show n + 1 - ((k + 1 : Nat) : Int).toNat < n + 1 - (k : Int).toNat; omega, fun r hr => hr⟩
          have ex : m_fold_isAlu_v4 xit = false := by kernel_rfl
          unfold st_fold_Fold_v1_L0
          simp only [d_t (show (k : Int) < ((n + 1 : Nat) : Int) by omega), cond_true, inR_nat' hkn, Int.toNat_natCast, h2 k (by omega), e1]
          rw [e, h.last, ex]
          rfl
        · have hok := h.ok k (by omega)
          have hKk : Kn (P k) (g_Arr42 (R k)) := fun i hi hb => by rw [h3 k (by omega) i hi]; exact hK k (by omega) i hi hb
          have hv : valI (P k) (g_Arr42 (R k)) = valI (P k) (rowF P k) := vI_congr hok fun i hi => by rw [h3 k (by omega) i (by omega)]
          have hres := result_is hok (R k) hKk
          rw [hv] at hres
          obtain ⟨v, hvv⟩ : ∃ v, valI (P k) (rowF P k) = v := ⟨_, rfl⟩
          rw [hvv] at hres
          have st : ∃ M', st_fold_Fold_v1_L0 (n + 1) P g R (.c0 M (k : Int)) = some (.inl (.c0 M' ((k + 1 : Nat) : Int))) ∧ M' k = foldI (P k) v ∧ ∀ j, j ≠ k → M' j = M j := by
            have hres' : m_fold_result_v3 (P k) (⟨(R k).x0, (R k).x1, (R k).x2, (R k).x3, (R k).x4, (R k).x5, (R k).x6, (R k).x7, (R k).x8, (R k).x9, (R k).x10⟩ : Arr42) = some (num v) := hres
            unfold st_fold_Fold_v1_L0
            simp only [d_t (show (k : Int) < ((n + 1 : Nat) : Int) by omega), cond_true, inR_nat' hkn, inR_nat' (show k < 0 + (n + 1) by omega), Int.toNat_natCast, h2 k (by omega), e1, hok.isAlu, hok.movs, hres', Option.bind_some]
            unfold foldI
            cases hb : ((P k).fOp == 183#8) || ((P k).fOp == 180#8) with
            | true => exact ⟨M, rfl, hM' k (by omega), fun _ _ => rfl⟩
            | false =>
              have hs : (m_alu_Sign_v3 ((num v).fNum.setWidth 32)) = BitVec.ofInt 64 (ii (v.setWidth 32)) := rfl
              simp only [cond_false, bindT, hs, small]
              have hk1 : ((num v).fKind == 0) = false := rfl
              have hn1 : (num v).fNum = v := rfl
              rw [hk1, hn1, Bool.false_and, cond_false]
              cases v == BitVec.ofInt 64 (ii (v.setWidth 32)) with
              | true => exact ⟨_, rfl, updF_at _ _ _, fun j hj => updF_ne _ _ hj⟩
              | false => exact ⟨M, rfl, hM' k (by omega), fun _ _ => rfl⟩
          obtain ⟨M', hs1, hs2, hs3⟩ := st
          refine .inl ⟨.c0 M' ((k + 1 : Nat) : Int), hs1, ⟨k + 1, rfl, by omega, fun j hj hjn => ?_, fun j hj => ?_⟩, by show n + 1 - ((k + 1 : Nat) : Int).toNat < n + 1 - (k : Int).toNat; omega, fun r hr => hr⟩
          · by_cases ej : j = k
            · rw [ej, hs2, ← hvv]
            · rw [hs3 j ej]; exact hM j (by omega) hjn
          · rw [hs3 j (by omega)]; exact hM' j (by omega)
      · refine .inr ⟨.e0 M, ?_, fun j hj => hM j (by omega) hj⟩
        unfold st_fold_Fold_v1_L0
        simp only [d_f (show ¬ ((k : Int) < ((n + 1 : Nat) : Int)) by omega), cond_false])
    (.c0 (catF (fun _ => (⟨0#8, 0#8, 0#8, 0#16, 0#32⟩ : Insn)) 0 P) 0) ⟨0, rfl, by omega, fun j hj => by omega, fun j hj => by rw [show j = 0 + j by omega, catF_hi, Nat.zero_add]⟩
  obtain ⟨⟨F⟩, hr, hp⟩ := key
  refine ⟨F, ?_, hp⟩
  unfold m_fold_Fold_v1 m_slices_Clone_api_Insn_api_Insn_v1
  rw [h.check, Option.bind_some]
  simp only [beq_self_eq_true, cond_true]
  rw [h1, Option.bind_some]
  simp only
  rw [d_t (show n + 1 ≤ 1000000 by omega), cond_true, Option.bind_some]
  simp only
  rw [hr]
  rfl
theorem knownIs (h : Fd n P) (hK : ∀ k, k < n → Kn (P k) (rowF P k)) : ∃ R, m_fold_Known (n + 1) P = some (.e0 R) ∧ ∀ k, k ≤ n → ∀ i, i < 11 → g_Arr42 (R k) i = rowF P k i := by
  obtain ⟨g, c, R, h1, h2, h3⟩ := h.look hK
  refine ⟨R, ?_, h3⟩
  unfold m_fold_Known
  rw [h.check, Option.bind_some]
  simp only [beq_self_eq_true, cond_true]
  rw [h1, Option.bind_some]
end Fd
/-! ### The law's row -/
def mvI (f : Nat → BitVec 32) (i : Nat) : Insn := ⟨183#8, BitVec.ofNat 8 i, 0#8, 0#16, f i⟩
def sg (x : BitVec 32) : BitVec 64 := BitVec.ofInt 64 (ii x)
/-- Four moves, m operations, and what the registers hold ahead of each. -/
structure LawR (m : Nat) (f : Nat → BitVec 32) (Q : Nat → Insn) (E : Nat → Nat → BitVec 64) : Prop where
  mov : ∀ i, i < 4 → Q i = mvI f i
  ok : ∀ j, j < m → OkI (Q (4 + j))
  first : ∀ i, i < 4 → E 0 i = sg (f i)
  step : ∀ j, j < m → ∀ i, i < 4 → E (j + 1) i = if i = (Q (4 + j)).fDst.toNat then vI (Q (4 + j)) (E j) else E j i
theorem mv_ok (f : Nat → BitVec 32) {i : Nat} (hi : i < 4) : OkI (mvI f i) := by
  refine .imm _ _ _ (by decide +kernel) (by decide) ?_
  rw [BitVec.toNat_ofNat]
  omega
theorem mv_kn (f : Nat → BitVec 32) (i : Nat) (r : Nat → Val) : Kn (mvI f i) r := fun j hj hb => by
  have e : rdI (mvI f i) = 0#16 := by kernel_rfl
  rw [e] at hb
  simp at hb
theorem mv_val (f : Nat → BitVec 32) (i : Nat) (r : Nat → Val) : valI (mvI f i) r = sg (f i) := by
  unfold valI
  have e : doI (mvI f i) (fun j => (r j).fNum) = some (sg (f i), true) := by kernel_rfl
  rw [e]
  rfl
namespace LawR
variable {m : Nat} {f : Nat → BitVec 32} {Q : Nat → Insn} {E : Nat → Nat → BitVec 64}
theorem four (h : LawR m f Q E) {i : Nat} (hi : i < 4) : rowF Q 4 i = num (E 0 i) := by
  rw [h.first i hi]
  show stepR (Q 3) (stepR (Q 2) (stepR (Q 1) (stepR (Q 0) (fun _ => non)))) i = _
  rw [h.mov 0 (by omega), h.mov 1 (by omega), h.mov 2 (by omega), h.mov 3 (by omega)]
  unfold stepR
  simp only [mv_val]
  have : i = 0 ∨ i = 1 ∨ i = 2 ∨ i = 3 := by omega
  rcases this with rfl | rfl | rfl | rfl <;> rfl
theorem rows (h : LawR m f Q E) : ∀ j, j ≤ m → ∀ i, i < 4 → rowF Q (4 + j) i = num (E j i)
  | 0, _, i, hi => h.four hi
  | j + 1, hj, i, hi => by
    have ih := h.rows j (by omega)
    show stepR (Q (4 + j)) (rowF Q (4 + j)) i = _
    have hv : valI (Q (4 + j)) (rowF Q (4 + j)) = vI (Q (4 + j)) (E j) := valI_eq (h.ok j (by omega)) fun i hi => by rw [ih i hi]; rfl
    unfold stepR
    rw [hv, h.step j (by omega) i hi]
    by_cases e : i = (Q (4 + j)).fDst.toNat
    · rw [if_pos e, ← e, updF_at]
    · rw [if_neg e, updF_ne _ _ e, ih i hi]
theorem kn (h : LawR m f Q E) : ∀ k, k < 4 + m → Kn (Q k) (rowF Q k) := fun k hk => by
  by_cases h4 : k < 4
  · rw [h.mov k h4]; exact mv_kn f k _
  · obtain ⟨j, rfl⟩ : ∃ j, k = 4 + j := ⟨k - 4, by omega⟩
    intro i hi hb
    by_cases hi4 : i < 4
    · rw [h.rows j (by omega) i hi4]; rfl
    · rw [(h.ok j (by omega)).rd_hi hi (by omega)] at hb; cases hb
theorem fd (h : LawR m f Q E) (hm : m ≤ 80) (hx : Q (4 + m) = xit) : Fd (4 + m) Q where
  most := by omega
  ok := fun k hk => by
    by_cases h4 : k < 4
    · rw [h.mov k h4]; exact mv_ok f h4
    · obtain ⟨j, rfl⟩ : ∃ j, k = 4 + j := ⟨k - 4, by omega⟩
      exact h.ok j (by omega)
  last := hx
theorem fv (h : LawR m f Q E) {j : Nat} (hj : j < m) : valI (Q (4 + j)) (rowF Q (4 + j)) = E (j + 1) (Q (4 + j)).fDst.toNat := by
  have ih := h.rows j (by omega)
  rw [h.step j hj _ (h.ok j hj).dst, if_pos rfl]
  exact valI_eq (h.ok j hj) fun i hi => by rw [ih i hi]; rfl
end LawR
end Go.Proofs.YtcdkghdjfcccfaaGreat

