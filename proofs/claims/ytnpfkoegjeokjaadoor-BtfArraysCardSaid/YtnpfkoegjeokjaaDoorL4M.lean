/-
  Arrays of arrays: what is asked of the types, in plain words, and what the law comes to (no program).
-/
import Derived.Test.YtnpfkoegjeokjaaDoorL4B
namespace Go.Proofs.YtnpfkoegjeokjaaDoor
open Go.RowKit
set_option linter.unusedVariables false
set_option linter.unusedSimpArgs false
theorem wr {x : Int} (h0 : -9223372036854775808 ≤ x) (h1 : x < 9223372036854775808) : IntKind.i64.wrap x = x := z_wrap h0 h1
theorem inR_nat' {k n : Nat} (h : k < n) : inR (k : Int) n = true := inR_iff.2 ⟨by omega, by omega⟩
theorem d_t {p : Prop} [Decidable p] (h : p) : decide p = true := decide_eq_true h
theorem d_f {p : Prop} [Decidable p] (h : ¬ p) : decide p = false := decide_eq_false h
theorem w_pred (k : Nat) (h : k ≤ 1000) : IntKind.i64.wrap (((k + 1 : Nat) : Int) - 1) = (k : Int) := by rw [wr] <;> omega
theorem w_succ (k : Nat) (h : k ≤ 1000) : IntKind.i64.wrap ((k : Int) + 1) = ((k + 1 : Nat) : Int) := by rw [wr] <;> omega
/-- The types: a unit of u bytes, then arrays, each of the one before. -/
def tyA (u : Int) (c : Nat → Int) : Nat → Type0
  | 0 => ⟨1, (⟨#[117, 110, 105, 116]⟩ : ByteArray), u, false, 0, 0, ()⟩
  | k + 1 => ⟨3, (⟨#[]⟩ : ByteArray), 0, false, ((k + 1 : Nat) : Int), c k, ()⟩
/-- Their sizes, and the number of the first that is too large. -/
def szA (u : Int) (c : Nat → Int) : Nat → Int
  | 0 => u
  | k + 1 => if 65536 < szA u c k * c k then 65537 else szA u c k * c k
def ovA (u : Int) (c : Nat → Int) : Nat → Int
  | 0 => -1
  | k + 1 => if 65536 < szA u c k * c k then (if ovA u c k < 0 then ((k + 2 : Nat) : Int) else ovA u c k) else ovA u c k
structure AllA (u : Int) (c : Nat → Int) (N : Nat) (A : Nat → Type0) : Prop where
  hu : u = 1 ∨ u = 2 ∨ u = 4 ∨ u = 8
  hc : ∀ k, 0 ≤ c k ∧ c k ≤ 255
  h1 : 1 ≤ N
  hN : N ≤ 21
  hA : ∀ j, j < N → A j = tyA u c j
section
variable {u : Int} {c : Nat → Int} {N : Nat} {A : Nat → Type0} (H : AllA u c N A)
include H
theorem sz_le : ∀ k, 0 ≤ szA u c k ∧ szA u c k ≤ 65537
  | 0 => by have := H.hu; unfold szA; omega
  | k + 1 => by
    have h := sz_le k
    have hc := H.hc k
    have := Int.mul_nonneg h.1 hc.1
    unfold szA
    split <;> omega
theorem mul_le (k : Nat) : 0 ≤ szA u c k * c k ∧ szA u c k * c k ≤ 65537 * 255 := by
  have h := sz_le H k
  have hc := H.hc k
  exact ⟨Int.mul_nonneg h.1 hc.1, Int.mul_le_mul h.2 hc.2 hc.1 (by omega)⟩
theorem size_eq : ∀ k f, k < N → k < f → m_btf_sizeOf_v2_F f N A ((k + 1 : Nat) : Int) = some (szA u c k)
  | _, 0, _, h => by omega
  | 0, f + 1, hk, hf => by
    have hN := H.hN
    have e0 := H.hA 0 hk
    simp only [m_btf_sizeOf_v2_F, m_btf_sizeOf_v2, w_pred 0 (by omega), inR_nat' hk, Int.toNat_natCast, e0, tyA, cond_true]
    rfl
  | k + 1, f + 1, hk, hf => by
    have hN := H.hN
    have e0 := H.hA (k + 1) hk
    have hm := mul_le H k
    have e3 : IntKind.i64.wrap (c k * szA u c k) = szA u c k * c k := by rw [Int.mul_comm]; exact wr (by omega) (by omega)
    simp only [m_btf_sizeOf_v2_F, m_btf_sizeOf_v2, w_pred (k + 1) (by omega), inR_nat' hk, Int.toNat_natCast, e0, tyA, cond_true, size_eq k f (by omega) (by omega), Option.bind_some, e3]
    show some _ = some _
    simp only [szA]
    congr 1
    split <;> split <;> omega
theorem many_go : ∀ d s, s + d = N → lpO (st_btf_tooMany_v1_L0 N) (.c0 (s : Int)) = some .e0
  | 0, s, h => lpO_end (by simp only [st_btf_tooMany_v1_L0, d_f (show ¬ ((s : Int) < (N : Int)) by omega), cond_false])
  | d + 1, s, h => by
    have hN := H.hN
    rw [lpO_next (s' := .c0 ((s + 1 : Nat) : Int)) (by simp only [st_btf_tooMany_v1_L0, d_t (show (s : Int) < (N : Int) by omega), inR_nat' (show s < N by omega), w_succ s (by omega), cond_true])]
    exact many_go d (s + 1) (by omega)
theorem many_eq : m_btf_tooMany_v1 N A = some false := by
  have hN := H.hN
  have := many_go H N 0 (by omega)
  simp only [m_btf_tooMany_v1, d_f (show ¬ (256 < (N : Int)) by omega), cond_false]
  rw [show (0 : Int) = ((0 : Nat) : Int) from rfl, this]
  rfl
theorem type_0 : m_btf_checkType_v2 (tyA u c 0) (N : Int) = some (.e1 0) := by
  rcases H.hu with h | h | h | h <;> subst h <;> rfl
theorem type_s (k : Nat) (hk : k + 1 < N) : m_btf_checkType_v3 (tyA u c (k + 1)) (N : Int) 1 = some (.e0 1 0) := by
  have hc := H.hc k
  have e1 : m_btf_rightSize_v2 (tyA u c (k + 1)) = true := by
    show (bif decide (0 ≤ c k) then decide (c k ≤ 65536) else false) = true
    rw [d_t hc.1, d_t (show c k ≤ 65536 by omega)]; rfl
  have e2 : m_btf_rightReferences_v2 (tyA u c (k + 1)) (N : Int) = true := by
    show (bif decide (((k + 1 : Nat) : Int) < 1) then false else bif decide ((N : Int) < ((k + 1 : Nat) : Int)) then false else true) = true
    rw [d_f (show ¬ (((k + 1 : Nat) : Int) < 1) by omega), d_f (show ¬ ((N : Int) < ((k + 1 : Nat) : Int)) by omega)]; rfl
  show (bif m_btf_rightSize_v2 (tyA u c (k + 1)) then (bif m_btf_rightReferences_v2 (tyA u c (k + 1)) (N : Int) then (bif m_btf_onlyOwnFields_v2 (tyA u c (k + 1)) then some (R_btf_checkType_v3.e0 1 0) else some (.e0 1 41)) else some (.e0 1 41)) else some (.e0 1 43)) = some (.e0 1 0)
  rw [e1, e2]
  rfl
theorem chk_go : ∀ d s, 1 ≤ s → s + d = N → lpO (st_btf_Check_v1_L0 N A) (.c1 1 (s : Int)) = some (.e1 1)
  | 0, s, h1, h => lpO_end (by simp only [st_btf_Check_v1_L0, d_f (show ¬ ((s : Int) < (N : Int)) by omega), cond_false])
  | d + 1, s, h1, h => by
    have hN := H.hN
    obtain ⟨k, rfl⟩ : ∃ k, s = k + 1 := ⟨s - 1, by omega⟩
    have ht := type_s H k (by omega)
    have e0 := H.hA (k + 1) (by omega)
    rw [lpO_next (s' := .c1 1 ((k + 1 + 1 : Nat) : Int)) (by
      simp only [st_btf_Check_v1_L0, d_t (show ((k + 1 : Nat) : Int) < (N : Int) by omega), inR_nat' (show k + 1 < N by omega), w_succ (k + 1) (by omega), cond_true, Int.toNat_natCast, e0]
      simp only [tyA] at ht ⊢
      rw [ht]
      rfl)]
    exact chk_go d (k + 1 + 1) (by omega) (by omega)
theorem chk_eq : lpO (st_btf_Check_v1_L0 N A) (.c0 0) = some (.e1 1) := by
  have hN := H.hN
  have h1 := H.h1
  have ht := type_0 H
  have e0 := H.hA 0 (by omega)
  rw [lpO_next (s' := .c1 1 ((1 : Nat) : Int)) (by
    rw [show (0 : Int) = ((0 : Nat) : Int) from rfl]
    simp only [st_btf_Check_v1_L0, d_t (show ((0 : Nat) : Int) < (N : Int) by omega), inR_nat' (show 0 < N by omega), w_succ 0 (by omega), cond_true, Int.toNat_natCast, e0]
    simp only [tyA] at ht ⊢
    rw [ht]
    rfl)]
  exact chk_go H (N - 1) 1 (by omega) (by omega)
theorem holds_go : ∀ f (j : Nat) (first : Nat) (seen : Nat → Bool), j < f → j < N → j ≤ first → first ≤ 30 → (∀ i, i ≤ j → seen i = false) →
    ∃ seen', m_btf_holdsItself_1_v3_F f ((j + 1 : Nat) : Int) N A ((first + 1 : Nat) : Int) seen = some (.e0 seen' false)
  | 0, _, _, _, h, _, _, _, _ => by omega
  | f + 1, 0, first, seen, h, hj, hf, hf', hs => by
    have e0 := H.hA 0 hj
    refine ⟨seen, ?_⟩
    simp only [m_btf_holdsItself_1_v3_F, m_btf_holdsItself_1_v3, w_pred 0 (by omega), inR_nat' hj, Int.toNat_natCast, e0, tyA, cond_true, m_btf_held_v2]
    rfl
  | f + 1, j + 1, first, seen, h, hj, hf, hf', hs => by
    have hN := H.hN
    have e0 := H.hA (j + 1) hj
    obtain ⟨s', hs'⟩ := holds_go f j first (updF seen (j + 1) true) (by omega) (by omega) (by omega) hf' (fun i hi => by rw [updF_ne _ _ (by omega)]; exact hs i (by omega))
    refine ⟨s', ?_⟩
    have e1 : (((j + 1 : Nat) : Int) == ((first + 1 : Nat) : Int)) = false := by
      rw [Bool.eq_false_iff]; intro e; have := eq_of_beq e; omega
    have l1 : lpO (st_btf_holdsItself_1_v3_L0 N A ((first + 1 : Nat) : Int) (m_btf_holdsItself_1_v3_F f) (fun _ => ((j + 1 : Nat) : Int))) (.c0 seen 0) = some (.e0 s') := by
      rw [lpO_next (s' := .c0 s' 1) (by
        simp only [st_btf_holdsItself_1_v3_L0, e1, inR_nat' (show j + 1 < 257 by omega), Int.toNat_natCast, hs (j + 1) (by omega), hs', cond_true, cond_false]
        rfl)]
      exact lpO_end rfl
    simp only [m_btf_holdsItself_1_v3_F, m_btf_holdsItself_1_v3, w_pred (j + 1) (by omega), inR_nat' hj, Int.toNat_natCast, e0, tyA, cond_true, m_btf_held_v2]
    show Option.bind (lpO (st_btf_holdsItself_1_v3_L0 N A ((first + 1 : Nat) : Int) (m_btf_holdsItself_1_v3_F f) (fun _ => ((j + 1 : Nat) : Int))) (.c0 seen 0)) _ = _
    rw [l1]
    rfl
theorem its_go : ∀ d s, s + d = N → lpO (st_btf_holdsItself_v1_L0 N A) (.c0 ((s + 1 : Nat) : Int)) = some .e0
  | 0, s, h => lpO_end (by simp only [st_btf_holdsItself_v1_L0, d_f (show ¬ (((s + 1 : Nat) : Int) ≤ (N : Int)) by omega), cond_false])
  | d + 1, s, h => by
    have hN := H.hN
    obtain ⟨s', hs'⟩ := holds_go H 64 s s (fun _ => false) (by omega) (by omega) (by omega) (by omega) (fun _ _ => rfl)
    rw [lpO_next (s' := .c0 ((s + 1 + 1 : Nat) : Int)) (by
      simp only [st_btf_holdsItself_v1_L0, d_t (show ((s + 1 : Nat) : Int) ≤ (N : Int) by omega), hs', w_succ (s + 1) (by omega), cond_true, cond_false, Option.bind_some])]
    exact its_go d (s + 1) (by omega)
theorem its_eq : m_btf_holdsItself_v1 N A = some (.e0 0) := by
  have := its_go H N 0 (by omega)
  simp only [m_btf_holdsItself_v1]
  rw [show (1 : Int) = ((0 + 1 : Nat) : Int) from rfl, this]
  rfl
theorem res_eq (k : Nat) (hk : k < N) : m_btf_resolve_v2 N A ((k + 1 : Nat) : Int) = some ((k + 1 : Nat) : Int) := by
  have hN := H.hN
  have e0 := H.hA k hk
  have e5 : ((tyA u c k).fKind == 5) = false := by cases k <;> rfl
  unfold m_btf_resolve_v2
  rw [lpO_end (r := .e0 ((k + 1 : Nat) : Int)) (by simp only [st_btf_resolve_v2_L0, w_pred k (by omega), inR_nat' hk, Int.toNat_natCast, e0, e5, cond_true, cond_false])]
  rfl
theorem fun_eq (k : Nat) (hk : k < N) : m_btf_holdsFunction_v2 N A (tyA u c k) = some false := by
  have hN := H.hN
  cases k with
  | zero => rfl
  | succ k =>
    have e0 := H.hA k (by omega)
    have e6 : ((tyA u c k).fKind == 6) = false := by cases k <;> rfl
    simp only [m_btf_holdsFunction_v2, m_btf_isFunction_v1, tyA, res_eq H k (by omega), Option.bind_some, w_pred k (by omega), inR_nat' (show k < N by omega), Int.toNat_natCast, e0, e6, cond_true, cond_false]
    cases k <;> rfl
theorem l1_go : ∀ d s, s + d = N → lpO (st_btf_Check_v1_L1v1 N A) (.c0 (s : Int)) = some .e0
  | 0, s, h => lpO_end (by simp only [st_btf_Check_v1_L1v1, d_f (show ¬ ((s : Int) < (N : Int)) by omega), cond_false])
  | d + 1, s, h => by
    have hN := H.hN
    have e0 := H.hA s (by omega)
    have ht := fun_eq H s (by omega)
    rw [lpO_next (s' := .c0 ((s + 1 : Nat) : Int)) (by
      simp only [st_btf_Check_v1_L1v1, d_t (show (s : Int) < (N : Int) by omega), inR_nat' (show s < N by omega), w_succ s (by omega), cond_true, Int.toNat_natCast, e0]
      have : (⟨(tyA u c s).fKind, (tyA u c s).fName, (tyA u c s).fSize, (tyA u c s).fSigned, (tyA u c s).fTo, (tyA u c s).fCount, ()⟩ : Type0) = tyA u c s := rfl
      rw [this, ht]
      rfl)]
    exact l1_go d (s + 1) (by omega)
theorem fit_eq (k : Nat) (hk : k < N) : m_btf_fits_v2 N A ((k + 1 : Nat) : Int) = some (decide (szA u c k ≤ 65536)) := by
  have hN := H.hN
  have e0 := H.hA k hk
  simp only [m_btf_fits_v2, w_pred k (by omega), inR_nat' hk, Int.toNat_natCast, e0, cond_true, size_eq H k 64 hk (by omega), Option.bind_some]
  cases k with
  | zero =>
    have := H.hu
    rw [d_t (show szA u c 0 ≤ 65536 by unfold szA; omega)]
    rfl
  | succ k => rfl
theorem l2_next (s : Nat) (hs : s < N) (h : szA u c s ≤ 65536) : lpO (st_btf_Check_v1_L2v1 N A) (.c0 (s : Int)) = lpO (st_btf_Check_v1_L2v1 N A) (.c0 ((s + 1 : Nat) : Int)) := by
  have hN := H.hN
  exact lpO_next (by simp only [st_btf_Check_v1_L2v1, d_t (show (s : Int) < (N : Int) by omega), w_succ s (by omega), fit_eq H s hs, d_t h, cond_true, Option.bind_some])
theorem l2_go : ∀ d s t : Nat, s + d = t → t ≤ N → (∀ i : Nat, i < t → szA u c i ≤ 65536) → lpO (st_btf_Check_v1_L2v1 N A) (.c0 (s : Int)) = lpO (st_btf_Check_v1_L2v1 N A) (.c0 (t : Int))
  | 0, s, t, h, _, _ => by rw [show s = t by omega]
  | d + 1, s, t, h, h1, h2 => by rw [l2_next H s (by omega) (h2 s (by omega))]; exact l2_go d (s + 1) t (by omega) h1 h2
theorem ov_eq : ∀ k, (ovA u c k = -1 ∧ ∀ j, j ≤ k → szA u c j ≤ 65536) ∨ ∃ j, j ≤ k ∧ ovA u c k = ((j + 1 : Nat) : Int) ∧ 65536 < szA u c j ∧ ∀ i, i < j → szA u c i ≤ 65536
  | 0 => .inl ⟨rfl, fun j hj => by
    have := H.hu
    rw [show j = 0 by omega]; unfold szA; omega⟩
  | k + 1 => by
    rcases ov_eq k with ⟨h1, h2⟩ | ⟨j, h1, h2, h3, h4⟩
    · by_cases h : 65536 < szA u c k * c k
      · refine .inr ⟨k + 1, Nat.le_refl _, ?_, ?_, fun i hi => h2 i (by omega)⟩
        · unfold ovA; rw [if_pos h, if_pos (by omega)]
        · unfold szA; rw [if_pos h]; omega
      · refine .inl ⟨?_, fun i hi => ?_⟩
        · unfold ovA; rw [if_neg h]; exact h1
        · by_cases hi' : i = k + 1
          · subst hi'; unfold szA; rw [if_neg h]; omega
          · exact h2 i (by omega)
    · refine .inr ⟨j, by omega, ?_, h3, h4⟩
      unfold ovA
      rw [if_neg (show ¬ ovA u c k < 0 by omega), h2]
      split <;> rfl
theorem check_eq : m_btf_Check_v1 N A = some (if ovA u c (N - 1) < 0 then .e0 0 0 else .e0 (ovA u c (N - 1)) 43) := by
  have hN := H.hN
  have h1 := H.h1
  have hl1 : lpO (st_btf_Check_v1_L1v1 N A) (.c0 0) = some .e0 := l1_go H N 0 (by omega)
  have hl2 : lpO (st_btf_Check_v1_L2v1 N A) (.c0 0) = some (if ovA u c (N - 1) < 0 then .e0 else .e1 (ovA u c (N - 1))) := by
    rw [show (0 : Int) = ((0 : Nat) : Int) from rfl]
    rcases ov_eq H (N - 1) with ⟨h2, h3⟩ | ⟨j, h2, h3, h4, h5⟩
    · rw [l2_go H N 0 N (by omega) (Nat.le_refl _) (fun i hi => h3 i (by omega)), if_pos (by omega)]
      exact lpO_end (by simp only [st_btf_Check_v1_L2v1, d_f (show ¬ ((N : Int) < (N : Int)) by omega), cond_false])
    · rw [l2_go H j 0 j (by omega) (by omega) h5, if_neg (by omega), h3]
      exact lpO_end (by simp only [st_btf_Check_v1_L2v1, d_t (show (j : Int) < (N : Int) by omega), w_succ j (by omega), fit_eq H j (by omega), d_f (show ¬ szA u c j ≤ 65536 by omega), cond_true, cond_false, Option.bind_some])
  by_cases h : ovA u c (N - 1) < 0
  · rw [if_pos h] at hl2 ⊢
    simp only [m_btf_Check_v1, many_eq H, chk_eq H, its_eq H, hl1, hl2, Option.bind_some, cond_false]
    rfl
  · rw [if_neg h] at hl2 ⊢
    simp only [m_btf_Check_v1, many_eq H, chk_eq H, its_eq H, hl1, hl2, Option.bind_some, cond_false]
    rfl
theorem whole_size (h : ovA u c (N - 1) < 0) : m_btf_Size_v1 (N : Int) N A = some (.e0 (szA u c (N - 1)) 0) := by
  have hN := H.hN
  have h1 := H.h1
  obtain ⟨k, rfl⟩ : ∃ k, N = k + 1 := ⟨N - 1, by omega⟩
  have e0 := H.hA k (by omega)
  have e6 : ((tyA u c k).fKind == 6) = false := by cases k <;> rfl
  have hr : m_btf_Resolve_v1 ((k + 1 : Nat) : Int) (k + 1) A = some (.e0 ((k + 1 : Nat) : Int) 0) := by
    simp only [m_btf_Resolve_v1, check_eq H, if_pos h, Option.bind_some, d_f (show ¬ (((k + 1 : Nat) : Int) < 1) by omega), d_f (show ¬ (((k + 1 : Nat) : Int) < ((k + 1 : Nat) : Int)) by omega), res_eq H k (by omega), cond_false]
    rfl
  simp only [m_btf_Size_v1, hr, Option.bind_some, w_pred k (by omega), inR_nat' (show k < k + 1 by omega), Int.toNat_natCast, e0, e6, size_eq H k 64 (by omega) (by omega), cond_true, cond_false, Nat.add_sub_cancel]
  rfl
end
theorem units (y : BitVec 8) : zshl 1 ((y % 4#8)).toNat = 1 ∨ zshl 1 ((y % 4#8)).toNat = 2 ∨ zshl 1 ((y % 4#8)).toNat = 4 ∨ zshl 1 ((y % 4#8)).toNat = 8 := by
  have h : ((y % 4#8)).toNat < 4 := by rw [BitVec.toNat_umod]; exact Nat.mod_lt _ (by decide)
  generalize ((y % 4#8)).toNat = k at h
  match k, h with
  | 0, _ => decide
  | 1, _ => decide
  | 2, _ => decide
  | 3, _ => decide
  | k + 4, h => omega
theorem bytes (x : BitVec 8) : 0 ≤ nn x ∧ nn x ≤ 255 := by
  have := x.isLt
  unfold nn
  omega
theorem arrays_go {u : Int} (hu : u = 1 ∨ u = 2 ∨ u = 4 ∨ u = 8) (n : Nat) (B : Nat → BitVec 8) (hn : n ≤ 20) : ∀ d k A, k + d = n → (∀ j, j ≤ k → A j = tyA u (fun i => nn (B i)) j) →
    ∃ A', lpO (st_barbicanlaw4_BtfArrays_L0 n B) (.c0 (szA u (fun i => nn (B i)) k) (k + 1) A (ovA u (fun i => nn (B i)) k) (k : Int)) = some (.e0 (szA u (fun i => nn (B i)) n) (n + 1) A' (ovA u (fun i => nn (B i)) n)) ∧ AllA u (fun i => nn (B i)) (n + 1) A'
  | 0, k, A, h, hA => by
    obtain rfl : k = n := by omega
    exact ⟨A, lpO_end (by simp only [st_barbicanlaw4_BtfArrays_L0, d_f (show ¬ ((k : Int) < (k : Int)) by omega), cond_false]), hu, fun i => bytes _, by omega, by omega, fun j hj => hA j (by omega)⟩
  | d + 1, k, A, h, hA => by
    have H : AllA u (fun i => nn (B i)) (k + 1) A := ⟨hu, fun i => bytes _, by omega, by omega, fun j hj => hA j (by omega)⟩
    have hm := mul_le H k
    obtain ⟨A', h1, h2⟩ := arrays_go hu n B hn d (k + 1) (updF A (k + 1) (tyA u (fun i => nn (B i)) (k + 1))) (by omega) (fun j hj => by
      by_cases e : j = k + 1
      · subst e; exact updF_at _ _ _
      · rw [updF_ne _ _ e]; exact hA j (by omega))
    refine ⟨A', ?_, h2⟩
    rw [← h1]
    refine lpO_next ?_
    have e1 : IntKind.i64.wrap (szA u (fun i => nn (B i)) k * nn (B k)) = szA u (fun i => nn (B i)) k * nn (B k) := wr (by omega) (by omega)
    have e2 : ((k + 1 : Nat) : Int) + 1 = ((k + 2 : Nat) : Int) := by omega
    simp only [st_barbicanlaw4_BtfArrays_L0, bindT, d_t (show (k : Int) < (n : Int) by omega), inR_nat' (show k < n by omega), d_t (show k + 1 ≤ 1000000 by omega), w_succ k (by omega), cond_true, Int.toNat_natCast, e1, e2, tyA, szA, ovA]
    by_cases h3 : 65536 < szA u (fun i => nn (B i)) k * nn (B k)
    · rw [d_t h3, if_pos h3, if_pos h3]
      by_cases h4 : ovA u (fun i => nn (B i)) k < 0
      · rw [d_t h4, if_pos h4]; rfl
      · rw [d_f h4, if_neg h4]; rfl
    · rw [d_f h3, if_neg h3, if_neg h3]; rfl
theorem arrays_true (n : Nat) (B : Nat → BitVec 8) (y : BitVec 8) : m_barbicanlaw4_BtfArrays n B y = some true := by
  unfold m_barbicanlaw4_BtfArrays
  by_cases hn : 20 < (n : Int)
  · rw [d_t hn]; rfl
  · rw [d_f hn]
    obtain ⟨A', h1, H⟩ := arrays_go (units y) n B (by omega) n 0 (fun _ => tyA (zshl 1 ((y % 4#8)).toNat) (fun i => nn (B i)) 0) (by omega) (fun j hj => by rw [show j = 0 by omega])
    rw [cond_false]
    simp only [szA, ovA, tyA] at h1
    have h0 : lpO (st_barbicanlaw4_BtfArrays_L0 n B) (.c0 (zshl 1 ((y % 4#8)).toNat) 1 (fun _ => (⟨1, (⟨#[117, 110, 105, 116]⟩ : ByteArray), (zshl 1 ((y % 4#8)).toNat), false, 0, 0, ()⟩ : Type0)) (-1) 0) = some (.e0 (szA (zshl 1 ((y % 4#8)).toNat) (fun i => nn (B i)) n) (n + 1) A' (ovA (zshl 1 ((y % 4#8)).toNat) (fun i => nn (B i)) n)) := h1
    rw [h0]
    have hc := check_eq H
    rw [Nat.add_sub_cancel] at hc
    by_cases h4 : ovA (zshl 1 ((y % 4#8)).toNat) (fun i => nn (B i)) n < 0
    · have hs := whole_size H (by rw [Nat.add_sub_cancel]; exact h4)
      rw [Nat.add_sub_cancel] at hs
      rw [if_pos h4] at hc
      simp only [Option.bind_some, hc, hs, d_f (show ¬ 0 ≤ ovA (zshl 1 ((y % 4#8)).toNat) (fun i => nn (B i)) n by omega), cond_false]
      simp
    · rw [if_neg h4] at hc
      simp only [Option.bind_some, hc, d_t (show 0 ≤ ovA (zshl 1 ((y % 4#8)).toNat) (fun i => nn (B i)) n by omega), cond_true]
      simp
end Go.Proofs.YtnpfkoegjeokjaaDoor
