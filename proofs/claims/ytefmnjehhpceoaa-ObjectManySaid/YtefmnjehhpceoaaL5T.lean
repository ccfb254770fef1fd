/-
  So many maps and programs: what the check comes to, and the law (no program).
-/
import Derived.Test.YtefmnjehhpceoaaL5Md
namespace Go.Proofs.Ytefmnjehhpceoaa
open Go.RowKit
set_option linter.unusedVariables false
set_option linter.unusedSimpArgs false
set_option linter.unusedSectionVars false
theorem wr {x : Int} (h0 : -9223372036854775808 ≤ x) (h1 : x < 9223372036854775808) : IntKind.i64.wrap x = x := z_wrap h0 h1
theorem inR_nat' {k n : Nat} (h : k < n) : inR (k : Int) n = true := inR_iff.2 ⟨by omega, by omega⟩
theorem inR_t {x : Int} {n : Nat} (h0 : 0 ≤ x) (h1 : x < n) : inR x n = true := inR_iff.2 ⟨h0, h1⟩
theorem d_t {p : Prop} [Decidable p] (h : p) : decide p = true := decide_eq_true h
theorem d_f {p : Prop} [Decidable p] (h : ¬ p) : decide p = false := decide_eq_false h
theorem w_succ (k : Nat) (h : k ≤ 1000000) : IntKind.i64.wrap ((k : Int) + 1) = ((k + 1 : Nat) : Int) := by rw [wr] <;> omega
def lets : ByteArray := (⟨#[97, 98, 99, 100, 101, 102, 103, 104, 105, 106, 107, 108, 109, 110, 111, 112, 113, 114, 115, 116, 117, 118, 119, 120, 121, 122]⟩ : ByteArray)
def nameB (k : Nat) : ByteArray := lets.extract k (k + 1)

def resv3 : Ex_object_Check_v3_L1 → Option R_object_Check_v3 := fun g => match g with
  | .e0 => some (.e0 0 0)
  | .e1 => some (.e0 0 0)
  | .e2 => some (.e0 0 0)
  | .e3 => some (.e0 0 0)
  | .e4 => some (.e0 0 0)
  | .e5 => some (.e0 0 0)
  | .e6 => some (.e0 0 0)
  | .e7 => some (.e0 0 0)
  | .e8 => some (.e0 0 0)
  | .e9 => some (.e0 0 0)
  | .e10 => some (.e0 0 0)
  | .e11 => some (.e0 0 0)
  | .e12 => some (.e0 0 0)
  | .e13 => some (.e0 0 0)
  | .e14 => some (.e0 0 0)
  | .e15 => some (.e0 0 0)
  | .e16 => some (.e0 0 0)
  | .e17 => some (.e0 1 52)
  | .e18 => some (.e0 2 52)
  | .e19 => some (.e0 3 52)
  | .e20 => some (.e0 4 52)
  | .e21 => some (.e0 5 52)
  | .e22 => some (.e0 6 52)
  | .e23 => some (.e0 7 52)
  | .e24 => some (.e0 8 52)
  | .e25 => some (.e0 9 52)
  | .e26 => some (.e0 10 52)
  | .e27 => some (.e0 11 52)
  | .e28 => some (.e0 12 52)
  | .e29 => some (.e0 13 52)
  | .e30 => some (.e0 14 52)
  | .e31 => some (.e0 15 52)
  | .e32 => some (.e0 16 52)
section
variable {N t : Nat} {E : Nat → ByteArray} (hN : N ≤ 16) (h1 : 1 ≤ t) (hE : ∀ j, j < N → j ≠ t → E j = nameB j) (hT : t < N → E t = (⟨#[97]⟩ : ByteArray))
include hN h1 hE hT
theorem nmv3_16 (ht : 16 ≤ t) : (lpO (st_object_Check_v3_L1 N E) .c16).bind resv3 = some (if t < N then .e0 (t : Int) 52 else .e0 0 0) := by
  rw [lpO_end (r := .e16) (by simp only [st_object_Check_v3_L1, d_f (show ¬ ((16 : Int) < (N : Int)) by omega), cond_false]), if_neg (by omega)]
  rfl
theorem nmv3_15 (ht : 15 ≤ t) : (lpO (st_object_Check_v3_L1 N E) .c15).bind resv3 = some (if t < N then .e0 (t : Int) 52 else .e0 0 0) := by
  by_cases h : 15 < N
  · by_cases e : t = 15
    · subst e
      have ha : (E 15 == (⟨#[97]⟩ : ByteArray)) = true := by rw [hT h]; decide +kernel
      have hb : (E 15 == (⟨#[112]⟩ : ByteArray)) = false := by rw [hT h]; decide +kernel
      rw [lpO_end (r := .e31) (by simp only [st_object_Check_v3_L1, d_t (show (15 : Int) < (N : Int) by omega), inR_t (show (0 : Int) ≤ 15 by decide) (show (15 : Int) < (N : Int) by omega), ha, hb, cond_true, cond_false]), if_pos h]
      rfl
    · have hb : (E 15 == (⟨#[112]⟩ : ByteArray)) = true := by rw [hE 15 h (by omega)]; decide +kernel
      rw [lpO_next (s' := .c16) (by simp only [st_object_Check_v3_L1, d_t (show (15 : Int) < (N : Int) by omega), inR_t (show (0 : Int) ≤ 15 by decide) (show (15 : Int) < (N : Int) by omega), hb, cond_true])]
      exact nmv3_16 hN h1 hE hT (by omega)
  · rw [lpO_end (r := .e15) (by simp only [st_object_Check_v3_L1, d_f (show ¬ ((15 : Int) < (N : Int)) by omega), cond_false]), if_neg (by omega)]
    rfl
theorem nmv3_14 (ht : 14 ≤ t) : (lpO (st_object_Check_v3_L1 N E) .c14).bind resv3 = some (if t < N then .e0 (t : Int) 52 else .e0 0 0) := by
  by_cases h : 14 < N
  · by_cases e : t = 14
    · subst e
      have ha : (E 14 == (⟨#[97]⟩ : ByteArray)) = true := by rw [hT h]; decide +kernel
      have hb : (E 14 == (⟨#[111]⟩ : ByteArray)) = false := by rw [hT h]; decide +kernel
      rw [lpO_end (r := .e30) (by simp only [st_object_Check_v3_L1, d_t (show (14 : Int) < (N : Int) by omega), inR_t (show (0 : Int) ≤ 14 by decide) (show (14 : Int) < (N : Int) by omega), ha, hb, cond_true, cond_false]), if_pos h]
      rfl
    · have hb : (E 14 == (⟨#[111]⟩ : ByteArray)) = true := by rw [hE 14 h (by omega)]; decide +kernel
      rw [lpO_next (s' := .c15) (by simp only [st_object_Check_v3_L1, d_t (show (14 : Int) < (N : Int) by omega), inR_t (show (0 : Int) ≤ 14 by decide) (show (14 : Int) < (N : Int) by omega), hb, cond_true])]
      exact nmv3_15 hN h1 hE hT (by omega)
  · rw [lpO_end (r := .e14) (by simp only [st_object_Check_v3_L1, d_f (show ¬ ((14 : Int) < (N : Int)) by omega), cond_false]), if_neg (by omega)]
    rfl
theorem nmv3_13 (ht : 13 ≤ t) : (lpO (st_object_Check_v3_L1 N E) .c13).bind resv3 = some (if t < N then .e0 (t : Int) 52 else .e0 0 0) := by
  by_cases h : 13 < N
  · by_cases e : t = 13
    · subst e
      have ha : (E 13 == (⟨#[97]⟩ : ByteArray)) = true := by rw [hT h]; decide +kernel
      have hb : (E 13 == (⟨#[110]⟩ : ByteArray)) = false := by rw [hT h]; decide +kernel
      rw [lpO_end (r := .e29) (by simp only [st_object_Check_v3_L1, d_t (show (13 : Int) < (N : Int) by omega), inR_t (show (0 : Int) ≤ 13 by decide) (show (13 : Int) < (N : Int) by omega), ha, hb, cond_true, cond_false]), if_pos h]
      rfl
    · have hb : (E 13 == (⟨#[110]⟩ : ByteArray)) = true := by rw [hE 13 h (by omega)]; decide +kernel
      rw [lpO_next (s' := .c14) (by simp only [st_object_Check_v3_L1, d_t (show (13 : Int) < (N : Int) by omega), inR_t (show (0 : Int) ≤ 13 by decide) (show (13 : Int) < (N : Int) by omega), hb, cond_true])]
      exact nmv3_14 hN h1 hE hT (by omega)
  · rw [lpO_end (r := .e13) (by simp only [st_object_Check_v3_L1, d_f (show ¬ ((13 : Int) < (N : Int)) by omega), cond_false]), if_neg (by omega)]
    rfl
theorem nmv3_12 (ht : 12 ≤ t) : (lpO (st_object_Check_v3_L1 N E) .c12).bind resv3 = some (if t < N then .e0 (t : Int) 52 else .e0 0 0) := by
  by_cases h : 12 < N
  · by_cases e : t = 12
    · subst e
      have ha : (E 12 == (⟨#[97]⟩ : ByteArray)) = true := by rw [hT h]; decide +kernel
      have hb : (E 12 == (⟨#[109]⟩ : ByteArray)) = false := by rw [hT h]; decide +kernel
      rw [lpO_end (r := .e28) (by simp only [st_object_Check_v3_L1, d_t (show (12 : Int) < (N : Int) by omega), inR_t (show (0 : Int) ≤ 12 by decide) (show (12 : Int) < (N : Int) by omega), ha, hb, cond_true, cond_false]), if_pos h]
      rfl
    · have hb : (E 12 == (⟨#[109]⟩ : ByteArray)) = true := by rw [hE 12 h (by omega)]; decide +kernel
      rw [lpO_next (s' := .c13) (by simp only [st_object_Check_v3_L1, d_t (show (12 : Int) < (N : Int) by omega), inR_t (show (0 : Int) ≤ 12 by decide) (show (12 : Int) < (N : Int) by omega), hb, cond_true])]
      exact nmv3_13 hN h1 hE hT (by omega)
  · rw [lpO_end (r := .e12) (by simp only [st_object_Check_v3_L1, d_f (show ¬ ((12 : Int) < (N : Int)) by omega), cond_false]), if_neg (by omega)]
    rfl
theorem nmv3_11 (ht : 11 ≤ t) : (lpO (st_object_Check_v3_L1 N E) .c11).bind resv3 = some (if t < N then .e0 (t : Int) 52 else .e0 0 0) := by
  by_cases h : 11 < N
  · by_cases e : t = 11
    · subst e
      have ha : (E 11 == (⟨#[97]⟩ : ByteArray)) = true := by rw [hT h]; decide +kernel
      have hb : (E 11 == (⟨#[108]⟩ : ByteArray)) = false := by rw [hT h]; decide +kernel
      rw [lpO_end (r := .e27) (by simp only [st_object_Check_v3_L1, d_t (show (11 : Int) < (N : Int) by omega), inR_t (show (0 : Int) ≤ 11 by decide) (show (11 : Int) < (N : Int) by omega), ha, hb, cond_true, cond_false]), if_pos h]
      rfl
    · have hb : (E 11 == (⟨#[108]⟩ : ByteArray)) = true := by rw [hE 11 h (by omega)]; decide +kernel
      rw [lpO_next (s' := .c12) (by simp only [st_object_Check_v3_L1, d_t (show (11 : Int) < (N : Int) by omega), inR_t (show (0 : Int) ≤ 11 by decide) (show (11 : Int) < (N : Int) by omega), hb, cond_true])]
      exact nmv3_12 hN h1 hE hT (by omega)
  · rw [lpO_end (r := .e11) (by simp only [st_object_Check_v3_L1, d_f (show ¬ ((11 : Int) < (N : Int)) by omega), cond_false]), if_neg (by omega)]
    rfl
theorem nmv3_10 (ht : 10 ≤ t) : (lpO (st_object_Check_v3_L1 N E) .c10).bind resv3 = some (if t < N then .e0 (t : Int) 52 else .e0 0 0) := by
  by_cases h : 10 < N
  · by_cases e : t = 10
    · subst e
      have ha : (E 10 == (⟨#[97]⟩ : ByteArray)) = true := by rw [hT h]; decide +kernel
      have hb : (E 10 == (⟨#[107]⟩ : ByteArray)) = false := by rw [hT h]; decide +kernel
      rw [lpO_end (r := .e26) (by simp only [st_object_Check_v3_L1, d_t (show (10 : Int) < (N : Int) by omega), inR_t (show (0 : Int) ≤ 10 by decide) (show (10 : Int) < (N : Int) by omega), ha, hb, cond_true, cond_false]), if_pos h]
      rfl
    · have hb : (E 10 == (⟨#[107]⟩ : ByteArray)) = true := by rw [hE 10 h (by omega)]; decide +kernel
      rw [lpO_next (s' := .c11) (by simp only [st_object_Check_v3_L1, d_t (show (10 : Int) < (N : Int) by omega), inR_t (show (0 : Int) ≤ 10 by decide) (show (10 : Int) < (N : Int) by omega), hb, cond_true])]
      exact nmv3_11 hN h1 hE hT (by omega)
  · rw [lpO_end (r := .e10) (by simp only [st_object_Check_v3_L1, d_f (show ¬ ((10 : Int) < (N : Int)) by omega), cond_false]), if_neg (by omega)]
    rfl
theorem nmv3_9 (ht : 9 ≤ t) : (lpO (st_object_Check_v3_L1 N E) .c9).bind resv3 = some (if t < N then .e0 (t : Int) 52 else .e0 0 0) := by
  by_cases h : 9 < N
  · by_cases e : t = 9
    · subst e
      have ha : (E 9 == (⟨#[97]⟩ : ByteArray)) = true := by rw [hT h]; decide +kernel
      have hb : (E 9 == (⟨#[106]⟩ : ByteArray)) = false := by rw [hT h]; decide +kernel
      rw [lpO_end (r := .e25) (by simp only [st_object_Check_v3_L1, d_t (show (9 : Int) < (N : Int) by omega), inR_t (show (0 : Int) ≤ 9 by decide) (show (9 : Int) < (N : Int) by omega), ha, hb, cond_true, cond_false]), if_pos h]
      rfl
    · have hb : (E 9 == (⟨#[106]⟩ : ByteArray)) = true := by rw [hE 9 h (by omega)]; decide +kernel
      rw [lpO_next (s' := .c10) (by simp only [st_object_Check_v3_L1, d_t (show (9 : Int) < (N : Int) by omega), inR_t (show (0 : Int) ≤ 9 by decide) (show (9 : Int) < (N : Int) by omega), hb, cond_true])]
      exact nmv3_10 hN h1 hE hT (by omega)
  · rw [lpO_end (r := .e9) (by simp only [st_object_Check_v3_L1, d_f (show ¬ ((9 : Int) < (N : Int)) by omega), cond_false]), if_neg (by omega)]
    rfl
theorem nmv3_8 (ht : 8 ≤ t) : (lpO (st_object_Check_v3_L1 N E) .c8).bind resv3 = some (if t < N then .e0 (t : Int) 52 else .e0 0 0) := by
  by_cases h : 8 < N
  · by_cases e : t = 8
    · subst e
      have ha : (E 8 == (⟨#[97]⟩ : ByteArray)) = true := by rw [hT h]; decide +kernel
      have hb : (E 8 == (⟨#[105]⟩ : ByteArray)) = false := by rw [hT h]; decide +kernel
      rw [lpO_end (r := .e24) (by simp only [st_object_Check_v3_L1, d_t (show (8 : Int) < (N : Int) by omega), inR_t (show (0 : Int) ≤ 8 by decide) (show (8 : Int) < (N : Int) by omega), ha, hb, cond_true, cond_false]), if_pos h]
      rfl
    · have hb : (E 8 == (⟨#[105]⟩ : ByteArray)) = true := by rw [hE 8 h (by omega)]; decide +kernel
      rw [lpO_next (s' := .c9) (by simp only [st_object_Check_v3_L1, d_t (show (8 : Int) < (N : Int) by omega), inR_t (show (0 : Int) ≤ 8 by decide) (show (8 : Int) < (N : Int) by omega), hb, cond_true])]
      exact nmv3_9 hN h1 hE hT (by omega)
  · rw [lpO_end (r := .e8) (by simp only [st_object_Check_v3_L1, d_f (show ¬ ((8 : Int) < (N : Int)) by omega), cond_false]), if_neg (by omega)]
    rfl
theorem nmv3_7 (ht : 7 ≤ t) : (lpO (st_object_Check_v3_L1 N E) .c7).bind resv3 = some (if t < N then .e0 (t : Int) 52 else .e0 0 0) := by
  by_cases h : 7 < N
  · by_cases e : t = 7
    · subst e
      have ha : (E 7 == (⟨#[97]⟩ : ByteArray)) = true := by rw [hT h]; decide +kernel
      have hb : (E 7 == (⟨#[104]⟩ : ByteArray)) = false := by rw [hT h]; decide +kernel
      rw [lpO_end (r := .e23) (by simp only [st_object_Check_v3_L1, d_t (show (7 : Int) < (N : Int) by omega), inR_t (show (0 : Int) ≤ 7 by decide) (show (7 : Int) < (N : Int) by omega), ha, hb, cond_true, cond_false]), if_pos h]
      rfl
    · have hb : (E 7 == (⟨#[104]⟩ : ByteArray)) = true := by rw [hE 7 h (by omega)]; decide +kernel
      rw [lpO_next (s' := .c8) (by simp only [st_object_Check_v3_L1, d_t (show (7 : Int) < (N : Int) by omega), inR_t (show (0 : Int) ≤ 7 by decide) (show (7 : Int) < (N : Int) by omega), hb, cond_true])]
      exact nmv3_8 hN h1 hE hT (by omega)
  · rw [lpO_end (r := .e7) (by simp only [st_object_Check_v3_L1, d_f (show ¬ ((7 : Int) < (N : Int)) by omega), cond_false]), if_neg (by omega)]
    rfl
theorem nmv3_6 (ht : 6 ≤ t) : (lpO (st_object_Check_v3_L1 N E) .c6).bind resv3 = some (if t < N then .e0 (t : Int) 52 else .e0 0 0) := by
  by_cases h : 6 < N
  · by_cases e : t = 6
    · subst e
      have ha : (E 6 == (⟨#[97]⟩ : ByteArray)) = true := by rw [hT h]; decide +kernel
      have hb : (E 6 == (⟨#[103]⟩ : ByteArray)) = false := by rw [hT h]; decide +kernel
      rw [lpO_end (r := .e22) (by simp only [st_object_Check_v3_L1, d_t (show (6 : Int) < (N : Int) by omega), inR_t (show (0 : Int) ≤ 6 by decide) (show (6 : Int) < (N : Int) by omega), ha, hb, cond_true, cond_false]), if_pos h]
      rfl
    · have hb : (E 6 == (⟨#[103]⟩ : ByteArray)) = true := by rw [hE 6 h (by omega)]; decide +kernel
      rw [lpO_next (s' := .c7) (by simp only [st_object_Check_v3_L1, d_t (show (6 : Int) < (N : Int) by omega), inR_t (show (0 : Int) ≤ 6 by decide) (show (6 : Int) < (N : Int) by omega), hb, cond_true])]
      exact nmv3_7 hN h1 hE hT (by omega)
  · rw [lpO_end (r := .e6) (by simp only [st_object_Check_v3_L1, d_f (show ¬ ((6 : Int) < (N : Int)) by omega), cond_false]), if_neg (by omega)]
    rfl
theorem nmv3_5 (ht : 5 ≤ t) : (lpO (st_object_Check_v3_L1 N E) .c5).bind resv3 = some (if t < N then .e0 (t : Int) 52 else .e0 0 0) := by
  by_cases h : 5 < N
  · by_cases e : t = 5
    · subst e
      have ha : (E 5 == (⟨#[97]⟩ : ByteArray)) = true := by rw [hT h]; decide +kernel
      have hb : (E 5 == (⟨#[102]⟩ : ByteArray)) = false := by rw [hT h]; decide +kernel
      rw [lpO_end (r := .e21) (by simp only [st_object_Check_v3_L1, d_t (show (5 : Int) < (N : Int) by omega), inR_t (show (0 : Int) ≤ 5 by decide) (show (5 : Int) < (N : Int) by omega), ha, hb, cond_true, cond_false]), if_pos h]
      rfl
    · have hb : (E 5 == (⟨#[102]⟩ : ByteArray)) = true := by rw [hE 5 h (by omega)]; decide +kernel
      rw [lpO_next (s' := .c6) (by simp only [st_object_Check_v3_L1, d_t (show (5 : Int) < (N : Int) by omega), inR_t (show (0 : Int) ≤ 5 by decide) (show (5 : Int) < (N : Int) by omega), hb, cond_true])]
      exact nmv3_6 hN h1 hE hT (by omega)
  · rw [lpO_end (r := .e5) (by simp only [st_object_Check_v3_L1, d_f (show ¬ ((5 : Int) < (N : Int)) by omega), cond_false]), if_neg (by omega)]
    rfl
theorem nmv3_4 (ht : 4 ≤ t) : (lpO (st_object_Check_v3_L1 N E) .c4).bind resv3 = some (if t < N then .e0 (t : Int) 52 else .e0 0 0) := by
  by_cases h : 4 < N
  · by_cases e : t = 4
    · subst e
      have ha : (E 4 == (⟨#[97]⟩ : ByteArray)) = true := by rw [hT h]; decide +kernel
      have hb : (E 4 == (⟨#[101]⟩ : ByteArray)) = false := by rw [hT h]; decide +kernel
      rw [lpO_end (r := .e20) (by simp only [st_object_Check_v3_L1, d_t (show (4 : Int) < (N : Int) by omega), inR_t (show (0 : Int) ≤ 4 by decide) (show (4 : Int) < (N : Int) by omega), ha, hb, cond_true, cond_false]), if_pos h]
      rfl
    · have hb : (E 4 == (⟨#[101]⟩ : ByteArray)) = true := by rw [hE 4 h (by omega)]; decide +kernel
      rw [lpO_next (s' := .c5) (by simp only [st_object_Check_v3_L1, d_t (show (4 : Int) < (N : Int) by omega), inR_t (show (0 : Int) ≤ 4 by decide) (show (4 : Int) < (N : Int) by omega), hb, cond_true])]
      exact nmv3_5 hN h1 hE hT (by omega)
  · rw [lpO_end (r := .e4) (by simp only [st_object_Check_v3_L1, d_f (show ¬ ((4 : Int) < (N : Int)) by omega), cond_false]), if_neg (by omega)]
    rfl
theorem nmv3_3 (ht : 3 ≤ t) : (lpO (st_object_Check_v3_L1 N E) .c3).bind resv3 = some (if t < N then .e0 (t : Int) 52 else .e0 0 0) := by
  by_cases h : 3 < N
  · by_cases e : t = 3
    · subst e
      have ha : (E 3 == (⟨#[97]⟩ : ByteArray)) = true := by rw [hT h]; decide +kernel
      have hb : (E 3 == (⟨#[100]⟩ : ByteArray)) = false := by rw [hT h]; decide +kernel
      rw [lpO_end (r := .e19) (by simp only [st_object_Check_v3_L1, d_t (show (3 : Int) < (N : Int) by omega), inR_t (show (0 : Int) ≤ 3 by decide) (show (3 : Int) < (N : Int) by omega), ha, hb, cond_true, cond_false]), if_pos h]
      rfl
    · have hb : (E 3 == (⟨#[100]⟩ : ByteArray)) = true := by rw [hE 3 h (by omega)]; decide +kernel
      rw [lpO_next (s' := .c4) (by simp only [st_object_Check_v3_L1, d_t (show (3 : Int) < (N : Int) by omega), inR_t (show (0 : Int) ≤ 3 by decide) (show (3 : Int) < (N : Int) by omega), hb, cond_true])]
      exact nmv3_4 hN h1 hE hT (by omega)
  · rw [lpO_end (r := .e3) (by simp only [st_object_Check_v3_L1, d_f (show ¬ ((3 : Int) < (N : Int)) by omega), cond_false]), if_neg (by omega)]
    rfl
theorem nmv3_2 (ht : 2 ≤ t) : (lpO (st_object_Check_v3_L1 N E) .c2).bind resv3 = some (if t < N then .e0 (t : Int) 52 else .e0 0 0) := by
  by_cases h : 2 < N
  · by_cases e : t = 2
    · subst e
      have ha : (E 2 == (⟨#[97]⟩ : ByteArray)) = true := by rw [hT h]; decide +kernel
      have hb : (E 2 == (⟨#[99]⟩ : ByteArray)) = false := by rw [hT h]; decide +kernel
      rw [lpO_end (r := .e18) (by simp only [st_object_Check_v3_L1, d_t (show (2 : Int) < (N : Int) by omega), inR_t (show (0 : Int) ≤ 2 by decide) (show (2 : Int) < (N : Int) by omega), ha, hb, cond_true, cond_false]), if_pos h]
      rfl
    · have hb : (E 2 == (⟨#[99]⟩ : ByteArray)) = true := by rw [hE 2 h (by omega)]; decide +kernel
      rw [lpO_next (s' := .c3) (by simp only [st_object_Check_v3_L1, d_t (show (2 : Int) < (N : Int) by omega), inR_t (show (0 : Int) ≤ 2 by decide) (show (2 : Int) < (N : Int) by omega), hb, cond_true])]
      exact nmv3_3 hN h1 hE hT (by omega)
  · rw [lpO_end (r := .e2) (by simp only [st_object_Check_v3_L1, d_f (show ¬ ((2 : Int) < (N : Int)) by omega), cond_false]), if_neg (by omega)]
    rfl
theorem nmv3_1 (ht : 1 ≤ t) : (lpO (st_object_Check_v3_L1 N E) .c1).bind resv3 = some (if t < N then .e0 (t : Int) 52 else .e0 0 0) := by
  by_cases h : 1 < N
  · by_cases e : t = 1
    · subst e
      have ha : (E 1 == (⟨#[97]⟩ : ByteArray)) = true := by rw [hT h]; decide +kernel
      have hb : (E 1 == (⟨#[98]⟩ : ByteArray)) = false := by rw [hT h]; decide +kernel
      rw [lpO_end (r := .e17) (by simp only [st_object_Check_v3_L1, d_t (show (1 : Int) < (N : Int) by omega), inR_t (show (0 : Int) ≤ 1 by decide) (show (1 : Int) < (N : Int) by omega), ha, hb, cond_true, cond_false]), if_pos h]
      rfl
    · have hb : (E 1 == (⟨#[98]⟩ : ByteArray)) = true := by rw [hE 1 h (by omega)]; decide +kernel
      rw [lpO_next (s' := .c2) (by simp only [st_object_Check_v3_L1, d_t (show (1 : Int) < (N : Int) by omega), inR_t (show (0 : Int) ≤ 1 by decide) (show (1 : Int) < (N : Int) by omega), hb, cond_true])]
      exact nmv3_2 hN h1 hE hT (by omega)
  · rw [lpO_end (r := .e1) (by simp only [st_object_Check_v3_L1, d_f (show ¬ ((1 : Int) < (N : Int)) by omega), cond_false]), if_neg (by omega)]
    rfl
theorem nmv3_0 (ht : 0 ≤ t) : (lpO (st_object_Check_v3_L1 N E) .c0).bind resv3 = some (if t < N then .e0 (t : Int) 52 else .e0 0 0) := by
  by_cases h : 0 < N
  · have hb : (E 0 == (⟨#[97]⟩ : ByteArray)) = true := by rw [hE 0 h (by omega)]; decide +kernel
    rw [lpO_next (s' := .c1) (by simp only [st_object_Check_v3_L1, d_t (show (0 : Int) < (N : Int) by omega), inR_t (show (0 : Int) ≤ 0 by decide) (show (0 : Int) < (N : Int) by omega), hb, cond_true])]
    exact nmv3_1 hN h1 hE hT (by omega)
  · rw [lpO_end (r := .e0) (by simp only [st_object_Check_v3_L1, d_f (show ¬ ((0 : Int) < (N : Int)) by omega), cond_false]), if_neg (by omega)]
    rfl
end
def resv5 : Ex_object_Check_v5_L1 → Option R_object_Check_v5 := fun g => match g with
  | .e0 => some (.e0 0 0)
  | .e1 => some (.e0 0 0)
  | .e2 => some (.e0 0 0)
  | .e3 => some (.e0 0 0)
  | .e4 => some (.e0 0 0)
  | .e5 => some (.e0 0 0)
  | .e6 => some (.e0 0 0)
  | .e7 => some (.e0 0 0)
  | .e8 => some (.e0 0 0)
  | .e9 => some (.e0 0 0)
  | .e10 => some (.e0 0 0)
  | .e11 => some (.e0 0 0)
  | .e12 => some (.e0 0 0)
  | .e13 => some (.e0 0 0)
  | .e14 => some (.e0 0 0)
  | .e15 => some (.e0 0 0)
  | .e16 => some (.e0 0 0)
  | .e17 => some (.e0 1 52)
  | .e18 => some (.e0 2 52)
  | .e19 => some (.e0 3 52)
  | .e20 => some (.e0 4 52)
  | .e21 => some (.e0 5 52)
  | .e22 => some (.e0 6 52)
  | .e23 => some (.e0 7 52)
  | .e24 => some (.e0 8 52)
  | .e25 => some (.e0 9 52)
  | .e26 => some (.e0 10 52)
  | .e27 => some (.e0 11 52)
  | .e28 => some (.e0 12 52)
  | .e29 => some (.e0 13 52)
  | .e30 => some (.e0 14 52)
  | .e31 => some (.e0 15 52)
  | .e32 => some (.e0 16 52)
section
variable {N t : Nat} {E : Nat → ByteArray} (hN : N ≤ 16) (h1 : 1 ≤ t) (hE : ∀ j, j < N → j ≠ t → E j = nameB j) (hT : t < N → E t = (⟨#[97]⟩ : ByteArray))
include hN h1 hE hT
theorem nmv5_16 (ht : 16 ≤ t) : (lpO (st_object_Check_v5_L1 N E) .c16).bind resv5 = some (if t < N then .e0 (t : Int) 52 else .e0 0 0) := by
  rw [lpO_end (r := .e16) (by simp only [st_object_Check_v5_L1, d_f (show ¬ ((16 : Int) < (N : Int)) by omega), cond_false]), if_neg (by omega)]
  rfl
theorem nmv5_15 (ht : 15 ≤ t) : (lpO (st_object_Check_v5_L1 N E) .c15).bind resv5 = some (if t < N then .e0 (t : Int) 52 else .e0 0 0) := by
  by_cases h : 15 < N
  · by_cases e : t = 15
    · subst e
      have ha : (E 15 == (⟨#[97]⟩ : ByteArray)) = true := by rw [hT h]; decide +kernel
      have hb : (E 15 == (⟨#[112]⟩ : ByteArray)) = false := by rw [hT h]; decide +kernel
      rw [lpO_end (r := .e31) (by simp only [st_object_Check_v5_L1, d_t (show (15 : Int) < (N : Int) by omega), inR_t (show (0 : Int) ≤ 15 by decide) (show (15 : Int) < (N : Int) by omega), ha, hb, cond_true, cond_false]), if_pos h]
      rfl
    · have hb : (E 15 == (⟨#[112]⟩ : ByteArray)) = true := by rw [hE 15 h (by omega)]; decide +kernel
      rw [lpO_next (s' := .c16) (by simp only [st_object_Check_v5_L1, d_t (show (15 : Int) < (N : Int) by omega), inR_t (show (0 : Int) ≤ 15 by decide) (show (15 : Int) < (N : Int) by omega), hb, cond_true])]
      exact nmv5_16 hN h1 hE hT (by omega)
  · rw [lpO_end (r := .e15) (by simp only [st_object_Check_v5_L1, d_f (show ¬ ((15 : Int) < (N : Int)) by omega), cond_false]), if_neg (by omega)]
    rfl
theorem nmv5_14 (ht : 14 ≤ t) : (lpO (st_object_Check_v5_L1 N E) .c14).bind resv5 = some (if t < N then .e0 (t : Int) 52 else .e0 0 0) := by
  by_cases h : 14 < N
  · by_cases e : t = 14
    · subst e
      have ha : (E 14 == (⟨#[97]⟩ : ByteArray)) = true := by rw [hT h]; decide +kernel
      have hb : (E 14 == (⟨#[111]⟩ : ByteArray)) = false := by rw [hT h]; decide +kernel
      rw [lpO_end (r := .e30) (by simp only [st_object_Check_v5_L1, d_t (show (14 : Int) < (N : Int) by omega), inR_t (show (0 : Int) ≤ 14 by decide) (show (14 : Int) < (N : Int) by omega), ha, hb, cond_true, cond_false]), if_pos h]
      rfl
    · have hb : (E 14 == (⟨#[111]⟩ : ByteArray)) = true := by rw [hE 14 h (by omega)]; decide +kernel
      rw [lpO_next (s' := .c15) (by simp only [st_object_Check_v5_L1, d_t (show (14 : Int) < (N : Int) by omega), inR_t (show (0 : Int) ≤ 14 by decide) (show (14 : Int) < (N : Int) by omega), hb, cond_true])]
      exact nmv5_15 hN h1 hE hT (by omega)
  · rw [lpO_end (r := .e14) (by simp only [st_object_Check_v5_L1, d_f (show ¬ ((14 : Int) < (N : Int)) by omega), cond_false]), if_neg (by omega)]
    rfl
theorem nmv5_13 (ht : 13 ≤ t) : (lpO (st_object_Check_v5_L1 N E) .c13).bind resv5 = some (if t < N then .e0 (t : Int) 52 else .e0 0 0) := by
  by_cases h : 13 < N
  · by_cases e : t = 13
    · subst e
      have ha : (E 13 == (⟨#[97]⟩ : ByteArray)) = true := by rw [hT h]; decide +kernel
      have hb : (E 13 == (⟨#[110]⟩ : ByteArray)) = false := by rw [hT h]; decide +kernel
      rw [lpO_end (r := .e29) (by simp only [st_object_Check_v5_L1, d_t (show (13 : Int) < (N : Int) by omega), inR_t (show (0 : Int) ≤ 13 by decide) (show (13 : Int) < (N : Int) by omega), ha, hb, cond_true, cond_false]), if_pos h]
      rfl
    · have hb : (E 13 == (⟨#[110]⟩ : ByteArray)) = true := by rw [hE 13 h (by omega)]; decide +kernel
      rw [lpO_next (s' := .c14) (by simp only [st_object_Check_v5_L1, d_t (show (13 : Int) < (N : Int) by omega), inR_t (show (0 : Int) ≤ 13 by decide) (show (13 : Int) < (N : Int) by omega), hb, cond_true])]
      exact nmv5_14 hN h1 hE hT (by omega)
  · rw [lpO_end (r := .e13) (by simp only [st_object_Check_v5_L1, d_f (show ¬ ((13 : Int) < (N : Int)) by omega), cond_false]), if_neg (by omega)]
    rfl
theorem nmv5_12 (ht : 12 ≤ t) : (lpO (st_object_Check_v5_L1 N E) .c12).bind resv5 = some (if t < N then .e0 (t : Int) 52 else .e0 0 0) := by
  by_cases h : 12 < N
  · by_cases e : t = 12
    · subst e
      have ha : (E 12 == (⟨#[97]⟩ : ByteArray)) = true := by rw [hT h]; decide +kernel
      have hb : (E 12 == (⟨#[109]⟩ : ByteArray)) = false := by rw [hT h]; decide +kernel
      rw [lpO_end (r := .e28) (by simp only [st_object_Check_v5_L1, d_t (show (12 : Int) < (N : Int) by omega), inR_t (show (0 : Int) ≤ 12 by decide) (show (12 : Int) < (N : Int) by omega), ha, hb, cond_true, cond_false]), if_pos h]
      rfl
    · have hb : (E 12 == (⟨#[109]⟩ : ByteArray)) = true := by rw [hE 12 h (by omega)]; decide +kernel
      rw [lpO_next (s' := .c13) (by simp only [st_object_Check_v5_L1, d_t (show (12 : Int) < (N : Int) by omega), inR_t (show (0 : Int) ≤ 12 by decide) (show (12 : Int) < (N : Int) by omega), hb, cond_true])]
      exact nmv5_13 hN h1 hE hT (by omega)
  · rw [lpO_end (r := .e12) (by simp only [st_object_Check_v5_L1, d_f (show ¬ ((12 : Int) < (N : Int)) by omega), cond_false]), if_neg (by omega)]
    rfl
theorem nmv5_11 (ht : 11 ≤ t) : (lpO (st_object_Check_v5_L1 N E) .c11).bind resv5 = some (if t < N then .e0 (t : Int) 52 else .e0 0 0) := by
  by_cases h : 11 < N
  · by_cases e : t = 11
    · subst e
      have ha : (E 11 == (⟨#[97]⟩ : ByteArray)) = true := by rw [hT h]; decide +kernel
      have hb : (E 11 == (⟨#[108]⟩ : ByteArray)) = false := by rw [hT h]; decide +kernel
      rw [lpO_end (r := .e27) (by simp only [st_object_Check_v5_L1, d_t (show (11 : Int) < (N : Int) by omega), inR_t (show (0 : Int) ≤ 11 by decide) (show (11 : Int) < (N : Int) by omega), ha, hb, cond_true, cond_false]), if_pos h]
      rfl
    · have hb : (E 11 == (⟨#[108]⟩ : ByteArray)) = true := by rw [hE 11 h (by omega)]; decide +kernel
      rw [lpO_next (s' := .c12) (by simp only [st_object_Check_v5_L1, d_t (show (11 : Int) < (N : Int) by omega), inR_t (show (0 : Int) ≤ 11 by decide) (show (11 : Int) < (N : Int) by omega), hb, cond_true])]
      exact nmv5_12 hN h1 hE hT (by omega)
  · rw [lpO_end (r := .e11) (by simp only [st_object_Check_v5_L1, d_f (show ¬ ((11 : Int) < (N : Int)) by omega), cond_false]), if_neg (by omega)]
    rfl
theorem nmv5_10 (ht : 10 ≤ t) : (lpO (st_object_Check_v5_L1 N E) .c10).bind resv5 = some (if t < N then .e0 (t : Int) 52 else .e0 0 0) := by
  by_cases h : 10 < N
  · by_cases e : t = 10
    · subst e
      have ha : (E 10 == (⟨#[97]⟩ : ByteArray)) = true := by rw [hT h]; decide +kernel
      have hb : (E 10 == (⟨#[107]⟩ : ByteArray)) = false := by rw [hT h]; decide +kernel
      rw [lpO_end (r := .e26) (by simp only [st_object_Check_v5_L1, d_t (show (10 : Int) < (N : Int) by omega), inR_t (show (0 : Int) ≤ 10 by decide) (show (10 : Int) < (N : Int) by omega), ha, hb, cond_true, cond_false]), if_pos h]
      rfl
    · have hb : (E 10 == (⟨#[107]⟩ : ByteArray)) = true := by rw [hE 10 h (by omega)]; decide +kernel
      rw [lpO_next (s' := .c11) (by simp only [st_object_Check_v5_L1, d_t (show (10 : Int) < (N : Int) by omega), inR_t (show (0 : Int) ≤ 10 by decide) (show (10 : Int) < (N : Int) by omega), hb, cond_true])]
      exact nmv5_11 hN h1 hE hT (by omega)
  · rw [lpO_end (r := .e10) (by simp only [st_object_Check_v5_L1, d_f (show ¬ ((10 : Int) < (N : Int)) by omega), cond_false]), if_neg (by omega)]
    rfl
theorem nmv5_9 (ht : 9 ≤ t) : (lpO (st_object_Check_v5_L1 N E) .c9).bind resv5 = some (if t < N then .e0 (t : Int) 52 else .e0 0 0) := by
  by_cases h : 9 < N
  · by_cases e : t = 9
    · subst e
      have ha : (E 9 == (⟨#[97]⟩ : ByteArray)) = true := by rw [hT h]; decide +kernel
      have hb : (E 9 == (⟨#[106]⟩ : ByteArray)) = false := by rw [hT h]; decide +kernel
      rw [lpO_end (r := .e25) (by simp only [st_object_Check_v5_L1, d_t (show (9 : Int) < (N : Int) by omega), inR_t (show (0 : Int) ≤ 9 by decide) (show (9 : Int) < (N : Int) by omega), ha, hb, cond_true, cond_false]), if_pos h]
      rfl
    · have hb : (E 9 == (⟨#[106]⟩ : ByteArray)) = true := by rw [hE 9 h (by omega)]; decide +kernel
      rw [lpO_next (s' := .c10) (by simp only [st_object_Check_v5_L1, d_t (show (9 : Int) < (N : Int) by omega), inR_t (show (0 : Int) ≤ 9 by decide) (show (9 : Int) < (N : Int) by omega), hb, cond_true])]
      exact nmv5_10 hN h1 hE hT (by omega)
  · rw [lpO_end (r := .e9) (by simp only [st_object_Check_v5_L1, d_f (show ¬ ((9 : Int) < (N : Int)) by omega), cond_false]), if_neg (by omega)]
    rfl
theorem nmv5_8 (ht : 8 ≤ t) : (lpO (st_object_Check_v5_L1 N E) .c8).bind resv5 = some (if t < N then .e0 (t : Int) 52 else .e0 0 0) := by
  by_cases h : 8 < N
  · by_cases e : t = 8
    · subst e
      have ha : (E 8 == (⟨#[97]⟩ : ByteArray)) = true := by rw [hT h]; decide +kernel
      have hb : (E 8 == (⟨#[105]⟩ : ByteArray)) = false := by rw [hT h]; decide +kernel
      rw [lpO_end (r := .e24) (by simp only [st_object_Check_v5_L1, d_t (show (8 : Int) < (N : Int) by omega), inR_t (show (0 : Int) ≤ 8 by decide) (show (8 : Int) < (N : Int) by omega), ha, hb, cond_true, cond_false]), if_pos h]
      rfl
    · have hb : (E 8 == (⟨#[105]⟩ : ByteArray)) = true := by rw [hE 8 h (by omega)]; decide +kernel
      rw [lpO_next (s' := .c9) (by simp only [st_object_Check_v5_L1, d_t (show (8 : Int) < (N : Int) by omega), inR_t (show (0 : Int) ≤ 8 by decide) (show (8 : Int) < (N : Int) by omega), hb, cond_true])]
      exact nmv5_9 hN h1 hE hT (by omega)
  · rw [lpO_end (r := .e8) (by simp only [st_object_Check_v5_L1, d_f (show ¬ ((8 : Int) < (N : Int)) by omega), cond_false]), if_neg (by omega)]
    rfl
theorem nmv5_7 (ht : 7 ≤ t) : (lpO (st_object_Check_v5_L1 N E) .c7).bind resv5 = some (if t < N then .e0 (t : Int) 52 else .e0 0 0) := by
  by_cases h : 7 < N
  · by_cases e : t = 7
    · subst e
      have ha : (E 7 == (⟨#[97]⟩ : ByteArray)) = true := by rw [hT h]; decide +kernel
      have hb : (E 7 == (⟨#[104]⟩ : ByteArray)) = false := by rw [hT h]; decide +kernel
      rw [lpO_end (r := .e23) (by simp only [st_object_Check_v5_L1, d_t (show (7 : Int) < (N : Int) by omega), inR_t (show (0 : Int) ≤ 7 by decide) (show (7 : Int) < (N : Int) by omega), ha, hb, cond_true, cond_false]), if_pos h]
      rfl
    · have hb : (E 7 == (⟨#[104]⟩ : ByteArray)) = true := by rw [hE 7 h (by omega)]; decide +kernel
      rw [lpO_next (s' := .c8) (by simp only [st_object_Check_v5_L1, d_t (show (7 : Int) < (N : Int) by omega), inR_t (show (0 : Int) ≤ 7 by decide) (show (7 : Int) < (N : Int) by omega), hb, cond_true])]
      exact nmv5_8 hN h1 hE hT (by omega)
  · rw [lpO_end (r := .e7) (by simp only [st_object_Check_v5_L1, d_f (show ¬ ((7 : Int) < (N : Int)) by omega), cond_false]), if_neg (by omega)]
    rfl
theorem nmv5_6 (ht : 6 ≤ t) : (lpO (st_object_Check_v5_L1 N E) .c6).bind resv5 = some (if t < N then .e0 (t : Int) 52 else .e0 0 0) := by
  by_cases h : 6 < N
  · by_cases e : t = 6
    · subst e
      have ha : (E 6 == (⟨#[97]⟩ : ByteArray)) = true := by rw [hT h]; decide +kernel
      have hb : (E 6 == (⟨#[103]⟩ : ByteArray)) = false := by rw [hT h]; decide +kernel
      rw [lpO_end (r := .e22) (by simp only [st_object_Check_v5_L1, d_t (show (6 : Int) < (N : Int) by omega), inR_t (show (0 : Int) ≤ 6 by decide) (show (6 : Int) < (N : Int) by omega), ha, hb, cond_true, cond_false]), if_pos h]
      rfl
    · have hb : (E 6 == (⟨#[103]⟩ : ByteArray)) = true := by rw [hE 6 h (by omega)]; decide +kernel
      rw [lpO_next (s' := .c7) (by simp only [st_object_Check_v5_L1, d_t (show (6 : Int) < (N : Int) by omega), inR_t (show (0 : Int) ≤ 6 by decide) (show (6 : Int) < (N : Int) by omega), hb, cond_true])]
      exact nmv5_7 hN h1 hE hT (by omega)
  · rw [lpO_end (r := .e6) (by simp only [st_object_Check_v5_L1, d_f (show ¬ ((6 : Int) < (N : Int)) by omega), cond_false]), if_neg (by omega)]
    rfl
theorem nmv5_5 (ht : 5 ≤ t) : (lpO (st_object_Check_v5_L1 N E) .c5).bind resv5 = some (if t < N then .e0 (t : Int) 52 else .e0 0 0) := by
  by_cases h : 5 < N
  · by_cases e : t = 5
    · subst e
      have ha : (E 5 == (⟨#[97]⟩ : ByteArray)) = true := by rw [hT h]; decide +kernel
      have hb : (E 5 == (⟨#[102]⟩ : ByteArray)) = false := by rw [hT h]; decide +kernel
      rw [lpO_end (r := .e21) (by simp only [st_object_Check_v5_L1, d_t (show (5 : Int) < (N : Int) by omega), inR_t (show (0 : Int) ≤ 5 by decide) (show (5 : Int) < (N : Int) by omega), ha, hb, cond_true, cond_false]), if_pos h]
      rfl
    · have hb : (E 5 == (⟨#[102]⟩ : ByteArray)) = true := by rw [hE 5 h (by omega)]; decide +kernel
      rw [lpO_next (s' := .c6) (by simp only [st_object_Check_v5_L1, d_t (show (5 : Int) < (N : Int) by omega), inR_t (show (0 : Int) ≤ 5 by decide) (show (5 : Int) < (N : Int) by omega), hb, cond_true])]
      exact nmv5_6 hN h1 hE hT (by omega)
  · rw [lpO_end (r := .e5) (by simp only [st_object_Check_v5_L1, d_f (show ¬ ((5 : Int) < (N : Int)) by omega), cond_false]), if_neg (by omega)]
    rfl
theorem nmv5_4 (ht : 4 ≤ t) : (lpO (st_object_Check_v5_L1 N E) .c4).bind resv5 = some (if t < N then .e0 (t : Int) 52 else .e0 0 0) := by
  by_cases h : 4 < N
  · by_cases e : t = 4
    · subst e
      have ha : (E 4 == (⟨#[97]⟩ : ByteArray)) = true := by rw [hT h]; decide +kernel
      have hb : (E 4 == (⟨#[101]⟩ : ByteArray)) = false := by rw [hT h]; decide +kernel
      rw [lpO_end (r := .e20) (by simp only [st_object_Check_v5_L1, d_t (show (4 : Int) < (N : Int) by omega), inR_t (show (0 : Int) ≤ 4 by decide) (show (4 : Int) < (N : Int) by omega), ha, hb, cond_true, cond_false]), if_pos h]
      rfl
    · have hb : (E 4 == (⟨#[101]⟩ : ByteArray)) = true := by rw [hE 4 h (by omega)]; decide +kernel
      rw [lpO_next (s' := .c5) (by simp only [st_object_Check_v5_L1, d_t (show (4 : Int) < (N : Int) by omega), inR_t (show (0 : Int) ≤ 4 by decide) (show (4 : Int) < (N : Int) by omega), hb, cond_true])]
      exact nmv5_5 hN h1 hE hT (by omega)
  · rw [lpO_end (r := .e4) (by simp only [st_object_Check_v5_L1, d_f (show ¬ ((4 : Int) < (N : Int)) by omega), cond_false]), if_neg (by omega)]
    rfl
theorem nmv5_3 (ht : 3 ≤ t) : (lpO (st_object_Check_v5_L1 N E) .c3).bind resv5 = some (if t < N then .e0 (t : Int) 52 else .e0 0 0) := by
  by_cases h : 3 < N
  · by_cases e : t = 3
    · subst e
      have ha : (E 3 == (⟨#[97]⟩ : ByteArray)) = true := by rw [hT h]; decide +kernel
      have hb : (E 3 == (⟨#[100]⟩ : ByteArray)) = false := by rw [hT h]; decide +kernel
      rw [lpO_end (r := .e19) (by simp only [st_object_Check_v5_L1, d_t (show (3 : Int) < (N : Int) by omega), inR_t (show (0 : Int) ≤ 3 by decide) (show (3 : Int) < (N : Int) by omega), ha, hb, cond_true, cond_false]), if_pos h]
      rfl
    · have hb : (E 3 == (⟨#[100]⟩ : ByteArray)) = true := by rw [hE 3 h (by omega)]; decide +kernel
      rw [lpO_next (s' := .c4) (by simp only [st_object_Check_v5_L1, d_t (show (3 : Int) < (N : Int) by omega), inR_t (show (0 : Int) ≤ 3 by decide) (show (3 : Int) < (N : Int) by omega), hb, cond_true])]
      exact nmv5_4 hN h1 hE hT (by omega)
  · rw [lpO_end (r := .e3) (by simp only [st_object_Check_v5_L1, d_f (show ¬ ((3 : Int) < (N : Int)) by omega), cond_false]), if_neg (by omega)]
    rfl
theorem nmv5_2 (ht : 2 ≤ t) : (lpO (st_object_Check_v5_L1 N E) .c2).bind resv5 = some (if t < N then .e0 (t : Int) 52 else .e0 0 0) := by
  by_cases h : 2 < N
  · by_cases e : t = 2
    · subst e
      have ha : (E 2 == (⟨#[97]⟩ : ByteArray)) = true := by rw [hT h]; decide +kernel
      have hb : (E 2 == (⟨#[99]⟩ : ByteArray)) = false := by rw [hT h]; decide +kernel
      rw [lpO_end (r := .e18) (by simp only [st_object_Check_v5_L1, d_t (show (2 : Int) < (N : Int) by omega), inR_t (show (0 : Int) ≤ 2 by decide) (show (2 : Int) < (N : Int) by omega), ha, hb, cond_true, cond_false]), if_pos h]
      rfl
    · have hb : (E 2 == (⟨#[99]⟩ : ByteArray)) = true := by rw [hE 2 h (by omega)]; decide +kernel
      rw [lpO_next (s' := .c3) (by simp only [st_object_Check_v5_L1, d_t (show (2 : Int) < (N : Int) by omega), inR_t (show (0 : Int) ≤ 2 by decide) (show (2 : Int) < (N : Int) by omega), hb, cond_true])]
      exact nmv5_3 hN h1 hE hT (by omega)
  · rw [lpO_end (r := .e2) (by simp only [st_object_Check_v5_L1, d_f (show ¬ ((2 : Int) < (N : Int)) by omega), cond_false]), if_neg (by omega)]
    rfl
theorem nmv5_1 (ht : 1 ≤ t) : (lpO (st_object_Check_v5_L1 N E) .c1).bind resv5 = some (if t < N then .e0 (t : Int) 52 else .e0 0 0) := by
  by_cases h : 1 < N
  · by_cases e : t = 1
    · subst e
      have ha : (E 1 == (⟨#[97]⟩ : ByteArray)) = true := by rw [hT h]; decide +kernel
      have hb : (E 1 == (⟨#[98]⟩ : ByteArray)) = false := by rw [hT h]; decide +kernel
      rw [lpO_end (r := .e17) (by simp only [st_object_Check_v5_L1, d_t (show (1 : Int) < (N : Int) by omega), inR_t (show (0 : Int) ≤ 1 by decide) (show (1 : Int) < (N : Int) by omega), ha, hb, cond_true, cond_false]), if_pos h]
      rfl
    · have hb : (E 1 == (⟨#[98]⟩ : ByteArray)) = true := by rw [hE 1 h (by omega)]; decide +kernel
      rw [lpO_next (s' := .c2) (by simp only [st_object_Check_v5_L1, d_t (show (1 : Int) < (N : Int) by omega), inR_t (show (0 : Int) ≤ 1 by decide) (show (1 : Int) < (N : Int) by omega), hb, cond_true])]
      exact nmv5_2 hN h1 hE hT (by omega)
  · rw [lpO_end (r := .e1) (by simp only [st_object_Check_v5_L1, d_f (show ¬ ((1 : Int) < (N : Int)) by omega), cond_false]), if_neg (by omega)]
    rfl
theorem nmv5_0 (ht : 0 ≤ t) : (lpO (st_object_Check_v5_L1 N E) .c0).bind resv5 = some (if t < N then .e0 (t : Int) 52 else .e0 0 0) := by
  by_cases h : 0 < N
  · have hb : (E 0 == (⟨#[97]⟩ : ByteArray)) = true := by rw [hE 0 h (by omega)]; decide +kernel
    rw [lpO_next (s' := .c1) (by simp only [st_object_Check_v5_L1, d_t (show (0 : Int) < (N : Int) by omega), inR_t (show (0 : Int) ≤ 0 by decide) (show (0 : Int) < (N : Int) by omega), hb, cond_true])]
    exact nmv5_1 hN h1 hE hT (by omega)
  · rw [lpO_end (r := .e0) (by simp only [st_object_Check_v5_L1, d_f (show ¬ ((0 : Int) < (N : Int)) by omega), cond_false]), if_neg (by omega)]
    rfl
end
/-- What the programs' check comes to: t is the place of a second "a", if there is one. -/
theorem three {N t : Nat} {E : Nat → ByteArray} (h0 : 1 ≤ N) (h1 : 1 ≤ t) (hE : ∀ j, j < N → j ≠ t → E j = nameB j) (hT : t < N → E t = (⟨#[97]⟩ : ByteArray)) :
    m_object_Check_v3 N E = some (if 16 < N then .e0 0 52 else if t < N then .e0 (t : Int) 52 else .e0 0 0) := by
  have hz : ((N : Int) == 0) = false := by rw [Bool.eq_false_iff]; intro e; have := eq_of_beq e; omega
  unfold m_object_Check_v3
  rw [hz, cond_false]
  by_cases h : 16 < N
  · rw [d_t (show (16 : Int) < (N : Int) by omega), if_pos h]; rfl
  · rw [d_f (show ¬ ((16 : Int) < (N : Int)) by omega), if_neg h, cond_false]
    exact nmv3_0 (by omega) h1 hE hT (by omega)
def ring : MapDef := ⟨4, 0, 0, 8, false, 0⟩
theorem maps5 {M : Nat} {A : Nat → MapDef} (hM : M ≤ 20) (hA : ∀ j, j < M → A j = ring) : ∀ d s, s + d = (if 16 < M then 16 else M) →
    lpO (st_object_Check_v5_L0 M A) (.c0 (s : Int)) = some (if 16 < M then .e1 16 else .e0)
  | 0, s, h => by
    by_cases c : 16 < M
    · rw [if_pos c] at h ⊢
      obtain rfl : s = 16 := by omega
      exact lpO_end (by
        simp only [st_object_Check_v5_L0, d_t (show ((16 : Nat) : Int) < (M : Int) by omega), inR_nat' c, Int.toNat_natCast, hA 16 c, cond_true]
        rfl)
    · rw [if_neg c] at h ⊢
      obtain rfl : s = M := by omega
      exact lpO_end (by simp only [st_object_Check_v5_L0, d_f (show ¬ ((s : Int) < (s : Int)) by omega), cond_false])
  | d + 1, s, h => by
    have hs : s < M ∧ s < 16 := by split at h <;> omega
    rw [← maps5 hM hA d (s + 1) (by omega)]
    refine lpO_next ?_
    simp only [st_object_Check_v5_L0, d_t (show (s : Int) < (M : Int) by omega), inR_nat' hs.1, Int.toNat_natCast, hA s hs.1, cond_true, w_succ s (by omega)]
    show (bif decide (16 ≤ (s : Int)) then _ else _) = _
    rw [d_f (show ¬ (16 ≤ (s : Int)) by omega)]
    rfl
theorem maps4 {M : Nat} {A : Nat → MapDef} (hM : M ≤ 20) (hA : ∀ j, j < M → A j = ring) : ∀ d s, s + d = (if 16 < M then 16 else M) →
    lpO (st_object_Check_v4_L0 M A) (.c0 (s : Int)) = some (if 16 < M then .e1 16 else .e0)
  | 0, s, h => by
    by_cases c : 16 < M
    · rw [if_pos c] at h ⊢
      obtain rfl : s = 16 := by omega
      exact lpO_end (by
        simp only [st_object_Check_v4_L0, d_t (show ((16 : Nat) : Int) < (M : Int) by omega), inR_nat' c, Int.toNat_natCast, hA 16 c, cond_true]
        rfl)
    · rw [if_neg c] at h ⊢
      obtain rfl : s = M := by omega
      exact lpO_end (by simp only [st_object_Check_v4_L0, d_f (show ¬ ((s : Int) < (s : Int)) by omega), cond_false])
  | d + 1, s, h => by
    have hs : s < M ∧ s < 16 := by split at h <;> omega
    rw [← maps4 hM hA d (s + 1) (by omega)]
    refine lpO_next ?_
    simp only [st_object_Check_v4_L0, d_t (show (s : Int) < (M : Int) by omega), inR_nat' hs.1, Int.toNat_natCast, hA s hs.1, cond_true, w_succ s (by omega)]
    show (bif decide (16 ≤ (s : Int)) then _ else _) = _
    rw [d_f (show ¬ (16 ≤ (s : Int)) by omega)]
    rfl
theorem five {M N t : Nat} {A : Nat → MapDef} {E : Nat → ByteArray} (hM : M ≤ 20) (hA : ∀ j, j < M → A j = ring) (h0 : 1 ≤ N) (h1 : 1 ≤ t) (hE : ∀ j, j < N → j ≠ t → E j = nameB j) (hT : t < N → E t = (⟨#[97]⟩ : ByteArray)) :
    m_object_Check_v5 M N A E = some (if 16 < M then .e0 16 51 else if 16 < N then .e0 0 52 else if t < N then .e0 (t : Int) 52 else .e0 0 0) := by
  have hz : ((N : Int) == 0) = false := by rw [Bool.eq_false_iff]; intro e; have := eq_of_beq e; omega
  have hm : lpO (st_object_Check_v5_L0 M A) (.c0 0) = some (if 16 < M then .e1 16 else .e0) := maps5 hM hA (if 16 < M then 16 else M) 0 (by omega)
  unfold m_object_Check_v5
  rw [hm]
  by_cases c : 16 < M
  · rw [if_pos c, if_pos c]; rfl
  · rw [if_neg c, if_neg c]
    show (bif (N : Int) == 0 then _ else (bif decide (16 < (N : Int)) then _ else _)) = _
    rw [hz, cond_false]
    by_cases h : 16 < N
    · rw [d_t (show (16 : Int) < (N : Int) by omega), if_pos h]; rfl
    · rw [d_f (show ¬ ((16 : Int) < (N : Int)) by omega), if_neg h, cond_false]
      exact nmv5_0 (by omega) h1 hE hT (by omega)
theorem four {M : Nat} {A : Nat → MapDef} (hM : M ≤ 20) (hA : ∀ j, j < M → A j = ring) : m_object_Check_v4 M A = some (if 16 < M then .e0 16 51 else .e0 0 52) := by
  have hm : lpO (st_object_Check_v4_L0 M A) (.c0 0) = some (if 16 < M then .e1 16 else .e0) := maps4 hM hA (if 16 < M then 16 else M) 0 (by omega)
  unfold m_object_Check_v4
  rw [hm]
  by_cases c : 16 < M
  · rw [if_pos c, if_pos c]; rfl
  · rw [if_neg c, if_neg c]; rfl
/-! ### What the law makes -/
theorem mk_maps {M : Nat} (hM : M ≤ 20) : ∀ d s A, s + d = M → (∀ j, j < s → A j = ring) → ∃ A', lpO (st_barbicanlaw5_ObjectMany_L0 (M : Int)) (.c1 s A (s : Int)) = some (.e1 M A') ∧ ∀ j, j < M → A' j = ring
  | 0, s, A, h, hA => by
    obtain rfl : s = M := by omega
    exact ⟨A, lpO_end (by simp only [st_barbicanlaw5_ObjectMany_L0, d_f (show ¬ ((s : Int) < (s : Int)) by omega), cond_false]), hA⟩
  | d + 1, s, A, h, hA => by
    obtain ⟨A', h1, h2⟩ := mk_maps hM d (s + 1) (updF A s ring) (by omega) (fun j hj => by
      by_cases e : j = s
      · subst e; exact updF_at _ _ _
      · rw [updF_ne _ _ e]; exact hA j (by omega))
    refine ⟨A', ?_, h2⟩
    rw [← h1]
    exact lpO_next (by simp only [st_barbicanlaw5_ObjectMany_L0, d_t (show (s : Int) < (M : Int) by omega), d_t (show s ≤ 1000000 by omega), w_succ s (by omega), cond_true]; rfl)

theorem mk_L1 {N : Nat} (hN : N ≤ 20) : ∀ d s E, s + d = N → (∀ j, j < s → E j = nameB j) → ∃ E', lpO (st_barbicanlaw5_ObjectMany_L1 (N : Int)) (.c1 s E (s : Int)) = some (.e1 N E') ∧ ∀ j, j < N → E' j = nameB j
  | 0, s, E, h, hE => by
    obtain rfl : s = N := by omega
    exact ⟨E, lpO_end (by simp only [st_barbicanlaw5_ObjectMany_L1, d_f (show ¬ ((s : Int) < (s : Int)) by omega), cond_false]), hE⟩
  | d + 1, s, E, h, hE => by
    obtain ⟨E', h1, h2⟩ := mk_L1 hN d (s + 1) (updF E s (nameB s)) (by omega) (fun j hj => by
      by_cases e : j = s
      · subst e; exact updF_at _ _ _
      · rw [updF_ne _ _ e]; exact hE j (by omega))
    refine ⟨E', ?_, h2⟩
    rw [← h1]
    exact lpO_next (by
      simp only [st_barbicanlaw5_ObjectMany_L1, d_t (show (s : Int) < (N : Int) by omega), d_t (show s ≤ 1000000 by omega), w_succ s (by omega), inR_nat' (show s + 1 < 26 + 1 by omega), Int.toNat_natCast, inR_nat' (show s < s + 1 + 1 by omega), cond_true]
      rfl)
theorem names_L1 {N : Nat} (h0 : 1 ≤ N) (hN : N ≤ 20) : ∃ E, lpO (st_barbicanlaw5_ObjectMany_L1 (N : Int)) .c0 = some (.e1 N E) ∧ ∀ j, j < N → E j = nameB j := by
  obtain ⟨E, h1, h2⟩ := mk_L1 hN (N - 1) 1 (fun _ => nameB 0) (by omega) (fun j hj => by rw [show j = 0 by omega])
  refine ⟨E, ?_, h2⟩
  rw [← h1]
  have ea : (⟨#[97]⟩ : ByteArray) = nameB 0 := by decide +kernel
  exact lpO_next (by simp only [st_barbicanlaw5_ObjectMany_L1, d_t (show (0 : Int) < (N : Int) by omega), cond_true, ea]; rfl)
theorem mk_L1v1 {N : Nat} (hN : N ≤ 20) : ∀ d s E, s + d = N → (∀ j, j < s → E j = nameB j) → ∃ E', lpO (st_barbicanlaw5_ObjectMany_L1v1 (N : Int)) (.c1 s E (s : Int)) = some (.e1 N E') ∧ ∀ j, j < N → E' j = nameB j
  | 0, s, E, h, hE => by
    obtain rfl : s = N := by omega
    exact ⟨E, lpO_end (by simp only [st_barbicanlaw5_ObjectMany_L1v1, d_f (show ¬ ((s : Int) < (s : Int)) by omega), cond_false]), hE⟩
  | d + 1, s, E, h, hE => by
    obtain ⟨E', h1, h2⟩ := mk_L1v1 hN d (s + 1) (updF E s (nameB s)) (by omega) (fun j hj => by
      by_cases e : j = s
      · subst e; exact updF_at _ _ _
      · rw [updF_ne _ _ e]; exact hE j (by omega))
    refine ⟨E', ?_, h2⟩
    rw [← h1]
    exact lpO_next (by
      simp only [st_barbicanlaw5_ObjectMany_L1v1, d_t (show (s : Int) < (N : Int) by omega), d_t (show s ≤ 1000000 by omega), w_succ s (by omega), inR_nat' (show s + 1 < 26 + 1 by omega), Int.toNat_natCast, inR_nat' (show s < s + 1 + 1 by omega), cond_true]
      rfl)
theorem names_L1v1 {N : Nat} (h0 : 1 ≤ N) (hN : N ≤ 20) : ∃ E, lpO (st_barbicanlaw5_ObjectMany_L1v1 (N : Int)) .c0 = some (.e1 N E) ∧ ∀ j, j < N → E j = nameB j := by
  obtain ⟨E, h1, h2⟩ := mk_L1v1 hN (N - 1) 1 (fun _ => nameB 0) (by omega) (fun j hj => by rw [show j = 0 by omega])
  refine ⟨E, ?_, h2⟩
  rw [← h1]
  have ea : (⟨#[97]⟩ : ByteArray) = nameB 0 := by decide +kernel
  exact lpO_next (by simp only [st_barbicanlaw5_ObjectMany_L1v1, d_t (show (0 : Int) < (N : Int) by omega), cond_true, ea]; rfl)
theorem the_maps {M : Nat} (h0 : 1 ≤ M) (hM : M ≤ 20) : ∃ A, lpO (st_barbicanlaw5_ObjectMany_L0 (M : Int)) .c0 = some (.e1 M A) ∧ ∀ j, j < M → A j = ring := by
  obtain ⟨A, h1, h2⟩ := mk_maps hM (M - 1) 1 (fun _ => ring) (by omega) (fun _ _ => rfl)
  refine ⟨A, ?_, h2⟩
  rw [← h1]
  exact lpO_next (by simp only [st_barbicanlaw5_ObjectMany_L0, d_t (show (0 : Int) < (M : Int) by omega), cond_true]; rfl)
theorem twice_names {N t : Nat} {E : Nat → ByteArray} (hE : ∀ j, j < N → E j = nameB j) : (∀ j, j < N → j ≠ t → updF E t (⟨#[97]⟩ : ByteArray) j = nameB j) ∧ (t < N → updF E t (⟨#[97]⟩ : ByteArray) t = (⟨#[97]⟩ : ByteArray)) :=
  ⟨fun j hj hne => by rw [updF_ne _ _ hne]; exact hE j hj, fun _ => updF_at _ _ _⟩
theorem many_true (y0 y1 y2 : Int) : m_barbicanlaw5_ObjectMany y0 y1 y2 = some true := by
  unfold m_barbicanlaw5_ObjectMany
  by_cases a1 : y0 < 0
  · rw [d_t a1]; rfl
  by_cases a2 : 20 < y0
  · rw [d_f a1, d_t a2]; rfl
  by_cases a3 : y1 < 0
  · rw [d_f a1, d_f a2, d_t a3]; rfl
  by_cases a4 : 20 < y1
  · rw [d_f a1, d_f a2, d_f a3, d_t a4]; rfl
  rw [d_f a1, d_f a2, d_f a3, d_f a4]
  simp only [cond_false]
  obtain ⟨M, rfl⟩ := Int.eq_ofNat_of_zero_le (show 0 ≤ y0 by omega)
  obtain ⟨N, rfl⟩ := Int.eq_ofNat_of_zero_le (show 0 ≤ y1 by omega)
  have bz : ∀ {n : Nat}, 1 ≤ n → ((n : Int) == 0) = false := fun {n} hn => by rw [Bool.eq_false_iff]; intro e; have := eq_of_beq e; omega
  rcases Nat.eq_zero_or_pos M with rfl | hM
  · have hL0 : lpO (st_barbicanlaw5_ObjectMany_L0 ((0 : Nat) : Int)) .c0 = some .e0 := lpO_end (by simp only [st_barbicanlaw5_ObjectMany_L0]; rfl)
    simp only [hL0, Option.bind_some, d_f (show ¬ (16 < ((0 : Nat) : Int)) by omega), cond_false]
    rcases Nat.eq_zero_or_pos N with rfl | hN
    · have hL1 : lpO (st_barbicanlaw5_ObjectMany_L1 ((0 : Nat) : Int)) .c0 = some .e0 := lpO_end (by simp only [st_barbicanlaw5_ObjectMany_L1]; rfl)
      simp only [hL1, Option.bind_some]
      by_cases b1 : 0 < y2
      · rw [d_t b1, d_f (show ¬ (y2 < ((0 : Nat) : Int)) by omega)]; rfl
      · rw [d_f b1]; rfl
    · obtain ⟨E, hL1, hE⟩ := names_L1 hN (by omega)
      simp only [hL1, Option.bind_some, bz hN, cond_false]
      have plain := three (t := N) hN hN (fun j hj _ => hE j hj) (fun h => absurd h (by omega))
      rw [if_neg (show ¬ N < N by omega)] at plain
      by_cases b1 : 0 < y2
      · by_cases b2 : y2 < (N : Int)
        · obtain ⟨t, rfl⟩ := Int.eq_ofNat_of_zero_le (show 0 ≤ y2 by omega)
          have tw := twice_names (t := t) hE
          have ht := three (t := t) hN (by omega) tw.1 tw.2
          rw [if_pos (show t < N by omega)] at ht
          simp only [d_t b1, d_t b2, inR_nat' (show t < N by omega), Int.toNat_natCast, cond_true, ht, Option.bind_some]
          by_cases c : 16 < N
          · rw [if_pos c, d_t (show 16 < (N : Int) by omega)]; rfl
          · rw [if_neg c, d_f (show ¬ (16 < (N : Int)) by omega)]; simp
        · simp only [d_t b1, d_f b2, cond_true, cond_false, plain, Option.bind_some]
          by_cases c : 16 < N
          · rw [if_pos c, d_t (show 16 < (N : Int) by omega)]; rfl
          · rw [if_neg c, d_f (show ¬ (16 < (N : Int)) by omega)]; rfl
      · simp only [d_f b1, cond_false, plain, Option.bind_some]
        by_cases c : 16 < N
        · rw [if_pos c, d_t (show 16 < (N : Int) by omega)]; rfl
        · rw [if_neg c, d_f (show ¬ (16 < (N : Int)) by omega)]; rfl
  · obtain ⟨A, hL0, hA⟩ := the_maps hM (by omega)
    simp only [hL0, Option.bind_some]
    rcases Nat.eq_zero_or_pos N with rfl | hN
    · have hL1 : lpO (st_barbicanlaw5_ObjectMany_L1v1 ((0 : Nat) : Int)) .c0 = some .e0 := lpO_end (by simp only [st_barbicanlaw5_ObjectMany_L1v1]; rfl)
      simp only [hL1, Option.bind_some, four (show M ≤ 20 by omega) hA]
      have fin : ∀ g : R_object_Check_v4, g = (if 16 < M then .e0 16 51 else .e0 0 52) → (match g with
        | .e0 g2_0 g2_1 =>
        bif decide (16 < (M : Int)) then
          (bif g2_1 == 51 then
            (some (g2_0 == 16))
          else (some false))
        else (bif ((0 : Nat) : Int) == 0 then
          (bif g2_1 == 52 then
            (some (g2_0 == 0))
          else (some false))
        else (bif decide (16 < ((0 : Nat) : Int)) then
          (bif g2_1 == 52 then
            (some (g2_0 == 0))
          else (some false))
        else (bif g2_1 == 0 then
          (some (g2_0 == 0))
        else (some false)))) : Option Bool) = some true := fun g hg => by
        subst hg
        by_cases c : 16 < M
        · rw [if_pos c, d_t (show 16 < (M : Int) by omega)]; rfl
        · rw [if_neg c, d_f (show ¬ (16 < (M : Int)) by omega)]; rfl
      by_cases b1 : 0 < y2
      · rw [d_t b1, d_f (show ¬ (y2 < ((0 : Nat) : Int)) by omega)]
        exact fin _ rfl
      · rw [d_f b1]
        exact fin _ rfl
    · obtain ⟨E, hL1, hE⟩ := names_L1v1 hN (by omega)
      simp only [hL1, Option.bind_some, bz hN, cond_false]
      have plain := five (t := N) (show M ≤ 20 by omega) hA hN hN (fun j hj _ => hE j hj) (fun h => absurd h (by omega))
      rw [if_neg (show ¬ N < N by omega)] at plain
      by_cases b1 : 0 < y2
      · by_cases b2 : y2 < (N : Int)
        · obtain ⟨t, rfl⟩ := Int.eq_ofNat_of_zero_le (show 0 ≤ y2 by omega)
          have tw := twice_names (t := t) hE
          have ht := five (t := t) (show M ≤ 20 by omega) hA hN (by omega) tw.1 tw.2
          rw [if_pos (show t < N by omega)] at ht
          simp only [d_t b1, d_t b2, inR_nat' (show t < N by omega), Int.toNat_natCast, cond_true, ht, Option.bind_some]
          by_cases c' : 16 < M
          · rw [if_pos c', d_t (show 16 < (M : Int) by omega)]; rfl
          · rw [if_neg c', d_f (show ¬ (16 < (M : Int)) by omega)]
            by_cases c : 16 < N
            · rw [if_pos c, d_t (show 16 < (N : Int) by omega)]; rfl
            · rw [if_neg c, d_f (show ¬ (16 < (N : Int)) by omega)]; simp
        · simp only [d_t b1, d_f b2, cond_true, cond_false, plain, Option.bind_some]
          by_cases c' : 16 < M
          · rw [if_pos c', d_t (show 16 < (M : Int) by omega)]; rfl
          · rw [if_neg c', d_f (show ¬ (16 < (M : Int)) by omega)]
            by_cases c : 16 < N
            · rw [if_pos c, d_t (show 16 < (N : Int) by omega)]; rfl
            · rw [if_neg c, d_f (show ¬ (16 < (N : Int)) by omega)]; rfl
      · simp only [d_f b1, cond_false, plain, Option.bind_some]
        by_cases c' : 16 < M
        · rw [if_pos c', d_t (show 16 < (M : Int) by omega)]; rfl
        · rw [if_neg c', d_f (show ¬ (16 < (M : Int)) by omega)]
          by_cases c : 16 < N
          · rw [if_pos c, d_t (show 16 < (N : Int) by omega)]; rfl
          · rw [if_neg c, d_f (show ¬ (16 < (N : Int)) by omega)]; rfl
end Go.Proofs.Ytefmnjehhpceoaa

