/-
  A struct of fields of one size: what is asked of the types, where each byte lies, and what the law comes to (no program).
-/
import Derived.Test.YtfphpdhjcbhehaaDoorL4Sc
namespace Go.Proofs.YtfphpdhjcbhehaaDoor
open Go.RowKit
set_option linter.unusedVariables false
set_option linter.unusedSimpArgs false
theorem wr {x : Int} (h0 : -9223372036854775808 ≤ x) (h1 : x < 9223372036854775808) : IntKind.i64.wrap x = x := z_wrap h0 h1
theorem inR_nat' {k n : Nat} (h : k < n) : inR (k : Int) n = true := inR_iff.2 ⟨by omega, by omega⟩
theorem inR_t {x : Int} {n : Nat} (h0 : 0 ≤ x) (h1 : x < n) : inR x n = true := inR_iff.2 ⟨h0, h1⟩
theorem d_t {p : Prop} [Decidable p] (h : p) : decide p = true := decide_eq_true h
theorem d_f {p : Prop} [Decidable p] (h : ¬ p) : decide p = false := decide_eq_false h
theorem w_succ (k : Nat) (h : k ≤ 1000000) : IntKind.i64.wrap ((k : Int) + 1) = ((k + 1 : Nat) : Int) := by rw [wr] <;> omega
def lets : ByteArray := (⟨#[97, 98, 99, 100, 101, 102, 103, 104, 105, 106, 107, 108, 109, 110, 111, 112, 113, 114, 115, 116, 117, 118, 119, 120, 121, 122, 65, 66, 67, 68, 69, 70, 71, 72, 73, 74, 75, 76, 77, 78, 79, 80, 81, 82, 83, 84, 85, 86, 87, 88, 89, 90]⟩ : ByteArray)
def nameA (k : Nat) : ByteArray := lets.extract k (k + 1)
theorem name_size (k : Nat) : (nameA k).size ≤ 52 := by
  unfold nameA
  rw [ByteArray.size_extract]
  have : lets.size = 52 := rfl
  omega
/-- The members: each of u bytes, V behind the one before. -/
structure AllS (u V N : Nat) (A : Nat → Member) : Prop where
  hu : u = 1 ∨ u = 2 ∨ u = 4 ∨ u = 8
  hV : u ≤ V
  hV' : V ≤ 16
  h1 : 1 ≤ N
  hN : N ≤ 40
  hA : ∀ j, j < N → (A j).fName = nameA j ∧ (A j).fType = 1 ∧ (A j).fBits = ((8 * (j * V) : Nat) : Int)
theorem quo8 (x : Nat) (h : x ≤ 1000000) : zquo ((8 * x : Nat) : Int) 8 = (x : Int) := by
  unfold zquo
  rw [Int.tdiv_eq_ediv_of_nonneg (by omega)]
  have : ((8 * x : Nat) : Int) / 8 = (x : Int) := by omega
  rw [this, wr] <;> omega
theorem rem8 (x : Nat) : zrem ((8 * x : Nat) : Int) 8 = 0 := by
  unfold zrem
  rw [Int.tmod_eq_emod_of_nonneg (by omega)]
  omega
theorem ba_nne (a : ByteArray) : (a != a) = false := by
  obtain ⟨a⟩ := a
  have h : (a == a) = true := beq_self_eq_true a
  show (!(a == a)) = false
  rw [h]; rfl
section
variable {u V N : Nat} {A : Nat → Member} (H : AllS u V N A)
include H
theorem place (j : Nat) (hj : j < N) : j * V + V ≤ N * V ∧ N * V ≤ 640 := by
  have h1 : (j + 1) * V ≤ N * V := Nat.mul_le_mul_right V hj
  rw [Nat.succ_mul] at h1
  have h2 : N * V ≤ 40 * 16 := Nat.mul_le_mul H.hN H.hV'
  exact ⟨h1, by omega⟩
theorem many_eq (a b : Int) : m_btf_tooMany_v1 a b N A = some (.e0 false) := by
  have hN := H.hN
  simp only [m_btf_tooMany_v1, d_f (show ¬ (64 < (N : Int)) by omega), cond_false]
theorem type_0 : m_btf_checkType_v2 2 (u : Int) = some (.e0 0) := by
  rcases H.hu with h | h | h | h <;> subst h <;> rfl

theorem nm_40 : ∃ r, lpO (st_btf_rightMemberNames_v3_L0 N A) .c40 = some r := by
  have hN := H.hN
  exact ⟨.e40, lpO_end (by simp only [st_btf_rightMemberNames_v3_L0, d_f (show ¬ (40 < (N : Int)) by omega), cond_false])⟩
theorem nm_39 : ∃ r, lpO (st_btf_rightMemberNames_v3_L0 N A) .c39 = some r := by
  by_cases h : 39 < N
  · obtain ⟨r, hr⟩ := nm_40 H
    have e : ((A 39).fName == (⟨#[78]⟩ : ByteArray)) = true := by rw [(H.hA 39 h).1]; decide +kernel
    exact ⟨r, by rw [lpO_next (s' := .c40) (by simp only [st_btf_rightMemberNames_v3_L0, d_t (show (39 : Int) < (N : Int) by omega), inR_t (show (0 : Int) ≤ 39 by decide) (show (39 : Int) < (N : Int) by omega), e, cond_true])]; exact hr⟩
  · exact ⟨.e39, lpO_end (by simp only [st_btf_rightMemberNames_v3_L0, d_f (show ¬ ((39 : Int) < (N : Int)) by omega), cond_false])⟩
theorem nm_38 : ∃ r, lpO (st_btf_rightMemberNames_v3_L0 N A) .c38 = some r := by
  by_cases h : 38 < N
  · obtain ⟨r, hr⟩ := nm_39 H
    have e : ((A 38).fName == (⟨#[77]⟩ : ByteArray)) = true := by rw [(H.hA 38 h).1]; decide +kernel
    exact ⟨r, by rw [lpO_next (s' := .c39) (by simp only [st_btf_rightMemberNames_v3_L0, d_t (show (38 : Int) < (N : Int) by omega), inR_t (show (0 : Int) ≤ 38 by decide) (show (38 : Int) < (N : Int) by omega), e, cond_true])]; exact hr⟩
  · exact ⟨.e38, lpO_end (by simp only [st_btf_rightMemberNames_v3_L0, d_f (show ¬ ((38 : Int) < (N : Int)) by omega), cond_false])⟩
theorem nm_37 : ∃ r, lpO (st_btf_rightMemberNames_v3_L0 N A) .c37 = some r := by
  by_cases h : 37 < N
  · obtain ⟨r, hr⟩ := nm_38 H
    have e : ((A 37).fName == (⟨#[76]⟩ : ByteArray)) = true := by rw [(H.hA 37 h).1]; decide +kernel
    exact ⟨r, by rw [lpO_next (s' := .c38) (by simp only [st_btf_rightMemberNames_v3_L0, d_t (show (37 : Int) < (N : Int) by omega), inR_t (show (0 : Int) ≤ 37 by decide) (show (37 : Int) < (N : Int) by omega), e, cond_true])]; exact hr⟩
  · exact ⟨.e37, lpO_end (by simp only [st_btf_rightMemberNames_v3_L0, d_f (show ¬ ((37 : Int) < (N : Int)) by omega), cond_false])⟩
theorem nm_36 : ∃ r, lpO (st_btf_rightMemberNames_v3_L0 N A) .c36 = some r := by
  by_cases h : 36 < N
  · obtain ⟨r, hr⟩ := nm_37 H
    have e : ((A 36).fName == (⟨#[75]⟩ : ByteArray)) = true := by rw [(H.hA 36 h).1]; decide +kernel
    exact ⟨r, by rw [lpO_next (s' := .c37) (by simp only [st_btf_rightMemberNames_v3_L0, d_t (show (36 : Int) < (N : Int) by omega), inR_t (show (0 : Int) ≤ 36 by decide) (show (36 : Int) < (N : Int) by omega), e, cond_true])]; exact hr⟩
  · exact ⟨.e36, lpO_end (by simp only [st_btf_rightMemberNames_v3_L0, d_f (show ¬ ((36 : Int) < (N : Int)) by omega), cond_false])⟩
theorem nm_35 : ∃ r, lpO (st_btf_rightMemberNames_v3_L0 N A) .c35 = some r := by
  by_cases h : 35 < N
  · obtain ⟨r, hr⟩ := nm_36 H
    have e : ((A 35).fName == (⟨#[74]⟩ : ByteArray)) = true := by rw [(H.hA 35 h).1]; decide +kernel
    exact ⟨r, by rw [lpO_next (s' := .c36) (by simp only [st_btf_rightMemberNames_v3_L0, d_t (show (35 : Int) < (N : Int) by omega), inR_t (show (0 : Int) ≤ 35 by decide) (show (35 : Int) < (N : Int) by omega), e, cond_true])]; exact hr⟩
  · exact ⟨.e35, lpO_end (by simp only [st_btf_rightMemberNames_v3_L0, d_f (show ¬ ((35 : Int) < (N : Int)) by omega), cond_false])⟩
theorem nm_34 : ∃ r, lpO (st_btf_rightMemberNames_v3_L0 N A) .c34 = some r := by
  by_cases h : 34 < N
  · obtain ⟨r, hr⟩ := nm_35 H
    have e : ((A 34).fName == (⟨#[73]⟩ : ByteArray)) = true := by rw [(H.hA 34 h).1]; decide +kernel
    exact ⟨r, by rw [lpO_next (s' := .c35) (by simp only [st_btf_rightMemberNames_v3_L0, d_t (show (34 : Int) < (N : Int) by omega), inR_t (show (0 : Int) ≤ 34 by decide) (show (34 : Int) < (N : Int) by omega), e, cond_true])]; exact hr⟩
  · exact ⟨.e34, lpO_end (by simp only [st_btf_rightMemberNames_v3_L0, d_f (show ¬ ((34 : Int) < (N : Int)) by omega), cond_false])⟩
theorem nm_33 : ∃ r, lpO (st_btf_rightMemberNames_v3_L0 N A) .c33 = some r := by
  by_cases h : 33 < N
  · obtain ⟨r, hr⟩ := nm_34 H
    have e : ((A 33).fName == (⟨#[72]⟩ : ByteArray)) = true := by rw [(H.hA 33 h).1]; decide +kernel
    exact ⟨r, by rw [lpO_next (s' := .c34) (by simp only [st_btf_rightMemberNames_v3_L0, d_t (show (33 : Int) < (N : Int) by omega), inR_t (show (0 : Int) ≤ 33 by decide) (show (33 : Int) < (N : Int) by omega), e, cond_true])]; exact hr⟩
  · exact ⟨.e33, lpO_end (by simp only [st_btf_rightMemberNames_v3_L0, d_f (show ¬ ((33 : Int) < (N : Int)) by omega), cond_false])⟩
theorem nm_32 : ∃ r, lpO (st_btf_rightMemberNames_v3_L0 N A) .c32 = some r := by
  by_cases h : 32 < N
  · obtain ⟨r, hr⟩ := nm_33 H
    have e : ((A 32).fName == (⟨#[71]⟩ : ByteArray)) = true := by rw [(H.hA 32 h).1]; decide +kernel
    exact ⟨r, by rw [lpO_next (s' := .c33) (by simp only [st_btf_rightMemberNames_v3_L0, d_t (show (32 : Int) < (N : Int) by omega), inR_t (show (0 : Int) ≤ 32 by decide) (show (32 : Int) < (N : Int) by omega), e, cond_true])]; exact hr⟩
  · exact ⟨.e32, lpO_end (by simp only [st_btf_rightMemberNames_v3_L0, d_f (show ¬ ((32 : Int) < (N : Int)) by omega), cond_false])⟩
theorem nm_31 : ∃ r, lpO (st_btf_rightMemberNames_v3_L0 N A) .c31 = some r := by
  by_cases h : 31 < N
  · obtain ⟨r, hr⟩ := nm_32 H
    have e : ((A 31).fName == (⟨#[70]⟩ : ByteArray)) = true := by rw [(H.hA 31 h).1]; decide +kernel
    exact ⟨r, by rw [lpO_next (s' := .c32) (by simp only [st_btf_rightMemberNames_v3_L0, d_t (show (31 : Int) < (N : Int) by omega), inR_t (show (0 : Int) ≤ 31 by decide) (show (31 : Int) < (N : Int) by omega), e, cond_true])]; exact hr⟩
  · exact ⟨.e31, lpO_end (by simp only [st_btf_rightMemberNames_v3_L0, d_f (show ¬ ((31 : Int) < (N : Int)) by omega), cond_false])⟩
theorem nm_30 : ∃ r, lpO (st_btf_rightMemberNames_v3_L0 N A) .c30 = some r := by
  by_cases h : 30 < N
  · obtain ⟨r, hr⟩ := nm_31 H
    have e : ((A 30).fName == (⟨#[69]⟩ : ByteArray)) = true := by rw [(H.hA 30 h).1]; decide +kernel
    exact ⟨r, by rw [lpO_next (s' := .c31) (by simp only [st_btf_rightMemberNames_v3_L0, d_t (show (30 : Int) < (N : Int) by omega), inR_t (show (0 : Int) ≤ 30 by decide) (show (30 : Int) < (N : Int) by omega), e, cond_true])]; exact hr⟩
  · exact ⟨.e30, lpO_end (by simp only [st_btf_rightMemberNames_v3_L0, d_f (show ¬ ((30 : Int) < (N : Int)) by omega), cond_false])⟩
theorem nm_29 : ∃ r, lpO (st_btf_rightMemberNames_v3_L0 N A) .c29 = some r := by
  by_cases h : 29 < N
  · obtain ⟨r, hr⟩ := nm_30 H
    have e : ((A 29).fName == (⟨#[68]⟩ : ByteArray)) = true := by rw [(H.hA 29 h).1]; decide +kernel
    exact ⟨r, by rw [lpO_next (s' := .c30) (by simp only [st_btf_rightMemberNames_v3_L0, d_t (show (29 : Int) < (N : Int) by omega), inR_t (show (0 : Int) ≤ 29 by decide) (show (29 : Int) < (N : Int) by omega), e, cond_true])]; exact hr⟩
  · exact ⟨.e29, lpO_end (by simp only [st_btf_rightMemberNames_v3_L0, d_f (show ¬ ((29 : Int) < (N : Int)) by omega), cond_false])⟩
theorem nm_28 : ∃ r, lpO (st_btf_rightMemberNames_v3_L0 N A) .c28 = some r := by
  by_cases h : 28 < N
  · obtain ⟨r, hr⟩ := nm_29 H
    have e : ((A 28).fName == (⟨#[67]⟩ : ByteArray)) = true := by rw [(H.hA 28 h).1]; decide +kernel
    exact ⟨r, by rw [lpO_next (s' := .c29) (by simp only [st_btf_rightMemberNames_v3_L0, d_t (show (28 : Int) < (N : Int) by omega), inR_t (show (0 : Int) ≤ 28 by decide) (show (28 : Int) < (N : Int) by omega), e, cond_true])]; exact hr⟩
  · exact ⟨.e28, lpO_end (by simp only [st_btf_rightMemberNames_v3_L0, d_f (show ¬ ((28 : Int) < (N : Int)) by omega), cond_false])⟩
theorem nm_27 : ∃ r, lpO (st_btf_rightMemberNames_v3_L0 N A) .c27 = some r := by
  by_cases h : 27 < N
  · obtain ⟨r, hr⟩ := nm_28 H
    have e : ((A 27).fName == (⟨#[66]⟩ : ByteArray)) = true := by rw [(H.hA 27 h).1]; decide +kernel
    exact ⟨r, by rw [lpO_next (s' := .c28) (by simp only [st_btf_rightMemberNames_v3_L0, d_t (show (27 : Int) < (N : Int) by omega), inR_t (show (0 : Int) ≤ 27 by decide) (show (27 : Int) < (N : Int) by omega), e, cond_true])]; exact hr⟩
  · exact ⟨.e27, lpO_end (by simp only [st_btf_rightMemberNames_v3_L0, d_f (show ¬ ((27 : Int) < (N : Int)) by omega), cond_false])⟩
theorem nm_26 : ∃ r, lpO (st_btf_rightMemberNames_v3_L0 N A) .c26 = some r := by
  by_cases h : 26 < N
  · obtain ⟨r, hr⟩ := nm_27 H
    have e : ((A 26).fName == (⟨#[65]⟩ : ByteArray)) = true := by rw [(H.hA 26 h).1]; decide +kernel
    exact ⟨r, by rw [lpO_next (s' := .c27) (by simp only [st_btf_rightMemberNames_v3_L0, d_t (show (26 : Int) < (N : Int) by omega), inR_t (show (0 : Int) ≤ 26 by decide) (show (26 : Int) < (N : Int) by omega), e, cond_true])]; exact hr⟩
  · exact ⟨.e26, lpO_end (by simp only [st_btf_rightMemberNames_v3_L0, d_f (show ¬ ((26 : Int) < (N : Int)) by omega), cond_false])⟩
theorem nm_25 : ∃ r, lpO (st_btf_rightMemberNames_v3_L0 N A) .c25 = some r := by
  by_cases h : 25 < N
  · obtain ⟨r, hr⟩ := nm_26 H
    have e : ((A 25).fName == (⟨#[122]⟩ : ByteArray)) = true := by rw [(H.hA 25 h).1]; decide +kernel
    exact ⟨r, by rw [lpO_next (s' := .c26) (by simp only [st_btf_rightMemberNames_v3_L0, d_t (show (25 : Int) < (N : Int) by omega), inR_t (show (0 : Int) ≤ 25 by decide) (show (25 : Int) < (N : Int) by omega), e, cond_true])]; exact hr⟩
  · exact ⟨.e25, lpO_end (by simp only [st_btf_rightMemberNames_v3_L0, d_f (show ¬ ((25 : Int) < (N : Int)) by omega), cond_false])⟩
theorem nm_24 : ∃ r, lpO (st_btf_rightMemberNames_v3_L0 N A) .c24 = some r := by
  by_cases h : 24 < N
  · obtain ⟨r, hr⟩ := nm_25 H
    have e : ((A 24).fName == (⟨#[121]⟩ : ByteArray)) = true := by rw [(H.hA 24 h).1]; decide +kernel
    exact ⟨r, by rw [lpO_next (s' := .c25) (by simp only [st_btf_rightMemberNames_v3_L0, d_t (show (24 : Int) < (N : Int) by omega), inR_t (show (0 : Int) ≤ 24 by decide) (show (24 : Int) < (N : Int) by omega), e, cond_true])]; exact hr⟩
  · exact ⟨.e24, lpO_end (by simp only [st_btf_rightMemberNames_v3_L0, d_f (show ¬ ((24 : Int) < (N : Int)) by omega), cond_false])⟩
theorem nm_23 : ∃ r, lpO (st_btf_rightMemberNames_v3_L0 N A) .c23 = some r := by
  by_cases h : 23 < N
  · obtain ⟨r, hr⟩ := nm_24 H
    have e : ((A 23).fName == (⟨#[120]⟩ : ByteArray)) = true := by rw [(H.hA 23 h).1]; decide +kernel
    exact ⟨r, by rw [lpO_next (s' := .c24) (by simp only [st_btf_rightMemberNames_v3_L0, d_t (show (23 : Int) < (N : Int) by omega), inR_t (show (0 : Int) ≤ 23 by decide) (show (23 : Int) < (N : Int) by omega), e, cond_true])]; exact hr⟩
  · exact ⟨.e23, lpO_end (by simp only [st_btf_rightMemberNames_v3_L0, d_f (show ¬ ((23 : Int) < (N : Int)) by omega), cond_false])⟩
theorem nm_22 : ∃ r, lpO (st_btf_rightMemberNames_v3_L0 N A) .c22 = some r := by
  by_cases h : 22 < N
  · obtain ⟨r, hr⟩ := nm_23 H
    have e : ((A 22).fName == (⟨#[119]⟩ : ByteArray)) = true := by rw [(H.hA 22 h).1]; decide +kernel
    exact ⟨r, by rw [lpO_next (s' := .c23) (by simp only [st_btf_rightMemberNames_v3_L0, d_t (show (22 : Int) < (N : Int) by omega), inR_t (show (0 : Int) ≤ 22 by decide) (show (22 : Int) < (N : Int) by omega), e, cond_true])]; exact hr⟩
  · exact ⟨.e22, lpO_end (by simp only [st_btf_rightMemberNames_v3_L0, d_f (show ¬ ((22 : Int) < (N : Int)) by omega), cond_false])⟩
theorem nm_21 : ∃ r, lpO (st_btf_rightMemberNames_v3_L0 N A) .c21 = some r := by
  by_cases h : 21 < N
  · obtain ⟨r, hr⟩ := nm_22 H
    have e : ((A 21).fName == (⟨#[118]⟩ : ByteArray)) = true := by rw [(H.hA 21 h).1]; decide +kernel
    exact ⟨r, by rw [lpO_next (s' := .c22) (by simp only [st_btf_rightMemberNames_v3_L0, d_t (show (21 : Int) < (N : Int) by omega), inR_t (show (0 : Int) ≤ 21 by decide) (show (21 : Int) < (N : Int) by omega), e, cond_true])]; exact hr⟩
  · exact ⟨.e21, lpO_end (by simp only [st_btf_rightMemberNames_v3_L0, d_f (show ¬ ((21 : Int) < (N : Int)) by omega), cond_false])⟩
theorem nm_20 : ∃ r, lpO (st_btf_rightMemberNames_v3_L0 N A) .c20 = some r := by
  by_cases h : 20 < N
  · obtain ⟨r, hr⟩ := nm_21 H
    have e : ((A 20).fName == (⟨#[117]⟩ : ByteArray)) = true := by rw [(H.hA 20 h).1]; decide +kernel
    exact ⟨r, by rw [lpO_next (s' := .c21) (by simp only [st_btf_rightMemberNames_v3_L0, d_t (show (20 : Int) < (N : Int) by omega), inR_t (show (0 : Int) ≤ 20 by decide) (show (20 : Int) < (N : Int) by omega), e, cond_true])]; exact hr⟩
  · exact ⟨.e20, lpO_end (by simp only [st_btf_rightMemberNames_v3_L0, d_f (show ¬ ((20 : Int) < (N : Int)) by omega), cond_false])⟩
theorem nm_19 : ∃ r, lpO (st_btf_rightMemberNames_v3_L0 N A) .c19 = some r := by
  by_cases h : 19 < N
  · obtain ⟨r, hr⟩ := nm_20 H
    have e : ((A 19).fName == (⟨#[116]⟩ : ByteArray)) = true := by rw [(H.hA 19 h).1]; decide +kernel
    exact ⟨r, by rw [lpO_next (s' := .c20) (by simp only [st_btf_rightMemberNames_v3_L0, d_t (show (19 : Int) < (N : Int) by omega), inR_t (show (0 : Int) ≤ 19 by decide) (show (19 : Int) < (N : Int) by omega), e, cond_true])]; exact hr⟩
  · exact ⟨.e19, lpO_end (by simp only [st_btf_rightMemberNames_v3_L0, d_f (show ¬ ((19 : Int) < (N : Int)) by omega), cond_false])⟩
theorem nm_18 : ∃ r, lpO (st_btf_rightMemberNames_v3_L0 N A) .c18 = some r := by
  by_cases h : 18 < N
  · obtain ⟨r, hr⟩ := nm_19 H
    have e : ((A 18).fName == (⟨#[115]⟩ : ByteArray)) = true := by rw [(H.hA 18 h).1]; decide +kernel
    exact ⟨r, by rw [lpO_next (s' := .c19) (by simp only [st_btf_rightMemberNames_v3_L0, d_t (show (18 : Int) < (N : Int) by omega), inR_t (show (0 : Int) ≤ 18 by decide) (show (18 : Int) < (N : Int) by omega), e, cond_true])]; exact hr⟩
  · exact ⟨.e18, lpO_end (by simp only [st_btf_rightMemberNames_v3_L0, d_f (show ¬ ((18 : Int) < (N : Int)) by omega), cond_false])⟩
theorem nm_17 : ∃ r, lpO (st_btf_rightMemberNames_v3_L0 N A) .c17 = some r := by
  by_cases h : 17 < N
  · obtain ⟨r, hr⟩ := nm_18 H
    have e : ((A 17).fName == (⟨#[114]⟩ : ByteArray)) = true := by rw [(H.hA 17 h).1]; decide +kernel
    exact ⟨r, by rw [lpO_next (s' := .c18) (by simp only [st_btf_rightMemberNames_v3_L0, d_t (show (17 : Int) < (N : Int) by omega), inR_t (show (0 : Int) ≤ 17 by decide) (show (17 : Int) < (N : Int) by omega), e, cond_true])]; exact hr⟩
  · exact ⟨.e17, lpO_end (by simp only [st_btf_rightMemberNames_v3_L0, d_f (show ¬ ((17 : Int) < (N : Int)) by omega), cond_false])⟩
theorem nm_16 : ∃ r, lpO (st_btf_rightMemberNames_v3_L0 N A) .c16 = some r := by
  by_cases h : 16 < N
  · obtain ⟨r, hr⟩ := nm_17 H
    have e : ((A 16).fName == (⟨#[113]⟩ : ByteArray)) = true := by rw [(H.hA 16 h).1]; decide +kernel
    exact ⟨r, by rw [lpO_next (s' := .c17) (by simp only [st_btf_rightMemberNames_v3_L0, d_t (show (16 : Int) < (N : Int) by omega), inR_t (show (0 : Int) ≤ 16 by decide) (show (16 : Int) < (N : Int) by omega), e, cond_true])]; exact hr⟩
  · exact ⟨.e16, lpO_end (by simp only [st_btf_rightMemberNames_v3_L0, d_f (show ¬ ((16 : Int) < (N : Int)) by omega), cond_false])⟩
theorem nm_15 : ∃ r, lpO (st_btf_rightMemberNames_v3_L0 N A) .c15 = some r := by
  by_cases h : 15 < N
  · obtain ⟨r, hr⟩ := nm_16 H
    have e : ((A 15).fName == (⟨#[112]⟩ : ByteArray)) = true := by rw [(H.hA 15 h).1]; decide +kernel
    exact ⟨r, by rw [lpO_next (s' := .c16) (by simp only [st_btf_rightMemberNames_v3_L0, d_t (show (15 : Int) < (N : Int) by omega), inR_t (show (0 : Int) ≤ 15 by decide) (show (15 : Int) < (N : Int) by omega), e, cond_true])]; exact hr⟩
  · exact ⟨.e15, lpO_end (by simp only [st_btf_rightMemberNames_v3_L0, d_f (show ¬ ((15 : Int) < (N : Int)) by omega), cond_false])⟩
theorem nm_14 : ∃ r, lpO (st_btf_rightMemberNames_v3_L0 N A) .c14 = some r := by
  by_cases h : 14 < N
  · obtain ⟨r, hr⟩ := nm_15 H
    have e : ((A 14).fName == (⟨#[111]⟩ : ByteArray)) = true := by rw [(H.hA 14 h).1]; decide +kernel
    exact ⟨r, by rw [lpO_next (s' := .c15) (by simp only [st_btf_rightMemberNames_v3_L0, d_t (show (14 : Int) < (N : Int) by omega), inR_t (show (0 : Int) ≤ 14 by decide) (show (14 : Int) < (N : Int) by omega), e, cond_true])]; exact hr⟩
  · exact ⟨.e14, lpO_end (by simp only [st_btf_rightMemberNames_v3_L0, d_f (show ¬ ((14 : Int) < (N : Int)) by omega), cond_false])⟩
theorem nm_13 : ∃ r, lpO (st_btf_rightMemberNames_v3_L0 N A) .c13 = some r := by
  by_cases h : 13 < N
  · obtain ⟨r, hr⟩ := nm_14 H
    have e : ((A 13).fName == (⟨#[110]⟩ : ByteArray)) = true := by rw [(H.hA 13 h).1]; decide +kernel
    exact ⟨r, by rw [lpO_next (s' := .c14) (by simp only [st_btf_rightMemberNames_v3_L0, d_t (show (13 : Int) < (N : Int) by omega), inR_t (show (0 : Int) ≤ 13 by decide) (show (13 : Int) < (N : Int) by omega), e, cond_true])]; exact hr⟩
  · exact ⟨.e13, lpO_end (by simp only [st_btf_rightMemberNames_v3_L0, d_f (show ¬ ((13 : Int) < (N : Int)) by omega), cond_false])⟩
theorem nm_12 : ∃ r, lpO (st_btf_rightMemberNames_v3_L0 N A) .c12 = some r := by
  by_cases h : 12 < N
  · obtain ⟨r, hr⟩ := nm_13 H
    have e : ((A 12).fName == (⟨#[109]⟩ : ByteArray)) = true := by rw [(H.hA 12 h).1]; decide +kernel
    exact ⟨r, by rw [lpO_next (s' := .c13) (by simp only [st_btf_rightMemberNames_v3_L0, d_t (show (12 : Int) < (N : Int) by omega), inR_t (show (0 : Int) ≤ 12 by decide) (show (12 : Int) < (N : Int) by omega), e, cond_true])]; exact hr⟩
  · exact ⟨.e12, lpO_end (by simp only [st_btf_rightMemberNames_v3_L0, d_f (show ¬ ((12 : Int) < (N : Int)) by omega), cond_false])⟩
theorem nm_11 : ∃ r, lpO (st_btf_rightMemberNames_v3_L0 N A) .c11 = some r := by
  by_cases h : 11 < N
  · obtain ⟨r, hr⟩ := nm_12 H
    have e : ((A 11).fName == (⟨#[108]⟩ : ByteArray)) = true := by rw [(H.hA 11 h).1]; decide +kernel
    exact ⟨r, by rw [lpO_next (s' := .c12) (by simp only [st_btf_rightMemberNames_v3_L0, d_t (show (11 : Int) < (N : Int) by omega), inR_t (show (0 : Int) ≤ 11 by decide) (show (11 : Int) < (N : Int) by omega), e, cond_true])]; exact hr⟩
  · exact ⟨.e11, lpO_end (by simp only [st_btf_rightMemberNames_v3_L0, d_f (show ¬ ((11 : Int) < (N : Int)) by omega), cond_false])⟩
theorem nm_10 : ∃ r, lpO (st_btf_rightMemberNames_v3_L0 N A) .c10 = some r := by
  by_cases h : 10 < N
  · obtain ⟨r, hr⟩ := nm_11 H
    have e : ((A 10).fName == (⟨#[107]⟩ : ByteArray)) = true := by rw [(H.hA 10 h).1]; decide +kernel
    exact ⟨r, by rw [lpO_next (s' := .c11) (by simp only [st_btf_rightMemberNames_v3_L0, d_t (show (10 : Int) < (N : Int) by omega), inR_t (show (0 : Int) ≤ 10 by decide) (show (10 : Int) < (N : Int) by omega), e, cond_true])]; exact hr⟩
  · exact ⟨.e10, lpO_end (by simp only [st_btf_rightMemberNames_v3_L0, d_f (show ¬ ((10 : Int) < (N : Int)) by omega), cond_false])⟩
theorem nm_9 : ∃ r, lpO (st_btf_rightMemberNames_v3_L0 N A) .c9 = some r := by
  by_cases h : 9 < N
  · obtain ⟨r, hr⟩ := nm_10 H
    have e : ((A 9).fName == (⟨#[106]⟩ : ByteArray)) = true := by rw [(H.hA 9 h).1]; decide +kernel
    exact ⟨r, by rw [lpO_next (s' := .c10) (by simp only [st_btf_rightMemberNames_v3_L0, d_t (show (9 : Int) < (N : Int) by omega), inR_t (show (0 : Int) ≤ 9 by decide) (show (9 : Int) < (N : Int) by omega), e, cond_true])]; exact hr⟩
  · exact ⟨.e9, lpO_end (by simp only [st_btf_rightMemberNames_v3_L0, d_f (show ¬ ((9 : Int) < (N : Int)) by omega), cond_false])⟩
theorem nm_8 : ∃ r, lpO (st_btf_rightMemberNames_v3_L0 N A) .c8 = some r := by
  by_cases h : 8 < N
  · obtain ⟨r, hr⟩ := nm_9 H
    have e : ((A 8).fName == (⟨#[105]⟩ : ByteArray)) = true := by rw [(H.hA 8 h).1]; decide +kernel
    exact ⟨r, by rw [lpO_next (s' := .c9) (by simp only [st_btf_rightMemberNames_v3_L0, d_t (show (8 : Int) < (N : Int) by omega), inR_t (show (0 : Int) ≤ 8 by decide) (show (8 : Int) < (N : Int) by omega), e, cond_true])]; exact hr⟩
  · exact ⟨.e8, lpO_end (by simp only [st_btf_rightMemberNames_v3_L0, d_f (show ¬ ((8 : Int) < (N : Int)) by omega), cond_false])⟩
theorem nm_7 : ∃ r, lpO (st_btf_rightMemberNames_v3_L0 N A) .c7 = some r := by
  by_cases h : 7 < N
  · obtain ⟨r, hr⟩ := nm_8 H
    have e : ((A 7).fName == (⟨#[104]⟩ : ByteArray)) = true := by rw [(H.hA 7 h).1]; decide +kernel
    exact ⟨r, by rw [lpO_next (s' := .c8) (by simp only [st_btf_rightMemberNames_v3_L0, d_t (show (7 : Int) < (N : Int) by omega), inR_t (show (0 : Int) ≤ 7 by decide) (show (7 : Int) < (N : Int) by omega), e, cond_true])]; exact hr⟩
  · exact ⟨.e7, lpO_end (by simp only [st_btf_rightMemberNames_v3_L0, d_f (show ¬ ((7 : Int) < (N : Int)) by omega), cond_false])⟩
theorem nm_6 : ∃ r, lpO (st_btf_rightMemberNames_v3_L0 N A) .c6 = some r := by
  by_cases h : 6 < N
  · obtain ⟨r, hr⟩ := nm_7 H
    have e : ((A 6).fName == (⟨#[103]⟩ : ByteArray)) = true := by rw [(H.hA 6 h).1]; decide +kernel
    exact ⟨r, by rw [lpO_next (s' := .c7) (by simp only [st_btf_rightMemberNames_v3_L0, d_t (show (6 : Int) < (N : Int) by omega), inR_t (show (0 : Int) ≤ 6 by decide) (show (6 : Int) < (N : Int) by omega), e, cond_true])]; exact hr⟩
  · exact ⟨.e6, lpO_end (by simp only [st_btf_rightMemberNames_v3_L0, d_f (show ¬ ((6 : Int) < (N : Int)) by omega), cond_false])⟩
theorem nm_5 : ∃ r, lpO (st_btf_rightMemberNames_v3_L0 N A) .c5 = some r := by
  by_cases h : 5 < N
  · obtain ⟨r, hr⟩ := nm_6 H
    have e : ((A 5).fName == (⟨#[102]⟩ : ByteArray)) = true := by rw [(H.hA 5 h).1]; decide +kernel
    exact ⟨r, by rw [lpO_next (s' := .c6) (by simp only [st_btf_rightMemberNames_v3_L0, d_t (show (5 : Int) < (N : Int) by omega), inR_t (show (0 : Int) ≤ 5 by decide) (show (5 : Int) < (N : Int) by omega), e, cond_true])]; exact hr⟩
  · exact ⟨.e5, lpO_end (by simp only [st_btf_rightMemberNames_v3_L0, d_f (show ¬ ((5 : Int) < (N : Int)) by omega), cond_false])⟩
theorem nm_4 : ∃ r, lpO (st_btf_rightMemberNames_v3_L0 N A) .c4 = some r := by
  by_cases h : 4 < N
  · obtain ⟨r, hr⟩ := nm_5 H
    have e : ((A 4).fName == (⟨#[101]⟩ : ByteArray)) = true := by rw [(H.hA 4 h).1]; decide +kernel
    exact ⟨r, by rw [lpO_next (s' := .c5) (by simp only [st_btf_rightMemberNames_v3_L0, d_t (show (4 : Int) < (N : Int) by omega), inR_t (show (0 : Int) ≤ 4 by decide) (show (4 : Int) < (N : Int) by omega), e, cond_true])]; exact hr⟩
  · exact ⟨.e4, lpO_end (by simp only [st_btf_rightMemberNames_v3_L0, d_f (show ¬ ((4 : Int) < (N : Int)) by omega), cond_false])⟩
theorem nm_3 : ∃ r, lpO (st_btf_rightMemberNames_v3_L0 N A) .c3 = some r := by
  by_cases h : 3 < N
  · obtain ⟨r, hr⟩ := nm_4 H
    have e : ((A 3).fName == (⟨#[100]⟩ : ByteArray)) = true := by rw [(H.hA 3 h).1]; decide +kernel
    exact ⟨r, by rw [lpO_next (s' := .c4) (by simp only [st_btf_rightMemberNames_v3_L0, d_t (show (3 : Int) < (N : Int) by omega), inR_t (show (0 : Int) ≤ 3 by decide) (show (3 : Int) < (N : Int) by omega), e, cond_true])]; exact hr⟩
  · exact ⟨.e3, lpO_end (by simp only [st_btf_rightMemberNames_v3_L0, d_f (show ¬ ((3 : Int) < (N : Int)) by omega), cond_false])⟩
theorem nm_2 : ∃ r, lpO (st_btf_rightMemberNames_v3_L0 N A) .c2 = some r := by
  by_cases h : 2 < N
  · obtain ⟨r, hr⟩ := nm_3 H
    have e : ((A 2).fName == (⟨#[99]⟩ : ByteArray)) = true := by rw [(H.hA 2 h).1]; decide +kernel
    exact ⟨r, by rw [lpO_next (s' := .c3) (by simp only [st_btf_rightMemberNames_v3_L0, d_t (show (2 : Int) < (N : Int) by omega), inR_t (show (0 : Int) ≤ 2 by decide) (show (2 : Int) < (N : Int) by omega), e, cond_true])]; exact hr⟩
  · exact ⟨.e2, lpO_end (by simp only [st_btf_rightMemberNames_v3_L0, d_f (show ¬ ((2 : Int) < (N : Int)) by omega), cond_false])⟩
theorem nm_1 : ∃ r, lpO (st_btf_rightMemberNames_v3_L0 N A) .c1 = some r := by
  by_cases h : 1 < N
  · obtain ⟨r, hr⟩ := nm_2 H
    have e : ((A 1).fName == (⟨#[98]⟩ : ByteArray)) = true := by rw [(H.hA 1 h).1]; decide +kernel
    exact ⟨r, by rw [lpO_next (s' := .c2) (by simp only [st_btf_rightMemberNames_v3_L0, d_t (show (1 : Int) < (N : Int) by omega), inR_t (show (0 : Int) ≤ 1 by decide) (show (1 : Int) < (N : Int) by omega), e, cond_true])]; exact hr⟩
  · exact ⟨.e1, lpO_end (by simp only [st_btf_rightMemberNames_v3_L0, d_f (show ¬ ((1 : Int) < (N : Int)) by omega), cond_false])⟩
theorem nm_0 : ∃ r, lpO (st_btf_rightMemberNames_v3_L0 N A) .c0 = some r := by
  by_cases h : 0 < N
  · obtain ⟨r, hr⟩ := nm_1 H
    have e : ((A 0).fName == (⟨#[97]⟩ : ByteArray)) = true := by rw [(H.hA 0 h).1]; decide +kernel
    exact ⟨r, by rw [lpO_next (s' := .c1) (by simp only [st_btf_rightMemberNames_v3_L0, d_t (show (0 : Int) < (N : Int) by omega), inR_t (show (0 : Int) ≤ 0 by decide) (show (0 : Int) < (N : Int) by omega), e, cond_true])]; exact hr⟩
  · exact ⟨.e0, lpO_end (by simp only [st_btf_rightMemberNames_v3_L0, d_f (show ¬ ((0 : Int) < (N : Int)) by omega), cond_false])⟩
theorem names_eq (a : Int) : m_btf_rightMemberNames_v3 a N A = some .e0 := by
  obtain ⟨r, hr⟩ := nm_0 H
  unfold m_btf_rightMemberNames_v3
  rw [hr]
  cases r <;> rfl
theorem refs_go : ∀ d s, s + d = N → lpO (st_btf_rightReferences_v3_L0 2 N A) (.c0 (s : Int)) = some .e0
  | 0, s, h => lpO_end (by simp only [st_btf_rightReferences_v3_L0, d_f (show ¬ ((s : Int) < (N : Int)) by omega), cond_false])
  | d + 1, s, h => by
    have hN := H.hN
    have e := (H.hA s (by omega)).2.1
    rw [lpO_next (s' := .c0 ((s + 1 : Nat) : Int)) (by
      simp only [st_btf_rightReferences_v3_L0, d_t (show (s : Int) < (N : Int) by omega), inR_nat' (show s < N by omega), w_succ s (by omega), cond_true, Int.toNat_natCast, e]
      rfl)]
    exact refs_go d (s + 1) (by omega)
theorem type_1 : m_btf_checkType_v3 2 ((N * V : Nat) : Int) N A = some (.e0 0) := by
  have hN := H.hN
  have hp := (place H 0 (by have := H.h1; omega)).2
  have hr : m_btf_rightReferences_v3 2 ((N * V : Nat) : Int) N A = some (.e0 true) := by
    have := refs_go H N 0 (by omega)
    simp only [m_btf_rightReferences_v3]
    rw [show (0 : Int) = ((0 : Nat) : Int) from rfl, this]
    rfl
  have hs : m_btf_rightSize_v3 ((N * V : Nat) : Int) N A = some (.e0 true) := by
    simp only [m_btf_rightSize_v3, d_t (show (0 : Int) ≤ ((N * V : Nat) : Int) by omega), d_t (show ((N * V : Nat) : Int) ≤ 65536 by omega), cond_true]
  simp only [m_btf_checkType_v3, hr, hs, names_eq H, Option.bind_some]
  rfl
theorem held_go : ∀ d s B, s + d = N → (∀ j, j < s → B j = 1) → ∃ B', lpO (st_btf_held_v3_L0 N A) (.c1 s B (s : Int)) = some (.e1 N B') ∧ ∀ j, j < N → B' j = 1
  | 0, s, B, h, hB => by
    obtain rfl : s = N := by omega
    exact ⟨B, lpO_end (by simp only [st_btf_held_v3_L0, d_f (show ¬ ((s : Int) < (s : Int)) by omega), cond_false]), hB⟩
  | d + 1, s, B, h, hB => by
    have hN := H.hN
    have e := (H.hA s (by omega)).2.1
    obtain ⟨B', h1, h2⟩ := held_go d (s + 1) (updF B s 1) (by omega) (fun j hj => by
      by_cases e : j = s
      · subst e; exact updF_at _ _ _
      · rw [updF_ne _ _ e]; exact hB j (by omega))
    refine ⟨B', ?_, h2⟩
    rw [← h1]
    exact lpO_next (by simp only [st_btf_held_v3_L0, d_t (show (s : Int) < (N : Int) by omega), inR_nat' (show s < N by omega), d_t (show s ≤ 1000000 by omega), w_succ s (by omega), cond_true, Int.toNat_natCast, e])
theorem held_eq (a : Int) : ∃ B, m_btf_held_v3 a N A = some (.e1 N B) ∧ ∀ j, j < N → B j = 1 := by
  have h1 := H.h1
  have e := (H.hA 0 (by omega)).2.1
  obtain ⟨B, hB, h⟩ := held_go H (N - 1) 1 (fun _ => 1) (by omega) (fun _ _ => rfl)
  refine ⟨B, ?_, h⟩
  unfold m_btf_held_v3
  rw [lpO_next (s' := .c1 1 (fun _ => 1) ((1 : Nat) : Int)) (by simp only [st_btf_held_v3_L0, d_t (show (0 : Int) < (N : Int) by omega), inR_t (show (0 : Int) ≤ 0 by omega) (show (0 : Int) < (N : Int) by omega), cond_true, e]; rfl), hB]
  rfl
omit H in
theorem its_go {B : Nat → Int} (hB : ∀ j, j < N → B j = 1) (hN : N ≤ 40) : ∀ d s sn, s + d = N → ∃ sn', lpO (st_btf_holdsItself_1_v4_L0 N B) (.c0 sn (s : Int)) = some (.e0 sn')
  | 0, s, sn, h => ⟨sn, lpO_end (by simp only [st_btf_holdsItself_1_v4_L0, d_f (show ¬ ((s : Int) < (N : Int)) by omega), cond_false])⟩
  | d + 1, s, sn, h => by
    have e := hB s (by omega)
    cases hs : sn 1
    · obtain ⟨r, hr⟩ := its_go hB hN d (s + 1) (updF sn 1 true) (by omega)
      exact ⟨r, by rw [← hr]; exact lpO_next (by simp only [st_btf_holdsItself_1_v4_L0, d_t (show (s : Int) < (N : Int) by omega), inR_nat' (show s < N by omega), w_succ s (by omega), cond_true, Int.toNat_natCast, e, hs]; rfl)⟩
    · obtain ⟨r, hr⟩ := its_go hB hN d (s + 1) sn (by omega)
      exact ⟨r, by rw [← hr]; exact lpO_next (by simp only [st_btf_holdsItself_1_v4_L0, d_t (show (s : Int) < (N : Int) by omega), inR_nat' (show s < N by omega), w_succ s (by omega), cond_true, Int.toNat_natCast, e, hs]; rfl)⟩
theorem its_eq (a b : Int) : m_btf_holdsItself_v1 a b N A = some .e0 := by
  obtain ⟨B, h1, h2⟩ := held_eq H b
  obtain ⟨r, hr⟩ := its_go h2 H.hN N 0 (fun _ => false) (by omega)
  have hr' : lpO (st_btf_holdsItself_1_v4_L0 N B) (.c0 (fun _ => false) 0) = some (.e0 r) := hr
  simp only [m_btf_holdsItself_v1, m_btf_holdsItself_1_v4, h1, hr', Option.bind_some]
theorem fun_go : ∀ d s, s + d = N → lpO (st_btf_holdsFunction_v3_L0 N A) (.c0 (s : Int)) = some .e0
  | 0, s, h => lpO_end (by simp only [st_btf_holdsFunction_v3_L0, d_f (show ¬ ((s : Int) < (N : Int)) by omega), cond_false])
  | d + 1, s, h => by
    have hN := H.hN
    have e := (H.hA s (by omega)).2.1
    rw [lpO_next (s' := .c0 ((s + 1 : Nat) : Int)) (by
      simp only [st_btf_holdsFunction_v3_L0, d_t (show (s : Int) < (N : Int) by omega), inR_nat' (show s < N by omega), w_succ s (by omega), cond_true, Int.toNat_natCast, e]
      rfl)]
    exact fun_go d (s + 1) (by omega)
theorem fit_go : ∀ d s (t : Nat), s + d = N → (t ≤ s * V) → lpO (st_btf_fits_v3_L0 (u : Int) ((N * V : Nat) : Int) N A) (.c0 (t : Int) (s : Int)) = some .e0
  | 0, s, t, h, ht => lpO_end (by simp only [st_btf_fits_v3_L0, d_f (show ¬ ((s : Int) < (N : Int)) by omega), cond_false])
  | d + 1, s, t, h, ht => by
    have hN := H.hN
    have hV := H.hV
    have hp := place H s (by omega)
    have e := (H.hA s (by omega)).2.1
    have e' := (H.hA s (by omega)).2.2
    have hw : IntKind.i64.wrap (((s * V : Nat) : Int) + (u : Int)) = ((s * V + u : Nat) : Int) := by rw [wr] <;> omega
    rw [lpO_next (s' := .c0 ((s * V + u : Nat) : Int) ((s + 1 : Nat) : Int)) (by
      simp only [st_btf_fits_v3_L0, d_t (show (s : Int) < (N : Int) by omega), inR_nat' (show s < N by omega), w_succ s (by omega), cond_true, Int.toNat_natCast, e, e', rem8, quo8 (s * V) (by omega), hw,
        d_f (show ¬ (((8 * (s * V) : Nat) : Int) < 0) by omega), d_f (show ¬ (((s * V : Nat) : Int) < (t : Int)) by omega), d_f (show ¬ (((N * V : Nat) : Int) < ((s * V + u : Nat) : Int)) by omega)]
      rfl)]
    exact fit_go d (s + 1) (s * V + u) (by omega) (by rw [Nat.succ_mul]; omega)
theorem check_eq : m_btf_Check_v1 (u : Int) ((N * V : Nat) : Int) N A = some (.e0 0 0) := by
  have h1 : m_btf_holdsFunction_v3 ((N * V : Nat) : Int) N (u : Int) A = some .e0 := by
    have : lpO (st_btf_holdsFunction_v3_L0 N A) (.c0 0) = some .e0 := fun_go H N 0 (by omega)
    simp only [m_btf_holdsFunction_v3, this, Option.bind_some]
  have h2 : m_btf_fits_v3 (u : Int) ((N * V : Nat) : Int) N A = some (.e0 true) := by
    have : lpO (st_btf_fits_v3_L0 (u : Int) ((N * V : Nat) : Int) N A) (.c0 0 0) = some .e0 := fit_go H N 0 0 (by omega) (by omega)
    simp only [m_btf_fits_v3, this, Option.bind_some]
  simp only [m_btf_Check_v1, many_eq H, type_0 H, type_1 H, its_eq H, h1, h2, Option.bind_some]
  rfl
theorem size_eq : m_btf_Size_v1 (u : Int) ((N * V : Nat) : Int) N A = some (.e0 ((N * V : Nat) : Int) 0) := by
  simp only [m_btf_Size_v1, m_btf_Resolve_v1, check_eq H, Option.bind_some]
  rfl
/-- The member in which a byte lies. -/
theorem mem_next (s : Nat) (hs : s < N) (y : Nat) (hy : y < s * V ∨ s * V + u ≤ y) : lpO (st_btf_memberAt_v2_L0 (y : Int) N (u : Int) A) (.c0 (s : Int)) = lpO (st_btf_memberAt_v2_L0 (y : Int) N (u : Int) A) (.c0 ((s + 1 : Nat) : Int)) := by
  have hN := H.hN
  have hV := H.hV
  have hp := place H s hs
  have e := (H.hA s hs).2.1
  have e' := (H.hA s hs).2.2
  have hw : IntKind.i64.wrap (((s * V : Nat) : Int) + (u : Int)) = ((s * V + u : Nat) : Int) := by rw [wr] <;> omega
  refine lpO_next ?_
  simp only [st_btf_memberAt_v2_L0, d_t (show (s : Int) < (N : Int) by omega), inR_nat' hs, w_succ s (by omega), cond_true, Int.toNat_natCast, e, e', quo8 (s * V) (by omega), hw]
  rcases hy with hy | hy
  · rw [d_f (show ¬ (((s * V : Nat) : Int) ≤ (y : Int)) by omega)]; rfl
  · by_cases h : ((s * V : Nat) : Int) ≤ (y : Int)
    · rw [d_t h, d_f (show ¬ ((y : Int) < ((s * V + u : Nat) : Int)) by omega)]; rfl
    · rw [d_f h]; rfl
theorem mem_skip (y : Nat) : ∀ d s t, s + d = t → t ≤ N → (∀ i, s ≤ i → i < t → y < i * V ∨ i * V + u ≤ y) → lpO (st_btf_memberAt_v2_L0 (y : Int) N (u : Int) A) (.c0 (s : Int)) = lpO (st_btf_memberAt_v2_L0 (y : Int) N (u : Int) A) (.c0 (t : Int))
  | 0, s, t, h, _, _ => by rw [show s = t by omega]
  | d + 1, s, t, h, h1, h2 => by rw [mem_next H s (by omega) y (h2 s (Nat.le_refl _) (by omega))]; exact mem_skip y d (s + 1) t (by omega) h1 (fun i hi hi' => h2 i (by omega) hi')
theorem mem_in (a : Int) (k r : Nat) (hk : k < N) (hr : r < u) : m_btf_memberAt_v2 ((k * V + r : Nat) : Int) a N (u : Int) A = some (.e0 (nameA k) 1 ((8 * (k * V) : Nat) : Int) true) := by
  have hN := H.hN
  have hV := H.hV
  have hp := place H k hk
  obtain ⟨en, e, e'⟩ := H.hA k hk
  have hw : IntKind.i64.wrap (((k * V : Nat) : Int) + (u : Int)) = ((k * V + u : Nat) : Int) := by rw [wr] <;> omega
  have h0 : lpO (st_btf_memberAt_v2_L0 ((k * V + r : Nat) : Int) N (u : Int) A) (.c0 0) = some (.e1 (nameA k) ((8 * (k * V) : Nat) : Int)) := by
    rw [show (0 : Int) = ((0 : Nat) : Int) from rfl, mem_skip H (k * V + r) k 0 k (by omega) (by omega) (fun i _ hi => by
      have h1 : (i + 1) * V ≤ k * V := Nat.mul_le_mul_right V hi
      rw [Nat.succ_mul] at h1
      omega)]
    exact lpO_end (by
      simp only [st_btf_memberAt_v2_L0, d_t (show (k : Int) < (N : Int) by omega), inR_nat' hk, cond_true, Int.toNat_natCast, en, e, e', quo8 (k * V) (by omega), hw,
        d_t (show ((k * V : Nat) : Int) ≤ ((k * V + r : Nat) : Int) by omega), d_t (show ((k * V + r : Nat) : Int) < ((k * V + u : Nat) : Int) by omega)]
      rfl)
  simp only [m_btf_memberAt_v2, h0, Option.bind_some]
theorem mem_out (a : Int) (k r : Nat) (hr : u ≤ r) (hr' : r < V) : m_btf_memberAt_v2 ((k * V + r : Nat) : Int) a N (u : Int) A = some (.e0 (⟨#[]⟩ : ByteArray) 0 0 false) := by
  have h0 : lpO (st_btf_memberAt_v2_L0 ((k * V + r : Nat) : Int) N (u : Int) A) (.c0 0) = some .e0 := by
    rw [show (0 : Int) = ((0 : Nat) : Int) from rfl, mem_skip H (k * V + r) N 0 N (by omega) (Nat.le_refl _) (fun i _ hi => by
      by_cases hik : i ≤ k
      · have h1 : i * V ≤ k * V := Nat.mul_le_mul_right V hik
        omega
      · have h1 : (k + 1) * V ≤ i * V := Nat.mul_le_mul_right V (by omega)
        rw [Nat.succ_mul] at h1
        omega)]
    exact lpO_end (by simp only [st_btf_memberAt_v2_L0, d_f (show ¬ ((N : Int) < (N : Int)) by omega), cond_false])
  simp only [m_btf_memberAt_v2, h0, Option.bind_some]
/-- What is told of a byte. -/
theorem field_in (k r : Nat) (hk : k < N) (hr : r < u) : m_btf_Field_v2 ((k * V + r : Nat) : Int) (u : Int) ((N * V : Nat) : Int) N A = some (.e0 ((⟨#[46]⟩ : ByteArray) ++ nameA k) 0) := by
  have hN := H.hN
  have hV := H.hV
  have hp := place H k hk
  have hs := name_size k
  have s1 : (⟨#[46]⟩ : ByteArray).size = 1 := rfl
  have s0 : (⟨#[]⟩ : ByteArray).size = 0 := rfl
  have e1 : IntKind.i64.wrap (((k * V + r : Nat) : Int) - ((k * V : Nat) : Int)) = (r : Int) := by rw [wr] <;> omega
  have e2 : IntKind.i64.wrap ((r : Int) + 1) = ((r + 1 : Nat) : Int) := by rw [wr] <;> omega
  have e3 : IntKind.i64.wrap (((N * V : Nat) : Int) - 1) = ((N * V : Nat) : Int) - 1 := by rw [wr] <;> omega
  have e4 : (⟨#[]⟩ : ByteArray) ++ ((⟨#[46]⟩ : ByteArray) ++ nameA k) = (⟨#[46]⟩ : ByteArray) ++ nameA k := ByteArray.empty_append
  have hw : m_btf_wayTo_v2 ((k * V + r : Nat) : Int) (u : Int) ((N * V : Nat) : Int) N A = some (.e0 ((⟨#[46]⟩ : ByteArray) ++ nameA k) true) := by
    simp only [m_btf_wayTo_v2, mem_in H _ k r hk hr, Option.bind_some, cond_true, d_t (show (⟨#[46]⟩ : ByteArray).size + (nameA k).size ≤ 9223372036854775807 by omega), d_t (show (⟨#[]⟩ : ByteArray).size + ((⟨#[46]⟩ : ByteArray) ++ nameA k).size ≤ 9223372036854775807 by rw [ByteArray.size_append]; omega),
      quo8 (k * V) (by omega), e1, e2, d_t (show ((r + 1 : Nat) : Int) ≤ (u : Int) by omega), e4]
    rfl
  simp only [m_btf_Field_v2, size_eq H, hw, Option.bind_some, d_f (show ¬ (((k * V + r : Nat) : Int) < 0) by omega), e3, d_f (show ¬ (((N * V : Nat) : Int) - 1 < ((k * V + r : Nat) : Int)) by omega), cond_false]
  rfl
theorem field_out (k r : Nat) (hk : k < N) (hr : u ≤ r) (hr' : r < V) : m_btf_Field_v2 ((k * V + r : Nat) : Int) (u : Int) ((N * V : Nat) : Int) N A = some (.e0 (⟨#[]⟩ : ByteArray) 41) := by
  have hN := H.hN
  have hp := place H k hk
  have e3 : IntKind.i64.wrap (((N * V : Nat) : Int) - 1) = ((N * V : Nat) : Int) - 1 := by rw [wr] <;> omega
  have hw : m_btf_wayTo_v2 ((k * V + r : Nat) : Int) (u : Int) ((N * V : Nat) : Int) N A = some (.e0 (⟨#[]⟩ : ByteArray) false) := by
    simp only [m_btf_wayTo_v2, mem_out H _ k r hr hr', Option.bind_some, cond_false]
  simp only [m_btf_Field_v2, size_eq H, hw, Option.bind_some, d_f (show ¬ (((k * V + r : Nat) : Int) < 0) by omega), e3, d_f (show ¬ (((N * V : Nat) : Int) - 1 < ((k * V + r : Nat) : Int)) by omega), cond_false]
  rfl
theorem field_end : m_btf_Field_v2 ((N * V : Nat) : Int) (u : Int) ((N * V : Nat) : Int) N A = some (.e0 (⟨#[]⟩ : ByteArray) 43) := by
  have hp := place H 0 H.h1
  have e3 : IntKind.i64.wrap (((N * V : Nat) : Int) - 1) = ((N * V : Nat) : Int) - 1 := by rw [wr] <;> omega
  simp only [m_btf_Field_v2, size_eq H, Option.bind_some, d_f (show ¬ (((N * V : Nat) : Int) < 0) by omega), e3, d_t (show ((N * V : Nat) : Int) - 1 < ((N * V : Nat) : Int) by omega), cond_false, cond_true]
  rfl
end

theorem units (y : BitVec 8) : ∃ u : Nat, zshl 1 ((y % 4#8)).toNat = (u : Int) ∧ (u = 1 ∨ u = 2 ∨ u = 4 ∨ u = 8) := by
  have h : ((y % 4#8)).toNat < 4 := by rw [BitVec.toNat_umod]; exact Nat.mod_lt _ (by decide)
  generalize ((y % 4#8)).toNat = k at h
  match k, h with
  | 0, _ => exact ⟨1, by decide, by decide⟩
  | 1, _ => exact ⟨2, by decide, by decide⟩
  | 2, _ => exact ⟨4, by decide, by decide⟩
  | 3, _ => exact ⟨8, by decide, by decide⟩
  | k + 4, h => omega
theorem make_go {u V n g : Nat} {y1 : BitVec 8} (hz : zshl 1 ((y1 % 4#8)).toNat = (u : Int)) (hg : V = u + g) (hu : u = 1 ∨ u = 2 ∨ u = 4 ∨ u = 8) (hV : V ≤ 16) (hn : n ≤ 40) (h1 : 1 ≤ n) : ∀ d s A, s + d = n → 1 ≤ s →
    (∀ j, j < s → (A j).fName = nameA j ∧ (A j).fType = 1 ∧ (A j).fBits = ((8 * (j * V) : Nat) : Int)) →
    ∃ A', lpO (st_barbicanlaw4_BtfStructs_L0 (n : Int) y1 (g : Int)) (.c1 ((n * V : Nat) : Int) s A (s : Int)) = some (.e0 ((n * V : Nat) : Int) n A') ∧ AllS u V n A'
  | 0, s, A, h, hs, hA => by
    obtain rfl : s = n := by omega
    exact ⟨A, lpO_end (by simp only [st_barbicanlaw4_BtfStructs_L0, d_f (show ¬ ((s : Int) < (s : Int)) by omega), cond_false]), hu, by omega, hV, h1, hn, hA⟩
  | d + 1, s, A, h, hs, hA => by
    have hb : s * V ≤ 40 * 16 := Nat.mul_le_mul (by omega) hV
    have e0 : IntKind.i64.wrap ((u : Int) + (g : Int)) = ((V : Nat) : Int) := by rw [wr] <;> omega
    have e1 : IntKind.i64.wrap (8 * (s : Int)) = ((8 * s : Nat) : Int) := by rw [wr] <;> omega
    have e2 : IntKind.i64.wrap (((8 * s : Nat) : Int) * ((V : Nat) : Int)) = ((8 * (s * V) : Nat) : Int) := by
      have : ((8 * s : Nat) : Int) * ((V : Nat) : Int) = ((8 * (s * V) : Nat) : Int) := by rw [← Int.natCast_mul, Nat.mul_assoc]
      rw [this, wr] <;> omega
    obtain ⟨A', h2, h3⟩ := make_go hz hg hu hV hn h1 d (s + 1) (updF A s ⟨nameA s, 1, ((8 * (s * V) : Nat) : Int)⟩) (by omega) (by omega) (fun j hj => by
      by_cases e : j = s
      · subst e; rw [updF_at]; exact ⟨rfl, rfl, rfl⟩
      · rw [updF_ne _ _ e]; exact hA j (by omega))
    refine ⟨A', ?_, h3⟩
    rw [← h2]
    refine lpO_next ?_
    simp only [st_barbicanlaw4_BtfStructs_L0, bindT, hz, e0, e1, e2, d_t (show (s : Int) < (n : Int) by omega), w_succ s (by omega), inR_nat' (show s + 1 < 52 + 1 by omega), Int.toNat_natCast, inR_nat' (show s < s + 1 + 1 by omega), d_t (show s ≤ 1000000 by omega), cond_true]
    rfl
theorem look_go {u V N g : Nat} {A : Nat → Member} {y1 : BitVec 8} (H : AllS u V N A) (hz : zshl 1 ((y1 % 4#8)).toNat = (u : Int)) (hg : V = u + g) : ∀ d s, s + d = N * V →
    lpO (st_barbicanlaw4_BtfStructs_L1 y1 (g : Int) ((N * V : Nat) : Int) N A) (.c0 (s : Int)) = some (.e0 (u : Int))
  | 0, s, h => by
    obtain rfl : s = N * V := by omega
    exact lpO_end (by simp only [st_barbicanlaw4_BtfStructs_L1, d_f (show ¬ (((N * V : Nat) : Int) < ((N * V : Nat) : Int)) by omega), cond_false, hz])
  | d + 1, s, h => by
    have hu := H.hu
    have hV := H.hV
    have hV' := H.hV'
    have hN := H.hN
    have hb := (place H 0 H.h1).2
    have e0 : IntKind.i64.wrap ((u : Int) + (g : Int)) = ((V : Nat) : Int) := by rw [wr] <;> omega
    have en : (((V : Nat) : Int) == 0) = false := by rw [Bool.eq_false_iff]; intro e; have := eq_of_beq e; omega
    have hk : s / V < N := Nat.div_lt_of_lt_mul (by rw [Nat.mul_comm]; omega)
    have hr : s % V < V := Nat.mod_lt _ (by omega)
    have hs : s / V * V + s % V = s := by rw [Nat.mul_comm]; exact Nat.div_add_mod s V
    have e1 : zrem (s : Int) (V : Int) = ((s % V : Nat) : Int) := by unfold zrem; rw [Int.tmod_eq_emod_of_nonneg (by omega)]; rfl
    have e2 : zquo (s : Int) (V : Int) = ((s / V : Nat) : Int) := by
      unfold zquo
      rw [Int.tdiv_eq_ediv_of_nonneg (by omega)]
      show IntKind.i64.wrap ((s / V : Nat) : Int) = _
      exact wr (Int.le_trans (by decide) (Int.natCast_nonneg _)) (Int.lt_trans (Int.ofNat_lt.2 hk) (by omega))
    rw [← look_go H hz hg d (s + 1) (by omega)]
    refine lpO_next ?_
    by_cases hin : s % V < u
    · have hf := field_in H (s / V) (s % V) hk hin
      rw [hs] at hf
      have hsz := name_size (s / V)
      have s1 : (⟨#[46]⟩ : ByteArray).size = 1 := rfl
      simp only [st_barbicanlaw4_BtfStructs_L1, hz, e0, en, e1, e2, hf, d_t (show (s : Int) < ((N * V : Nat) : Int) by omega), w_succ s (by omega), w_succ (s / V) (by omega), Option.bind_some, cond_true, cond_false, d_f (show ¬ ((u : Int) ≤ ((s % V : Nat) : Int)) by omega), inR_nat' (show s / V + 1 < 52 + 1 by omega), Int.toNat_natCast, inR_nat' (show s / V < s / V + 1 + 1 by omega)]
      show (bif (0 : Int) == 0 then (bif decide ((⟨#[46]⟩ : ByteArray).size + (nameA (s / V)).size ≤ 9223372036854775807) then (bif ((⟨#[46]⟩ : ByteArray) ++ nameA (s / V)) != ((⟨#[46]⟩ : ByteArray) ++ nameA (s / V)) then _ else _) else _) else _) = _
      rw [d_t (show (⟨#[46]⟩ : ByteArray).size + (nameA (s / V)).size ≤ 9223372036854775807 by omega)]
      have e9 : (((⟨#[46]⟩ : ByteArray) ++ nameA (s / V)) != ((⟨#[46]⟩ : ByteArray) ++ nameA (s / V))) = false := ba_nne _
      rw [e9]
      rfl
    · have hf := field_out H (s / V) (s % V) hk (by omega) hr
      rw [hs] at hf
      simp only [st_barbicanlaw4_BtfStructs_L1, hz, e0, en, e1, e2, hf, d_t (show (s : Int) < ((N * V : Nat) : Int) by omega), w_succ s (by omega), Option.bind_some, cond_true, cond_false, d_t (show (u : Int) ≤ ((s % V : Nat) : Int) by omega)]
      rfl
theorem structs_true (y0 : Int) (y1 : BitVec 8) (y2 : Int) : m_barbicanlaw4_BtfStructs y0 y1 y2 = some true := by
  unfold m_barbicanlaw4_BtfStructs
  by_cases a1 : y0 < 1
  · rw [d_t a1]; rfl
  by_cases a2 : 40 < y0
  · rw [d_f a1, d_t a2]; rfl
  by_cases a3 : y2 < 0
  · rw [d_f a1, d_f a2, d_t a3]; rfl
  by_cases a4 : 8 < y2
  · rw [d_f a1, d_f a2, d_f a3, d_t a4]; rfl
  rw [d_f a1, d_f a2, d_f a3, d_f a4]
  obtain ⟨n, rfl⟩ := Int.eq_ofNat_of_zero_le (show 0 ≤ y0 by omega)
  obtain ⟨g, rfl⟩ := Int.eq_ofNat_of_zero_le (show 0 ≤ y2 by omega)
  obtain ⟨u, hz, hu⟩ := units y1
  have hb : n * (u + g) ≤ 40 * 16 := Nat.mul_le_mul (by omega) (by omega)
  have e0 : IntKind.i64.wrap ((u : Int) + (g : Int)) = ((u + g : Nat) : Int) := by rw [wr] <;> omega
  have e1 : IntKind.i64.wrap ((n : Int) * ((u + g : Nat) : Int)) = ((n * (u + g) : Nat) : Int) := by
    rw [← Int.natCast_mul, wr] <;> omega
  have e2 : IntKind.i64.wrap (0 * ((u + g : Nat) : Int)) = 0 := by rw [Int.zero_mul]; exact wr (by omega) (by omega)
  obtain ⟨A, h1, H⟩ := make_go (u := u) (V := u + g) (n := n) (g := g) (y1 := y1) hz rfl hu (by omega) (by omega) (by omega) (n - 1) 1 (fun _ => ⟨nameA 0, 1, 0⟩) (by omega) (Nat.le_refl _) (fun j hj => by
    obtain rfl : j = 0 := by omega
    refine ⟨rfl, rfl, ?_⟩
    rw [Nat.zero_mul]; rfl)
  have h0 : lpO (st_barbicanlaw4_BtfStructs_L0 (n : Int) y1 (g : Int)) .c0 = some (.e0 ((n * (u + g) : Nat) : Int) n A) := by
    rw [← h1]
    refine lpO_next ?_
    have ea : (⟨#[97]⟩ : ByteArray) = nameA 0 := by decide +kernel
    simp only [st_barbicanlaw4_BtfStructs_L0, hz, e0, e1, e2, d_t (show (0 : Int) < (n : Int) by omega), cond_true, ea]
    rfl
  have h2 : lpO (st_barbicanlaw4_BtfStructs_L1 y1 (g : Int) ((n * (u + g) : Nat) : Int) n A) (.c0 0) = some (.e0 (u : Int)) := look_go H hz rfl (n * (u + g)) 0 (by omega)
  simp only [cond_false, h0, h2, field_end H, Option.bind_some]
  rfl
end Go.Proofs.YtfphpdhjcbhehaaDoor
