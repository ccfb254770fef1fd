/-
  Types in a ring: what is said of each by itself.
-/
import Derived.Test.YtnlnldpolaodbaaDoorBRM
namespace Go.Proofs.YtnlnldpolaodbaaDoor
open Go.RowKit
set_option linter.unusedVariables false
set_option linter.unusedSimpArgs false
theorem name_new {x : Xs27} {m : Nat} {M : MemL} {w0 : Nat} {w1 : Nat → Me39} (hk : x.fKind = 4 ∨ x.fKind = 5) (hn : m_btf_isName_v4 x.fName = some true) (hf : ∀ j, j < w0 → (w1 j).fk.fname ≠ x.fName) :
    m_btf_rightName_v2 x m M w0 w1 = some (.e0 (w0 + 1) (updF (updF w1 w0 (⟨⟨x.fKind, x.fName⟩, 0⟩ : Me39)) w0 (⟨⟨x.fKind, x.fName⟩, 1⟩ : Me39)) true) := by
  have f1 : decide (fdx (fun j => (x.fKind == (w1 j).fk.fkind) && (x.fName == (w1 j).fk.fname)) w0 < w0) = false := d_f (fdx_out fun j hj => by
    show (_ && (x.fName == (w1 j).fk.fname)) = false
    rw [ba_ne (fun h => hf j hj h.symm), Bool.and_false])
  have f2 : fdx (fun j => (x.fKind == ((updF (updF w1 w0 (⟨⟨x.fKind, x.fName⟩, 0⟩ : Me39)) w0 (⟨⟨x.fKind, x.fName⟩, 1⟩ : Me39)) j).fk.fkind) && (x.fName == ((updF (updF w1 w0 (⟨⟨x.fKind, x.fName⟩, 0⟩ : Me39)) w0 (⟨⟨x.fKind, x.fName⟩, 1⟩ : Me39)) j).fk.fname)) (w0 + 1) = w0 := fdx_last (fun j hj => by
    show (_ && (x.fName == _)) = false
    rw [updF_ne _ _ (show j ≠ w0 by omega), updF_ne _ _ (show j ≠ w0 by omega), ba_ne (fun h => hf j hj h.symm), Bool.and_false]) (by
    show ((x.fKind == _) && (x.fName == _)) = true
    rw [updF_at]
    simp [ba_refl])
  have f3 : decide (w0 < w0 + 1) = true := d_t (by omega)
  rcases hk with hk | hk
  · simp only [m_btf_rightName_v2, iq_f (show x.fKind ≠ 1 by omega), iq_t hk, f1, hn, cond_false, cond_true, Option.bind_some, f2, f3, updF_at]
    rfl
  · simp only [m_btf_rightName_v2, iq_f (show x.fKind ≠ 1 by omega), iq_f (show x.fKind ≠ 4 by omega), iq_t hk, f1, hn, cond_false, cond_true, Option.bind_some, f2, f3, updF_at]
    rfl
theorem names_0 (x : Xs27) : m_btf_rightMemberNames_v2 x 0 D0 = some true := by
  unfold m_btf_rightMemberNames_v2
  rw [lpO_end (r := .e0 0 _) rfl]
  rfl
theorem names_1 (x : Xs27) (M : MemL) (hk : x.fKind = 4) (hM : (M 0).fName = (⟨#[109]⟩ : ByteArray)) : m_btf_rightMemberNames_v2 x 1 M = some true := by
  have f1 : ∀ e : Nat → Bool, decide (fdx e 0 < 0) = false := fun e => d_f (Nat.not_lt_zero _)
  have hn := isName_of m_letter
  have w1 : IntKind.i64.wrap ((0 : Int) + 1) = 1 := by decide
  have f2 : ∀ K : Nat → Me60, fdx (fun j => ((⟨#[109]⟩ : ByteArray) == ((updF K 0 (⟨(⟨#[109]⟩ : ByteArray), 1⟩ : Me60)) j).fk)) (0 + 1) = 0 := fun K => fdx_last (fun j hj => by omega) (by
    show ((⟨#[109]⟩ : ByteArray) == _) = true
    rw [updF_at]; exact ba_refl _)
  have st : ∀ K, st_btf_rightMemberNames_v2_L0 x 1 M (.c0 0 K 0) = some (.inl (.c0 (0 + 1) (updF K 0 (⟨(⟨#[109]⟩ : ByteArray), 1⟩ : Me60)) 1)) := fun K => by
    simp only [st_btf_rightMemberNames_v2_L0, d_t (show (0 : Int) < ((1 : Nat) : Int) by omega), inR_t (show (0 : Int) ≤ 0 by omega) (show (0 : Int) < ((1 : Nat) : Int) by omega), Int.toNat_zero, hM, iq_f (show x.fKind ≠ 6 by omega), f1, hn, cond_false, cond_true, Option.bind_some, f2, w1, d_t (show (0 : Nat) < 0 + 1 by omega), updF_at, d_f (show ¬ ((1 : Int) < 1) by omega)]
  have en : ∀ N K, st_btf_rightMemberNames_v2_L0 x 1 M (.c0 N K 1) = some (.inr (.e0 N K)) := fun N K => by
    simp only [st_btf_rightMemberNames_v2_L0, d_f (show ¬ ((1 : Int) < ((1 : Nat) : Int)) by omega), cond_false]
  unfold m_btf_rightMemberNames_v2
  rw [(lpO_next (st _)).trans (lpO_end (en _ _))]
  rfl
/-- The names that stand there are letters of those ahead. -/
def KI (k w0 : Nat) (w1 : Nat → Me39) : Prop := ∀ j, j < w0 → ∃ i, i < k ∧ (w1 j).fk.fname = nameA i
theorem KI.new {k w0 : Nat} {w1 : Nat → Me39} (h : KI k w0 w1) (hk : k < 40) : ∀ j, j < w0 → (w1 j).fk.fname ≠ nameA k := fun j hj e => by
  obtain ⟨i, hi, hw⟩ := h j hj
  have := name_inj i (by omega) k hk (by rw [← hw, e])
  omega
theorem KI.up {k w0 : Nat} {w1 : Nat → Me39} (h : KI k w0 w1) : KI (k + 1) w0 w1 := fun j hj => let ⟨i, hi, e⟩ := h j hj; ⟨i, by omega, e⟩
theorem KI.put {k w0 : Nat} {w1 : Nat → Me39} (h : KI k w0 w1) (a b : Int) : KI (k + 1) (w0 + 1) (updF (updF w1 w0 (⟨⟨a, nameA k⟩, 0⟩ : Me39)) w0 (⟨⟨a, nameA k⟩, b⟩ : Me39)) := fun j hj => by
  by_cases e : j = w0
  · exact ⟨k, by omega, by rw [e, updF_at]⟩
  · obtain ⟨i, hi, e2⟩ := h j (by omega)
    exact ⟨i, by omega, by rw [updF_ne _ _ e, updF_ne _ _ e]; exact e2⟩
theorem refs0 (y : Int) : lpO (st_btf_rightReferences_v2_L0v2 0 D0 y) (.c0 0) = some .e0 := lpO_end rfl
theorem refs1 (y : Int) : lpO (st_btf_rightReferences_v2_L0v4 0 D0 y) (.c0 0) = some .e0 := lpO_end rfl
theorem refs2 (y : Int) (M : MemL) (h1 : 1 ≤ (M 0).fType) (h2 : (M 0).fType ≤ y) : lpO (st_btf_rightReferences_v2_L0v1 1 M y) (.c0 0) = some .e0 := by
  have w1 : IntKind.i64.wrap ((0 : Int) + 1) = 1 := by decide
  refine (lpO_next (s' := .c0 1) ?_).trans (lpO_end rfl)
  simp only [st_btf_rightReferences_v2_L0v1, d_t (show (0 : Int) < ((1 : Nat) : Int) by omega), inR_t (show (0 : Int) ≤ 0 by omega) (show (0 : Int) < ((1 : Nat) : Int) by omega), Int.toNat_zero, d_f (show ¬ ((M 0).fType < 1) by omega), d_f (show ¬ (y < (M 0).fType) by omega), cond_true, cond_false, w1]
theorem check_El {n i w0 : Nat} {p : Int} {x : Xs27 × (Nat × (Nat → Member))} {w1 : Nat → Me39} (hn : n ≤ 40) (hi : i < n) (hE : El n p i x) (hK : KI i w0 w1) :
    ∃ v0 v1, m_btf_checkType_v2 x.1 x.2.1 x.2.2 (n : Int) w0 w1 = some (.e0 v0 v1 0) ∧ KI (i + 1) v0 v1 := by
  have hx := rnx_lt hi
  have r1 : decide (((rnx n i + 1 : Nat) : Int) < 0) = false := d_f (by omega)
  have r2 : decide (((rnx n i + 1 : Nat) : Int) < 1) = false := d_f (by omega)
  have r3 : decide ((n : Int) < ((rnx n i + 1 : Nat) : Int)) = false := d_f (by omega)
  have hl := isName_of (name_letter (show i < 40 by omega))
  have hnew := hK.new (show i < 40 by omega)
  rcases hE with ⟨_, rfl⟩ | ⟨_, rfl | rfl | rfl⟩
  · refine ⟨w0, w1, ?_, hK.up⟩
    have a1 : m_btf_rightName_v2 (ePtr n i).1 0 D0 w0 w1 = some (.e0 w0 w1 true) := rfl
    have a2 : m_btf_rightSize_v2 (ePtr n i).1 0 D0 = true := rfl
    have a3 : m_btf_rightReferences_v2 (ePtr n i).1 0 D0 (n : Int) = some true := by
      simp only [m_btf_rightReferences_v2, Int.reduceBEq, cond_false, cond_true, r1, r3, refs0, Option.bind_some]
    have a4 : m_btf_onlyOwnFields_v2 (ePtr n i).1 0 D0 = some true := rfl
    show m_btf_checkType_v2 (ePtr n i).1 0 D0 (n : Int) w0 w1 = _
    unfold m_btf_checkType_v2
    rw [a1, a2, names_0, a3, a4]
    rfl
  · refine ⟨_, _, ?_, hK.put 5 1⟩
    have a1 := name_new (x := (eAl n i).1) (m := 0) (M := D0) (w0 := w0) (w1 := w1) (.inr rfl) hl hnew
    have a2 : m_btf_rightSize_v2 (eAl n i).1 0 D0 = true := rfl
    have a3 : m_btf_rightReferences_v2 (eAl n i).1 0 D0 (n : Int) = some true := by
      simp only [m_btf_rightReferences_v2, Int.reduceBEq, cond_false, cond_true, r2, r3, refs1, Option.bind_some]
    have a4 : m_btf_onlyOwnFields_v2 (eAl n i).1 0 D0 = some true := rfl
    show m_btf_checkType_v2 (eAl n i).1 0 D0 (n : Int) w0 w1 = _
    unfold m_btf_checkType_v2
    rw [a1, a2, names_0, a3, a4]
    rfl
  · refine ⟨w0, w1, ?_, hK.up⟩
    have a1 : m_btf_rightName_v2 (eAr n i).1 0 D0 w0 w1 = some (.e0 w0 w1 true) := rfl
    have a2 : m_btf_rightSize_v2 (eAr n i).1 0 D0 = true := rfl
    have a3 : m_btf_rightReferences_v2 (eAr n i).1 0 D0 (n : Int) = some true := by
      simp only [m_btf_rightReferences_v2, Int.reduceBEq, cond_false, cond_true, r2, r3, refs1, Option.bind_some]
    have a4 : m_btf_onlyOwnFields_v2 (eAr n i).1 0 D0 = some true := rfl
    show m_btf_checkType_v2 (eAr n i).1 0 D0 (n : Int) w0 w1 = _
    unfold m_btf_checkType_v2
    rw [a1, a2, names_0, a3, a4]
    rfl
  · refine ⟨_, _, ?_, hK.put 4 1⟩
    have a1 := name_new (x := (eSt n i).1) (m := 1) (M := (eSt n i).2.2) (w0 := w0) (w1 := w1) (.inl rfl) hl hnew
    have a2 : m_btf_rightSize_v2 (eSt n i).1 1 (eSt n i).2.2 = true := rfl
    have a3 : m_btf_rightReferences_v2 (eSt n i).1 1 (eSt n i).2.2 (n : Int) = some true := by
      have := refs2 (n : Int) (eSt n i).2.2 (by show (1 : Int) ≤ ((rnx n i + 1 : Nat) : Int); omega) (by show ((rnx n i + 1 : Nat) : Int) ≤ n; omega)
      simp only [m_btf_rightReferences_v2, Int.reduceBEq, Int.reduceLT, decide_false, cond_false, cond_true, this, Option.bind_some]
    have a4 : m_btf_onlyOwnFields_v2 (eSt n i).1 1 (eSt n i).2.2 = some true := rfl
    have a5 := names_1 (eSt n i).1 (eSt n i).2.2 rfl rfl
    show m_btf_checkType_v2 (eSt n i).1 1 (eSt n i).2.2 (n : Int) w0 w1 = _
    unfold m_btf_checkType_v2
    rw [a1, a2, a5, a3, a4]
    rfl
end Go.Proofs.YtnlnldpolaodbaaDoor
