/-
  Memory: frames read and written, in plain words, on.
-/
import Derived.Test.YtfmpmhafilllpaaR8F
namespace Go.Proofs.Ytfmpmhafilllpaa
open Go.RowKit
set_option linter.unusedVariables false
set_option linter.unusedSimpArgs false
/-! ### What is touched -/
theorem touched_is {a n : Nat} (h : a + n ≤ 512) (h1 : 1 ≤ n) : m_region_touched_v2 (a : Int) (n : Int) = (((a / 8 : Nat) : Int), (((a + n - 1) / 8 : Nat) : Int)) := by
  have e1 : IntKind.i64.wrap ((a : Int) + (n : Int)) = ((a + n : Nat) : Int) := by rw [wr] <;> omega
  have e2 : IntKind.i64.wrap (((a + n : Nat) : Int) - 1) = ((a + n - 1 : Nat) : Int) := by rw [wr] <;> omega
  simp only [m_region_touched_v2, e1, e2, zq (a := a) (by omega), zq (a := a + n - 1) (by omega)]
theorem canLoop (T : Nat → Int) (f l : Nat) (hl : l < 64) (hf : f ≤ l) : (lpO (st_region_frame_can_v1_L0 T ((f : Int), (l : Int))) (.c0 (f : Int)) = some .e0 ∧ ∀ s, f ≤ s → s ≤ l → T s = 0) ∨ (lpO (st_region_frame_can_v1_L0 T ((f : Int), (l : Int))) (.c0 (f : Int)) = some .e1 ∧ ∃ s, f ≤ s ∧ s ≤ l ∧ T s ≠ 0) := by
  obtain ⟨r, hr, h⟩ := lpO_ind (st := st_region_frame_can_v1_L0 T ((f : Int), (l : Int))) (fun s => match s with | .c0 x => ∃ k : Nat, x = (k : Int) ∧ f ≤ k ∧ k ≤ l + 1 ∧ ∀ s, f ≤ s → s < k → T s = 0) (fun s => match s with | .c0 x => l + 1 - x.toNat)
    (fun _ r => (r = .e0 ∧ ∀ s, f ≤ s → s ≤ l → T s = 0) ∨ (r = .e1 ∧ ∃ s, f ≤ s ∧ s ≤ l ∧ T s ≠ 0)) (by
    rintro ⟨x⟩ ⟨k, rfl, h0, h1, h2⟩
    by_cases hk : k ≤ l
    · have e2 : IntKind.i64.wrap ((k : Int) + 1) = ((k + 1 : Nat) : Int) := by rw [wr] <;> omega
      by_cases hz : T k = 0
      · refine .inl ⟨.c0 ((k + 1 : Nat) : Int), ?_, ⟨k + 1, rfl, by omega, by omega, fun s h3 h4 => ?_⟩, by show l + 1 - ((k + 1 : Nat) : Int).toNat < l + 1 - (k : Int).toNat; omega, fun r hr => hr⟩
        · simp only [st_region_frame_can_v1_L0, d_t (p := (k : Int) ≤ (l : Int)) (by omega), cond_true, inR_nat' (show k < 64 by omega), Int.toNat_natCast, hz, show ((0 : Int) == 0) = true from rfl, e2]
        · by_cases h5 : s = k
          · exact h5 ▸ hz
          · exact h2 s h3 (by omega)
      · refine .inr ⟨.e1, ?_, .inr ⟨rfl, k, h0, hk, hz⟩⟩
        simp only [st_region_frame_can_v1_L0, d_t (p := (k : Int) ≤ (l : Int)) (by omega), cond_true, inR_nat' (show k < 64 by omega), Int.toNat_natCast, beq_f hz, cond_false]
    · refine .inr ⟨.e0, ?_, .inl ⟨rfl, fun s h3 h4 => h2 s h3 (by omega)⟩⟩
      simp only [st_region_frame_can_v1_L0, d_f (p := (k : Int) ≤ (l : Int)) (by omega), cond_false]) (.c0 (f : Int)) ⟨f, rfl, by omega, by omega, fun s h3 h4 => by omega⟩
  rcases h with ⟨rfl, h⟩ | ⟨rfl, h⟩
  · exact .inl ⟨hr, h⟩
  · exact .inr ⟨hr, h⟩
theorem readLoop0 (T : Nat → Int) (f l : Nat) (hl : l < 64) (hf : f ≤ l) : (lpO (st_region_frame_readable_v1_L0 T ((f : Int), (l : Int))) (.c0 (f : Int)) = some .e0 ∧ ∀ s, f ≤ s → s ≤ l → T s = 0) ∨ (lpO (st_region_frame_readable_v1_L0 T ((f : Int), (l : Int))) (.c0 (f : Int)) = some .e1 ∧ ∃ s, f ≤ s ∧ s ≤ l ∧ T s ≠ 0) := by
  obtain ⟨r, hr, h⟩ := lpO_ind (st := st_region_frame_readable_v1_L0 T ((f : Int), (l : Int))) (fun s => match s with | .c0 x => ∃ k : Nat, x = (k : Int) ∧ f ≤ k ∧ k ≤ l + 1 ∧ ∀ s, f ≤ s → s < k → T s = 0) (fun s => match s with | .c0 x => l + 1 - x.toNat)
    (fun _ r => (r = .e0 ∧ ∀ s, f ≤ s → s ≤ l → T s = 0) ∨ (r = .e1 ∧ ∃ s, f ≤ s ∧ s ≤ l ∧ T s ≠ 0)) (by
    rintro ⟨x⟩ ⟨k, rfl, h0, h1, h2⟩
    by_cases hk : k ≤ l
    · have e2 : IntKind.i64.wrap ((k : Int) + 1) = ((k + 1 : Nat) : Int) := by rw [wr] <;> omega
      by_cases hz : T k = 0
      · refine .inl ⟨.c0 ((k + 1 : Nat) : Int), ?_, ⟨k + 1, rfl, by omega, by omega, fun s h3 h4 => ?_⟩, by show l + 1 - ((k + 1 : Nat) : Int).toNat < l + 1 - (k : Int).toNat; omega, fun r hr => hr⟩
        · simp only [st_region_frame_readable_v1_L0, d_t (p := (k : Int) ≤ (l : Int)) (by omega), cond_true, inR_nat' (show k < 64 by omega), Int.toNat_natCast, hz, show ((0 : Int) == 0) = true from rfl, e2]
        · by_cases h5 : s = k
          · exact h5 ▸ hz
          · exact h2 s h3 (by omega)
      · refine .inr ⟨.e1, ?_, .inr ⟨rfl, k, h0, hk, hz⟩⟩
        simp only [st_region_frame_readable_v1_L0, d_t (p := (k : Int) ≤ (l : Int)) (by omega), cond_true, inR_nat' (show k < 64 by omega), Int.toNat_natCast, beq_f hz, cond_false]
    · refine .inr ⟨.e0, ?_, .inl ⟨rfl, fun s h3 h4 => h2 s h3 (by omega)⟩⟩
      simp only [st_region_frame_readable_v1_L0, d_f (p := (k : Int) ≤ (l : Int)) (by omega), cond_false]) (.c0 (f : Int)) ⟨f, rfl, by omega, by omega, fun s h3 h4 => by omega⟩
  rcases h with ⟨rfl, h⟩ | ⟨rfl, h⟩
  · exact .inl ⟨hr, h⟩
  · exact .inr ⟨hr, h⟩
theorem readLoop1 (P : Nat → Val) (f l : Nat) (hl : l < 64) (hf : f ≤ l) : (lpO (st_region_frame_readable_v1_L1 P ((f : Int), (l : Int))) (.c0 (f : Int)) = some .e0 ∧ ∀ s, f ≤ s → s ≤ l → (P s).fKind = 0) ∨ (lpO (st_region_frame_readable_v1_L1 P ((f : Int), (l : Int))) (.c0 (f : Int)) = some .e1 ∧ ∃ s, f ≤ s ∧ s ≤ l ∧ (P s).fKind ≠ 0) := by
  obtain ⟨r, hr, h⟩ := lpO_ind (st := st_region_frame_readable_v1_L1 P ((f : Int), (l : Int))) (fun s => match s with | .c0 x => ∃ k : Nat, x = (k : Int) ∧ f ≤ k ∧ k ≤ l + 1 ∧ ∀ s, f ≤ s → s < k → (P s).fKind = 0) (fun s => match s with | .c0 x => l + 1 - x.toNat)
    (fun _ r => (r = .e0 ∧ ∀ s, f ≤ s → s ≤ l → (P s).fKind = 0) ∨ (r = .e1 ∧ ∃ s, f ≤ s ∧ s ≤ l ∧ (P s).fKind ≠ 0)) (by
    rintro ⟨x⟩ ⟨k, rfl, h0, h1, h2⟩
    by_cases hk : k ≤ l
    · have e2 : IntKind.i64.wrap ((k : Int) + 1) = ((k + 1 : Nat) : Int) := by rw [wr] <;> omega
      by_cases hz : (P k).fKind = 0
      · refine .inl ⟨.c0 ((k + 1 : Nat) : Int), ?_, ⟨k + 1, rfl, by omega, by omega, fun s h3 h4 => ?_⟩, by show l + 1 - ((k + 1 : Nat) : Int).toNat < l + 1 - (k : Int).toNat; omega, fun r hr => hr⟩
        · simp only [st_region_frame_readable_v1_L1, d_t (p := (k : Int) ≤ (l : Int)) (by omega), cond_true, inR_nat' (show k < 64 by omega), Int.toNat_natCast, hz, show ((0 : Int) == 0) = true from rfl, e2]
        · by_cases h5 : s = k
          · exact h5 ▸ hz
          · exact h2 s h3 (by omega)
      · refine .inr ⟨.e1, ?_, .inr ⟨rfl, k, h0, hk, hz⟩⟩
        simp only [st_region_frame_readable_v1_L1, d_t (p := (k : Int) ≤ (l : Int)) (by omega), cond_true, inR_nat' (show k < 64 by omega), Int.toNat_natCast, beq_f hz, cond_false]
    · refine .inr ⟨.e0, ?_, .inl ⟨rfl, fun s h3 h4 => h2 s h3 (by omega)⟩⟩
      simp only [st_region_frame_readable_v1_L1, d_f (p := (k : Int) ≤ (l : Int)) (by omega), cond_false]) (.c0 (f : Int)) ⟨f, rfl, by omega, by omega, fun s h3 h4 => by omega⟩
  rcases h with ⟨rfl, h⟩ | ⟨rfl, h⟩
  · exact .inl ⟨hr, h⟩
  · exact .inr ⟨hr, h⟩
theorem and_bit {w : BitVec 8} {r : Nat} (hr : r < 8) : ((w &&& (1#8 <<< r)) == 0#8) = !w.getLsbD r := by
  cases h : w.getLsbD r with
  | true =>
    have : w &&& (1#8 <<< r) ≠ 0#8 := fun e => by
      have e := congrArg (fun v => v.getLsbD r) e
      simp only [BitVec.getLsbD_and, sh8 hr, h] at e
      simp at e
    simpa using this
  | false =>
    have : w &&& (1#8 <<< r) = 0#8 := by
      apply BitVec.eq_of_getLsbD_eq
      intro i hi
      rw [BitVec.getLsbD_and, sh8 hr]
      by_cases h2 : i = r
      · subst h2; simp [h]
      · simp [h2]
    simp [this]
theorem readLoop2 (W : Nat → BitVec 8) (a n : Nat) (h : a + n ≤ 512) : (lpO (st_region_frame_readable_v1_L2 (a : Int) (n : Int) W) (.c0 (a : Int)) = some .e0 ∧ ∀ j, a ≤ j → j < a + n → wb W j) ∨ (lpO (st_region_frame_readable_v1_L2 (a : Int) (n : Int) W) (.c0 (a : Int)) = some .e1 ∧ ∃ j, a ≤ j ∧ j < a + n ∧ ¬ wb W j) := by
  have e1 : IntKind.i64.wrap ((a : Int) + (n : Int)) = ((a + n : Nat) : Int) := by rw [wr] <;> omega
  obtain ⟨r, hr, h⟩ := lpO_ind (st := st_region_frame_readable_v1_L2 (a : Int) (n : Int) W) (fun s => match s with | .c0 x => ∃ k : Nat, x = (k : Int) ∧ a ≤ k ∧ k ≤ a + n ∧ ∀ j, a ≤ j → j < k → wb W j) (fun s => match s with | .c0 x => a + n - x.toNat)
    (fun _ r => (r = .e0 ∧ ∀ j, a ≤ j → j < a + n → wb W j) ∨ (r = .e1 ∧ ∃ j, a ≤ j ∧ j < a + n ∧ ¬ wb W j)) (by
    rintro ⟨x⟩ ⟨k, rfl, h0, h1, h2⟩
    by_cases hk : k < a + n
    · have e2 : IntKind.i64.wrap ((k : Int) + 1) = ((k + 1 : Nat) : Int) := by rw [wr] <;> omega
      have e3 := zq (a := k) (by omega)
      have e4 := zr (a := k)
      by_cases hz : wb W k
      · refine .inl ⟨.c0 ((k + 1 : Nat) : Int), ?_, ⟨k + 1, rfl, by omega, by omega, fun s h3 h4 => ?_⟩, by show a + n - ((k + 1 : Nat) : Int).toNat < a + n - (k : Int).toNat; omega, fun r hr => hr⟩
        · have hz' : (W (k / 8)).getLsbD (k % 8) = true := hz
          simp only [st_region_frame_readable_v1_L2, e1, d_t (p := (k : Int) < ((a + n : Nat) : Int)) (by omega), cond_true, e3, e4, inR_nat' (show k / 8 < 64 by omega), Int.toNat_natCast, d_t (p := (0 : Int) ≤ ((k % 8 : Nat) : Int)) (by omega), and_bit (show k % 8 < 8 by omega), hz', Bool.not_true, cond_false, e2]
        · by_cases h5 : s = k
          · exact h5 ▸ hz
          · exact h2 s h3 (by omega)
      · refine .inr ⟨.e1, ?_, .inr ⟨rfl, k, h0, hk, hz⟩⟩
        have hz' : (W (k / 8)).getLsbD (k % 8) = false := by
          cases e : (W (k / 8)).getLsbD (k % 8)
          · rfl
          · exact absurd e hz
        simp only [st_region_frame_readable_v1_L2, e1, d_t (p := (k : Int) < ((a + n : Nat) : Int)) (by omega), cond_true, e3, e4, inR_nat' (show k / 8 < 64 by omega), Int.toNat_natCast, d_t (p := (0 : Int) ≤ ((k % 8 : Nat) : Int)) (by omega), and_bit (show k % 8 < 8 by omega), hz', Bool.not_false]
    · refine .inr ⟨.e0, ?_, .inl ⟨rfl, fun s h3 h4 => h2 s h3 (by omega)⟩⟩
      simp only [st_region_frame_readable_v1_L2, e1, d_f (p := (k : Int) < ((a + n : Nat) : Int)) (by omega), cond_false]) (.c0 (a : Int)) ⟨a, rfl, by omega, by omega, fun s h3 h4 => by omega⟩
  rcases h with ⟨rfl, h⟩ | ⟨rfl, h⟩
  · exact .inl ⟨hr, h⟩
  · exact .inr ⟨hr, h⟩
end Go.Proofs.Ytfmpmhafilllpaa
