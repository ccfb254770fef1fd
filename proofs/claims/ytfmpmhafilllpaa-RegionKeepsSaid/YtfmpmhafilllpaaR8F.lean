/-
  Memory: frames read and written, in plain words.
-/
import Derived.Test.YtfmpmhafilllpaaR8N
import Derived.Test.YtfmpmhafilllpaaR8T
namespace Go.Proofs.Ytfmpmhafilllpaa
open Go.RowKit
set_option linter.unusedVariables false
set_option linter.unusedSimpArgs false
theorem zq {a : Nat} (h : a ≤ 1000000) : zquo (a : Int) 8 = ((a / 8 : Nat) : Int) := by
  unfold zquo
  rw [Int.tdiv_eq_ediv_of_nonneg (by omega), wr (by omega) (by omega)]
  omega
theorem zr {a : Nat} : zrem (a : Int) 8 = ((a % 8 : Nat) : Int) := by
  unfold zrem
  rw [Int.tmod_eq_emod_of_nonneg (by omega)]
  omega
theorem zr8 (x : Int) : zrem (8 * x) 8 = 0 := by
  unfold zrem
  exact Int.mul_tmod_right 8 x
theorem sh8 {r : Nat} (hr : r < 8) (i : Nat) : (1#8 <<< r).getLsbD i = decide (i = r) := by
  rw [BitVec.getLsbD_shiftLeft]
  by_cases h : i = r
  · subst h
    simp [hr]
  · by_cases h2 : i < r
    · simp [h, h2]
    · have : (1#8).getLsbD (i - r) = false := by
        rw [BitVec.getLsbD_one]
        simp
        omega
      simp [h, this]
/-- A byte was written. -/
def wb (W : Nat → BitVec 8) (j : Nat) : Prop := (W (j / 8)).getLsbD (j % 8) = true
/-- A slot of which one of k bytes from a on is. -/
def tch (a k s : Nat) : Prop := 0 < k ∧ a / 8 ≤ s ∧ 8 * s < a + k
theorem tch_step {a k s : Nat} : tch a (k + 1) s ↔ tch a k s ∨ s = (a + k) / 8 := by unfold tch; omega
theorem tch_at {a k j : Nat} (h : a ≤ j ∧ j < a + k) : tch a k (j / 8) := by unfold tch; omega
/-- What bytes put into a frame make of it. -/
structure PutOk (a k : Nat) (V : Nat → BitVec 8) (B W : Nat → BitVec 8) (P : Nat → Val) (T : Nat → Int) (G : Nat → Bool) (B' W' : Nat → BitVec 8) (P' : Nat → Val) (T' : Nat → Int) (G' : Nat → Bool) : Prop where
  bytes : ∀ j, B' j = if a ≤ j ∧ j < a + k then V (j - a) else B j
  kind : ∀ s, tch a k s → (P' s).fKind = 0
  keepP : ∀ s, ¬ (tch a k s ∧ (P s).fKind ≠ 0) → P' s = P s
  keepT : ∀ s, ¬ (tch a k s ∧ (P s).fKind ≠ 0) → T' s = T s ∧ G' s = G s
  zeroT : ∀ s, tch a k s → (P s).fKind ≠ 0 → T' s = 0
  wr : ∀ j, wb W' j ↔ ((a ≤ j ∧ j < a + k) ∨ (wb W j ∧ ¬ (tch a k (j / 8) ∧ (P (j / 8)).fKind ≠ 0)))
theorem PutOk.start {a : Nat} {V : Nat → BitVec 8} {B W : Nat → BitVec 8} {P : Nat → Val} {T : Nat → Int} {G : Nat → Bool} : PutOk a 0 V B W P T G B W P T G := by
  have nt : ∀ s, ¬ tch a 0 s := fun s h => by unfold tch at h; omega
  exact ⟨fun j => by rw [if_neg (by omega)], fun s h => absurd h (nt s), fun s _ => rfl, fun s _ => ⟨rfl, rfl⟩, fun s h => absurd h (nt s), fun j => ⟨fun h => .inr ⟨h, fun h => nt _ h.1⟩, fun h => by rcases h with h | h; omega; exact h.1⟩⟩
theorem put_is (a n : Nat) (hn : a + n ≤ 512) (V : Nat → BitVec 8) (B W : Nat → BitVec 8) (P : Nat → Val) (T : Nat → Int) (G : Nat → Bool) :
    ∃ B' W' P' T' G', m_region_frame_put (a : Int) n V B W P T G = some (.e0 B' W' P' T' G') ∧ PutOk a n V B W P T G B' W' P' T' G' := by
  unfold m_region_frame_put
  obtain ⟨r, hr, B', W', P', T', G', rfl, hok⟩ := lpO_ind (st := st_region_frame_put_L0 (a : Int) n V) (fun s => match s with | .c0 B' W' P' T' G' x => ∃ k : Nat, x = (k : Int) ∧ k ≤ n ∧ PutOk a k V B W P T G B' W' P' T' G') (fun s => match s with | .c0 _ _ _ _ _ x => n - x.toNat)
    (fun _ r => ∃ B' W' P' T' G', r = .e0 B' W' P' T' G' ∧ PutOk a n V B W P T G B' W' P' T' G') (by
    rintro ⟨B1, W1, P1, T1, G1, x⟩ ⟨k, rfl, hk, h⟩
    by_cases hlt : k < n
    · have e1 : IntKind.i64.wrap ((a : Int) + (k : Int)) = ((a + k : Nat) : Int) := by rw [wr] <;> omega
      have e2 : IntKind.i64.wrap ((k : Int) + 1) = ((k + 1 : Nat) : Int) := by rw [wr] <;> omega
      have e3 := zq (a := a + k) (by omega)
      have e4 := zr (a := a + k)
      have hs : (a + k) / 8 < 64 := by omega
      have common : st_region_frame_put_L0 (a : Int) n V (.c0 B1 W1 P1 T1 G1 (k : Int)) =
          bif (P1 ((a + k) / 8)).fKind == 0 then some (.inl (.c0 (updF B1 (a + k) (V k)) (updF W1 ((a + k) / 8) (W1 ((a + k) / 8) ||| (1#8 <<< ((a + k) % 8)))) P1 T1 G1 ((k + 1 : Nat) : Int)))
          else some (.inl (.c0 (updF B1 (a + k) (V k)) (updF (updF W1 ((a + k) / 8) 0#8) ((a + k) / 8) (0#8 ||| (1#8 <<< ((a + k) % 8)))) (updF P1 ((a + k) / 8) ⟨0, 0#64, 0, 0⟩) (updF T1 ((a + k) / 8) 0) (updF G1 ((a + k) / 8) false) ((k + 1 : Nat) : Int))) := by
        simp only [st_region_frame_put_L0, d_t (p := (k : Int) < (n : Int)) (by omega), cond_true, inR_nat' hlt, e1, e3, e4, inR_nat' hs, Int.toNat_natCast, inR_nat' (show a + k < 512 by omega), d_t (p := (0 : Int) ≤ (((a + k) % 8 : Nat) : Int)) (by omega), bindT, e2, m_region_frame_empty, Option.bind_some, updF_at]
      have hb : ∀ j, updF B1 (a + k) (V k) j = if a ≤ j ∧ j < a + (k + 1) then V (j - a) else B j := by
        intro j
        by_cases hj : j = a + k
        · subst hj
          rw [updF_at, if_pos (by omega)]
          congr 1
          omega
        · rw [updF_ne _ _ hj, h.bytes j]
          by_cases h2 : a ≤ j ∧ j < a + k
          · rw [if_pos h2, if_pos (by omega)]
          · rw [if_neg h2, if_neg (by omega)]
      by_cases hkd : (P1 ((a + k) / 8)).fKind = 0
      · refine .inl ⟨.c0 (updF B1 (a + k) (V k)) (updF W1 ((a + k) / 8) (W1 ((a + k) / 8) ||| (1#8 <<< ((a + k) % 8)))) P1 T1 G1 ((k + 1 : Nat) : Int), by rw [common, hkd]; rfl, ⟨k + 1, rfl, by omega, hb, fun s hs' => ?_, fun s hs' => ?_, fun s hs' => ?_, fun s hs' hz => ?_, fun j => ?_⟩, by show n - ((k + 1 : Nat) : Int).toNat < n - (k : Int).toNat; omega, fun r hr => hr⟩
        · rcases tch_step.1 hs' with h1 | rfl
          · exact h.kind s h1
          · exact hkd
        · exact h.keepP s fun hh => hs' ⟨tch_step.2 (.inl hh.1), hh.2⟩
        · exact h.keepT s fun hh => hs' ⟨tch_step.2 (.inl hh.1), hh.2⟩
        · rcases tch_step.1 hs' with h1 | rfl
          · exact h.zeroT s h1 hz
          · by_cases ht : tch a k ((a + k) / 8)
            · exact h.zeroT _ ht hz
            · rw [h.keepP _ (fun hh => ht hh.1)] at hkd
              exact absurd hkd hz
        · by_cases hj : j / 8 = (a + k) / 8
          · have hiff : (tch a (k + 1) (j / 8) ∧ (P (j / 8)).fKind ≠ 0) ↔ (tch a k (j / 8) ∧ (P (j / 8)).fKind ≠ 0) := by
              constructor
              · rintro ⟨h1, h2⟩
                refine ⟨?_, h2⟩
                by_cases ht : tch a k (j / 8)
                · exact ht
                · rw [hj] at ht h2
                  rw [h.keepP _ (fun hh => ht hh.1)] at hkd
                  exact absurd hkd h2
              · rintro ⟨h1, h2⟩
                exact ⟨tch_step.2 (.inl h1), h2⟩
            rw [hiff]
            have hw := h.wr j
            unfold wb at hw ⊢
            rw [hj, updF_at, BitVec.getLsbD_or, sh8 (by omega), Bool.or_eq_true, decide_eq_true_eq]
            rw [hj] at hw
            rw [hw]
            constructor
            · rintro ((h1 | h1) | h1)
              · exact .inl (by omega)
              · exact .inr h1
              · exact .inl (by omega)
            · rintro (h1 | h1)
              · by_cases h2 : j < a + k
                · exact .inl (.inl (by omega))
                · exact .inr (by omega)
              · exact .inl (.inr h1)
          · have hw := h.wr j
            unfold wb at hw ⊢
            rw [updF_ne _ _ hj, hw]
            have : tch a (k + 1) (j / 8) ↔ tch a k (j / 8) := by rw [tch_step]; exact ⟨fun hh => hh.elim id (fun hh => absurd hh hj), .inl⟩
            rw [this]
            constructor
            · rintro (h1 | h1)
              · exact .inl (by omega)
              · exact .inr h1
            · rintro (h1 | h1)
              · exact .inl (by omega)
              · exact .inr h1
      · have hnt : ¬ tch a k ((a + k) / 8) := fun ht => hkd (h.kind _ ht)
        have hP : P1 ((a + k) / 8) = P ((a + k) / 8) := h.keepP _ (fun hh => hnt hh.1)
        have hkd' : (P ((a + k) / 8)).fKind ≠ 0 := hP ▸ hkd
        refine .inl ⟨.c0 (updF B1 (a + k) (V k)) (updF (updF W1 ((a + k) / 8) 0#8) ((a + k) / 8) (0#8 ||| (1#8 <<< ((a + k) % 8)))) (updF P1 ((a + k) / 8) ⟨0, 0#64, 0, 0⟩) (updF T1 ((a + k) / 8) 0) (updF G1 ((a + k) / 8) false) ((k + 1 : Nat) : Int), by rw [common, beq_f hkd]; rfl, ⟨k + 1, rfl, by omega, hb, fun s hs' => ?_, fun s hs' => ?_, fun s hs' => ?_, fun s hs' hz => ?_, fun j => ?_⟩, by show n - ((k + 1 : Nat) : Int).toNat < n - (k : Int).toNat; omega, fun r hr => hr⟩
        · by_cases h1 : s = (a + k) / 8
          · subst h1; rw [updF_at]
          · rw [updF_ne _ _ h1]
            exact h.kind s ((tch_step.1 hs').resolve_right h1)
        · have h1 : s ≠ (a + k) / 8 := fun e => hs' ⟨tch_step.2 (.inr e), e ▸ hkd'⟩
          rw [updF_ne _ _ h1]
          exact h.keepP s fun hh => hs' ⟨tch_step.2 (.inl hh.1), hh.2⟩
        · have h1 : s ≠ (a + k) / 8 := fun e => hs' ⟨tch_step.2 (.inr e), e ▸ hkd'⟩
          rw [updF_ne _ _ h1, updF_ne _ _ h1]
          exact h.keepT s fun hh => hs' ⟨tch_step.2 (.inl hh.1), hh.2⟩
        · by_cases h1 : s = (a + k) / 8
          · subst h1; rw [updF_at]
          · rw [updF_ne _ _ h1]
            exact h.zeroT s ((tch_step.1 hs').resolve_right h1) hz
        · by_cases hj : j / 8 = (a + k) / 8
          · have hw := h.wr j
            unfold wb at hw ⊢
            rw [hj, updF_at, BitVec.getLsbD_or, sh8 (by omega), Bool.or_eq_true, decide_eq_true_eq]
            rw [hj] at hw
            constructor
            · rintro (h1 | h1)
              · simp at h1
              · exact .inl (by omega)
            · rintro (h1 | h1)
              · by_cases h2 : j < a + k
                · exact absurd (hj ▸ tch_at ⟨h1.1, h2⟩) hnt
                · exact .inr (by omega)
              · exact absurd ⟨tch_step.2 (.inr rfl), hkd'⟩ h1.2
          · have hw := h.wr j
            unfold wb at hw ⊢
            rw [updF_ne _ _ hj, updF_ne _ _ hj, hw]
            have : tch a (k + 1) (j / 8) ↔ tch a k (j / 8) := by rw [tch_step]; exact ⟨fun hh => hh.elim id (fun hh => absurd hh hj), .inl⟩
            rw [this]
            constructor
            · rintro (h1 | h1)
              · exact .inl (by omega)
              · exact .inr h1
            · rintro (h1 | h1)
              · exact .inl (by omega)
              · exact .inr h1
    · obtain rfl : k = n := by omega
      refine .inr ⟨.e0 B1 W1 P1 T1 G1, ?_, _, _, _, _, _, rfl, h⟩
      simp only [st_region_frame_put_L0, d_f (p := (k : Int) < (k : Int)) (by omega), cond_false]) (.c0 B W P T G 0) ⟨0, rfl, by omega, .start⟩
  rw [hr]
  exact ⟨_, _, _, _, _, rfl, hok⟩
end Go.Proofs.Ytfmpmhafilllpaa
