/-
  Shorter programs: what the two loops of trimming come to (no program).
-/
import Derived.Test.YtnoflelhkgdebaaOFT
namespace Go.Proofs.Ytnoflelhkgdebaa
open Go.RowKit
set_option linter.unusedVariables false
set_option linter.unusedSimpArgs false
theorem ofw {x : Int} (h0 : -9223372036854775808 ≤ x) (h1 : x < 9223372036854775808) : IntKind.i64.wrap x = x := z_wrap h0 h1
theorem ofR {k n : Nat} (h : k < n) : inR (k : Int) n = true := inR_iff.2 ⟨by omega, by omega⟩
theorem of_t {p : Prop} [Decidable p] (h : p) : decide p = true := decide_eq_true h
theorem of_f {p : Prop} [Decidable p] (h : ¬ p) : decide p = false := decide_eq_false h
theorem of_succ (k : Nat) (h : k ≤ 1000000) : IntKind.i64.wrap ((k : Int) + 1) = ((k + 1 : Nat) : Int) := by rw [ofw] <;> omega
/-- How many of the first k stay. -/
def cnt (g : Nat → Bool) : Nat → Nat
  | 0 => 0
  | k + 1 => if g k then cnt g k + 1 else cnt g k
theorem cnt_le (g : Nat → Bool) : ∀ k, cnt g k ≤ k
  | 0 => Nat.le_refl _
  | k + 1 => by
    have := cnt_le g k
    unfold cnt
    split <;> omega
theorem cnt_mono (g : Nat → Bool) {a b : Nat} (h : a ≤ b) : cnt g a ≤ cnt g b := by
  induction b with
  | zero => rw [show a = 0 by omega]; exact Nat.le_refl _
  | succ b ih =>
    by_cases e : a = b + 1
    · subst e; exact Nat.le_refl _
    · have := ih (by omega)
      show cnt g a ≤ if g b then cnt g b + 1 else cnt g b
      split <;> omega
theorem cnt_lt (g : Nat → Bool) {a b : Nat} (h : a < b) (ha : g a = true) : cnt g a < cnt g b := by
  have h1 : cnt g (a + 1) = cnt g a + 1 := by show (if g a then _ else _) = _; rw [if_pos ha]
  have := cnt_mono g (show a + 1 ≤ b from h)
  omega
theorem fresh_go {n : Nat} {g : Nat → Bool} (hn : n ≤ 4096) : ∀ d s F, s + d = n → (∀ j, j ≤ s → F j = (cnt g j : Int)) → ∃ F', lpO (st_opt_Trim_L0 n g) (.c0 F (s : Int)) = some (.e0 F') ∧ ∀ j, j ≤ n → F' j = (cnt g j : Int)
  | 0, s, F, h, hF => by
    obtain rfl : s = n := by omega
    exact ⟨F, lpO_end (by simp only [st_opt_Trim_L0, of_f (show ¬ ((s : Int) < (s : Int)) by omega), cond_false]), hF⟩
  | d + 1, s, F, h, hF => by
    have hle := cnt_le g s
    have hs := hF s (Nat.le_refl _)
    have nx : ∀ v : Int, v = (cnt g (s + 1) : Int) → ∀ F1 : Nat → Int, (∀ j, F1 j = if j = s + 1 then v else F j) → ∃ F', lpO (st_opt_Trim_L0 n g) (.c0 F1 ((s + 1 : Nat) : Int)) = some (.e0 F') ∧ ∀ j, j ≤ n → F' j = (cnt g j : Int) := fun v hv F1 h1 => fresh_go hn d (s + 1) F1 (by omega) (fun j hj => by
      rw [h1]
      by_cases e : j = s + 1
      · rw [if_pos e, hv, e]
      · rw [if_neg e]; exact hF j (by omega))
    have hc : cnt g (s + 1) = if g s then cnt g s + 1 else cnt g s := rfl
    cases hg : g s
    · rw [hg] at hc
      obtain ⟨F', h1, h2⟩ := nx (F s) (by rw [hs, hc]; rfl) (updF F (s + 1) (F s)) (fun j => rfl)
      refine ⟨F', ?_, h2⟩
      rw [← h1]
      exact lpO_next (by simp only [st_opt_Trim_L0, of_t (show (s : Int) < (n : Int) by omega), ofR (show s < 4097 by omega), of_succ s (by omega), ofR (show s + 1 < 4097 by omega), Int.toNat_natCast, ofR (show s < n by omega), hg, cond_true, cond_false])
    · rw [hg] at hc
      have e1 : IntKind.i64.wrap ((updF F (s + 1) (F s)) (s + 1) + 1) = (cnt g (s + 1) : Int) := by
        rw [updF_at, hs, of_succ (cnt g s) (by omega), hc]; rfl
      obtain ⟨F', h1, h2⟩ := nx _ rfl (updF (updF F (s + 1) (F s)) (s + 1) (cnt g (s + 1) : Int)) (fun j => by
        by_cases e : j = s + 1
        · rw [if_pos e, e, updF_at]
        · rw [if_neg e, updF_ne _ _ e, updF_ne _ _ e])
      refine ⟨F', ?_, h2⟩
      rw [← h1]
      exact lpO_next (by simp only [st_opt_Trim_L0, bindT, of_t (show (s : Int) < (n : Int) by omega), ofR (show s < 4097 by omega), of_succ s (by omega), ofR (show s + 1 < 4097 by omega), Int.toNat_natCast, ofR (show s < n by omega), hg, cond_true, e1])
/-- What stands for the slot k: it goes where its place has gone. -/
noncomputable def fitK (A : Nat → Insn) (g : Nat → Bool) (tg : Nat → Int × Bool) (k : Nat) : Insn :=
  if (tg k).2 then m_opt_fitted (A k) ((cnt g (tg k).1.toNat : Int) - (cnt g k : Int) - 1) else A k
theorem trim_go {n : Nat} {A : Nat → Insn} {g : Nat → Bool} {F : Nat → Int} {tg : Nat → Int × Bool} (hn : n ≤ 4096) (hF : ∀ j, j ≤ n → F j = (cnt g j : Int)) (ht : ∀ k, k < n → g k = true → m_insn_Target n A (k : Int) = some (tg k)) (hb : ∀ k, k < n → g k = true → (tg k).2 = true → 0 ≤ (tg k).1 ∧ (tg k).1 ≤ (n : Int)) :
    ∀ d s R O, s + d = n → (∀ k, k < s → g k = true → R (cnt g k) = fitK A g tg k ∧ O (cnt g k) = (k : Int)) →
    ∃ R' O', lpO (st_opt_Trim_L1 n A g F) (.c0 (cnt g s) R (cnt g s) O (s : Int)) = some (.e0 (cnt g n) R' (cnt g n) O') ∧ ∀ k, k < n → g k = true → R' (cnt g k) = fitK A g tg k ∧ O' (cnt g k) = (k : Int)
  | 0, s, R, O, h, hR => by
    obtain rfl : s = n := by omega
    exact ⟨R, O, lpO_end (by simp only [st_opt_Trim_L1, of_f (show ¬ ((s : Int) < (s : Int)) by omega), cond_false]), hR⟩
  | d + 1, s, R, O, h, hR => by
    have hle := cnt_le g s
    have hc : cnt g (s + 1) = if g s then cnt g s + 1 else cnt g s := rfl
    cases hg : g s
    · rw [hg] at hc
      have hc : cnt g (s + 1) = cnt g s := hc
      obtain ⟨R', O', h1, h2⟩ := trim_go hn hF ht hb d (s + 1) R O (by omega) (fun k hk hgk => by
        by_cases e : k = s
        · subst e; rw [hg] at hgk; cases hgk
        · exact hR k (by omega) hgk)
      refine ⟨R', O', ?_, h2⟩
      rw [← h1, hc]
      exact lpO_next (by simp only [st_opt_Trim_L1, of_t (show (s : Int) < (n : Int) by omega), of_succ s (by omega), Int.toNat_natCast, ofR (show s < n by omega), hg, cond_true, cond_false])
    · rw [hg] at hc
      have hc : cnt g (s + 1) = cnt g s + 1 := hc
      obtain ⟨R', O', h1, h2⟩ := trim_go hn hF ht hb d (s + 1) (updF R (cnt g s) (fitK A g tg s)) (updF O (cnt g s) (s : Int)) (by omega) (fun k hk hgk => by
        by_cases e : k = s
        · subst e; exact ⟨updF_at _ _ _, updF_at _ _ _⟩
        · have := cnt_lt g (show k < s by omega) hgk
          rw [updF_ne _ _ (by omega), updF_ne _ _ (by omega)]
          exact hR k (by omega) hgk)
      refine ⟨R', O', ?_, h2⟩
      rw [← h1, hc]
      refine lpO_next ?_
      have hts := ht s (by omega) hg
      simp only [st_opt_Trim_L1, bindT, of_t (show (s : Int) < (n : Int) by omega), of_succ s (by omega), Int.toNat_natCast, ofR (show s < n by omega), hg, cond_true, hts, Option.bind_some, of_t (show cnt g s ≤ 1000000 by omega)]
      cases hb2 : (tg s).2
      · have e : fitK A g tg s = A s := by unfold fitK; rw [hb2]; rfl
        rw [e]
        rfl
      · obtain ⟨q0, q1⟩ := hb s (by omega) hg hb2
        obtain ⟨t, ht'⟩ := Int.eq_ofNat_of_zero_le q0
        have htn : t ≤ n := by omega
        have hct := cnt_le g t
        have e1 : IntKind.i64.wrap (IntKind.i64.wrap (F t - F s) - 1) = (cnt g t : Int) - (cnt g s : Int) - 1 := by
          rw [hF t htn, hF s (by omega), ofw (x := (cnt g t : Int) - (cnt g s : Int)) (by omega) (by omega), ofw (by omega) (by omega)]
        have e : fitK A g tg s = m_opt_fitted (A s) ((cnt g t : Int) - (cnt g s : Int) - 1) := by
          unfold fitK
          rw [hb2, ht']
          rfl
        rw [e, ht', Int.toNat_natCast, e1, ofR (show t < 4097 by omega), ofR (show s < 4097 by omega)]
        rfl
/-! ### Which slots stay -/
/-- None of so many from a on stays. -/
def noneK (K : Nat → Bool) : Nat → Nat → Bool
  | _, 0 => true
  | a, d + 1 => !K a && noneK K (a + 1) d
theorem noneK_iff (K : Nat → Bool) : ∀ d a, noneK K a d = true ↔ ∀ j, a ≤ j → j < a + d → K j = false
  | 0, a => ⟨fun _ j h1 h2 => by omega, fun _ => rfl⟩
  | d + 1, a => by
    have ih := noneK_iff K d (a + 1)
    unfold noneK
    rw [Bool.and_eq_true, ih]
    constructor
    · rintro ⟨h1, h2⟩ j h3 h4
      by_cases e : j = a
      · subst e; simpa using h1
      · exact h2 j (by omega) (by omega)
    · intro h
      exact ⟨by simpa using h a (Nat.le_refl _) (by omega), fun j h3 h4 => h j (by omega) (by omega)⟩
theorem goes_go {n k t : Nat} {K : Nat → Bool} {b : Bool} (hn : n ≤ 4096) (hk : k < t) (ht : t ≤ n) : ∀ d s, s + d = t - (k + 1) →
    lpO (st_opt_goesOn_L0 (k : Int) n K ((t : Int), b)) (.c0 (s : Int)) = some (if noneK K (k + 1 + s) d then .e0 else .e1)
  | 0, s, h => by
    have e1 : ((t : Int).toNat - (IntKind.i64.wrap ((k : Int) + 1)).toNat : Nat) = t - (k + 1) := by rw [of_succ k (by omega), Int.toNat_natCast, Int.toNat_natCast]
    exact lpO_end (by
      simp only [st_opt_goesOn_L0, e1, of_f (show ¬ ((s : Int) < ((t - (k + 1) : Nat) : Int)) by omega), cond_false]
      rfl)
  | d + 1, s, h => by
    have e1 : ((t : Int).toNat - (IntKind.i64.wrap ((k : Int) + 1)).toNat : Nat) = t - (k + 1) := by rw [of_succ k (by omega), Int.toNat_natCast, Int.toNat_natCast]
    have st : st_opt_goesOn_L0 (k : Int) n K ((t : Int), b) (.c0 (s : Int)) = bif K (k + 1 + s) then some (.inr .e1) else some (.inl (.c0 ((s + 1 : Nat) : Int))) := by
      simp only [st_opt_goesOn_L0, e1, of_t (show (s : Int) < ((t - (k + 1) : Nat) : Int) by omega), ofR (show s < t - (k + 1) by omega), of_succ k (by omega), ofR (show k + 1 < n by omega), ofR (show t < n + 1 by omega), of_t (show ((k + 1 : Nat) : Int) ≤ (t : Int) by omega), Int.toNat_natCast, of_succ s (by omega), cond_true]
    cases hK : K (k + 1 + s)
    · rw [lpO_next (s' := .c0 ((s + 1 : Nat) : Int)) (by rw [st, hK]; rfl), goes_go hn hk ht d (s + 1) (by omega)]
      show _ = some (if (!K (k + 1 + s) && noneK K (k + 1 + s + 1) d) = true then _ else _)
      rw [hK, show k + 1 + (s + 1) = k + 1 + s + 1 by omega]
      rfl
    · rw [lpO_end (r := .e1) (by rw [st, hK]; rfl)]
      show _ = some (if (!K (k + 1 + s) && noneK K (k + 1 + s + 1) d) = true then _ else _)
      rw [hK]
      rfl
/-- Whether the Ja at k goes on to the next slot that stays. -/
def goneK (K : Nat → Bool) (k t : Nat) : Bool := decide (k < t) && noneK K (k + 1) (t - (k + 1))
theorem goes_eq {n k t : Nat} {A : Nat → Insn} {K : Nat → Bool} {b : Bool} (hn : n ≤ 4096) (hk : k < n) (ht : t < n) (hT : m_insn_Target n A (k : Int) = some ((t : Int), b)) : m_opt_goesOn n A (k : Int) n K = some (goneK K k t) := by
  unfold m_opt_goesOn goneK
  rw [hT]
  simp only [Option.bind_some]
  by_cases h : k < t
  · have hg : lpO (st_opt_goesOn_L0 (k : Int) n K ((t : Int), b)) (.c0 0) = some (if noneK K (k + 1) (t - (k + 1)) then .e0 else .e1) := goes_go (K := K) (b := b) hn h (by omega) (t - (k + 1)) 0 (by omega)
    rw [of_f (show ¬ ((t : Int) ≤ (k : Int)) by omega), of_succ k (by omega), ofR (show k + 1 < n by omega), ofR (show t < n + 1 by omega), of_t (show ((k + 1 : Nat) : Int) ≤ (t : Int) by omega), hg, of_t h]
    cases noneK K (k + 1) (t - (k + 1)) <;> rfl
  · rw [of_t (show (t : Int) ≤ (k : Int) by omega), of_f h]
    rfl
/-- With the second slots of wide loads that stay. -/
def keep1 (A : Nat → Insn) (r : Nat → Bool) : Nat → Bool
  | 0 => r 0
  | k + 1 => r (k + 1) || (((A k).fOp == 24#8) && keep1 A r k)
theorem keep1_go {n : Nat} {A : Nat → Insn} {r : Nat → Bool} (hn : n ≤ 4096) (hw : ∀ k, k < n → ((A k).fOp == 24#8) = true → k + 1 < n) : ∀ d s K, s + d = n → (∀ j, j ≤ s → K j = keep1 A r j) → (∀ j, s < j → K j = r j) →
    ∃ K', lpO (st_opt_kept_L0 n A) (.c0 K (s : Int)) = some (.e0 K') ∧ ∀ j, j < n → K' j = keep1 A r j
  | 0, s, K, h, h1, h2 => by
    obtain rfl : s = n := by omega
    exact ⟨K, lpO_end (by simp only [st_opt_kept_L0, of_f (show ¬ ((s : Int) < (s : Int)) by omega), cond_false]), fun j hj => h1 j (by omega)⟩
  | d + 1, s, K, h, h1, h2 => by
    have hs := h1 s (Nat.le_refl _)
    have nx : ∀ K1 : Nat → Bool, K1 (s + 1) = keep1 A r (s + 1) → (∀ j, j ≠ s + 1 → K1 j = K j) → ∃ K', lpO (st_opt_kept_L0 n A) (.c0 K1 ((s + 1 : Nat) : Int)) = some (.e0 K') ∧ ∀ j, j < n → K' j = keep1 A r j := fun K1 q1 q2 =>
      keep1_go hn hw d (s + 1) K1 (by omega) (fun j hj => by
        by_cases e : j = s + 1
        · subst e; exact q1
        · rw [q2 j e]; exact h1 j (by omega)) (fun j hj => by rw [q2 j (by omega)]; exact h2 j (by omega))
    have hk : keep1 A r (s + 1) = (r (s + 1) || (((A s).fOp == 24#8) && keep1 A r s)) := rfl
    cases ho : (A s).fOp == 24#8
    · obtain ⟨K', g1, g2⟩ := nx K (by rw [hk, ho, h2 (s + 1) (by omega)]; simp) (fun _ _ => rfl)
      refine ⟨K', ?_, g2⟩
      rw [← g1]
      exact lpO_next (by simp only [st_opt_kept_L0, of_t (show (s : Int) < (n : Int) by omega), ofR (show s < n by omega), Int.toNat_natCast, ho, of_succ s (by omega), cond_true, cond_false])
    · cases hK : K s
      · obtain ⟨K', g1, g2⟩ := nx K (by rw [hk, ho, ← hs, hK, h2 (s + 1) (by omega)]; simp) (fun _ _ => rfl)
        refine ⟨K', ?_, g2⟩
        rw [← g1]
        exact lpO_next (by simp only [st_opt_kept_L0, of_t (show (s : Int) < (n : Int) by omega), ofR (show s < n by omega), Int.toNat_natCast, ho, hK, of_succ s (by omega), cond_true, cond_false])
      · have hw1 := hw s (by omega) ho
        obtain ⟨K', g1, g2⟩ := nx (updF K (s + 1) true) (by rw [updF_at, hk, ho, ← hs, hK]; simp) (fun j hj => updF_ne _ _ hj)
        refine ⟨K', ?_, g2⟩
        rw [← g1]
        exact lpO_next (by simp only [st_opt_kept_L0, of_t (show (s : Int) < (n : Int) by omega), ofR (show s < n by omega), Int.toNat_natCast, ho, hK, of_succ s (by omega), ofR hw1, cond_true])
/-- What stays at last: no Ja that goes on to the next slot that stays. -/
def Last (A : Nat → Insn) (r : Nat → Bool) (to : Nat → Nat) (n s : Nat) (K : Nat → Bool) : Prop :=
  ∀ j, s ≤ j → j < n → K j = (keep1 A r j && !(((A j).fOp == 5#8) && goneK K j (to j)))
theorem noneK_same {K K' : Nat → Bool} : ∀ d a, (∀ j, a ≤ j → K j = K' j) → noneK K a d = noneK K' a d
  | 0, _, _ => rfl
  | d + 1, a, h => by
    unfold noneK
    rw [h a (Nat.le_refl _), noneK_same d (a + 1) fun j hj => h j (by omega)]
theorem goneK_same {K K' : Nat → Bool} {k t : Nat} (h : ∀ j, k < j → K j = K' j) : goneK K k t = goneK K' k t := by
  unfold goneK
  rw [noneK_same _ _ fun j hj => h j hj]
theorem last_go {n : Nat} {A : Nat → Insn} {r : Nat → Bool} {to : Nat → Nat} (hn : n ≤ 4096) (hto : ∀ k, k < n → keep1 A r k = true → ((A k).fOp == 5#8) = true → to k < n ∧ ∃ b, m_insn_Target n A (k : Int) = some ((to k : Int), b)) : ∀ s K, s ≤ n → Last A r to n s K → (∀ j, j < s → K j = keep1 A r j) →
    ∃ K', lpO (st_opt_kept_L1 n A) (.c0 K ((s : Int) - 1)) = some (.e0 K') ∧ Last A r to n 0 K'
  | 0, K, _, hL, _ => ⟨K, lpO_end (by simp only [st_opt_kept_L1]; rfl), hL⟩
  | s + 1, K, hs, hL, hK => by
    have e0 : ((s + 1 : Nat) : Int) - 1 = (s : Int) := by omega
    have e1 : IntKind.i64.wrap ((s : Int) - 1) = (s : Int) - 1 := ofw (by omega) (by omega)
    have hks := hK s (by omega)
    have nx : ∀ K1 : Nat → Bool, (∀ j, j ≠ s → K1 j = K j) → K1 s = (keep1 A r s && !(((A s).fOp == 5#8) && goneK K s (to s))) → ∃ K', lpO (st_opt_kept_L1 n A) (.c0 K1 ((s : Int) - 1)) = some (.e0 K') ∧ Last A r to n 0 K' := fun K1 q1 q2 =>
      last_go hn hto s K1 (by omega) (fun j hj hjn => by
        by_cases e : j = s
        · subst e
          rw [q2, goneK_same (K := K1) (K' := K) fun i hi => q1 i (by omega)]
        · rw [q1 j e, hL j (by omega) hjn, goneK_same (K := K1) (K' := K) fun i hi => q1 i (by omega)]) (fun j hj => by rw [q1 j (by omega)]; exact hK j (by omega))
    rw [e0]
    cases hk1 : K s
    · obtain ⟨K', g1, g2⟩ := nx K (fun _ _ => rfl) (by rw [← hks, hk1]; rfl)
      refine ⟨K', ?_, g2⟩
      rw [← g1]
      exact lpO_next (by simp only [st_opt_kept_L1, of_t (show 0 ≤ (s : Int) by omega), Int.toNat_natCast, ofR (show s < n by omega), hk1, e1, cond_true, cond_false])
    · cases ho : (A s).fOp == 5#8
      · obtain ⟨K', g1, g2⟩ := nx K (fun _ _ => rfl) (by rw [← hks, hk1, ho]; rfl)
        refine ⟨K', ?_, g2⟩
        rw [← g1]
        exact lpO_next (by simp only [st_opt_kept_L1, of_t (show 0 ≤ (s : Int) by omega), Int.toNat_natCast, ofR (show s < n by omega), hk1, ho, e1, cond_true, cond_false])
      · obtain ⟨htn, b, hT⟩ := hto s (by omega) (by rw [← hks]; exact hk1) ho
        have hg := goes_eq (K := K) hn (show s < n by omega) htn hT
        cases hgo : goneK K s (to s)
        · rw [hgo] at hg
          obtain ⟨K', g1, g2⟩ := nx K (fun _ _ => rfl) (by rw [← hks, hk1, ho, hgo]; rfl)
          refine ⟨K', ?_, g2⟩
          rw [← g1]
          exact lpO_next (by simp only [st_opt_kept_L1, of_t (show 0 ≤ (s : Int) by omega), Int.toNat_natCast, ofR (show s < n by omega), hk1, ho, hg, Option.bind_some, e1, cond_true, cond_false])
        · rw [hgo] at hg
          obtain ⟨K', g1, g2⟩ := nx (updF K s false) (fun j hj => updF_ne _ _ hj) (by rw [updF_at, ← hks, hk1, ho, hgo]; rfl)
          refine ⟨K', ?_, g2⟩
          rw [← g1]
          exact lpO_next (by simp only [st_opt_kept_L1, of_t (show 0 ≤ (s : Int) by omega), Int.toNat_natCast, ofR (show s < n by omega), hk1, ho, hg, Option.bind_some, e1, cond_true])
/-- What trimming needs to know of a well-formed program: what is reached, where its operations go. -/
structure Trims (n : Nat) (A : Nat → Insn) (r : Nat → Bool) (to : Nat → Nat) (tg : Nat → Int × Bool) : Prop where
  hn : n ≤ 4096
  chk : m_insn_Check n A = some (0, 0)
  hr : m_flow_Reached n A = some (.e0 r)
  hw : ∀ k, k < n → ((A k).fOp == 24#8) = true → k + 1 < n
  ht : ∀ k, k < n → keep1 A r k = true → m_insn_Target n A (k : Int) = some (tg k)
  hb : ∀ k, k < n → keep1 A r k = true → (tg k).2 = true → 0 ≤ (tg k).1 ∧ (tg k).1 ≤ (n : Int)
  hto : ∀ k, k < n → keep1 A r k = true → ((A k).fOp == 5#8) = true → to k < n ∧ ∃ b, m_insn_Target n A (k : Int) = some ((to k : Int), b)
theorem last_keep {n : Nat} {A : Nat → Insn} {r K : Nat → Bool} {to : Nat → Nat} (h : Last A r to n 0 K) {k : Nat} (hk : k < n) (hK : K k = true) : keep1 A r k = true := by
  rw [h k (Nat.zero_le _) hk] at hK
  exact (Bool.and_eq_true_iff.1 hK).1
theorem Trims.kept {n : Nat} {A : Nat → Insn} {r : Nat → Bool} {to : Nat → Nat} {tg : Nat → Int × Bool} (H : Trims n A r to tg) : ∃ G, m_opt_kept n A = some (.e0 G) ∧ Last A r to n 0 G := by
  obtain ⟨K1, h1, h2⟩ := keep1_go (r := r) H.hn H.hw n 0 r (by omega) (fun j hj => by rw [show j = 0 by omega]; rfl) (fun _ _ => rfl)
  have h1 : lpO (st_opt_kept_L0 n A) (.c0 r 0) = some (.e0 K1) := h1
  obtain ⟨G, h3, h4⟩ := last_go (r := r) H.hn H.hto n K1 (Nat.le_refl _) (fun j hj hjn => by omega) h2
  have e1 : IntKind.i64.wrap ((n : Int) - 1) = (n : Int) - 1 := by have := H.hn; exact ofw (by omega) (by omega)
  refine ⟨G, ?_, h4⟩
  unfold m_opt_kept
  simp only [H.hr, Option.bind_some, h1, e1, h3]
/-- What is trimmed: of each slot that stays what stands for it, and which it was. -/
theorem Trims.trim {n : Nat} {A : Nat → Insn} {r : Nat → Bool} {to : Nat → Nat} {tg : Nat → Int × Bool} (H : Trims n A r to tg) : ∃ G R O, Last A r to n 0 G ∧ m_opt_Trim n A = some (.e0 (cnt G n) R (cnt G n) O) ∧ ∀ k, k < n → G k = true → R (cnt G k) = fitK A G tg k ∧ O (cnt G k) = (k : Int) := by
  have hn := H.hn
  obtain ⟨G, h1, hL⟩ := H.kept
  obtain ⟨F, h2, hF⟩ := fresh_go (g := G) hn n 0 (fun _ => 0) (by omega) (fun j hj => by rw [show j = 0 by omega]; rfl)
  have h2 : lpO (st_opt_Trim_L0 n G) (.c0 (fun _ => 0) 0) = some (.e0 F) := h2
  obtain ⟨R, O, h3, h4⟩ := trim_go (A := A) (g := G) (tg := tg) hn hF (fun k hk hg => H.ht k hk (last_keep hL hk hg)) (fun k hk hg => H.hb k hk (last_keep hL hk hg)) n 0 (fun _ => (⟨0#8, 0#8, 0#8, 0#16, 0#32⟩ : Insn)) (fun _ => 0) (by omega) (fun k hk => by omega)
  have h3 : lpO (st_opt_Trim_L1 n A G F) (.c0 0 (fun _ => (⟨0#8, 0#8, 0#8, 0#16, 0#32⟩ : Insn)) 0 (fun _ => 0) 0) = some (.e0 (cnt G n) R (cnt G n) O) := h3
  refine ⟨G, R, O, hL, ?_, h4⟩
  unfold m_opt_Trim
  simp only [H.chk, Option.bind_some, h1, h2, h3, ofR (show n < 1000001 by omega), ofR (show cnt G n < cnt G n + 1 by omega), cond_true]
  rfl
/-- Each of the new slots is one of the old ones. -/
theorem cnt_surj (g : Nat → Bool) : ∀ n j, j < cnt g n → ∃ k, k < n ∧ g k = true ∧ cnt g k = j
  | 0, j, h => by simp [cnt] at h
  | n + 1, j, h => by
    by_cases hg : g n = true
    · have e : cnt g (n + 1) = cnt g n + 1 := by show (if g n then _ else _) = _; rw [if_pos hg]
      rw [e] at h
      by_cases hj : j = cnt g n
      · exact ⟨n, by omega, hg, hj.symm⟩
      · obtain ⟨k, h1, h2, h3⟩ := cnt_surj g n j (by omega)
        exact ⟨k, by omega, h2, h3⟩
    · have e : cnt g (n + 1) = cnt g n := by show (if g n then _ else _) = _; rw [if_neg hg]
      rw [e] at h
      obtain ⟨k, h1, h2, h3⟩ := cnt_surj g n j h
      exact ⟨k, by omega, h2, h3⟩
theorem cnt_inj (g : Nat → Bool) {a b : Nat} (ha : g a = true) (hb : g b = true) (h : cnt g a = cnt g b) : a = b := by
  rcases Nat.lt_trichotomy a b with q | q | q
  · have := cnt_lt g q ha; omega
  · exact q
  · have := cnt_lt g q hb; omega
theorem cnt_all {g : Nat → Bool} {n : Nat} (h : ∀ k, k < n → g k = true) : ∀ k, k ≤ n → cnt g k = k
  | 0, _ => rfl
  | k + 1, hk => by
    show (if g k then cnt g k + 1 else cnt g k) = k + 1
    rw [if_pos (h k (by omega)), cnt_all h k (by omega)]
theorem fitted_off (x : Insn) (h : m_op_Jumps x = true) : m_opt_fitted x (ii x.fOff) = x := by
  unfold m_opt_fitted
  rw [h, cond_true]
  have : BitVec.ofInt 16 (ii x.fOff) = x.fOff := BitVec.ofInt_toInt
  rw [this]
theorem fitted_imm (x : Insn) (h : m_op_Jumps x = false) : m_opt_fitted x (ii x.fImm) = x := by
  unfold m_opt_fitted
  rw [h, cond_false]
  have : BitVec.ofInt 32 (ii x.fImm) = x.fImm := BitVec.ofInt_toInt
  rw [this]
/-- Its operation and registers stay. -/
theorem fitted_keeps (x : Insn) (d : Int) : (m_opt_fitted x d).fOp = x.fOp ∧ (m_opt_fitted x d).fDst = x.fDst ∧ (m_opt_fitted x d).fSrc = x.fSrc := by
  unfold m_opt_fitted
  cases m_op_Jumps x <;> exact ⟨rfl, rfl, rfl⟩
theorem fitK_keeps (A : Nat → Insn) (g : Nat → Bool) (tg : Nat → Int × Bool) (k : Nat) : (fitK A g tg k).fOp = (A k).fOp ∧ (fitK A g tg k).fDst = (A k).fDst ∧ (fitK A g tg k).fSrc = (A k).fSrc := by
  unfold fitK
  split
  · exact fitted_keeps _ _
  · exact ⟨rfl, rfl, rfl⟩
/-- Where all stays nothing is turned: each operation goes where it went. -/
theorem fitK_all {A : Nat → Insn} {g : Nat → Bool} {tg : Nat → Int × Bool} {n : Nat} (h : ∀ k, k < n → g k = true) {k : Nat} (hk : k < n) (hb : (tg k).2 = true → 0 ≤ (tg k).1 ∧ (tg k).1 ≤ (n : Int) ∧ (tg k).1 = (k : Int) + 1 + (if m_op_Jumps (A k) then ii (A k).fOff else ii (A k).fImm)) : fitK A g tg k = A k := by
  unfold fitK
  cases ht : (tg k).2
  · rfl
  · obtain ⟨h0, h1, h2⟩ := hb ht
    rw [if_pos rfl, cnt_all h k (by omega), cnt_all h (tg k).1.toNat (by omega)]
    have e : (((tg k).1.toNat : Nat) : Int) - (k : Int) - 1 = if m_op_Jumps (A k) then ii (A k).fOff else ii (A k).fImm := by
      rw [Int.toNat_of_nonneg h0]; omega
    rw [e]
    cases hj : m_op_Jumps (A k)
    · exact fitted_imm _ hj
    · exact fitted_off _ hj
/-! ### What is reached -/
inductive Way (E : Nat → Nat → Prop) : Nat → Prop where
  | root : Way E 0
  | step {k t : Nat} : Way E k → E k t → Way E t
/-- Where none stays the next one that stays is the same. -/
theorem cnt_none {g : Nat → Bool} {a : Nat} : ∀ d, (∀ j, a ≤ j → j < a + d → g j = false) → cnt g (a + d) = cnt g a
  | 0, _ => rfl
  | d + 1, h => by
    have e : cnt g (a + d + 1) = cnt g (a + d) := by
      show (if g (a + d) then cnt g (a + d) + 1 else cnt g (a + d)) = _
      rw [h (a + d) (by omega) (by omega)]; rfl
    rw [show a + (d + 1) = a + d + 1 by omega, e]
    exact cnt_none d fun j h1 h2 => h j h1 (by omega)
theorem cnt_gone {g : Nat → Bool} {k t : Nat} (h : goneK g k t = true) (hk : g k = false) : cnt g k = cnt g t := by
  unfold goneK at h
  obtain ⟨h1, h2⟩ := Bool.and_eq_true_iff.1 h
  have h1 := of_decide_eq_true h1
  have h3 := (noneK_iff g _ _).1 h2
  have := cnt_none (g := g) (a := k) (t - k) (fun j q1 q2 => by
    by_cases e : j = k
    · subst e; exact hk
    · exact h3 j (by omega) (by omega))
  rw [show k + (t - k) = t by omega] at this
  exact this.symm
/-- The image of a way is a way. -/
theorem way_img {E E' : Nat → Nat → Prop} {g : Nat → Bool} (h1 : ∀ k t, Way E k → E k t → g k = true → E' (cnt g k) (cnt g t)) (h2 : ∀ k t, Way E k → E k t → g k = false → cnt g k = cnt g t) {k : Nat} (h : Way E k) : Way E' (cnt g k) := by
  induction h with
  | root => exact .root
  | step hw he ih =>
    rename_i k t
    cases hg : g k
    · rw [← h2 k t hw he hg]; exact ih
    · exact .step ih (h1 k t hw he hg)
end Go.Proofs.Ytnoflelhkgdebaa

