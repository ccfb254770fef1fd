/-
  Instructions: the law InsnChecks, in plain words: jumps, and all together.
-/
import Derived.Test.YtliijnpblddjfaaS1QE
namespace Go.Proofs.Ytliijnpblddjfaa
open Go.RowKit
set_option linter.unusedVariables false
set_option linter.unusedSimpArgs false
set_option linter.unusedSectionVars false
set_option maxRecDepth 100000
theorem Parts.one {g : Nat → Bool} {n N : Nat} {P : Nat → Part} (hP : Parts g n N P) {i k : Nat} {j : Int} (hi : i < N) (hk : k < N) (h1 : (P i).fFrom ≤ j) (h2 : j < (P i).fTo) (h3 : (P k).fFrom ≤ j) (h4 : j < (P k).fTo) : i = k := by
  apply Classical.byContradiction
  intro h
  rcases Nat.lt_or_gt_of_ne h with c | c
  · have := hP.mono' c hk; omega
  · have := hP.mono' c hi; omega
theorem zzC {g : Nat → Bool} {n N : Nat} {P Q : Nat → Part} (hn : n ≤ 4096) (hP : Parts g n N P) (hN : N ≤ n) (hQ : ∀ i, i < N → Q i = P i) {j : Nat} (hj : j < n) : ∃ i, i < N ∧ (P i).fFrom ≤ (j : Int) ∧ (j : Int) < (P i).fTo ∧ zcP N Q (j : Int) = some (i : Int) := by
  have key : ∃ r, lpO (zbY N Q (j : Int)) (.c0 0) = some r ∧ ∃ i : Nat, i < N ∧ (P i).fFrom ≤ (j : Int) ∧ (j : Int) < (P i).fTo ∧ r = .e1 (i : Int) := by
    refine zgD (st := zbY N Q (j : Int)) (fun s => match s with | .c0 x => ∃ k : Nat, x = (k : Int) ∧ k ≤ N ∧ ∀ i, i < k → (P i).fTo ≤ (j : Int)) (fun s => match s with | .c0 x => N - x.toNat)
      (fun _ r => ∃ i : Nat, i < N ∧ (P i).fFrom ≤ (j : Int) ∧ (j : Int) < (P i).fTo ∧ r = .e1 (i : Int)) ?_ _ ⟨0, rfl, by omega, fun i hi => by omega⟩
    rintro ⟨x⟩ ⟨k, rfl, hk, hb⟩
    by_cases c : k < N
    · have e1 : IntKind.i64.wrap ((k : Int) + 1) = ((k + 1 : Nat) : Int) := by rw [wz] <;> omega
      have hf : (P k).fFrom ≤ (j : Int) := by
        rcases Nat.eq_zero_or_pos k with h0 | h0
        · subst h0; rw [hP.first]; omega
        · have h1 := hb (k - 1) (by omega)
          have h2 := hP.next (k - 1) (by omega)
          rw [show k - 1 + 1 = k by omega] at h2
          omega
      by_cases ct : (j : Int) < (P k).fTo
      · refine .inr ⟨.e1 (k : Int), ?_, k, c, hf, ct, rfl⟩
        unfold zbY
        dsimp only
        simp only [Int.toNat_natCast]
        rw [bd_t (by omega), bi_t (by omega), bd_t (by rw [hQ k c]; exact hf), bd_t (by rw [hQ k c]; exact ct)]
      · refine .inl ⟨.c0 ((k + 1 : Nat) : Int), ?_, ⟨k + 1, rfl, by omega, fun i hi => ?_⟩, by show N - ((k + 1 : Nat) : Int).toNat < N - (k : Int).toNat; omega, fun r hr => hr⟩
        · unfold zbY
          dsimp only
          simp only [Int.toNat_natCast]
          rw [bd_t (by omega), bi_t (by omega), bd_t (by rw [hQ k c]; exact hf), bd_f (by rw [hQ k c]; exact ct), e1]
        · by_cases ci : i = k
          · subst ci; omega
          · exact hb i (by omega)
    · obtain rfl : k = N := by omega
      have h1 := hP.pos
      have h2 := hb (k - 1) (by omega)
      have h3 := hP.last
      omega
  obtain ⟨r, hr, i, hi, h1, h2, rfl⟩ := key
  refine ⟨i, hi, h1, h2, ?_⟩
  unfold zcP
  rw [hr]
  rfl
section
variable {n : Nat} (hn : n ≤ 4096) {A : Nat → Insn} {G : Nat → Bool} (hG : ∀ k, k < n → G k = sec A k) (hok : okTo n A n) {g : Nat → Bool} {N : Nat} {P : Nat → Part} (hP : Parts g n N P) (hN : N ≤ n) {Q : Nat → Part} (hQ : ∀ i, i < N → Q i = P i)
include hn hG hok hP hN hQ
theorem zAq {k i : Nat} (hk : k < n) (hi : i < N) (h1 : (P i).fFrom ≤ (k : Int)) (h2 : (k : Int) < (P i).fTo) :
    zba n A N Q G (.c0 (k : Int)) = if sec A k = false ∧ zP A (P i) k = true then some (.inr (.e1 (k : Int))) else some (.inl (.c0 ((k + 1 : Nat) : Int))) := by
  have e1 : IntKind.i64.wrap ((k : Int) + 1) = ((k + 1 : Nat) : Int) := by rw [wz] <;> omega
  have h16 := ii16 (A k).fOff
  unfold zba
  dsimp only
  simp only [Int.toNat_natCast]
  rw [bd_t (by omega), bi_t (by omega), hG k hk]
  cases hs : sec A k
  · have hkn := zpD (hok k hk hk hs)
    have hj := zyH hkn
    rw [b_f, bi_t (by omega), zBC A (by omega) (by omega) (by omega), e1]
    have main : zV (A k) = true → (zv (if 0 ≤ (k : Int) + 1 + ii (A k).fOff ∧ (k : Int) + 1 + ii (A k).fOff < (n : Int) then (k : Int) + 1 + ii (A k).fOff else -1) fun rb0 =>
        bif decide (rb0 < 0) then some (Sum.inr (zQ.e1 (k : Int)))
        else bif inR rb0 n then
          bif G rb0.toNat then some (Sum.inr (zQ.e1 (k : Int)))
          else (zcP N Q rb0).bind fun rb1 => (zcP N Q (k : Int)).bind fun rb2 =>
            bif rb1 == rb2 then some (Sum.inl (zbP.c0 ((k + 1 : Nat) : Int))) else some (Sum.inr (zQ.e1 (k : Int)))
        else none) = if false = false ∧ zP A (P i) k = true then some (.inr (.e1 (k : Int))) else some (.inl (.c0 ((k + 1 : Nat) : Int))) := fun hjm => by
      have hto := hP.to hi
      have hfr := hP.lt i hi
      unfold zP
      rw [hjm, Bool.true_and, bt_]
      generalize hz : (k : Int) + 1 + ii (A k).fOff = z
      by_cases c : 0 ≤ z ∧ z < (n : Int)
      · rw [if_pos c]
        obtain ⟨t, rfl⟩ := Int.eq_ofNat_of_zero_le c.1
        obtain ⟨a, ha, a1, a2, a3⟩ := zzC hn hP hN hQ (j := t) (by omega)
        obtain ⟨b, hb, b1, b2, b3⟩ := zzC hn hP hN hQ (j := k) hk
        obtain rfl := hP.one hi hb h1 h2 b1 b2
        rw [bd_f (by omega), bi_t (by omega), Int.toNat_natCast, hG t (by omega), a3, b3]
        simp only [bs_]
        cases hst : sec A t
        · rw [b_f]
          by_cases ci : a = i
          · subst ci
            rw [bz_t rfl, dd_f (p := (t : Int) < (P a).fFrom) (by omega), dd_f (p := (P a).fTo ≤ (t : Int)) (by omega)]
            rfl
          · rw [bz_f (by omega)]
            have : ¬ ((P i).fFrom ≤ (t : Int) ∧ (t : Int) < (P i).fTo) := fun h => ci (hP.one ha hi a1 a2 h.1 h.2)
            by_cases cl : (t : Int) < (P i).fFrom
            · rw [dd_t cl]; rfl
            · rw [dd_f cl, dd_t (p := (P i).fTo ≤ (t : Int)) (by omega)]; rfl
        · rw [b_t, Bool.or_true, Bool.or_true]; rfl
      · rw [if_neg c, bd_t (by omega)]
        by_cases cl : z < (P i).fFrom
        · rw [dd_t cl]; rfl
        · rw [dd_f cl, dd_t (p := (P i).fTo ≤ z) (by omega)]; rfl
    cases h0 : zi (A k) 0
    · rw [b_f]
      cases hc : zbj (A k)
      · rw [h0, hc] at hj
        have : zP A (P i) k = false := by unfold zP; rw [← hj]; rfl
        rw [b_f, this]
        rfl
      · rw [h0, hc] at hj
        rw [b_t]
        exact main hj.symm
    · rw [h0] at hj
      rw [b_t]
      exact main (by rw [← hj]; rfl)
  · rw [b_t, e1]
    rfl
theorem zAu : ∃ r, lpO (zba n A N Q G) (.c0 0) = some r ∧
    ((r = .e0 ∧ ∀ k : Nat, k < n → ∀ i, i < N → (P i).fFrom ≤ (k : Int) → (k : Int) < (P i).fTo → sec A k = false → zP A (P i) k = false) ∨
     ∃ (k i : Nat), k < n ∧ i < N ∧ (P i).fFrom ≤ (k : Int) ∧ (k : Int) < (P i).fTo ∧ sec A k = false ∧ zP A (P i) k = true ∧ r = .e1 (k : Int) ∧ ∀ j : Nat, j < k → ∀ i, i < N → (P i).fFrom ≤ (j : Int) → (j : Int) < (P i).fTo → sec A j = false → zP A (P i) j = false) := by
  refine zgD (st := zba n A N Q G) (fun s => match s with | .c0 x => ∃ k : Nat, x = (k : Int) ∧ k ≤ n ∧ ∀ j : Nat, j < k → ∀ i, i < N → (P i).fFrom ≤ (j : Int) → (j : Int) < (P i).fTo → sec A j = false → zP A (P i) j = false) (fun s => match s with | .c0 x => n - x.toNat)
    (fun _ r => (r = .e0 ∧ ∀ k : Nat, k < n → ∀ i, i < N → (P i).fFrom ≤ (k : Int) → (k : Int) < (P i).fTo → sec A k = false → zP A (P i) k = false) ∨
     ∃ (k i : Nat), k < n ∧ i < N ∧ (P i).fFrom ≤ (k : Int) ∧ (k : Int) < (P i).fTo ∧ sec A k = false ∧ zP A (P i) k = true ∧ r = .e1 (k : Int) ∧ ∀ j : Nat, j < k → ∀ i, i < N → (P i).fFrom ≤ (j : Int) → (j : Int) < (P i).fTo → sec A j = false → zP A (P i) j = false) ?_ _ ⟨0, rfl, by omega, fun j hj => by omega⟩
  rintro ⟨x⟩ ⟨k, rfl, hk, hb⟩
  by_cases h : k < n
  · obtain ⟨i, hi, h1, h2, _⟩ := zzC hn hP hN hQ (j := k) h
    rw [zAq hn hG hok hP hN hQ h hi h1 h2]
    by_cases c : sec A k = false ∧ zP A (P i) k = true
    · rw [if_pos c]
      exact .inr ⟨_, rfl, .inr ⟨k, i, h, hi, h1, h2, c.1, c.2, rfl, hb⟩⟩
    · rw [if_neg c]
      refine .inl ⟨_, rfl, ⟨k + 1, rfl, by omega, fun j hj i' hi' a1 a2 a3 => ?_⟩, by show n - ((k + 1 : Nat) : Int).toNat < n - (k : Int).toNat; omega, fun r hr => hr⟩
      by_cases cj : j = k
      · subst cj
        obtain rfl := hP.one hi hi' h1 h2 a1 a2
        cases hbj : zP A (P i) j
        · rfl
        · exact absurd ⟨a3, hbj⟩ c
      · exact hb j (by omega) i' hi' a1 a2 a3
  · obtain rfl : k = n := by omega
    refine .inr ⟨.e0, ?_, .inl ⟨rfl, hb⟩⟩
    unfold zba
    dsimp only
    rw [bd_f (by omega)]
end
theorem zzV {n : Nat} {A : Nat → Insn} {r : Int × Int} (h : zxw n A r) : zcQ n A = some r := by
  have main : ∀ (N : Nat) (P : Nat → Part), SubsIs n A (.e1 N P) → ∃ (g : Nat → Bool), Parts g n N P ∧ ∃ w, zcQ n A = (match w with | .e0 => some (0, 0) | .e1 g2_0 => some (g2_0, 15)) ∧
      ((w = zQ.e0 ∧ ∀ k : Nat, k < n → ∀ i, i < N → (P i).fFrom ≤ (k : Int) → (k : Int) < (P i).fTo → sec A k = false → zP A (P i) k = false) ∨
     ∃ (k i : Nat), k < n ∧ i < N ∧ (P i).fFrom ≤ (k : Int) ∧ (k : Int) < (P i).fTo ∧ sec A k = false ∧ zP A (P i) k = true ∧ w = .e1 (k : Int) ∧ ∀ j : Nat, j < k → ∀ i, i < N → (P i).fFrom ≤ (j : Int) → (j : Int) < (P i).fTo → sec A j = false → zP A (P i) j = false) := fun N P hs => by
    obtain ⟨s', hs', hsame⟩ := zBt hs
    cases hs with
    | fine h0 hn hok g hg N P hN hP h64 he =>
      rcases s' with ⟨b, f⟩ | ⟨M, Q⟩
      · exact hsame.elim
      · obtain ⟨rfl, hQ⟩ := hsame
        obtain ⟨G, hG1, hG⟩ := zsj (n := n) (by omega) A
        obtain ⟨w, hw1, hw⟩ := zAu hn hG hok hP hN hQ
        refine ⟨g, hP, w, ?_, hw⟩
        unfold zcQ
        rw [hs', hG1]
        simp only [bs_]
        rw [hw1]
        cases w <;> rfl
  cases h with
  | subs a e hs =>
    have he := hs.err
    obtain ⟨s', hs', hsame⟩ := zBt hs
    rcases s' with ⟨b, f⟩ | ⟨M, Q⟩
    · obtain ⟨rfl, rfl⟩ := hsame
      unfold zcQ
      rw [hs']
      simp only [bs_]
      rw [bz_f he]
    · exact hsame.elim
  | jump N P hs i hi k h1 h2 h3 h4 h5 h6 =>
    obtain ⟨g, hP, w, hw1, hw⟩ := main N P hs
    have hkn : k < n := by have := hP.to hi; omega
    rw [hw1]
    rcases hw with ⟨rfl, hall⟩ | ⟨k', i', hk', hi', a1, a2, a3, a4, rfl, a5⟩
    · rw [hall k hkn i hi h1 h2 h3] at h4; cases h4
    · have : k = k' := by
        apply Classical.byContradiction
        intro hne
        rcases Nat.lt_or_gt_of_ne hne with c | c
        · rw [a5 k c i hi h1 h2 h3] at h4; cases h4
        · by_cases ci : i' = i
          · subst ci
            rw [h5 k' a1 c a3] at a4; cases a4
          · rcases Nat.lt_or_gt_of_ne ci with cl | cl
            · rw [h6 i' cl k' a1 a2 a3] at a4; cases a4
            · have := hP.mono' cl hi'; omega
      subst this
      rfl
  | fine N P hs h6 =>
    obtain ⟨g, hP, w, hw1, hw⟩ := main N P hs
    rw [hw1]
    rcases hw with ⟨rfl, hall⟩ | ⟨k', i', hk', hi', a1, a2, a3, a4, rfl, a5⟩
    · rfl
    · rw [h6 i' hi' k' a1 a2 a3] at a4; cases a4
end Go.Proofs.Ytliijnpblddjfaa

