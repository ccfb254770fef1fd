/-
  Instructions: the reference's subprograms are the program's.
-/
import Derived.Test.YtliijnpblddjfaaS1QC
import Derived.Test.YtliijnpblddjfaaS1CF
namespace Go.Proofs.Ytliijnpblddjfaa
open Go.RowKit
set_option linter.unusedVariables false
set_option linter.unusedSimpArgs false
set_option maxRecDepth 100000
theorem zpD {n : Nat} {A : Nat → Insn} {k : Nat} (he : errB n A k = 0) : zw (A k) = true := by
  unfold errB at he
  cases h : zw (A k)
  · rw [h] at he; exact absurd (show (11 : Int) = 0 from he) (by decide)
  · rfl
theorem zCH {n : Nat} (hn : n ≤ 4096) {A : Nat → Insn} {G : Nat → Bool} (hG : ∀ k, k < n → G k = sec A k) : ∃ r, lpO (zW n A G) (.c0 0) = some r ∧
    ((r = .e0 ∧ okTo n A n) ∨ ∃ k, k < n ∧ r = .e1 (k : Int) (errB n A k) ∧ sec A k = false ∧ errB n A k ≠ 0 ∧ okTo n A k) := by
  refine zgD (st := zW n A G) (fun s => match s with | .c0 x => ∃ k : Nat, x = (k : Int) ∧ k ≤ n ∧ okTo n A k) (fun s => match s with | .c0 x => n - x.toNat)
    (fun _ r => (r = .e0 ∧ okTo n A n) ∨ ∃ k, k < n ∧ r = .e1 (k : Int) (errB n A k) ∧ sec A k = false ∧ errB n A k ≠ 0 ∧ okTo n A k) ?_ (.c0 0) ⟨0, rfl, by omega, fun j hj => by omega⟩
  rintro ⟨x⟩ ⟨k, rfl, hk, hok⟩
  by_cases h : k < n
  · have e1 : IntKind.i64.wrap ((k : Int) + 1) = ((k + 1 : Nat) : Int) := by rw [wz] <;> omega
    have next : ∀ (hx : sec A k = false → errB n A k = 0), okTo n A (k + 1) := fun hx j hj hjn hs => by
      by_cases c : j = k
      · subst c; exact hx hs
      · exact hok j (by omega) hjn hs
    cases hs : sec A k
    · by_cases he : errB n A k = 0
      · refine .inl ⟨.c0 ((k + 1 : Nat) : Int), ?_, ⟨k + 1, rfl, by omega, next (fun _ => he)⟩, by show n - ((k + 1 : Nat) : Int).toNat < n - (k : Int).toNat; omega, fun r hr => hr⟩
        unfold zW
        dsimp only
        simp only [Int.toNat_natCast]
        rw [bd_t (by omega), bi_t (by omega), hG k h, hs, b_f, zB6 hn hG h, bs_, bz_t he, e1]
      · refine .inr ⟨.e1 (k : Int) (errB n A k), ?_, .inr ⟨k, h, rfl, hs, he, hok⟩⟩
        unfold zW
        dsimp only
        simp only [Int.toNat_natCast]
        rw [bd_t (by omega), bi_t (by omega), hG k h, hs, b_f, zB6 hn hG h, bs_, bz_f he]
    · refine .inl ⟨.c0 ((k + 1 : Nat) : Int), ?_, ⟨k + 1, rfl, by omega, next (fun h => by rw [hs] at h; cases h)⟩, by show n - ((k + 1 : Nat) : Int).toNat < n - (k : Int).toNat; omega, fun r hr => hr⟩
      unfold zW
      dsimp only
      simp only [Int.toNat_natCast]
      rw [bd_t (by omega), bi_t (by omega), hG k h, hs, b_t, e1]
  · obtain rfl : k = n := by omega
    refine .inr ⟨.e0, ?_, .inl ⟨rfl, hok⟩⟩
    unfold zW
    dsimp only
    rw [bd_f (by omega)]
theorem zAH {n : Nat} (hn : n ≤ 4096) {A : Nat → Insn} {G : Nat → Bool} (hG : ∀ k, k < n → G k = sec A k) (hok : okTo n A n) : ∃ g, lpO (zE n A G) (.c0 (updF (fun _ => false) 0 true) 0) = some (.e0 g) ∧ ∀ j, g j = true ↔ Beg n A j := by
  have h0 : zBp n A 0 (updF (fun _ => false) 0 true) := fun j => by
    rw [zuD]
    by_cases c : j = 0
    · rw [if_pos c]; exact ⟨fun _ => .inl c, fun _ => rfl⟩
    · rw [if_neg c]; exact ⟨fun h => (by cases h), fun h => h.elim (fun h => absurd h c) (fun ⟨i, hi, _⟩ => by omega)⟩
  have key : ∃ r, lpO (zE n A G) (.c0 (updF (fun _ => false) 0 true) 0) = some r ∧ ∃ g, r = .e0 g ∧ ∀ j, g j = true ↔ Beg n A j := by
    refine zgD (st := zE n A G) (fun s => match s with | .c0 g x => ∃ k : Nat, x = (k : Int) ∧ k ≤ n ∧ zBp n A k g) (fun s => match s with | .c0 g x => n - x.toNat)
      (fun _ r => ∃ g, r = .e0 g ∧ ∀ j, g j = true ↔ Beg n A j) ?_ _ ⟨0, rfl, by omega, h0⟩
    rintro ⟨g, x⟩ ⟨k, rfl, hk, hg⟩
    by_cases h : k < n
    · have e1 : IntKind.i64.wrap ((k : Int) + 1) = ((k + 1 : Nat) : Int) := by rw [wz] <;> omega
      have same : ¬ (sec A k = false ∧ zs (A k) = true) → zBp n A (k + 1) g := fun hx j => by
        rw [hg j]
        constructor
        · rintro (h1 | ⟨i, h1, h2⟩)
          · exact .inl h1
          · exact .inr ⟨i, by omega, h2⟩
        · rintro (h1 | ⟨i, h1, h2, h3, h4, h5⟩)
          · exact .inl h1
          · by_cases c : i = k
            · subst c; exact absurd ⟨h3, h4⟩ hx
            · exact .inr ⟨i, by omega, h2, h3, h4, h5⟩
      have stay : ∀ (hx : ¬ (sec A k = false ∧ zs (A k) = true)), zE n A G (.c0 g (k : Int)) = some (.inl (.c0 g ((k + 1 : Nat) : Int))) → (∃ s', zE n A G (.c0 g (k : Int)) = some (.inl s') ∧ (match s' with | .c0 g x => ∃ k : Nat, x = (k : Int) ∧ k ≤ n ∧ zBp n A k g) ∧ (match s' with | .c0 g x => n - x.toNat) < n - (k : Int).toNat ∧ ∀ r, (∃ g, r = zbk.e0 g ∧ ∀ j, g j = true ↔ Beg n A j) → (∃ g, r = zbk.e0 g ∧ ∀ j, g j = true ↔ Beg n A j)) := fun hx hst =>
        ⟨_, hst, ⟨k + 1, rfl, by omega, same hx⟩, by show n - ((k + 1 : Nat) : Int).toNat < n - (k : Int).toNat; omega, fun r hr => hr⟩
      cases hs : sec A k
      · have hkn := zpD (hok k h h hs)
        cases hm : zs (A k)
        · refine .inl (stay (fun hx => by rw [hm] at hx; cases hx.2) ?_)
          unfold zE
          dsimp only
          simp only [Int.toNat_natCast]
          rw [bd_t (by omega), bi_t (by omega), hG k h, hs, b_f, bi_t (by omega), zww hkn, hm, b_f, e1]
        · have hc := zs2 (hok k h h hs) hm
          obtain ⟨c1, c2, c3⟩ := zux.1 hc
          have h32 := ii32 (A k).fImm
          refine .inl ⟨.c0 (updF g ((k : Int) + 1 + ii (A k).fImm).toNat true) ((k + 1 : Nat) : Int), ?_, ⟨k + 1, rfl, by omega, fun j => ?_⟩, by show n - ((k + 1 : Nat) : Int).toNat < n - (k : Int).toNat; omega, fun r hr => hr⟩
          · unfold zE
            dsimp only
            simp only [Int.toNat_natCast]
            rw [bd_t (by omega), bi_t (by omega), hG k h, hs, b_f, bi_t (by omega), zww hkn, hm, b_t, bt_, zBC A (by omega) (by omega) (by omega), if_pos (by omega), bi_t (by omega), e1]
          · rw [zuD]
            by_cases c : j = ((k : Int) + 1 + ii (A k).fImm).toNat
            · rw [if_pos c]
              exact ⟨fun _ => .inr ⟨k, by omega, h, hs, hm, by omega⟩, fun _ => rfl⟩
            · rw [if_neg c, hg j]
              constructor
              · rintro (h1 | ⟨i, h1, h2⟩)
                · exact .inl h1
                · exact .inr ⟨i, by omega, h2⟩
              · rintro (h1 | ⟨i, h1, h2, h3, h4, h5⟩)
                · exact .inl h1
                · by_cases ci : i = k
                  · subst ci; omega
                  · exact .inr ⟨i, by omega, h2, h3, h4, h5⟩
      · refine .inl (stay (fun hx => by rw [hs] at hx; cases hx.1) ?_)
        unfold zE
        dsimp only
        simp only [Int.toNat_natCast]
        rw [bd_t (by omega), bi_t (by omega), hG k h, hs, b_t, e1]
    · obtain rfl : k = n := by omega
      refine .inr ⟨.e0 g, ?_, g, rfl, fun j => ?_⟩
      · unfold zE
        dsimp only
        rw [bd_f (by omega)]
      · rw [hg j]
        unfold Beg
        constructor
        · rintro (h1 | ⟨i, h1, h2⟩)
          · exact .inl h1
          · exact .inr ⟨i, h2⟩
        · rintro (h1 | ⟨i, h1, h2⟩)
          · exact .inl h1
          · exact .inr ⟨i, h1, h1, h2⟩
  obtain ⟨r, hr, g, rfl, hg⟩ := key
  exact ⟨g, hr, hg⟩
theorem Parts.mono {g : Nat → Bool} {k N : Nat} {P : Nat → Part} (h : Parts g k N P) : ∀ d i, i + d < N → (P i).fFrom ≤ (P (i + d)).fFrom
  | 0, i, _ => Int.le_refl _
  | d + 1, i, hi => by
    have h1 := h.mono d i (by omega)
    have h2 := h.lt (i + d) (by omega)
    have h3 := h.next (i + d) (by omega)
    have h4 : (P (i + (d + 1))).fFrom = (P (i + d + 1)).fFrom := rfl
    rw [h4]
    omega
theorem Parts.mono' {g : Nat → Bool} {k N : Nat} {P : Nat → Part} (h : Parts g k N P) {i j : Nat} (hij : i < j) (hj : j < N) : (P i).fTo ≤ (P j).fFrom := by
  have h1 := h.mono (j - i - 1) (i + 1) (by omega)
  have h3 := h.next i (by omega)
  rw [show i + 1 + (j - i - 1) = j by omega] at h1
  omega
/-- The list of the places where subprograms begin. -/
theorem zwC {n : Nat} (hn : n ≤ 4096) {g g' : Nat → Bool} (hgg : ∀ j, g' j = g j) {N : Nat} {P : Nat → Part} (hP : Parts g n N P) (hN : N ≤ n) : ∃ S, lpO (zD n g') (.c0 0) = some (.e1 N S) ∧ ∀ i, i < N → S i = (P i).fFrom := by
  have hpos := hP.pos
  have inside : ∀ m k : Nat, m ≤ N → 0 < m → k < n → (P (m - 1)).fFrom < (k : Int) → (m < N → (k : Int) < (P m).fFrom) → g k = false := fun m k hm hm0 hk h1 h2 => by
    refine hP.inner (m - 1) (by omega) k h1 ?_
    by_cases c : m < N
    · have := hP.next (m - 1) (by omega)
      rw [show m - 1 + 1 = m by omega] at this
      have := h2 c
      omega
    · obtain rfl : m = N := by omega
      have := hP.last
      omega
  have key : ∃ r, lpO (zD n g') (.c0 0) = some r ∧ ∃ S, r = .e1 N S ∧ ∀ i, i < N → S i = (P i).fFrom := by
    refine zgD (st := zD n g') (fun s => match s with
        | .c0 x => x = 0
        | .c1 m S x => ∃ k : Nat, x = (k : Int) ∧ k ≤ n ∧ 0 < m ∧ m ≤ N ∧ (∀ i, i < m → S i = (P i).fFrom) ∧ (P (m - 1)).fFrom < (k : Int) ∧ (m < N → (k : Int) ≤ (P m).fFrom))
      (fun s => match s with | .c0 x => n + 1 | .c1 m S x => n - x.toNat)
      (fun _ r => ∃ S, r = .e1 N S ∧ ∀ i, i < N → S i = (P i).fFrom) ?_ _ rfl
    rintro (x | ⟨m, S, x⟩) hI
    · have hx : x = 0 := hI
      subst hx
      have h0 := hP.beg 0 hpos
      rw [hP.first] at h0
      refine .inl ⟨.c1 1 (fun _ => 0) 1, ?_, ⟨1, rfl, by omega, by omega, hpos, fun i hi => ?_, ?_, fun h1 => ?_⟩, by show n - (1 : Int).toNat < n + 1; omega, fun r hr => hr⟩
      · unfold zD
        dsimp only
        rw [bd_t (by omega), bi_t (by omega), hgg, show g (0 : Int).toNat = true from h0, b_t, wz (x := 0 + 1) (by omega)]
        rfl
      · obtain rfl : i = 0 := by omega
        exact hP.first.symm
      · have := hP.first
        show (P 0).fFrom < 1
        omega
      · have := hP.lt 0 hpos
        have := hP.mono' (i := 0) (j := 1) (by omega) h1
        have := hP.first
        show (1 : Int) ≤ (P 1).fFrom
        omega
    · obtain ⟨k, rfl, hk, hm0, hm, hS, h1, h2⟩ := hI
      by_cases h : k < n
      · have e1 : IntKind.i64.wrap ((k : Int) + 1) = ((k + 1 : Nat) : Int) := by rw [wz] <;> omega
        cases hg : g k
        · refine .inl ⟨.c1 m S ((k + 1 : Nat) : Int), ?_, ⟨k + 1, rfl, by omega, hm0, hm, hS, by omega, fun c => ?_⟩, by show n - ((k + 1 : Nat) : Int).toNat < n - (k : Int).toNat; omega, fun r hr => hr⟩
          · unfold zD
            dsimp only
            simp only [Int.toNat_natCast]
            rw [bd_t (by omega), bi_t (by omega), hgg, hg, b_f, e1]
          · have a := h2 c
            have b := hP.beg m c
            have : (P m).fFrom ≠ (k : Int) := fun e => by rw [e, Int.toNat_natCast, hg] at b; cases b
            omega
        · have c : m < N := by
            apply Classical.byContradiction
            intro c
            rw [inside m k hm hm0 h h1 (fun h => absurd h c)] at hg
            cases hg
          have hk2 : (P m).fFrom = (k : Int) := by
            apply Classical.byContradiction
            intro hne
            have := h2 c
            rw [inside m k hm hm0 h h1 (fun _ => by omega)] at hg
            cases hg
          refine .inl ⟨.c1 (m + 1) (updF S m (k : Int)) ((k + 1 : Nat) : Int), ?_, ⟨k + 1, rfl, by omega, by omega, by omega, fun i hi => ?_, ?_, fun c2 => ?_⟩, by show n - ((k + 1 : Nat) : Int).toNat < n - (k : Int).toNat; omega, fun r hr => hr⟩
          · unfold zD
            dsimp only
            simp only [Int.toNat_natCast]
            rw [bd_t (by omega), bi_t (by omega), hgg, hg, b_t, bd_t (p := m ≤ 1000000) (by omega), e1]
          · rw [zuD]
            by_cases ci : i = m
            · rw [if_pos ci, ci, hk2]
            · rw [if_neg ci]; exact hS i (by omega)
          · rw [show m + 1 - 1 = m by omega, hk2]; omega
          · have := hP.lt m c
            have := hP.mono' (i := m) (j := m + 1) (by omega) c2
            omega
      · obtain rfl : k = n := by omega
        have hmN : m = N := by
          apply Classical.byContradiction
          intro c
          have c : m < N := by omega
          have a := h2 c
          have b := hP.lt m c
          have d := hP.to c
          omega
        subst hmN
        refine .inr ⟨.e1 m S, ?_, S, rfl, hS⟩
        unfold zD
        dsimp only
        rw [bd_f (by omega)]
  obtain ⟨r, hr, S, rfl, hS⟩ := key
  exact ⟨S, hr, hS⟩
end Go.Proofs.Ytliijnpblddjfaa

