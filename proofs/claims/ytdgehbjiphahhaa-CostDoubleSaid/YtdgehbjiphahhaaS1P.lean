/-
  Instructions: rows of slots of one subprogram, in plain words (no program).
-/
import Derived.Test.YtdgehbjiphahhaaS1O
namespace Go.Proofs.Ytdgehbjiphahhaa
open Go.RowKit
set_option linter.unusedVariables false
set_option linter.unusedSimpArgs false
theorem one_part {n : Nat} {A : Nat → Insn} {g : Nat → Bool} (hg : ∀ j, g j = true ↔ Beg n A j) {N : Nat} {P : Nat → Part} (hP : Parts g n N P) (hnames : ∀ k, k < n → sec A k = false → m_insn_names (A k) = false) :
    N = 1 ∧ (P 0).fFrom = 0 ∧ (P 0).fTo = (n : Int) := by
  have hN : N = 1 := by
    apply Classical.byContradiction
    intro h
    have hp := hP.pos
    have h1 := hP.next 0 (by omega)
    have h2 := hP.lt 0 (by omega)
    have h3 := hP.first
    rcases (hg _).1 (hP.beg 1 (by omega)) with h4 | ⟨k, hk, hs, hm, _⟩
    · simp only [Nat.zero_add] at h1; omega
    · rw [hnames k hk hs] at hm; cases hm
  subst hN
  exact ⟨rfl, hP.first, hP.last⟩
/-- A row of slots of one subprogram. -/
structure Plain (n : Nat) (A : Nat → Insn) : Prop where
  pos : 0 < n
  most : n ≤ 4096
  ok : okTo n A n
  names : ∀ k, k < n → sec A k = false → m_insn_names (A k) = false
  ends : endOk A n = true
theorem Plain.subs {n : Nat} {A : Nat → Insn} (h : Plain n A) {r : R_insn_Subs} (hs : SubsIs n A r) : ∃ P, r = .e1 1 P ∧ (P 0).fFrom = 0 ∧ (P 0).fTo = (n : Int) := by
  have hp := h.pos
  have hm := h.most
  cases hs with
  | many h' => omega
  | slot hn k hk hs he hok => exact absurd (h.ok k hk hk hs) he
  | subs h0 hn hok g hg N P hN hP h64 => have := (one_part hg hP h.names).1; omega
  | ends h0 hn hok g hg N P hN hP h64 i hi he hb =>
    obtain ⟨h1, h2, h3⟩ := one_part hg hP h.names
    obtain rfl : i = 0 := by omega
    rw [h3, Int.toNat_natCast, h.ends] at he
    cases he
  | fine h0 hn hok g hg N P hN hP h64 he =>
    obtain ⟨rfl, h2, h3⟩ := one_part hg hP h.names
    exact ⟨P, rfl, h2, h3⟩
theorem Plain.check {n : Nat} {A : Nat → Insn} (h : Plain n A) (hj : ∀ p : Part, p.fFrom = 0 → p.fTo = (n : Int) → ∀ k, k < n → sec A k = false → badJump A p k = false) : m_insn_Check n A = some (0, 0) := by
  obtain ⟨r, hr, hs⟩ := check_is n A
  rw [hr]
  congr 1
  cases hs with
  | subs a e h' => obtain ⟨P, hP, _⟩ := h.subs h'; cases hP
  | jump N P h' i hi k h1 h2 h3 h4 h5 h6 =>
    obtain ⟨P', hP, q1, q2⟩ := h.subs h'
    cases hP
    obtain rfl : i = 0 := by omega
    rw [hj (P 0) q1 q2 k (by omega) h3] at h4
    cases h4
  | fine N P h' h6 => rfl
theorem Plain.jump {n : Nat} {A : Nat → Insn} (h : Plain n A) (k0 : Nat) (hk : k0 < n) (hs : sec A k0 = false) (hbad : ∀ p : Part, p.fFrom = 0 → p.fTo = (n : Int) → badJump A p k0 = true)
    (hj : ∀ p : Part, p.fFrom = 0 → p.fTo = (n : Int) → ∀ k, k < k0 → sec A k = false → badJump A p k = false) : m_insn_Check n A = some ((k0 : Int), 15) := by
  obtain ⟨r, hr, hs'⟩ := check_is n A
  rw [hr]
  congr 1
  cases hs' with
  | subs a e h' => obtain ⟨P, hP, _⟩ := h.subs h'; cases hP
  | jump N P h' i hi k h1 h2 h3 h4 h5 h6 =>
    obtain ⟨P', hP, q1, q2⟩ := h.subs h'
    cases hP
    obtain rfl : i = 0 := by omega
    have hk' : k = k0 := by
      rcases Nat.lt_trichotomy k k0 with c | c | c
      · rw [hj (P 0) q1 q2 k c h3] at h4; cases h4
      · exact c
      · have := h5 k0 (by omega) c hs
        rw [hbad (P 0) q1 q2] at this; cases this
    rw [hk']
  | fine N P h' h6 =>
    obtain ⟨P', hP, q1, q2⟩ := h.subs h'
    cases hP
    have := h6 0 (by omega) k0 (by omega) (by omega) hs
    rw [hbad (P 0) q1 q2] at this; cases this
abbrev mov0 : Insn := ⟨183#8, 0#8, 0#8, 0#16, 0#32⟩
abbrev exit0 : Insn := ⟨149#8, 0#8, 0#8, 0#16, 0#32⟩
end Go.Proofs.Ytdgehbjiphahhaa

