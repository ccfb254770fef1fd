/-
  Instructions: the check and the subprograms, in plain words (no program).
-/
import Derived.Test.YtdgehbjiphahhaaS1N
namespace Go.Proofs.Ytdgehbjiphahhaa
open Go.RowKit
set_option linter.unusedVariables false
set_option linter.unusedSimpArgs false
/-- The last operation ahead of slot t, and whether nothing goes on behind it. -/
def lastAt (A : Nat → Insn) (t : Nat) : Nat := if sec A (t - 1) then t - 2 else t - 1
def endOk (A : Nat → Insn) (t : Nat) : Bool := ((A (lastAt A t)).fOp == 149#8) || ((A (lastAt A t)).fOp == 5#8)
theorem ends_eq {n : Nat} {A : Nat → Insn} (hn : n ≤ 1000000) {p : Part} {t : Nat} (hp : p.fTo = (t : Int)) (h0 : 0 < t) (ht : t ≤ n) : m_insn_ends n A p = some ((lastAt A t : Int), endOk A t) := by
  unfold m_insn_ends endOk lastAt
  have e1 : IntKind.i64.wrap (p.fTo - 1) = ((t - 1 : Nat) : Int) := by rw [hp, wr] <;> omega
  rw [e1, second_eq hn (by omega)]
  simp only [Option.bind_some]
  cases hs : sec A (t - 1)
  · simp only [cond_false, inR_nat' (show t - 1 < n by omega), cond_true, Int.toNat_natCast, Bool.false_eq_true, if_false]
    cases (A (t - 1)).fOp == 149#8 <;> rfl
  · have h2 : 2 ≤ t := by
      apply Classical.byContradiction
      intro h
      obtain rfl : t = 1 := by omega
      cases hs
    have e2 : IntKind.i64.wrap (((t - 1 : Nat) : Int) - 1) = ((t - 2 : Nat) : Int) := by rw [wr] <;> omega
    simp only [cond_true, e2, inR_nat' (show t - 2 < n by omega), Int.toNat_natCast, if_true]
    cases (A (t - 2)).fOp == 149#8 <;> rfl
theorem Parts.bnd {g : Nat → Bool} {k N : Nat} {P : Nat → Part} (h : Parts g k N P) : ∀ d i, i + d + 1 = N → (P i).fTo ≤ (k : Int)
  | 0, i, hi => by
    have := h.last
    rw [show N - 1 = i by omega] at this
    omega
  | d + 1, i, hi => by
    have h1 := h.bnd d (i + 1) (by omega)
    have h2 := h.next i (by omega)
    have h3 := h.lt (i + 1) (by omega)
    omega
theorem Parts.to {g : Nat → Bool} {k N : Nat} {P : Nat → Part} (h : Parts g k N P) {i : Nat} (hi : i < N) : (P i).fTo ≤ (k : Int) := h.bnd (N - 1 - i) i (by omega)
theorem endsLoop {n : Nat} {A : Nat → Insn} (hn : n ≤ 4096) {g : Nat → Bool} {N : Nat} {P : Nat → Part} (hP : Parts g n N P) (hN : N ≤ n) : ∃ r, lpO (st_insn_Subs_L1 n A N P) (.c0 0) = some r ∧
    ((r = .e0 ∧ ∀ i, i < N → endOk A (P i).fTo.toNat = true) ∨ ∃ i, i < N ∧ r = .e1 (lastAt A (P i).fTo.toNat : Int) ∧ endOk A (P i).fTo.toNat = false ∧ ∀ j, j < i → endOk A (P j).fTo.toNat = true) := by
  refine lpO_ind (st := st_insn_Subs_L1 n A N P) (fun s => match s with | .c0 x => ∃ k : Nat, x = (k : Int) ∧ k ≤ N ∧ ∀ j, j < k → endOk A (P j).fTo.toNat = true) (fun s => match s with | .c0 x => N - x.toNat)
    (fun _ r => (r = .e0 ∧ ∀ i, i < N → endOk A (P i).fTo.toNat = true) ∨ ∃ i, i < N ∧ r = .e1 (lastAt A (P i).fTo.toNat : Int) ∧ endOk A (P i).fTo.toNat = false ∧ ∀ j, j < i → endOk A (P j).fTo.toNat = true) ?_ (.c0 0) ⟨0, rfl, by omega, fun j hj => by omega⟩
  rintro ⟨x⟩ ⟨k, rfl, hk, hok⟩
  by_cases h : k < N
  · have hl := hP.lt k h
    have ht := hP.to h
    have he := ends_eq (A := A) (n := n) (by omega) (p := P k) (t := (P k).fTo.toNat) (by omega) (by omega) (by omega)
    have e1 : IntKind.i64.wrap ((k : Int) + 1) = ((k + 1 : Nat) : Int) := by rw [wr] <;> omega
    cases hb : endOk A (P k).fTo.toNat
    · refine .inr ⟨.e1 (lastAt A (P k).fTo.toNat : Int), ?_, .inr ⟨k, h, rfl, hb, hok⟩⟩
      simp only [st_insn_Subs_L1, d_t (p := (k : Int) < (N : Int)) (by omega), cond_true, inR_nat' h, Int.toNat_natCast, he, hb, Option.bind_some, cond_false]
    · refine .inl ⟨.c0 ((k + 1 : Nat) : Int), ?_, ⟨k + 1, rfl, by omega, fun j hj => ?_⟩, by show N - ((k + 1 : Nat) : Int).toNat < N - (k : Int).toNat; omega, fun r hr => hr⟩
      · simp only [st_insn_Subs_L1, d_t (p := (k : Int) < (N : Int)) (by omega), cond_true, inR_nat' h, Int.toNat_natCast, he, hb, Option.bind_some, e1]
      · by_cases hj2 : j = k
        · subst hj2; exact hb
        · exact hok j (by omega)
  · refine .inr ⟨.e0, ?_, .inl ⟨rfl, fun i hi => hok i (by omega)⟩⟩
    simp only [st_insn_Subs_L1, d_f (p := (k : Int) < (N : Int)) (by omega), cond_false]
/-- What the subprograms of a row of slots come to. -/
inductive SubsIs (n : Nat) (A : Nat → Insn) : R_insn_Subs → Prop where
  | many (h : n = 0 ∨ 4096 < n) : SubsIs n A (.e0 0 10)
  | slot (hn : n ≤ 4096) (k : Nat) (hk : k < n) (hs : sec A k = false) (he : errB n A k ≠ 0) (hok : okTo n A k) : SubsIs n A (.e0 (k : Int) (errB n A k))
  | subs (h0 : 0 < n) (hn : n ≤ 4096) (hok : okTo n A n) (g : Nat → Bool) (hg : ∀ j, g j = true ↔ Beg n A j) (N : Nat) (P : Nat → Part) (hN : N ≤ n) (hP : Parts g n N P) (h64 : 64 < N) : SubsIs n A (.e0 0 17)
  | ends (h0 : 0 < n) (hn : n ≤ 4096) (hok : okTo n A n) (g : Nat → Bool) (hg : ∀ j, g j = true ↔ Beg n A j) (N : Nat) (P : Nat → Part) (hN : N ≤ n) (hP : Parts g n N P) (h64 : N ≤ 64) (i : Nat) (hi : i < N)
    (he : endOk A (P i).fTo.toNat = false) (hb : ∀ j, j < i → endOk A (P j).fTo.toNat = true) : SubsIs n A (.e0 (lastAt A (P i).fTo.toNat : Int) 16)
  | fine (h0 : 0 < n) (hn : n ≤ 4096) (hok : okTo n A n) (g : Nat → Bool) (hg : ∀ j, g j = true ↔ Beg n A j) (N : Nat) (P : Nat → Part) (hN : N ≤ n) (hP : Parts g n N P) (h64 : N ≤ 64)
    (he : ∀ i, i < N → endOk A (P i).fTo.toNat = true) : SubsIs n A (.e1 N P)
theorem subs_is (n : Nat) (A : Nat → Insn) : ∃ r, m_insn_Subs n A = some r ∧ SubsIs n A r := by
  unfold m_insn_Subs
  by_cases h0 : n = 0
  · subst h0
    exact ⟨.e0 0 10, rfl, .many (.inl rfl)⟩
  have hb0 : ((n : Int) == 0) = false := by rw [beq_eq_false_iff_ne]; omega
  rw [hb0]
  by_cases h1 : 4096 < n
  · rw [d_t (p := 4096 < (n : Int)) (by omega)]
    exact ⟨.e0 0 10, rfl, .many (.inr h1)⟩
  rw [d_f (p := 4096 < (n : Int)) (by omega)]
  simp only [cond_false]
  obtain ⟨r, hr, hcase⟩ := walk_spec (n := n) (A := A) (by omega)
  rw [hr]
  rcases hcase with ⟨rfl, hok⟩ | ⟨k, hk, rfl, hs, he, hok⟩
  · obtain ⟨g, hg1, hg⟩ := begins_spec (by omega) hok
    obtain ⟨N, P, hp1, hN, hP⟩ := parts_spec (n := n) (g := g) (by omega) (by omega) ((hg 0).2 (.inl rfl))
    have hsplit : m_insn_split n A = some (.e1 N P) := by
      unfold m_insn_split
      rw [hg1]
      simp only [Option.bind_some, hp1]
    simp only [Option.bind_some, hsplit]
    by_cases h64 : 64 < N
    · rw [d_t (p := 64 < (N : Int)) (by omega)]
      exact ⟨.e0 0 17, rfl, .subs (by omega) (by omega) hok g hg N P hN hP h64⟩
    · rw [d_f (p := 64 < (N : Int)) (by omega)]
      simp only [cond_false]
      obtain ⟨r, hr, hcase⟩ := endsLoop (A := A) (by omega) hP hN
      rw [hr]
      rcases hcase with ⟨rfl, he⟩ | ⟨i, hi, rfl, he, hb⟩
      · exact ⟨.e1 N P, rfl, .fine (by omega) (by omega) hok g hg N P hN hP (by omega) he⟩
      · exact ⟨_, rfl, .ends (by omega) (by omega) hok g hg N P hN hP (by omega) i hi he hb⟩
  · exact ⟨_, rfl, .slot (by omega) k hk hs he hok⟩
/-- A jump that leaves its subprogram, or comes to a second slot. -/
noncomputable def badJump (A : Nat → Insn) (p : Part) (k : Nat) : Bool :=
  m_op_Jumps (A k) && (decide ((k : Int) + 1 + ii (A k).fOff < p.fFrom) || (decide (p.fTo ≤ (k : Int) + 1 + ii (A k).fOff) || sec A ((k : Int) + 1 + ii (A k).fOff).toNat))
theorem jumps_spec {n : Nat} {A : Nat → Insn} (hn : n ≤ 4096) {p : Part} (h0 : 0 ≤ p.fFrom) (hs : sec A p.fFrom.toNat = false) (ht : p.fTo ≤ (n : Int)) :
    (m_insn_jumpsStay n A p = some (0, true) ∧ ∀ k : Nat, p.fFrom ≤ k → (k : Int) < p.fTo → sec A k = false → badJump A p k = false) ∨
    ∃ k : Nat, p.fFrom ≤ k ∧ (k : Int) < p.fTo ∧ sec A k = false ∧ badJump A p k = true ∧ m_insn_jumpsStay n A p = some ((k : Int), false) ∧ ∀ j : Nat, p.fFrom ≤ j → j < k → sec A j = false → badJump A p j = false := by
  have key : ∃ r, lpO (st_insn_jumpsStay_L0 n A p) (.c0 p.fFrom) = some r ∧ ((r = .e0 ∧ ∀ k : Nat, p.fFrom ≤ k → (k : Int) < p.fTo → sec A k = false → badJump A p k = false) ∨
      ∃ k : Nat, p.fFrom ≤ k ∧ (k : Int) < p.fTo ∧ sec A k = false ∧ badJump A p k = true ∧ r = .e1 (k : Int) ∧ ∀ j : Nat, p.fFrom ≤ j → j < k → sec A j = false → badJump A p j = false) := by
    refine lpO_ind (st := st_insn_jumpsStay_L0 n A p) (fun s => match s with | .c0 x => ∃ k : Nat, x = (k : Int) ∧ p.fFrom ≤ k ∧ sec A k = false ∧ ∀ j : Nat, p.fFrom ≤ j → j < k → sec A j = false → badJump A p j = false) (fun s => match s with | .c0 x => n + 1 - x.toNat)
      (fun _ r => (r = .e0 ∧ ∀ k : Nat, p.fFrom ≤ k → (k : Int) < p.fTo → sec A k = false → badJump A p k = false) ∨
      ∃ k : Nat, p.fFrom ≤ k ∧ (k : Int) < p.fTo ∧ sec A k = false ∧ badJump A p k = true ∧ r = .e1 (k : Int) ∧ ∀ j : Nat, p.fFrom ≤ j → j < k → sec A j = false → badJump A p j = false) ?_ (.c0 p.fFrom) ⟨p.fFrom.toNat, by omega, by omega, hs, fun j h1 h2 => by omega⟩
    rintro ⟨x⟩ ⟨k, rfl, hk, hsk, hok⟩
    by_cases h : (k : Int) < p.fTo
    · have hkn : k < n := by omega
      have hw := wid_pos (A k)
      have h16 := ii16 (A k).fOff
      have e1 : IntKind.i64.wrap ((k : Int) + (wid (A k) : Int)) = ((k + wid (A k) : Nat) : Int) := by rw [wr] <;> omega
      have e2 : IntKind.i64.wrap ((k : Int) + 1) = (k : Int) + 1 := by rw [wr] <;> omega
      have e3 : IntKind.i64.wrap ((k : Int) + 1 + ii (A k).fOff) = (k : Int) + 1 + ii (A k).fOff := by rw [wr] <;> omega
      have hnext : badJump A p k = false → (∃ k', ((k + wid (A k) : Nat) : Int) = ((k' : Nat) : Int) ∧ p.fFrom ≤ k' ∧ sec A k' = false ∧ ∀ j : Nat, p.fFrom ≤ j → j < k' → sec A j = false → badJump A p j = false) := fun hb =>
        ⟨k + wid (A k), rfl, by omega, sec_next hsk, fun j h1 h2 h3 => by
          by_cases h4 : j < k
          · exact hok j h1 h4 h3
          · by_cases h5 : j = k
            · subst h5; exact hb
            · exact absurd (sec_over hsk (by omega) h2) (by rw [h3]; simp)⟩
      have step : badJump A p k = false → st_insn_jumpsStay_L0 n A p (.c0 (k : Int)) = some (.inl (.c0 ((k + wid (A k) : Nat) : Int))) := fun hb => by
        unfold badJump at hb
        simp only [st_insn_jumpsStay_L0, d_t h, cond_true, inR_nat' hkn, Int.toNat_natCast, e2, e3, bindT, width_eq, e1]
        cases hj : m_op_Jumps (A k)
        · rfl
        · rw [hj, Bool.true_and, Bool.or_eq_false_iff, Bool.or_eq_false_iff] at hb
          obtain ⟨b1, b2, b3⟩ := hb
          have b1' : ¬ ((k : Int) + 1 + ii (A k).fOff < p.fFrom) := by simpa using b1
          have b2' : ¬ (p.fTo ≤ (k : Int) + 1 + ii (A k).fOff) := by simpa using b2
          rw [b1, b2]
          have hq := second_eq (A := A) (n := n) (by omega) (k := ((k : Int) + 1 + ii (A k).fOff).toNat) (by omega)
          rw [show ((((k : Int) + 1 + ii (A k).fOff).toNat : Nat) : Int) = (k : Int) + 1 + ii (A k).fOff by omega] at hq
          rw [hq, b3]
          rfl
      cases hb : badJump A p k
      · refine .inl ⟨.c0 ((k + wid (A k) : Nat) : Int), step hb, hnext hb, by show n + 1 - ((k + wid (A k) : Nat) : Int).toNat < n + 1 - (k : Int).toNat; omega, fun r hr => hr⟩
      · refine .inr ⟨.e1 (k : Int), ?_, .inr ⟨k, hk, h, hsk, hb, rfl, hok⟩⟩
        unfold badJump at hb
        simp only [st_insn_jumpsStay_L0, d_t h, cond_true, inR_nat' hkn, Int.toNat_natCast, e2, e3, bindT, width_eq, e1]
        simp only [Bool.and_eq_true, Bool.or_eq_true] at hb
        obtain ⟨hj, hb⟩ := hb
        rw [hj]
        simp only [cond_true]
        by_cases c1 : (k : Int) + 1 + ii (A k).fOff < p.fFrom
        · rw [d_t c1]; rfl
        · rw [d_f c1]
          by_cases c2 : p.fTo ≤ (k : Int) + 1 + ii (A k).fOff
          · rw [d_t c2]; rfl
          · rw [d_f c2]
            have b3 : sec A ((k : Int) + 1 + ii (A k).fOff).toNat = true := by
              rcases hb with hb | hb | hb
              · exact absurd (of_decide_eq_true hb) c1
              · exact absurd (of_decide_eq_true hb) c2
              · exact hb
            have hq := second_eq (A := A) (n := n) (by omega) (k := ((k : Int) + 1 + ii (A k).fOff).toNat) (by omega)
            rw [show ((((k : Int) + 1 + ii (A k).fOff).toNat : Nat) : Int) = (k : Int) + 1 + ii (A k).fOff by omega] at hq
            rw [hq, b3]
            rfl
    · refine .inr ⟨.e0, ?_, .inl ⟨rfl, fun j h1 h2 h3 => hok j h1 (by omega) h3⟩⟩
      simp only [st_insn_jumpsStay_L0, d_f h, cond_false]
  obtain ⟨r, hr, hcase⟩ := key
  unfold m_insn_jumpsStay
  rw [hr]
  rcases hcase with ⟨rfl, h⟩ | ⟨k, h1, h2, h3, h4, rfl, h5⟩
  · exact .inl ⟨rfl, h⟩
  · exact .inr ⟨k, h1, h2, h3, h4, rfl, h5⟩
theorem SubsIs.err {n : Nat} {A : Nat → Insn} {a e : Int} (h : SubsIs n A (.e0 a e)) : e ≠ 0 := by
  cases h with
  | many h => decide
  | slot hn k hk hs he hok => exact he
  | subs => decide
  | ends => decide
/-- What the check of a row of slots comes to. -/
inductive CheckIs (n : Nat) (A : Nat → Insn) : Int × Int → Prop where
  | subs (a e : Int) (h : SubsIs n A (.e0 a e)) : CheckIs n A (a, e)
  | jump (N : Nat) (P : Nat → Part) (h : SubsIs n A (.e1 N P)) (i : Nat) (hi : i < N) (k : Nat) (h1 : (P i).fFrom ≤ k) (h2 : (k : Int) < (P i).fTo) (h3 : sec A k = false) (h4 : badJump A (P i) k = true)
    (h5 : ∀ j : Nat, (P i).fFrom ≤ j → j < k → sec A j = false → badJump A (P i) j = false) (h6 : ∀ i', i' < i → ∀ j : Nat, (P i').fFrom ≤ j → (j : Int) < (P i').fTo → sec A j = false → badJump A (P i') j = false) : CheckIs n A ((k : Int), 15)
  | fine (N : Nat) (P : Nat → Part) (h : SubsIs n A (.e1 N P)) (h6 : ∀ i, i < N → ∀ j : Nat, (P i).fFrom ≤ j → (j : Int) < (P i).fTo → sec A j = false → badJump A (P i) j = false) : CheckIs n A (0, 0)
theorem check_is (n : Nat) (A : Nat → Insn) : ∃ r, m_insn_Check n A = some r ∧ CheckIs n A r := by
  unfold m_insn_Check
  obtain ⟨r, hr, hs⟩ := subs_is n A
  rw [hr]
  cases r with
  | e0 a e =>
    have he := hs.err
    have hb : (e == 0) = false := by simpa using he
    simp only [Option.bind_some, hb, cond_false]
    exact ⟨_, rfl, .subs a e hs⟩
  | e1 N P =>
    cases hs with
    | fine h0 hn hok g hg _ _ hN hP h64 he =>
      have hs' : SubsIs n A (.e1 N P) := .fine h0 hn hok g hg N P hN hP h64 he
      have hsec : ∀ i, i < N → sec A (P i).fFrom.toNat = false := fun i hi => (Beg_sec hok ((hg _).1 (hP.beg i hi))).1
      have key : ∃ r, lpO (st_insn_Check_L0 n A N P) (.c0 0) = some r ∧ ((r = .e0 ∧ ∀ i, i < N → ∀ j : Nat, (P i).fFrom ≤ j → (j : Int) < (P i).fTo → sec A j = false → badJump A (P i) j = false) ∨
          ∃ (i : Nat) (k : Nat), i < N ∧ (P i).fFrom ≤ k ∧ (k : Int) < (P i).fTo ∧ sec A k = false ∧ badJump A (P i) k = true ∧ r = .e1 (k : Int) ∧ (∀ j : Nat, (P i).fFrom ≤ j → j < k → sec A j = false → badJump A (P i) j = false) ∧
            ∀ i', i' < i → ∀ j : Nat, (P i').fFrom ≤ j → (j : Int) < (P i').fTo → sec A j = false → badJump A (P i') j = false) := by
        refine lpO_ind (st := st_insn_Check_L0 n A N P) (fun s => match s with | .c0 x => ∃ k : Nat, x = (k : Int) ∧ k ≤ N ∧ ∀ i', i' < k → ∀ j : Nat, (P i').fFrom ≤ j → (j : Int) < (P i').fTo → sec A j = false → badJump A (P i') j = false) (fun s => match s with | .c0 x => N - x.toNat)
          (fun _ r => (r = .e0 ∧ ∀ i, i < N → ∀ j : Nat, (P i).fFrom ≤ j → (j : Int) < (P i).fTo → sec A j = false → badJump A (P i) j = false) ∨
          ∃ (i : Nat) (k : Nat), i < N ∧ (P i).fFrom ≤ k ∧ (k : Int) < (P i).fTo ∧ sec A k = false ∧ badJump A (P i) k = true ∧ r = .e1 (k : Int) ∧ (∀ j : Nat, (P i).fFrom ≤ j → j < k → sec A j = false → badJump A (P i) j = false) ∧
            ∀ i', i' < i → ∀ j : Nat, (P i').fFrom ≤ j → (j : Int) < (P i').fTo → sec A j = false → badJump A (P i') j = false) ?_ (.c0 0) ⟨0, rfl, by omega, fun i hi => by omega⟩
        rintro ⟨x⟩ ⟨i, rfl, hi, hok'⟩
        by_cases h : i < N
        · have hl := hP.lt i h
          have ht := hP.to h
          have e1 : IntKind.i64.wrap ((i : Int) + 1) = ((i + 1 : Nat) : Int) := by rw [wr] <;> omega
          rcases jumps_spec (A := A) hn hl.1 (hsec i h) ht with ⟨hj, hf⟩ | ⟨k, h1, h2, h3, h4, hj, h5⟩
          · refine .inl ⟨.c0 ((i + 1 : Nat) : Int), ?_, ⟨i + 1, rfl, by omega, fun i' hi' => ?_⟩, by show N - ((i + 1 : Nat) : Int).toNat < N - (i : Int).toNat; omega, fun r hr => hr⟩
            · simp only [st_insn_Check_L0, d_t (p := (i : Int) < (N : Int)) (by omega), cond_true, inR_nat' h, Int.toNat_natCast, hj, Option.bind_some, e1]
            · by_cases hz : i' = i
              · subst hz; exact hf
              · exact hok' i' (by omega)
          · refine .inr ⟨.e1 (k : Int), ?_, .inr ⟨i, k, h, h1, h2, h3, h4, rfl, h5, hok'⟩⟩
            simp only [st_insn_Check_L0, d_t (p := (i : Int) < (N : Int)) (by omega), cond_true, inR_nat' h, Int.toNat_natCast, hj, Option.bind_some, cond_false]
        · refine .inr ⟨.e0, ?_, .inl ⟨rfl, fun i' hi' => hok' i' (by omega)⟩⟩
          simp only [st_insn_Check_L0, d_f (p := (i : Int) < (N : Int)) (by omega), cond_false]
      obtain ⟨r, hr, hcase⟩ := key
      simp only [Option.bind_some, hr]
      rcases hcase with ⟨rfl, h⟩ | ⟨i, k, h0, h1, h2, h3, h4, rfl, h5, h6⟩
      · exact ⟨_, rfl, .fine N P hs' h⟩
      · exact ⟨_, rfl, .jump N P hs' i h0 k h1 h2 h3 h4 h5 h6⟩
end Go.Proofs.Ytdgehbjiphahhaa

