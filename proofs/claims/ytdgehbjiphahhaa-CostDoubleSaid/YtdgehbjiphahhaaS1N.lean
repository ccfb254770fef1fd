/-
  Instructions: subprograms and jumps, in plain words (no program).
-/
import Derived.Test.YtdgehbjiphahhaaS1M
namespace Go.Proofs.Ytdgehbjiphahhaa
open Go.RowKit
set_option linter.unusedVariables false
set_option linter.unusedSimpArgs false
theorem wid_pos (x : Insn) : 1 ≤ wid x ∧ wid x ≤ 2 := by unfold wid; split <;> omega
theorem sec_next {A : Nat → Insn} {k : Nat} (h : sec A k = false) : sec A (k + wid (A k)) = false := by
  unfold wid
  by_cases hw : wideB (A k) = true
  · rw [if_pos hw]
    show (wideB (A (k + 1)) && !(wideB (A k) && !sec A k)) = false
    simp [hw, h]
  · rw [if_neg hw]
    have : wideB (A k) = false := by simpa using hw
    show (wideB (A k) && !sec A k) = false
    simp [this]
theorem sec_over {A : Nat → Insn} {k j : Nat} (h : sec A k = false) (h1 : k < j) (h2 : j < k + wid (A k)) : sec A j = true := by
  unfold wid at h2
  by_cases hw : wideB (A k) = true
  · rw [if_pos hw] at h2
    obtain rfl : j = k + 1 := by omega
    show (wideB (A k) && !sec A k) = true
    simp [hw, h]
  · rw [if_neg hw] at h2; omega
/-- The slots below k that no wide load has as its second one are all fine. -/
def okTo (n : Nat) (A : Nat → Insn) (k : Nat) : Prop := ∀ j, j < k → j < n → sec A j = false → errB n A j = 0
theorem okTo_next {n : Nat} {A : Nat → Insn} {k : Nat} (h : okTo n A k) (hs : sec A k = false) (he : errB n A k = 0) : okTo n A (k + wid (A k)) := by
  intro j hj hn hsj
  by_cases h1 : j < k
  · exact h j h1 hn hsj
  · by_cases h2 : j = k
    · subst h2; exact he
    · exact absurd (sec_over hs (by omega) hj) (by rw [hsj]; simp)
theorem walk_spec {n : Nat} {A : Nat → Insn} (hn : n ≤ 1000000) : ∃ r, lpO (st_insn_Subs_L0 n A) (.c0 0) = some r ∧
    ((r = .e0 ∧ okTo n A n) ∨ ∃ k, k < n ∧ r = .e1 (k : Int) (errB n A k) ∧ sec A k = false ∧ errB n A k ≠ 0 ∧ okTo n A k) := by
  refine lpO_ind (st := st_insn_Subs_L0 n A) (fun s => match s with | .c0 x => ∃ k : Nat, x = (k : Int) ∧ k ≤ n + 1 ∧ sec A k = false ∧ okTo n A k) (fun s => match s with | .c0 x => n + 1 - x.toNat)
    (fun _ r => (r = .e0 ∧ okTo n A n) ∨ ∃ k, k < n ∧ r = .e1 (k : Int) (errB n A k) ∧ sec A k = false ∧ errB n A k ≠ 0 ∧ okTo n A k) ?_ (.c0 0) ⟨0, rfl, by omega, rfl, fun j hj => by omega⟩
  rintro ⟨x⟩ ⟨k, rfl, hk, hs, hok⟩
  by_cases h : k < n
  · have hw := wid_pos (A k)
    by_cases he : errB n A k = 0
    · refine .inl ⟨.c0 ((k + wid (A k) : Nat) : Int), ?_, ⟨_, rfl, by omega, sec_next hs, okTo_next hok hs he⟩, by show n + 1 - ((k + wid (A k) : Nat) : Int).toNat < n + 1 - (k : Int).toNat; omega, fun r hr => hr⟩
      have e1 : IntKind.i64.wrap ((k : Int) + (wid (A k) : Int)) = ((k + wid (A k) : Nat) : Int) := by rw [wr] <;> omega
      simp only [st_insn_Subs_L0, d_t (p := (k : Int) < (n : Int)) (by omega), cond_true, check_eq hn h, Option.bind_some, he, inR_nat' h, bindT, width_eq, Int.toNat_natCast, e1]
      rfl
    · refine .inr ⟨.e1 (k : Int) (errB n A k), ?_, .inr ⟨k, h, rfl, hs, he, hok⟩⟩
      have hb : (errB n A k == 0) = false := by simpa using he
      simp only [st_insn_Subs_L0, d_t (p := (k : Int) < (n : Int)) (by omega), cond_true, check_eq hn h, Option.bind_some, hb, cond_false]
  · refine .inr ⟨.e0, ?_, .inl ⟨rfl, fun j hj hjn hsj => hok j (by omega) hjn hsj⟩⟩
    simp only [st_insn_Subs_L0, d_f (p := (k : Int) < (n : Int)) (by omega), cond_false]
/-- A subprogram begins there. -/
def Beg (n : Nat) (A : Nat → Insn) (j : Nat) : Prop := j = 0 ∨ ∃ k, k < n ∧ sec A k = false ∧ m_insn_names (A k) = true ∧ (k : Int) + 1 + ii (A k).fImm = (j : Int)
theorem names_call {n : Nat} {A : Nat → Insn} {k : Nat} (he : errB n A k = 0) (hm : m_insn_names (A k) = true) : callB n A ((k : Int) + 1 + ii (A k).fImm) = true := by
  unfold errB at he
  rw [hm] at he
  cases h : callB n A ((k : Int) + 1 + ii (A k).fImm)
  · rw [h] at he
    exfalso
    revert he
    generalize m_insn_known (A k) = b1
    generalize (BitVec.ult 10#8 (A k).fDst || (BitVec.ult 10#8 (A k).fSrc || (((A k).fDst == 10#8) && m_insn_writes (A k)))) = b2
    generalize (wideB (A k) && !rightB n A k) = b3
    generalize (((A k).fOp == 133#8) && (((A k).fSrc == 0#8) && (BitVec.slt (A k).fImm 1#32 || BitVec.slt 28#32 (A k).fImm))) = b4
    revert b1 b2 b3 b4
    decide
  · rfl
theorem callB_iff {n : Nat} {A : Nat → Insn} {t : Int} : callB n A t = true ↔ 0 < t ∧ t < n ∧ sec A t.toNat = false := by
  unfold callB
  simp
theorem Beg_sec {n : Nat} {A : Nat → Insn} (hok : okTo n A n) {j : Nat} (h : Beg n A j) : sec A j = false ∧ (0 < n → j < n) := by
  rcases h with rfl | ⟨k, hk, hs, hm, e⟩
  · exact ⟨rfl, id⟩
  · have := callB_iff.1 (names_call (hok k hk hk hs) hm)
    rw [e] at this
    simp at this
    exact ⟨this.2.2, fun _ => this.2.1⟩
def begTo (n : Nat) (A : Nat → Insn) (k : Nat) (g : Nat → Bool) : Prop := ∀ j, g j = true ↔ (j = 0 ∨ ∃ i, i < k ∧ i < n ∧ sec A i = false ∧ m_insn_names (A i) = true ∧ (i : Int) + 1 + ii (A i).fImm = (j : Int))
theorem begins_spec {n : Nat} {A : Nat → Insn} (hn : n ≤ 4096) (hok : okTo n A n) : ∃ g, lpO (st_insn_split_L0 n A) (.c0 (updF (fun _ => false) 0 true) 0) = some (.e0 g) ∧ ∀ j, g j = true ↔ Beg n A j := by
  have key : ∃ r, lpO (st_insn_split_L0 n A) (.c0 (updF (fun _ => false) 0 true) 0) = some r ∧ ∃ g, r = .e0 g ∧ ∀ j, g j = true ↔ Beg n A j := by
    refine lpO_ind (st := st_insn_split_L0 n A) (fun s => match s with | .c0 g x => ∃ k : Nat, x = (k : Int) ∧ k ≤ n + 1 ∧ sec A k = false ∧ begTo n A k g) (fun s => match s with | .c0 g x => n + 1 - x.toNat)
      (fun _ r => ∃ g, r = .e0 g ∧ ∀ j, g j = true ↔ Beg n A j) ?_ _ ⟨0, rfl, by omega, rfl, fun j => ?_⟩
    · rintro ⟨g, x⟩ ⟨k, rfl, hk, hs, hg⟩
      by_cases h : k < n
      · have hw := wid_pos (A k)
        have e1 : IntKind.i64.wrap ((k : Int) + (wid (A k) : Int)) = ((k + wid (A k) : Nat) : Int) := by rw [wr] <;> omega
        have skip : ∀ i, i < k + wid (A k) → i < n → sec A i = false → i < k ∨ i = k := fun i hi _ hsi => by
          by_cases h1 : i < k
          · exact .inl h1
          · by_cases h2 : i = k
            · exact .inr h2
            · exact absurd (sec_over hs (by omega) hi) (by rw [hsi]; simp)
        cases hm : m_insn_names (A k)
        · refine .inl ⟨.c0 g ((k + wid (A k) : Nat) : Int), ?_, ⟨_, rfl, by omega, sec_next hs, fun j => ?_⟩, by show n + 1 - ((k + wid (A k) : Nat) : Int).toNat < n + 1 - (k : Int).toNat; omega, fun r hr => hr⟩
          · simp only [st_insn_split_L0, d_t (p := (k : Int) < (n : Int)) (by omega), cond_true, cond_false, hm, inR_nat' h, bindT, width_eq, Int.toNat_natCast, e1]
          · rw [hg j]
            constructor
            · rintro (rfl | ⟨i, h1, h2, h3⟩)
              · exact .inl rfl
              · exact .inr ⟨i, by omega, h2, h3⟩
            · rintro (rfl | ⟨i, h1, h2, h3, h4, h5⟩)
              · exact .inl rfl
              · rcases skip i h1 h2 h3 with h6 | rfl
                · exact .inr ⟨i, h6, h2, h3, h4, h5⟩
                · rw [hm] at h4; cases h4
        · obtain ⟨c1, c2, c3⟩ := callB_iff.1 (names_call (hok k h h hs) hm)
          have h32 := ii32 (A k).fImm
          have e2 : IntKind.i64.wrap ((k : Int) + 1) = (k : Int) + 1 := by rw [wr] <;> omega
          have e3 : IntKind.i64.wrap ((k : Int) + 1 + ii (A k).fImm) = (k : Int) + 1 + ii (A k).fImm := by rw [wr] <;> omega
          refine .inl ⟨.c0 (updF g ((k : Int) + 1 + ii (A k).fImm).toNat true) ((k + wid (A k) : Nat) : Int), ?_, ⟨_, rfl, by omega, sec_next hs, fun j => ?_⟩, by show n + 1 - ((k + wid (A k) : Nat) : Int).toNat < n + 1 - (k : Int).toNat; omega, fun r hr => hr⟩
          · simp only [st_insn_split_L0, d_t (p := (k : Int) < (n : Int)) (by omega), cond_true, hm, inR_nat' h, bindT, width_eq, Int.toNat_natCast, e1, e2, e3, inR_iff.2 (show 0 ≤ (k : Int) + 1 + ii (A k).fImm ∧ (k : Int) + 1 + ii (A k).fImm < (4096 : Nat) by omega)]
          · by_cases hj : j = ((k : Int) + 1 + ii (A k).fImm).toNat
            · subst hj
              rw [updF_at]
              simp only [true_iff]
              exact .inr ⟨k, by omega, h, hs, hm, by omega⟩
            · rw [updF_ne _ _ hj, hg j]
              constructor
              · rintro (rfl | ⟨i, h1, h2, h3⟩)
                · exact .inl rfl
                · exact .inr ⟨i, by omega, h2, h3⟩
              · rintro (rfl | ⟨i, h1, h2, h3, h4, h5⟩)
                · exact .inl rfl
                · rcases skip i h1 h2 h3 with h6 | rfl
                  · exact .inr ⟨i, h6, h2, h3, h4, h5⟩
                  · exact absurd (by omega) hj
      · refine .inr ⟨.e0 g, ?_, g, rfl, fun j => ?_⟩
        · simp only [st_insn_split_L0, d_f (p := (k : Int) < (n : Int)) (by omega), cond_false]
        · rw [hg j]
          constructor
          · rintro (rfl | ⟨i, h1, h2, h3⟩)
            · exact .inl rfl
            · exact .inr ⟨i, h2, h3⟩
          · rintro (rfl | ⟨i, h2, h3⟩)
            · exact .inl rfl
            · exact .inr ⟨i, by omega, h2, h3⟩
    · unfold updF
      by_cases hj : j = 0
      · simp [hj]
      · rw [if_neg hj]
        constructor
        · intro h; cases h
        · rintro (rfl | ⟨i, h1, _⟩)
          · exact absurd rfl hj
          · omega
  obtain ⟨r, h1, g, rfl, h2⟩ := key
  exact ⟨g, h1, h2⟩
/-- Subprograms up to slot k. -/
structure Parts (g : Nat → Bool) (k N : Nat) (P : Nat → Part) : Prop where
  pos : 0 < N
  first : (P 0).fFrom = 0
  last : (P (N - 1)).fTo = (k : Int)
  next : ∀ i, i + 1 < N → (P i).fTo = (P (i + 1)).fFrom
  lt : ∀ i, i < N → 0 ≤ (P i).fFrom ∧ (P i).fFrom < (P i).fTo
  beg : ∀ i, i < N → g (P i).fFrom.toNat = true
  inner : ∀ i, i < N → ∀ j : Nat, (P i).fFrom < j → (j : Int) < (P i).fTo → g j = false
theorem parts_spec {n : Nat} {g : Nat → Bool} (hn : n ≤ 4096) (h0 : 0 < n) (hg : g 0 = true) : ∃ N P, lpO (st_insn_split_L1 n g) .c0 = some (.e1 N P) ∧ N ≤ n ∧ Parts g n N P := by
  have first : st_insn_split_L1 n g .c0 = some (.inl (.c1 1 (updF (fun _ => (⟨0, 0⟩ : Part)) 0 (⟨0, 1⟩ : Part)) 1)) := by
    simp only [st_insn_split_L1, d_t (p := 0 < (n : Int)) (by omega), cond_true, hg]
  have key : ∃ r, lpO (st_insn_split_L1 n g) (.c1 1 (updF (fun _ => (⟨0, 0⟩ : Part)) 0 (⟨0, 1⟩ : Part)) 1) = some r ∧ ∃ N P, r = .e1 N P ∧ N ≤ n ∧ Parts g n N P := by
    refine lpO_ind (st := st_insn_split_L1 n g) (fun s => match s with | .c0 => False | .c1 N P x => ∃ k : Nat, x = (k : Int) ∧ 1 ≤ k ∧ k ≤ n ∧ N ≤ k ∧ Parts g k N P) (fun s => match s with | .c0 => 0 | .c1 N P x => n - x.toNat)
      (fun _ r => ∃ N P, r = .e1 N P ∧ N ≤ n ∧ Parts g n N P) ?_ _ ⟨1, rfl, by omega, by omega, by omega, ?_⟩
    · rintro (_ | ⟨N, P, x⟩) hI
      · exact hI.elim
      · obtain ⟨k, rfl, hk1, hk, hN, hP⟩ := hI
        by_cases h : k < n
        · have hp := hP.pos
          have e4 : IntKind.i64.wrap ((k : Int) + 1) = ((k + 1 : Nat) : Int) := by rw [wr] <;> omega
          cases hgk : g k
          · have e1 : IntKind.i64.wrap ((N : Int) - 1) = ((N - 1 : Nat) : Int) := by rw [wr] <;> omega
            refine .inl ⟨.c1 N (updF P (N - 1) ⟨(P (N - 1)).fFrom, ((k + 1 : Nat) : Int)⟩) ((k + 1 : Nat) : Int), ?_, ⟨k + 1, rfl, by omega, by omega, by omega, ?_⟩, by show n - ((k + 1 : Nat) : Int).toNat < n - (k : Int).toNat; omega, fun r hr => hr⟩
            · simp only [st_insn_split_L1, d_t (p := (k : Int) < (n : Int)) (by omega), cond_true, cond_false, inR_nat' (show k < 4096 by omega), Int.toNat_natCast, hgk, e1, inR_nat' (show N - 1 < N by omega), bindT, e4]
            · have hl := hP.lt (N - 1) (by omega)
              have hlast := hP.last
              refine ⟨hp, ?_, by rw [updF_at], fun i hi => ?_, fun i hi => ?_, fun i hi => ?_, fun i hi j h1 h2 => ?_⟩
              · by_cases hz : 0 = N - 1
                · rw [← hz, updF_at]; exact hP.first
                · rw [updF_ne _ _ hz]; exact hP.first
              · rw [updF_ne _ _ (show i ≠ N - 1 by omega)]
                by_cases hz : i + 1 = N - 1
                · rw [← hz, updF_at]; rw [hP.next i hi]
                · rw [updF_ne _ _ hz]; exact hP.next i hi
              · by_cases hz : i = N - 1
                · subst hz; rw [updF_at]; exact ⟨hl.1, by show (P (N - 1)).fFrom < ((k + 1 : Nat) : Int); omega⟩
                · rw [updF_ne _ _ hz]; exact hP.lt i hi
              · by_cases hz : i = N - 1
                · subst hz; rw [updF_at]; exact hP.beg _ hi
                · rw [updF_ne _ _ hz]; exact hP.beg i hi
              · by_cases hz : i = N - 1
                · subst hz
                  rw [updF_at] at h1 h2
                  have h1' : (P (N - 1)).fFrom < (j : Int) := h1
                  have h2' : (j : Int) < ((k + 1 : Nat) : Int) := h2
                  by_cases hjk : j = k
                  · rw [hjk]; exact hgk
                  · exact hP.inner _ hi j h1' (by omega)
                · rw [updF_ne _ _ hz] at h1 h2; exact hP.inner i hi j h1 h2
          · have e1 : IntKind.i64.wrap (((N + 1 : Nat) : Int) - 1) = (N : Int) := by rw [wr] <;> omega
            refine .inl ⟨.c1 (N + 1) (updF (updF P N ⟨(k : Int), 0⟩) N ⟨(k : Int), ((k + 1 : Nat) : Int)⟩) ((k + 1 : Nat) : Int), ?_, ⟨k + 1, rfl, by omega, by omega, by omega, ?_⟩, by show n - ((k + 1 : Nat) : Int).toNat < n - (k : Int).toNat; omega, fun r hr => hr⟩
            · simp only [st_insn_split_L1, d_t (p := (k : Int) < (n : Int)) (by omega), cond_true, inR_nat' (show k < 4096 by omega), Int.toNat_natCast, hgk, d_t (show N ≤ 1000000 by omega)]
              have e1' : IntKind.i64.wrap (((N : Int) + 1) - 1) = (N : Int) := by rw [wr] <;> omega
              simp only [e1', inR_nat' (show N < N + 1 by omega), cond_true, bindT, Int.toNat_natCast, updF_at, e4]
            · have hlast := hP.last
              have U : ∀ i, i ≠ N → updF (updF P N ⟨(k : Int), 0⟩) N ⟨(k : Int), ((k + 1 : Nat) : Int)⟩ i = P i := fun i hi => by rw [updF_ne _ _ hi, updF_ne _ _ hi]
              refine ⟨by omega, ?_, by rw [show N + 1 - 1 = N by omega, updF_at], fun i hi => ?_, fun i hi => ?_, fun i hi => ?_, fun i hi j h1 h2 => ?_⟩
              · rw [U 0 (by omega)]; exact hP.first
              · rw [U i (by omega)]
                by_cases hz : i + 1 = N
                · rw [hz, updF_at, show i = N - 1 by omega]; exact hlast
                · rw [U (i + 1) hz]; exact hP.next i (by omega)
              · by_cases hz : i = N
                · subst hz; rw [updF_at]; exact ⟨by show (0 : Int) ≤ (k : Int); omega, by show (k : Int) < ((k + 1 : Nat) : Int); omega⟩
                · rw [U i hz]; exact hP.lt i (by omega)
              · by_cases hz : i = N
                · subst hz; rw [updF_at]; exact hgk
                · rw [U i hz]; exact hP.beg i (by omega)
              · by_cases hz : i = N
                · subst hz
                  rw [updF_at] at h1 h2
                  have h1' : (k : Int) < (j : Int) := h1
                  have h2' : (j : Int) < ((k + 1 : Nat) : Int) := h2
                  omega
                · rw [U i hz] at h1 h2; exact hP.inner i (by omega) j h1 h2
        · obtain rfl : k = n := by omega
          refine .inr ⟨.e1 N P, ?_, N, P, rfl, by omega, hP⟩
          simp only [st_insn_split_L1, d_f (p := (k : Int) < (k : Int)) (by omega), cond_false]
    · refine ⟨by omega, rfl, rfl, fun i hi => by omega, fun i hi => ?_, fun i hi => ?_, fun i hi j h1 h2 => ?_⟩
      all_goals obtain rfl : i = 0 := by omega
      · exact ⟨Int.le_refl _, by decide⟩
      · exact hg
      · rw [updF_at] at h1 h2
        have h1' : (0 : Int) < (j : Int) := h1
        have h2' : (j : Int) < 1 := h2
        omega
  obtain ⟨r, h1, N, P, rfl, h2⟩ := key
  exact ⟨N, P, (lpO_next first).trans h1, h2⟩
end Go.Proofs.Ytdgehbjiphahhaa

