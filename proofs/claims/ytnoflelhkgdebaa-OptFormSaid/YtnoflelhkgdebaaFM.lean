/-
  Instructions: of a program that is well formed each operation stays in its subprogram (the law InsnStays), in plain words.
-/
import Derived.Test.YtnoflelhkgdebaaS1P
namespace Go.Proofs.Ytnoflelhkgdebaa
open Go.RowKit
set_option linter.unusedVariables false
set_option linter.unusedSimpArgs false
theorem jumpsLoop {n : Nat} {A : Nat → Insn} (hn : n ≤ 4096) {g : Nat → Bool} {N : Nat} {P : Nat → Part} (hP : Parts g n N P) (hN : N ≤ n) (hsec : ∀ i, i < N → sec A (P i).fFrom.toNat = false) :
    ∃ r, lpO (st_insn_Check_L0 n A N P) (.c0 0) = some r ∧ ((r = .e0 ∧ ∀ i, i < N → ∀ j : Nat, (P i).fFrom ≤ j → (j : Int) < (P i).fTo → sec A j = false → badJump A (P i) j = false) ∨
          ∃ (i : Nat) (k : Nat), i < N ∧ (P i).fFrom ≤ k ∧ (k : Int) < (P i).fTo ∧ sec A k = false ∧ badJump A (P i) k = true ∧ r = .e1 (k : Int) ∧ (∀ j : Nat, (P i).fFrom ≤ j → j < k → sec A j = false → badJump A (P i) j = false) ∧
            ∀ i', i' < i → ∀ j : Nat, (P i').fFrom ≤ j → (j : Int) < (P i').fTo → sec A j = false → badJump A (P i') j = false) := by
  refine lpO_ind (st := st_insn_Check_L0 n A N P) (fun s => match s with | .c0 x => ∃ k : Nat, x = (k : Int) ∧ k ≤ N ∧ ∀ i', i' < k → ∀ j : Nat, (P i').fFrom ≤ j → (j : Int) < (P i').fTo → sec A j = false → badJump A (P i') j = false) (fun s => match s with | .c0 x => N - x.toNat)
    (fun _ r => (r = .e0 ∧ ∀ i, i < N → ∀ j : Nat, (P i).fFrom ≤ j → (j : Int) < (P i).fTo → sec A j = false → badJump A (P i) j = false) ∨
    ∃ (i : Nat) (k : Nat), i < N ∧ (P i).fFrom ≤ k ∧ (k : Int) < (P i).fTo ∧ sec A k = false ∧ badJump A (P i) k = true ∧ r = .e1 (k : Int) ∧ (∀ j : Nat, (P i).fFrom ≤ j → j < k → sec A j = false → badJump A (P i) j = false) ∧
      ∀ i', i' < i → ∀ j : Nat, (P i').fFrom ≤ j → (j : Int) < (P i').fTo → sec A j = false → badJump A (P i') j = false) ?_ (.c0 0) ⟨0, rfl, by omega, fun i hi => by omega⟩
  rintro ⟨x⟩ ⟨i, rfl, hi, hok'⟩
  by_cases h : i < N
  · have hl := hP.lt i h
    have ht := hP.to h
    have e1 : IntKind.i64.wrap ((i : Int) + 1) = ((i + 1 : Nat) : Int) := by rw [wr] <;> omega
    rcases jumps_spec (A := A) hn hl.1 (hsec i h) ht with ⟨hj, hf⟩ | ⟨k, h1, h2, h3, h4, hj, h5⟩
    · refine .inl ⟨.c0 ((i + 1 : Nat) : Int), ?_, ⟨i + 1, rfl, by omega, fun i' hi' => ?_⟩, by show N - ((i + 1 : Nat) : Int).toNat < N - (i : Int).toNat; omega, fun r hr => hr⟩
      · simp only [st_insn_Check_L0, d_t (p := (i : Int) < (N : Int)) (by omega), cond_true, inR_nat' h, Int.toNat_natCast, hj, Option.bind_some, e1]
      · by_cases hz : i' = i
        · subst hz; exact hf
        · exact hok' i' (by omega)
    · refine .inr ⟨.e1 (k : Int), ?_, .inr ⟨i, k, h, h1, h2, h3, h4, rfl, h5, hok'⟩⟩
      simp only [st_insn_Check_L0, d_t (p := (i : Int) < (N : Int)) (by omega), cond_true, inR_nat' h, Int.toNat_natCast, hj, Option.bind_some, cond_false]
  · refine .inr ⟨.e0, ?_, .inl ⟨rfl, fun i' hi' => hok' i' (by omega)⟩⟩
    simp only [st_insn_Check_L0, d_f (p := (i : Int) < (N : Int)) (by omega), cond_false]

/-- A row of slots that is well formed. -/
structure Fine (n : Nat) (A : Nat → Insn) (N : Nat) (P : Nat → Part) : Prop where
  most : n ≤ 4096
  ok : okTo n A n
  subs : m_insn_Subs n A = some (.e1 N P)
  parts : ∃ g, Parts g n N P
  some : N ≤ n
  beg : ∀ i, i < N → sec A (P i).fFrom.toNat = false
  ends : ∀ i, i < N → endOk A (P i).fTo.toNat = true
  stay : ∀ i, i < N → ∀ j : Nat, (P i).fFrom ≤ j → (j : Int) < (P i).fTo → sec A j = false → badJump A (P i) j = false
theorem check_fine (n : Nat) (A : Nat → Insn) : ∃ r, m_insn_Check n A = some r ∧ (r.2 = 0 → ∃ N P, Fine n A N P) := by
  unfold m_insn_Check
  obtain ⟨r, hr, hs⟩ := subs_is n A
  rw [hr]
  cases r with
  | e0 a e =>
    have he := hs.err
    have hb : (e == 0) = false := by simpa using he
    simp only [Option.bind_some, hb, cond_false]
    exact ⟨_, rfl, fun h => absurd h he⟩
  | e1 N P =>
    cases hs with
    | fine h0 hn hok g hg _ _ hN hP h64 he =>
      have hsec : ∀ i, i < N → sec A (P i).fFrom.toNat = false := fun i hi => (Beg_sec hok ((hg _).1 (hP.beg i hi))).1
      obtain ⟨r', hr', hcase⟩ := jumpsLoop hn hP hN hsec
      simp only [Option.bind_some, hr']
      rcases hcase with ⟨rfl, h⟩ | ⟨i, k, h0, h1, h2, h3, h4, rfl, h5, h6⟩
      · exact ⟨_, rfl, fun _ => ⟨N, P, ⟨hn, hok, hr, ⟨g, hP⟩, hN, hsec, he, h⟩⟩⟩
      · exact ⟨_, rfl, fun h => absurd h (show ¬ ((15 : Int) = 0) by decide)⟩
theorem err_right {n : Nat} {A : Nat → Insn} {k : Nat} (he : errB n A k = 0) (hw : wideB (A k) = true) : rightB n A k = true := by
  unfold errB at he
  rw [hw] at he
  cases h : rightB n A k
  · rw [h] at he
    exfalso
    revert he
    generalize m_insn_known (A k) = b1
    generalize (BitVec.ult 10#8 (A k).fDst || (BitVec.ult 10#8 (A k).fSrc || (((A k).fDst == 10#8) && m_insn_writes (A k)))) = b2
    generalize (((A k).fOp == 133#8) && (((A k).fSrc == 0#8) && (BitVec.slt (A k).fImm 1#32 || BitVec.slt 28#32 (A k).fImm))) = b4
    generalize (m_insn_names (A k) && !callB n A ((k : Int) + 1 + ii (A k).fImm)) = b5
    revert b1 b2 b4 b5
    decide
  · rfl
theorem operation_eq {n : Nat} {A : Nat → Insn} (hn : n ≤ 4096) {j : Nat} (hj : j < n) : m_insn_operation n A (j : Int) = some (m_insn_known (A j) && !sec A j) := by
  unfold m_insn_operation
  rw [d_t (p := (0 : Int) ≤ (j : Int)) (by omega), d_t (p := (j : Int) < (n : Int)) (by omega), inR_nat' hj, Int.toNat_natCast, second_eq (by omega) (by omega)]
  cases m_insn_known (A j) <;> cases sec A j <;> rfl
theorem target_spec {n : Nat} {A : Nat → Insn} (hn : n ≤ 4096) {j : Nat} (hj : j < n) : ∃ r, m_insn_Target n A (j : Int) = some r ∧ (r.2 = true → m_insn_names (A j) = false → m_op_Jumps (A j) = true ∧ r.1 = (j : Int) + 1 + ii (A j).fOff) := by
  have h32 := ii32 (A j).fImm
  have h16 := ii16 (A j).fOff
  have e1 : IntKind.i64.wrap ((j : Int) + 1) = (j : Int) + 1 := by rw [wr] <;> omega
  have e2 : IntKind.i64.wrap ((j : Int) + 1 + ii (A j).fImm) = (j : Int) + 1 + ii (A j).fImm := by rw [wr] <;> omega
  have e3 : IntKind.i64.wrap ((j : Int) + 1 + ii (A j).fOff) = (j : Int) + 1 + ii (A j).fOff := by rw [wr] <;> omega
  unfold m_insn_Target
  rw [operation_eq hn hj, inR_nat' hj, Int.toNat_natCast, e1, e2, e3]
  simp only [Option.bind_some, cond_true]
  cases (m_insn_known (A j) && !sec A j)
  · exact ⟨_, rfl, fun h => by cases h⟩
  · cases hm : m_insn_names (A j)
    · cases hjm : m_op_Jumps (A j)
      · exact ⟨_, rfl, fun h => by cases h⟩
      · cases decide ((j : Int) + 1 + ii (A j).fOff < 0)
        · cases decide ((n : Int) ≤ (j : Int) + 1 + ii (A j).fOff)
          · exact ⟨_, rfl, fun _ _ => ⟨rfl, rfl⟩⟩
          · exact ⟨_, rfl, fun h => by cases h⟩
        · exact ⟨_, rfl, fun h => by cases h⟩
    · cases decide ((j : Int) + 1 + ii (A j).fImm < 0)
      · cases decide ((n : Int) ≤ (j : Int) + 1 + ii (A j).fImm)
        · exact ⟨_, rfl, fun _ h => by cases h⟩
        · exact ⟨_, rfl, fun h => by cases h⟩
      · exact ⟨_, rfl, fun h => by cases h⟩
section
variable {n N : Nat} {A : Nat → Insn} {P : Nat → Part}
/-- A wide load ahead of a subprogram's end has its second slot ahead of it, and isn't the last one. -/
theorem Fine.wide (h : Fine n A N P) {i k : Nat} (hi : i < N) (hk : (k : Int) < (P i).fTo) (hs : sec A k = false) (hw : wideB (A k) = true) : ((k + 2 : Nat) : Int) < (P i).fTo := by
  obtain ⟨g, hP⟩ := h.parts
  have ht := hP.to hi
  have hsk : sec A (k + 1) = true := by
    show (wideB (A k) && !sec A k) = true
    rw [hw, hs]; rfl
  have hr := err_right (h.ok k (by omega) (by omega) hs) hw
  unfold rightB at hr
  have hk1 : k + 1 < n := by
    rw [Bool.and_eq_true] at hr
    exact of_decide_eq_true hr.1
  have h1 : ((k + 1 : Nat) : Int) < (P i).fTo := by
    apply Classical.byContradiction
    intro c
    have e : (P i).fTo = ((k + 1 : Nat) : Int) := by omega
    by_cases hlast : i + 1 < N
    · have hb := h.beg (i + 1) hlast
      rw [← hP.next i hlast, e, Int.toNat_natCast, hsk] at hb
      cases hb
    · have := hP.last
      rw [show N - 1 = i by omega, e] at this
      omega
  apply Classical.byContradiction
  intro c
  have e : (P i).fTo = ((k + 2 : Nat) : Int) := by omega
  have he := h.ends i hi
  unfold endOk lastAt at he
  rw [e, Int.toNat_natCast, show k + 2 - 1 = k + 1 from rfl, hsk, if_pos rfl, show k + 2 - 2 = k from rfl] at he
  have hw' : (A k).fOp = 24#8 := by simpa [wideB] using hw
  rw [hw'] at he
  cases he
theorem Fine.last (h : Fine n A N P) {i k : Nat} (hi : i < N) (hk : (P i).fTo = ((k + 1 : Nat) : Int)) (hs : sec A k = false) : ((A k).fOp == 149#8) = true ∨ ((A k).fOp == 5#8) = true := by
  have he := h.ends i hi
  unfold endOk lastAt at he
  rw [hk, Int.toNat_natCast, show k + 1 - 1 = k from rfl, hs, if_neg (by simp), Bool.or_eq_true] at he
  exact he
theorem Fine.goes (h : Fine n A N P) {i k : Nat} (hi : i < N) (hf : (P i).fFrom ≤ k) (hk : (k : Int) < (P i).fTo) (hs : sec A k = false) (hj : m_op_Jumps (A k) = true) : ¬ ((k : Int) + 1 + ii (A k).fOff < (P i).fFrom) ∧ ¬ ((P i).fTo ≤ (k : Int) + 1 + ii (A k).fOff) := by
  have hb := h.stay i hi k hf hk hs
  unfold badJump at hb
  rw [hj, Bool.true_and, Bool.or_eq_false_iff, Bool.or_eq_false_iff] at hb
  exact ⟨of_decide_eq_false hb.1, of_decide_eq_false hb.2.1⟩
end
end Go.Proofs.Ytnoflelhkgdebaa

