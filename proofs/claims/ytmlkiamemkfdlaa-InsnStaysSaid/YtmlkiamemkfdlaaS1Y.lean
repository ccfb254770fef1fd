/-
  Instructions: of a program that is well formed each operation stays in its subprogram (the law InsnStays), in plain words.
-/
import Derived.Test.YtmlkiamemkfdlaaS1P
import Derived.Test.YtmlkiamemkfdlaaS1XStays
namespace Go.Proofs.Ytmlkiamemkfdlaa
open Go.RowKit
set_option linter.unusedVariables false
set_option linter.unusedSimpArgs false
theorem jumpsLoop {n : Nat} {A : Nat → Insn} (hn : n ≤ 4096) {g : Nat → Bool} {N : Nat} {P : Nat → Part} (hP : Parts g n N P) (hN : N ≤ n) (hsec : ∀ i, i < N → sec A (P i).fFrom.toNat = false) :
    ∃ r, lpO (st_insn_Check_L0 n A N P) (.c0 0) = some r ∧ ((r = .e0 ∧ ∀ i, i < N → ∀ j : Nat, (P i).fFrom ≤ j → (j : Int) < (P i).fTo → sec A j = false → badJump A (P i) j = false) ∨
          ∃ (i : Nat) (k : Nat), i < N ∧ (P i).fFrom ≤ k ∧ (k : Int) < (P i).fTo ∧ sec A k = false ∧ badJump A (P i) k = true ∧ r = .e1 (k : Int) ∧ (∀ j : Nat, (P i).fFrom ≤ j → j < k → sec A j = false → badJump A (P i) j = false) ∧
            ∀ i', i' < i → ∀ j : Nat, (P i').fFrom ≤ j → (j : Int) < (P i').fTo → sec A j = false → badJump A (P i') j = false) := by
  refine lpO_ind (st := st_insn_Check_L0 n A N P) (fun s => match s with | .c0 x => ∃ k : Nat, x = (k : Int) ∧ k ≤ N ∧ ∀ i', i' < k → ∀ j : Nat, (P i').fFrom ≤ j → (j : Int) < (P i').fTo → sec A j = false → badJump A (P i') j = false) (fun s => match s with | .c0 x => N - x.toNat)
    (fun _ r => (r = .e0 ∧ ∀ i, i < N → ∀ j : Nat, (P i).fFrom ≤ j → (j : Int) < (P i).fTo → sec A j = false → badJump A (P i) j = false) ∨
    ∃ (i : Nat) (k : Nat), i < N ∧ (P i).fFrom ≤ k ∧ (k : Int) < (P i).fTo ∧ sec A k = false ∧ badJump A (P i) k = true ∧ r = .e1 (k : Int) ∧ (∀ j : Nat, (P i).fFrom ≤ j → j < k → sec A j = false → badJump A (P i) j = false) ∧
      ∀ i', i' < i → ∀ j : Nat, (P i').fFrom ≤ j → (j : Int) < (P i').fTo → sec A j = false → badJump A (P i') j = false) ?_ (.c0 0) ⟨0, rfl, by omega, fun i hi => by omega⟩
  rintro ⟨x⟩ ⟨i, rfl, hi, hok'⟩
  by_cases h : i < N
  · have hl := hP.lt i h
    have ht := hP.to h
    have e1 : IntKind.i64.wrap ((i : Int) + 1) = ((i + 1 : Nat) : Int) := by rw [wr] <;> omega
    rcases jumps_spec (A := A) hn hl.1 (hsec i h) ht with ⟨hj, hf⟩ | ⟨k, h1, h2, h3, h4, hj, h5⟩
    · refine .inl ⟨.c0 ((i + 1 : Nat) : Int), ?_, ⟨i + 1, rfl, by omega, fun i' hi' => ?_⟩, by show N - ((i + 1 : Nat) : Int).toNat < N - (i : Int).toNat; omega, fun r hr => hr⟩
      · simp only [st_insn_Check_L0, d_t (p := (i : Int) < (N : Int)) (by omega), cond_true, inR_nat' h, Int.toNat_natCast, hj, Option.bind_some, e1]
      · by_cases hz : i' = i
        · subst hz; exact hf
        · exact hok' i' (by omega)
    · refine .inr ⟨.e1 (k : Int), ?_, .inr ⟨i, k, h, h1, h2, h3, h4, rfl, h5, hok'⟩⟩
      simp only [st_insn_Check_L0, d_t (p := (i : Int) < (N : Int)) (by omega), cond_true, inR_nat' h, Int.toNat_natCast, hj, Option.bind_some, cond_false]
  · refine .inr ⟨.e0, ?_, .inl ⟨rfl, fun i' hi' => hok' i' (by omega)⟩⟩
    simp only [st_insn_Check_L0, d_f (p := (i : Int) < (N : Int)) (by omega), cond_false]

/-- A row of slots that is well formed. -/
structure Fine (n : Nat) (A : Nat → Insn) (N : Nat) (P : Nat → Part) : Prop where
  most : n ≤ 4096
  ok : okTo n A n
  subs : m_insn_Subs n A = some (.e1 N P)
  parts : ∃ g, Parts g n N P
  some : N ≤ n
  beg : ∀ i, i < N → sec A (P i).fFrom.toNat = false
  ends : ∀ i, i < N → endOk A (P i).fTo.toNat = true
  stay : ∀ i, i < N → ∀ j : Nat, (P i).fFrom ≤ j → (j : Int) < (P i).fTo → sec A j = false → badJump A (P i) j = false
theorem check_fine (n : Nat) (A : Nat → Insn) : ∃ r, m_insn_Check n A = some r ∧ (r.2 = 0 → ∃ N P, Fine n A N P) := by
  unfold m_insn_Check
  obtain ⟨r, hr, hs⟩ := subs_is n A
  rw [hr]
  cases r with
  | e0 a e =>
    have he := hs.err
    have hb : (e == 0) = false := by simpa using he
    simp only [Option.bind_some, hb, cond_false]
    exact ⟨_, rfl, fun h => absurd h he⟩
  | e1 N P =>
    cases hs with
    | fine h0 hn hok g hg _ _ hN hP h64 he =>
      have hsec : ∀ i, i < N → sec A (P i).fFrom.toNat = false := fun i hi => (Beg_sec hok ((hg _).1 (hP.beg i hi))).1
      obtain ⟨r', hr', hcase⟩ := jumpsLoop hn hP hN hsec
      simp only [Option.bind_some, hr']
      rcases hcase with ⟨rfl, h⟩ | ⟨i, k, h0, h1, h2, h3, h4, rfl, h5, h6⟩
      · exact ⟨_, rfl, fun _ => ⟨N, P, ⟨hn, hok, hr, ⟨g, hP⟩, hN, hsec, he, h⟩⟩⟩
      · exact ⟨_, rfl, fun h => absurd h (show ¬ ((15 : Int) = 0) by decide)⟩
theorem err_right {n : Nat} {A : Nat → Insn} {k : Nat} (he : errB n A k = 0) (hw : wideB (A k) = true) : rightB n A k = true := by
  unfold errB at he
  rw [hw] at he
  cases h : rightB n A k
  · rw [h] at he
    exfalso
    revert he
    generalize m_insn_known (A k) = b1
    generalize (BitVec.ult 10#8 (A k).fDst || (BitVec.ult 10#8 (A k).fSrc || (((A k).fDst == 10#8) && m_insn_writes (A k)))) = b2
    generalize (((A k).fOp == 133#8) && (((A k).fSrc == 0#8) && (BitVec.slt (A k).fImm 1#32 || BitVec.slt 28#32 (A k).fImm))) = b4
    generalize (m_insn_names (A k) && !callB n A ((k : Int) + 1 + ii (A k).fImm)) = b5
    revert b1 b2 b4 b5
    decide
  · rfl
theorem operation_eq {n : Nat} {A : Nat → Insn} (hn : n ≤ 4096) {j : Nat} (hj : j < n) : m_insn_operation n A (j : Int) = some (m_insn_known (A j) && !sec A j) := by
  unfold m_insn_operation
  rw [d_t (p := (0 : Int) ≤ (j : Int)) (by omega), d_t (p := (j : Int) < (n : Int)) (by omega), inR_nat' hj, Int.toNat_natCast, second_eq (by omega) (by omega)]
  cases m_insn_known (A j) <;> cases sec A j <;> rfl
theorem target_spec {n : Nat} {A : Nat → Insn} (hn : n ≤ 4096) {j : Nat} (hj : j < n) : ∃ r, m_insn_Target n A (j : Int) = some r ∧ (r.2 = true → m_insn_names (A j) = false → m_op_Jumps (A j) = true ∧ r.1 = (j : Int) + 1 + ii (A j).fOff) := by
  have h32 := ii32 (A j).fImm
  have h16 := ii16 (A j).fOff
  have e1 : IntKind.i64.wrap ((j : Int) + 1) = (j : Int) + 1 := by rw [wr] <;> omega
  have e2 : IntKind.i64.wrap ((j : Int) + 1 + ii (A j).fImm) = (j : Int) + 1 + ii (A j).fImm := by rw [wr] <;> omega
  have e3 : IntKind.i64.wrap ((j : Int) + 1 + ii (A j).fOff) = (j : Int) + 1 + ii (A j).fOff := by rw [wr] <;> omega
  unfold m_insn_Target
  rw [operation_eq hn hj, inR_nat' hj, Int.toNat_natCast, e1, e2, e3]
  simp only [Option.bind_some, cond_true]
  cases (m_insn_known (A j) && !sec A j)
  · exact ⟨_, rfl, fun h => by cases h⟩
  · cases hm : m_insn_names (A j)
    · cases hjm : m_op_Jumps (A j)
      · exact ⟨_, rfl, fun h => by cases h⟩
      · cases decide ((j : Int) + 1 + ii (A j).fOff < 0)
        · cases decide ((n : Int) ≤ (j : Int) + 1 + ii (A j).fOff)
          · exact ⟨_, rfl, fun _ _ => ⟨rfl, rfl⟩⟩
          · exact ⟨_, rfl, fun h => by cases h⟩
        · exact ⟨_, rfl, fun h => by cases h⟩
    · cases decide ((j : Int) + 1 + ii (A j).fImm < 0)
      · cases decide ((n : Int) ≤ (j : Int) + 1 + ii (A j).fImm)
        · exact ⟨_, rfl, fun _ h => by cases h⟩
        · exact ⟨_, rfl, fun h => by cases h⟩
      · exact ⟨_, rfl, fun h => by cases h⟩
section
variable {n N : Nat} {A : Nat → Insn} {P : Nat → Part}
/-- A wide load ahead of a subprogram's end has its second slot ahead of it, and isn't the last one. -/
theorem Fine.wide (h : Fine n A N P) {i k : Nat} (hi : i < N) (hk : (k : Int) < (P i).fTo) (hs : sec A k = false) (hw : wideB (A k) = true) : ((k + 2 : Nat) : Int) < (P i).fTo := by
  obtain ⟨g, hP⟩ := h.parts
  have ht := hP.to hi
  have hsk : sec A (k + 1) = true := by
    show (wideB (A k) && !sec A k) = true
    rw [hw, hs]; rfl
  have hr := err_right (h.ok k (by omega) (by omega) hs) hw
  unfold rightB at hr
  have hk1 : k + 1 < n := by
    rw [Bool.and_eq_true] at hr
    exact of_decide_eq_true hr.1
  have h1 : ((k + 1 : Nat) : Int) < (P i).fTo := by
    apply Classical.byContradiction
    intro c
    have e : (P i).fTo = ((k + 1 : Nat) : Int) := by omega
    by_cases hlast : i + 1 < N
    · have hb := h.beg (i + 1) hlast
      rw [← hP.next i hlast, e, Int.toNat_natCast, hsk] at hb
      cases hb
    · have := hP.last
      rw [show N - 1 = i by omega, e] at this
      omega
  apply Classical.byContradiction
  intro c
  have e : (P i).fTo = ((k + 2 : Nat) : Int) := by omega
  have he := h.ends i hi
  unfold endOk lastAt at he
  rw [e, Int.toNat_natCast, show k + 2 - 1 = k + 1 from rfl, hsk, if_pos rfl, show k + 2 - 2 = k from rfl] at he
  have hw' : (A k).fOp = 24#8 := by simpa [wideB] using hw
  rw [hw'] at he
  cases he
theorem Fine.last (h : Fine n A N P) {i k : Nat} (hi : i < N) (hk : (P i).fTo = ((k + 1 : Nat) : Int)) (hs : sec A k = false) : ((A k).fOp == 149#8) = true ∨ ((A k).fOp == 5#8) = true := by
  have he := h.ends i hi
  unfold endOk lastAt at he
  rw [hk, Int.toNat_natCast, show k + 1 - 1 = k from rfl, hs, if_neg (by simp), Bool.or_eq_true] at he
  exact he
theorem Fine.goes (h : Fine n A N P) {i k : Nat} (hi : i < N) (hf : (P i).fFrom ≤ k) (hk : (k : Int) < (P i).fTo) (hs : sec A k = false) (hj : m_op_Jumps (A k) = true) : ¬ ((k : Int) + 1 + ii (A k).fOff < (P i).fFrom) ∧ ¬ ((P i).fTo ≤ (k : Int) + 1 + ii (A k).fOff) := by
  have hb := h.stay i hi k hf hk hs
  unfold badJump at hb
  rw [hj, Bool.true_and, Bool.or_eq_false_iff, Bool.or_eq_false_iff] at hb
  exact ⟨of_decide_eq_false hb.1, of_decide_eq_false hb.2.1⟩
end
theorem stays_in3 {n N : Nat} {A : Nat → Insn} {P : Nat → Part} (h : Fine n A N P) {i : Nat} (hi : i < N) : ∃ a b c, lpO (st_barbicanlaw1_InsnStays_L0_L1v3 n A N P (i : Int)) (.c0 (P i).fFrom) = some (.e0 a b c) := by
  have hn := h.most
  obtain ⟨g, hP⟩ := h.parts
  have ht := hP.to hi
  have hl := hP.lt i hi
  have key : ∃ r, lpO (st_barbicanlaw1_InsnStays_L0_L1v3 n A N P (i : Int)) (.c0 (P i).fFrom) = some r ∧ ∃ a b c, r = .e0 a b c := by
    refine lpO_ind (st := st_barbicanlaw1_InsnStays_L0_L1v3 n A N P (i : Int)) (fun s => match s with | .c0 x => ∃ k : Nat, x = (k : Int) ∧ (P i).fFrom ≤ k ∧ sec A k = false) (fun s => match s with | .c0 x => n + 1 - x.toNat)
      (fun _ r => ∃ a b c, r = .e0 a b c) ?_ _ ⟨(P i).fFrom.toNat, by omega, by omega, h.beg i hi⟩
    rintro ⟨x⟩ ⟨k, rfl, hf, hs⟩
    by_cases hk : (k : Int) < (P i).fTo
    · have hkn : k < n := by omega
      have e1 : IntKind.i64.wrap ((k : Int) + 1) = ((k + 1 : Nat) : Int) := by rw [wr] <;> omega
      have e2 : IntKind.i64.wrap (((k + 1 : Nat) : Int) + 1) = ((k + 2 : Nat) : Int) := by rw [wr] <;> omega
      have hnext := sec_next hs
      cases hw : wideB (A k)
      · have hw1 : wid (A k) = 1 := by unfold wid; rw [hw]; rfl
        rw [hw1] at hnext
        have hw' : ((A k).fOp == 24#8) = false := hw
        obtain ⟨r, hr, hgo⟩ := target_spec (A := A) hn hkn
        refine .inl ⟨.c0 ((k + 1 : Nat) : Int), ?_, ⟨k + 1, rfl, by omega, hnext⟩, by show n + 1 - ((k + 1 : Nat) : Int).toNat < n + 1 - (k : Int).toNat; omega, fun r hr => hr⟩
        have tail : (bif r.2 then (bif ((A k).fOp == 133#8) then (some (.inl (.c0 ((k + 1 : Nat) : Int))) : Option (Sh_barbicanlaw1_InsnStays_L0_L1v3 ⊕ Ex_barbicanlaw1_InsnStays_L0_L1v3)) else (bif decide (r.1 < (P i).fFrom) then some (.inr .e1) else (bif decide ((P i).fTo ≤ r.1) then some (.inr .e1) else some (.inl (.c0 ((k + 1 : Nat) : Int))))))
            else (bif ((A k).fOp == 133#8) then some (.inl (.c0 ((k + 1 : Nat) : Int))) else some (.inl (.c0 ((k + 1 : Nat) : Int))))) = some (.inl (.c0 ((k + 1 : Nat) : Int))) := by
          cases h133 : ((A k).fOp == 133#8)
          · cases hr2 : r.2
            · rfl
            · have hnm : m_insn_names (A k) = false := by unfold m_insn_names; rw [hw', h133]; rfl
              obtain ⟨g1, g2⟩ := hgo hr2 hnm
              obtain ⟨f1, f2⟩ := h.goes hi hf hk hs g1
              rw [g2, d_f f1, d_f f2]
              rfl
          · cases r.2 <;> rfl
        simp only [st_barbicanlaw1_InsnStays_L0_L1v3, inR_nat' hi, cond_true, Int.toNat_natCast, d_t hk, inR_nat' hkn, hw', cond_false, e1, hr, Option.bind_some, tail]
        cases hto : (((k + 1 : Nat) : Int) == (P i).fTo)
        · rfl
        · have hto' : (P i).fTo = ((k + 1 : Nat) : Int) := (beq_iff_eq.1 hto).symm
          cases h149 : ((A k).fOp == 149#8)
          · rcases h.last hi hto' hs with c | c
            · rw [h149] at c; cases c
            · rw [c]; rfl
          · rfl
      · have hw1 : wid (A k) = 2 := by unfold wid; rw [hw]; rfl
        rw [hw1] at hnext
        have hw' : ((A k).fOp == 24#8) = true := hw
        have hlt := h.wide hi hk hs hw
        have hne : (((k + 2 : Nat) : Int) == (P i).fTo) = false := by rw [beq_eq_false_iff_ne]; omega
        obtain ⟨r, hr, -⟩ := target_spec (A := A) hn (show k + 1 < n by omega)
        refine .inl ⟨.c0 ((k + 2 : Nat) : Int), ?_, ⟨k + 2, rfl, by omega, hnext⟩, by show n + 1 - ((k + 2 : Nat) : Int).toNat < n + 1 - (k : Int).toNat; omega, fun r hr => hr⟩
        simp only [st_barbicanlaw1_InsnStays_L0_L1v3, inR_nat' hi, cond_true, Int.toNat_natCast, d_t hk, inR_nat' hkn, hw', cond_false, e1, e2, hne, hr, Option.bind_some]
        cases r.2 <;> rfl
    · refine .inr ⟨.e0 (k : Int) (k : Int) (P i).fTo, ?_, _, _, _, rfl⟩
      simp only [st_barbicanlaw1_InsnStays_L0_L1v3, inR_nat' hi, cond_true, Int.toNat_natCast, d_f hk, cond_false]
  obtain ⟨r, hr, a, b, c, rfl⟩ := key
  exact ⟨a, b, c, hr⟩
theorem stays_in4 {n N : Nat} {A : Nat → Insn} {P : Nat → Part} (h : Fine n A N P) {i : Nat} (hi : i < N) : ∃ a b c, lpO (st_barbicanlaw1_InsnStays_L0_L1v4 n A N P (i : Int)) (.c0 (P i).fFrom) = some (.e0 a b c) := by
  have hn := h.most
  obtain ⟨g, hP⟩ := h.parts
  have ht := hP.to hi
  have hl := hP.lt i hi
  have key : ∃ r, lpO (st_barbicanlaw1_InsnStays_L0_L1v4 n A N P (i : Int)) (.c0 (P i).fFrom) = some r ∧ ∃ a b c, r = .e0 a b c := by
    refine lpO_ind (st := st_barbicanlaw1_InsnStays_L0_L1v4 n A N P (i : Int)) (fun s => match s with | .c0 x => ∃ k : Nat, x = (k : Int) ∧ (P i).fFrom ≤ k ∧ sec A k = false) (fun s => match s with | .c0 x => n + 1 - x.toNat)
      (fun _ r => ∃ a b c, r = .e0 a b c) ?_ _ ⟨(P i).fFrom.toNat, by omega, by omega, h.beg i hi⟩
    rintro ⟨x⟩ ⟨k, rfl, hf, hs⟩
    by_cases hk : (k : Int) < (P i).fTo
    · have hkn : k < n := by omega
      have e1 : IntKind.i64.wrap ((k : Int) + 1) = ((k + 1 : Nat) : Int) := by rw [wr] <;> omega
      have e2 : IntKind.i64.wrap (((k + 1 : Nat) : Int) + 1) = ((k + 2 : Nat) : Int) := by rw [wr] <;> omega
      have hnext := sec_next hs
      cases hw : wideB (A k)
      · have hw1 : wid (A k) = 1 := by unfold wid; rw [hw]; rfl
        rw [hw1] at hnext
        have hw' : ((A k).fOp == 24#8) = false := hw
        obtain ⟨r, hr, hgo⟩ := target_spec (A := A) hn hkn
        refine .inl ⟨.c0 ((k + 1 : Nat) : Int), ?_, ⟨k + 1, rfl, by omega, hnext⟩, by show n + 1 - ((k + 1 : Nat) : Int).toNat < n + 1 - (k : Int).toNat; omega, fun r hr => hr⟩
        have tail : (bif r.2 then (bif ((A k).fOp == 133#8) then (some (.inl (.c0 ((k + 1 : Nat) : Int))) : Option (Sh_barbicanlaw1_InsnStays_L0_L1v4 ⊕ Ex_barbicanlaw1_InsnStays_L0_L1v4)) else (bif decide (r.1 < (P i).fFrom) then some (.inr .e1) else (bif decide ((P i).fTo ≤ r.1) then some (.inr .e1) else some (.inl (.c0 ((k + 1 : Nat) : Int))))))
            else (bif ((A k).fOp == 133#8) then some (.inl (.c0 ((k + 1 : Nat) : Int))) else some (.inl (.c0 ((k + 1 : Nat) : Int))))) = some (.inl (.c0 ((k + 1 : Nat) : Int))) := by
          cases h133 : ((A k).fOp == 133#8)
          · cases hr2 : r.2
            · rfl
            · have hnm : m_insn_names (A k) = false := by unfold m_insn_names; rw [hw', h133]; rfl
              obtain ⟨g1, g2⟩ := hgo hr2 hnm
              obtain ⟨f1, f2⟩ := h.goes hi hf hk hs g1
              rw [g2, d_f f1, d_f f2]
              rfl
          · cases r.2 <;> rfl
        simp only [st_barbicanlaw1_InsnStays_L0_L1v4, inR_nat' hi, cond_true, Int.toNat_natCast, d_t hk, inR_nat' hkn, hw', cond_false, e1, hr, Option.bind_some, tail]
        cases hto : (((k + 1 : Nat) : Int) == (P i).fTo)
        · rfl
        · have hto' : (P i).fTo = ((k + 1 : Nat) : Int) := (beq_iff_eq.1 hto).symm
          cases h149 : ((A k).fOp == 149#8)
          · rcases h.last hi hto' hs with c | c
            · rw [h149] at c; cases c
            · rw [c]; rfl
          · rfl
      · have hw1 : wid (A k) = 2 := by unfold wid; rw [hw]; rfl
        rw [hw1] at hnext
        have hw' : ((A k).fOp == 24#8) = true := hw
        have hlt := h.wide hi hk hs hw
        have hne : (((k + 2 : Nat) : Int) == (P i).fTo) = false := by rw [beq_eq_false_iff_ne]; omega
        obtain ⟨r, hr, -⟩ := target_spec (A := A) hn (show k + 1 < n by omega)
        refine .inl ⟨.c0 ((k + 2 : Nat) : Int), ?_, ⟨k + 2, rfl, by omega, hnext⟩, by show n + 1 - ((k + 2 : Nat) : Int).toNat < n + 1 - (k : Int).toNat; omega, fun r hr => hr⟩
        simp only [st_barbicanlaw1_InsnStays_L0_L1v4, inR_nat' hi, cond_true, Int.toNat_natCast, d_t hk, inR_nat' hkn, hw', cond_false, e1, e2, hne, hr, Option.bind_some]
        cases r.2 <;> rfl
    · refine .inr ⟨.e0 (k : Int) (k : Int) (P i).fTo, ?_, _, _, _, rfl⟩
      simp only [st_barbicanlaw1_InsnStays_L0_L1v4, inR_nat' hi, cond_true, Int.toNat_natCast, d_f hk, cond_false]
  obtain ⟨r, hr, a, b, c, rfl⟩ := key
  exact ⟨a, b, c, hr⟩
theorem stays_loop {n N : Nat} {A : Nat → Insn} {P : Nat → Part} (h : Fine n A N P) : lpO (st_barbicanlaw1_InsnStays_L0 n A N P) (.c0 0) = some .e0 := by
  have hn := h.most
  have hN := h.some
  obtain ⟨g, hP⟩ := h.parts
  have key : ∃ r, lpO (st_barbicanlaw1_InsnStays_L0 n A N P) (.c0 0) = some r ∧ r = .e0 := by
    refine lpO_ind (st := st_barbicanlaw1_InsnStays_L0 n A N P) (fun s => match s with | .c0 x => ∃ k : Nat, x = (k : Int)) (fun s => match s with | .c0 x => n + 1 - x.toNat)
      (fun _ r => r = .e0) ?_ _ ⟨0, rfl⟩
    rintro ⟨x⟩ ⟨i, rfl⟩
    by_cases hi : i < N
    · have hl := hP.lt i hi
      have e1 : IntKind.i64.wrap ((i : Int) + 1) = ((i + 1 : Nat) : Int) := by rw [wr] <;> omega
      have e2 : IntKind.i64.wrap ((i : Int) - 1) = (i : Int) - 1 := by rw [wr] <;> omega
      refine .inl ⟨.c0 ((i + 1 : Nat) : Int), ?_, ⟨i + 1, rfl⟩, by show n + 1 - ((i + 1 : Nat) : Int).toNat < n + 1 - (i : Int).toNat; omega, fun r hr => hr⟩
      obtain ⟨a, b, c, h3⟩ := stays_in3 h hi
      obtain ⟨a', b', c', h4⟩ := stays_in4 h hi
      simp only [st_barbicanlaw1_InsnStays_L0, d_t (p := (i : Int) < (N : Int)) (by omega), cond_true, inR_nat' hi, Int.toNat_natCast, d_f (p := (P i).fTo ≤ (P i).fFrom) (by omega), cond_false, e1, h3, h4, Option.bind_some]
      by_cases h0 : 0 < i
      · have e3 : ((i : Int) - 1) = ((i - 1 : Nat) : Int) := by omega
        have hx := hP.next (i - 1) (by omega)
        rw [show i - 1 + 1 = i by omega] at hx
        rw [d_t (p := 0 < (i : Int)) (by omega), e2, e3, inR_nat' (show i - 1 < N by omega), Int.toNat_natCast, hx]
        simp only [beq_self_eq_true, cond_true]
      · rw [d_f (p := 0 < (i : Int)) (by omega)]
        rfl
    · refine .inr ⟨.e0, ?_, rfl⟩
      simp only [st_barbicanlaw1_InsnStays_L0, d_f (p := (i : Int) < (N : Int)) (by omega), cond_false]
  obtain ⟨r, hr, rfl⟩ := key
  exact hr
theorem stays_true (n : Nat) (A : Nat → Insn) : m_barbicanlaw1_InsnStays n A = some true := by
  unfold m_barbicanlaw1_InsnStays
  by_cases h0 : 400 < (n : Int)
  · rw [d_t h0]; rfl
  rw [d_f h0]
  simp only [cond_false]
  obtain ⟨r, hr, hfine⟩ := check_fine n A
  obtain ⟨q, hq, -⟩ := subs_is n A
  rw [hr]
  simp only [Option.bind_some]
  cases he : (r.2 == 0)
  · rw [hq]
    cases q <;> rfl
  · obtain ⟨N, P, h⟩ := hfine (beq_iff_eq.1 he)
    obtain ⟨g, hP⟩ := h.parts
    have hp := hP.pos
    have hN := h.some
    have hn := h.most
    have e1 : ((N : Int) == 0) = false := by rw [beq_eq_false_iff_ne]; omega
    have e2 : IntKind.i64.wrap ((N : Int) - 1) = ((N - 1 : Nat) : Int) := by rw [wr] <;> omega
    have e3 : inR 0 N = true := inR_iff.2 ⟨by omega, by omega⟩
    rw [h.subs]
    simp only [Option.bind_some, cond_true]
    rw [e1, e3, hP.first, e2, inR_nat' (show N - 1 < N by omega), Int.toNat_natCast, hP.last, stays_loop h]
    simp only [beq_self_eq_true, cond_true, cond_false, Option.bind_some]
end Go.Proofs.Ytmlkiamemkfdlaa
