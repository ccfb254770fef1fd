/-
  The law on blocks, in plain words.
-/
import Derived.Test.YtkfmmcobmjkilaaFP
namespace Go.Proofs.Ytkfmmcobmjkilaa
open Go.RowKit
set_option linter.unusedVariables false
set_option linter.unusedSimpArgs false
theorem bools_true {n : Nat} {X R : Nat → Bool} (hn : n ≤ 100000) (h : ∀ k, k < n → X k = R k) : m_barbicanlaw15_bools n X n R = some true := by
  unfold m_barbicanlaw15_bools
  rw [ct (by simp)]
  obtain ⟨r, h1, h2⟩ := lpO_ind (st := st_barbicanlaw15_bools_L0 n X n R) (fun s => match s with | .c0 y => ∃ k : Nat, y = (k : Int) ∧ k ≤ n) (fun s => match s with | .c0 y => n - y.toNat) (fun _ r => r = .e0) (fun s hs => by
    obtain ⟨y⟩ := s
    obtain ⟨k, rfl, hk⟩ := hs
    by_cases h' : k < n
    · refine .inl ⟨.c0 ((k + 1 : Nat) : Int), ?_, ⟨k + 1, rfl, by omega⟩, by show n - ((k + 1 : Nat) : Int).toNat < n - (k : Int).toNat; omega, fun r hr => hr⟩
      unfold st_barbicanlaw15_bools_L0
      simp only
      rw [ct (d_t (by omega)), ct (inR_nat' h'), ct (inR_nat' h'), Int.toNat_natCast, cf (by rw [h k h']; simp), w_succ (by omega)]
    · refine .inr ⟨_, ?_, rfl⟩
      unfold st_barbicanlaw15_bools_L0
      simp only
      rw [cf (d_f (by omega))]) (.c0 0) ⟨0, rfl, by omega⟩
  rw [h1, h2]
  rfl
section
variable {n N : Nat} {A : Nat → Insn} {P : Nat → Part} {R B : Nat → Bool}
theorem next_of (h : Fine n A N P) {v : Int × Int} (hc : m_insn_Check n A = some v) (hv : v.2 = 0) {k : Nat} (hk : k < n) (hs : sec A k = false) (h1 : ((A k).fOp == 149#8) = false) (hj : m_op_Jumps (A k) = false) : m_flow_Next n A (k : Int) = some (.e1 ((k + wid (A k) : Nat) : Int)) := by
  have hm := h.most
  have hsec : m_flow_program_isSecond n A (k : Int) = some false := by
    unfold m_flow_program_isSecond
    by_cases c : 0 < (k : Int)
    · have e1 : IntKind.i64.wrap ((k : Int) - 1) = ((k - 1 : Nat) : Int) := by rw [wr] <;> omega
      rw [ct (d_t c), e1, ct (inR_nat' (show k - 1 < n by omega)), Int.toNat_natCast]
      have : wideB (A (k - 1)) = false := by
        cases hw : wideB (A (k - 1))
        · rfl
        · exfalso
          cases hs1 : sec A (k - 1)
          · have := sec_over hs1 (show k - 1 < k by omega) (by unfold wid; rw [hw]; simp only [if_true]; omega)
            rw [hs] at this
            cases this
          · have hk2 : k - 1 = (k - 2) + 1 := by
              by_cases c2 : k = 1
              · subst c2; cases hs1
              · omega
            rw [hk2] at hs1 hw
            have hs2 : wideB (A (k - 2)) = true ∧ sec A (k - 2) = false := by
              have : (wideB (A (k - 2)) && !sec A (k - 2)) = true := hs1
              simpa using this
            have hr := err_right (h.ok (k - 2) (by omega) (by omega) hs2.2) hs2.1
            unfold rightB at hr
            simp only [Bool.and_eq_true] at hr
            have h0 : (A (k - 2 + 1)).fOp = 0#8 := by simpa using hr.2.1
            unfold wideB at hw
            rw [h0] at hw
            cases hw
      exact congrArg some this
    · rw [cf (d_f c)]
  unfold m_flow_Next
  rw [hc]
  simp only [Option.bind_some]
  rw [ct (by rw [hv]; rfl), cf (d_f (by omega)), cf (d_f (by omega)), hsec]
  simp only [Option.bind_some]
  rw [cf (b := false) rfl, next_plain h hk hs h1 hj]
  rfl
/-- The slots that a block's first ones of which are reached. -/
def upTo (X : Nat → Bool) (R : Nat → Bool) (f j : Nat) : Nat → Bool := fun m => X m || (decide (f ≤ m) && (decide (m < j) && R m))
theorem upTo_step {X R : Nat → Bool} {f j : Nat} (hf : f ≤ j) (hr : R j = true) : updF (upTo X R f j) j true = upTo X R f (j + 1) := by
  funext m
  unfold updF upTo
  by_cases e : m = j
  · subst e
    rw [if_pos rfl, d_t hf, d_t (show m < m + 1 by omega), hr]
    simp
  · rw [if_neg e]
    by_cases c : m < j
    · rw [d_t c, d_t (show m < j + 1 by omega)]
    · rw [d_f c, d_f (show ¬ m < j + 1 by omega)]
theorem upTo_skip {X R : Nat → Bool} {f j : Nat} (hr : R j = false) : upTo X R f j = upTo X R f (j + 1) := by
  funext m
  unfold upTo
  by_cases e : m = j
  · subst e
    rw [hr]
    simp
  · by_cases c : m < j
    · rw [d_t c, d_t (show m < j + 1 by omega)]
    · rw [d_f c, d_f (show ¬ m < j + 1 by omega)]

theorem inner_barbicanlaw15_FlowBlocks_L0_L1v3 (h : Fine n A N P) {v : Int × Int} (hc : m_insn_Check n A = some v) (hv : v.2 = 0) (hR : ∀ k, R k = true → k < n ∧ sec A k = false) (hB : BehindB n A R B n) {m : Nat} {Q : Nat → Part} (hI : BI n A R B n m Q) {i f t : Nat} (hi : i < m) (hf : (Q i).fFrom = (f : Int)) (ht : (Q i).fTo = (t : Int)) (X : Nat → Bool) :
    ∃ a b c d, lpO (st_barbicanlaw15_FlowBlocks_L0_L1v3 n A R m Q (i : Int)) (.c0 X (f : Int) (f : Int)) = some (.e0 (upTo X R f t) a b c d) := by
  have hm := h.most
  have he := hI.ends i hi
  rw [hf, ht] at he
  obtain ⟨r, h1, h2⟩ := lpO_ind (st := st_barbicanlaw15_FlowBlocks_L0_L1v3 n A R m Q (i : Int))
    (fun s => match s with | .c0 Y l x => ∃ j : Nat, x = (j : Int) ∧ f ≤ j ∧ j ≤ t ∧ Y = upTo X R f j ∧ ∃ k : Nat, l = (k : Int) ∧ (f < j → f ≤ k ∧ k < j ∧ R k = true ∧ ∀ q, k < q → q < j → sec A q = true))
    (fun s => match s with | .c0 Y l x => t - x.toNat) (fun _ r => ∃ a b c d, r = .e0 (upTo X R f t) a b c d) (fun s hs => by
      obtain ⟨Y, l, x⟩ := s
      obtain ⟨j, rfl, hfj, hjt, rfl, k, rfl, hk⟩ := hs
      by_cases c : j < t
      · have hjn : j < n := by omega
        have hμ : t - ((j + 1 : Nat) : Int).toNat < t - (j : Int).toNat := by omega
        cases hr : R j
        · refine .inl ⟨.c0 (upTo X R f (j + 1)) (k : Int) ((j + 1 : Nat) : Int), ?_, ⟨j + 1, rfl, by omega, by omega, rfl, k, rfl, fun _ => ?_⟩, hμ, fun r hr => hr⟩
          · unfold st_barbicanlaw15_FlowBlocks_L0_L1v3
            simp only
            rw [ct (inR_nat' hi), Int.toNat_natCast, hf, ht, ct (d_t (by omega)), ct (inR_nat' hjn), Int.toNat_natCast, cf hr, w_succ (by omega), upTo_skip hr]
          · have hsj : sec A j = true := by
              cases hs : sec A j
              · have := (hI.inner i hi j (by omega) (by omega) hs).1
                rw [hr] at this
                cases this
              · rfl
            by_cases e : f < j
            · obtain ⟨q1, q2, q3, q4⟩ := hk e
              refine ⟨q1, by omega, q3, fun q h1 h2 => ?_⟩
              by_cases e2 : q = j
              · rw [e2]; exact hsj
              · exact q4 q h1 (by omega)
            · obtain rfl : f = j := by omega
              exfalso
              have hc0 := hI.ends i hi
              have : sec A f = false := by
                have hcov := hI.first i hi
                rw [hf, Int.toNat_natCast] at hcov
                exact (hR f hcov).2
              rw [hsj] at this
              cases this
        · have hsj := (hR j hr).2
          by_cases e : f < j
          · obtain ⟨q1, q2, q3, q4⟩ := hk e
            have hkn : k < n := by omega
            have hsk := (hR k q3).2
            have hw := wid_pos (A k)
            have hj : j = k + wid (A k) := by
              apply Classical.byContradiction
              intro hne
              by_cases c2 : j < k + wid (A k)
              · have := sec_over hsk q2 c2
                rw [hsj] at this
                cases this
              · have := q4 (k + wid (A k)) (by omega) (by omega)
                rw [sec_next hsk] at this
                cases this
            have hbj := (hI.inner i hi j (by omega) (by omega) hsj).2 (by omega)
            have hj1 : m_op_Jumps (A k) = false := by
              cases hh : m_op_Jumps (A k)
              · rfl
              · have := hB k hkn hkn q3 (.inl hh)
                rw [jumps_wid hh] at hj
                rw [← hj, hbj] at this
                cases this
            have hx : ((A k).fOp == 149#8) = false := by
              cases hh : ((A k).fOp == 149#8)
              · rfl
              · have h149 : (A k).fOp = 149#8 := by simpa using hh
                have hwd : wid (A k) = 1 := by
                  unfold wid wideB
                  rw [h149]
                  rfl
                have := hB k hkn hkn q3 (.inr hh)
                rw [hwd] at hj
                rw [← hj, hbj] at this
                cases this
            refine .inl ⟨.c0 (upTo X R f (j + 1)) (j : Int) ((j + 1 : Nat) : Int), ?_, ⟨j + 1, rfl, by omega, by omega, rfl, j, rfl, fun _ => ⟨by omega, by omega, hr, fun q h1 h2 => by omega⟩⟩, hμ, fun r hr => hr⟩
            unfold st_barbicanlaw15_FlowBlocks_L0_L1v3
            simp only
            rw [ct (inR_nat' hi), Int.toNat_natCast, hf, ht, ct (d_t (by omega)), ct (inR_nat' hjn), Int.toNat_natCast, ct hr, ct (d_t (by omega)), next_of h hc hv hkn hsk hx hj1]
            simp only [Option.bind_some]
            rw [← hj, ct (by simp), w_succ (by omega), upTo_step hfj hr]
          · obtain rfl : f = j := by omega
            refine .inl ⟨.c0 (upTo X R f (f + 1)) (f : Int) ((f + 1 : Nat) : Int), ?_, ⟨f + 1, rfl, by omega, by omega, rfl, f, rfl, fun _ => ⟨by omega, by omega, hr, fun q h1 h2 => by omega⟩⟩, hμ, fun r hr => hr⟩
            unfold st_barbicanlaw15_FlowBlocks_L0_L1v3
            simp only
            rw [ct (inR_nat' hi), Int.toNat_natCast, hf, ht, ct (d_t (by omega)), ct (inR_nat' hjn), Int.toNat_natCast, ct hr, cf (d_f (by omega)), w_succ (by omega), upTo_step (Nat.le_refl _) hr]
      · obtain rfl : j = t := by omega
        refine .inr ⟨.e0 (upTo X R f j) (k : Int) (j : Int) (j : Int) (j : Int), ?_, _, _, _, _, rfl⟩
        unfold st_barbicanlaw15_FlowBlocks_L0_L1v3
        simp only
        rw [ct (inR_nat' hi), Int.toNat_natCast, ht, cf (d_f (by omega))]) (.c0 X (f : Int) (f : Int)) ⟨f, rfl, Nat.le_refl _, by omega, by
          funext q
          unfold upTo
          by_cases c : f ≤ q
          · rw [d_f (show ¬ q < f by omega)]; simp
          · rw [d_f c]; simp, f, rfl, fun h => by omega⟩
  obtain ⟨a, b, c, d, rfl⟩ := h2
  exact ⟨a, b, c, d, h1⟩

theorem inner_barbicanlaw15_FlowBlocks_L0_L1v4 (h : Fine n A N P) {v : Int × Int} (hc : m_insn_Check n A = some v) (hv : v.2 = 0) (hR : ∀ k, R k = true → k < n ∧ sec A k = false) (hB : BehindB n A R B n) {m : Nat} {Q : Nat → Part} (hI : BI n A R B n m Q) {i f t : Nat} (hi : i < m) (hf : (Q i).fFrom = (f : Int)) (ht : (Q i).fTo = (t : Int)) (X : Nat → Bool) :
    ∃ a b c d, lpO (st_barbicanlaw15_FlowBlocks_L0_L1v4 n A R m Q (i : Int)) (.c0 X (f : Int) (f : Int)) = some (.e0 (upTo X R f t) a b c d) := by
  have hm := h.most
  have he := hI.ends i hi
  rw [hf, ht] at he
  obtain ⟨r, h1, h2⟩ := lpO_ind (st := st_barbicanlaw15_FlowBlocks_L0_L1v4 n A R m Q (i : Int))
    (fun s => match s with | .c0 Y l x => ∃ j : Nat, x = (j : Int) ∧ f ≤ j ∧ j ≤ t ∧ Y = upTo X R f j ∧ ∃ k : Nat, l = (k : Int) ∧ (f < j → f ≤ k ∧ k < j ∧ R k = true ∧ ∀ q, k < q → q < j → sec A q = true))
    (fun s => match s with | .c0 Y l x => t - x.toNat) (fun _ r => ∃ a b c d, r = .e0 (upTo X R f t) a b c d) (fun s hs => by
      obtain ⟨Y, l, x⟩ := s
      obtain ⟨j, rfl, hfj, hjt, rfl, k, rfl, hk⟩ := hs
      by_cases c : j < t
      · have hjn : j < n := by omega
        have hμ : t - ((j + 1 : Nat) : Int).toNat < t - (j : Int).toNat := by omega
        cases hr : R j
        · refine .inl ⟨.c0 (upTo X R f (j + 1)) (k : Int) ((j + 1 : Nat) : Int), ?_, ⟨j + 1, rfl, by omega, by omega, rfl, k, rfl, fun _ => ?_⟩, hμ, fun r hr => hr⟩
          · unfold st_barbicanlaw15_FlowBlocks_L0_L1v4
            simp only
            rw [ct (inR_nat' hi), Int.toNat_natCast, hf, ht, ct (d_t (by omega)), ct (inR_nat' hjn), Int.toNat_natCast, cf hr, w_succ (by omega), upTo_skip hr]
          · have hsj : sec A j = true := by
              cases hs : sec A j
              · have := (hI.inner i hi j (by omega) (by omega) hs).1
                rw [hr] at this
                cases this
              · rfl
            by_cases e : f < j
            · obtain ⟨q1, q2, q3, q4⟩ := hk e
              refine ⟨q1, by omega, q3, fun q h1 h2 => ?_⟩
              by_cases e2 : q = j
              · rw [e2]; exact hsj
              · exact q4 q h1 (by omega)
            · obtain rfl : f = j := by omega
              exfalso
              have hc0 := hI.ends i hi
              have : sec A f = false := by
                have hcov := hI.first i hi
                rw [hf, Int.toNat_natCast] at hcov
                exact (hR f hcov).2
              rw [hsj] at this
              cases this
        · have hsj := (hR j hr).2
          by_cases e : f < j
          · obtain ⟨q1, q2, q3, q4⟩ := hk e
            have hkn : k < n := by omega
            have hsk := (hR k q3).2
            have hw := wid_pos (A k)
            have hj : j = k + wid (A k) := by
              apply Classical.byContradiction
              intro hne
              by_cases c2 : j < k + wid (A k)
              · have := sec_over hsk q2 c2
                rw [hsj] at this
                cases this
              · have := q4 (k + wid (A k)) (by omega) (by omega)
                rw [sec_next hsk] at this
                cases this
            have hbj := (hI.inner i hi j (by omega) (by omega) hsj).2 (by omega)
            have hj1 : m_op_Jumps (A k) = false := by
              cases hh : m_op_Jumps (A k)
              · rfl
              · have := hB k hkn hkn q3 (.inl hh)
                rw [jumps_wid hh] at hj
                rw [← hj, hbj] at this
                cases this
            have hx : ((A k).fOp == 149#8) = false := by
              cases hh : ((A k).fOp == 149#8)
              · rfl
              · have h149 : (A k).fOp = 149#8 := by simpa using hh
                have hwd : wid (A k) = 1 := by
                  unfold wid wideB
                  rw [h149]
                  rfl
                have := hB k hkn hkn q3 (.inr hh)
                rw [hwd] at hj
                rw [← hj, hbj] at this
                cases this
            refine .inl ⟨.c0 (upTo X R f (j + 1)) (j : Int) ((j + 1 : Nat) : Int), ?_, ⟨j + 1, rfl, by omega, by omega, rfl, j, rfl, fun _ => ⟨by omega, by omega, hr, fun q h1 h2 => by omega⟩⟩, hμ, fun r hr => hr⟩
            unfold st_barbicanlaw15_FlowBlocks_L0_L1v4
            simp only
            rw [ct (inR_nat' hi), Int.toNat_natCast, hf, ht, ct (d_t (by omega)), ct (inR_nat' hjn), Int.toNat_natCast, ct hr, ct (d_t (by omega)), next_of h hc hv hkn hsk hx hj1]
            simp only [Option.bind_some]
            rw [← hj, ct (by simp), w_succ (by omega), upTo_step hfj hr]
          · obtain rfl : f = j := by omega
            refine .inl ⟨.c0 (upTo X R f (f + 1)) (f : Int) ((f + 1 : Nat) : Int), ?_, ⟨f + 1, rfl, by omega, by omega, rfl, f, rfl, fun _ => ⟨by omega, by omega, hr, fun q h1 h2 => by omega⟩⟩, hμ, fun r hr => hr⟩
            unfold st_barbicanlaw15_FlowBlocks_L0_L1v4
            simp only
            rw [ct (inR_nat' hi), Int.toNat_natCast, hf, ht, ct (d_t (by omega)), ct (inR_nat' hjn), Int.toNat_natCast, ct hr, cf (d_f (by omega)), w_succ (by omega), upTo_step (Nat.le_refl _) hr]
      · obtain rfl : j = t := by omega
        refine .inr ⟨.e0 (upTo X R f j) (k : Int) (j : Int) (j : Int) (j : Int), ?_, _, _, _, _, rfl⟩
        unfold st_barbicanlaw15_FlowBlocks_L0_L1v4
        simp only
        rw [ct (inR_nat' hi), Int.toNat_natCast, ht, cf (d_f (by omega))]) (.c0 X (f : Int) (f : Int)) ⟨f, rfl, Nat.le_refl _, by omega, by
          funext q
          unfold upTo
          by_cases c : f ≤ q
          · rw [d_f (show ¬ q < f by omega)]; simp
          · rw [d_f c]; simp, f, rfl, fun h => by omega⟩
  obtain ⟨a, b, c, d, rfl⟩ := h2
  exact ⟨a, b, c, d, h1⟩

/-- What the blocks ahead of number i cover. -/
noncomputable def cov (R : Nat → Bool) (Q : Nat → Part) : Nat → Nat → Bool
  | 0 => fun _ => false
  | i + 1 => upTo (cov R Q i) R (Q i).fFrom.toNat (Q i).fTo.toNat
theorem cov_sub {Q : Nat → Part} : ∀ {i k : Nat}, cov R Q i k = true → R k = true
  | 0, k, h => by cases h
  | i + 1, k, h => by
    unfold cov upTo at h
    rw [Bool.or_eq_true] at h
    rcases h with h | h
    · exact cov_sub h
    · simp only [Bool.and_eq_true] at h
      exact h.2.2
theorem cov_has {Q : Nat → Part} {k : Nat} (hr : R k = true) : ∀ {i j : Nat}, j < i → (Q j).fFrom.toNat ≤ k → k < (Q j).fTo.toNat → cov R Q i k = true
  | 0, j, h, _, _ => by omega
  | i + 1, j, h, h1, h2 => by
    unfold cov upTo
    rw [Bool.or_eq_true]
    by_cases e : j = i
    · subst e
      exact .inr (by rw [d_t h1, d_t h2, hr]; rfl)
    · exact .inl (cov_has hr (show j < i by omega) h1 h2)
theorem all_blocks (h : Fine n A N P) {v : Int × Int} (hc : m_insn_Check n A = some v) (hv : v.2 = 0) (hR : ∀ k, R k = true → k < n ∧ sec A k = false) (hB : BehindB n A R B n) {m : Nat} {Q : Nat → Part} (hI : BI n A R B n m Q) :
    lpO (st_barbicanlaw15_FlowBlocks_L0 n A R m Q) (.c0 (fun _ => false) 0) = some (.e0 (cov R Q m)) := by
  have hm := h.most
  have hmm := hI.most
  obtain ⟨r, h1, h2⟩ := lpO_ind (st := st_barbicanlaw15_FlowBlocks_L0 n A R m Q) (fun s => match s with | .c0 Y x => ∃ i : Nat, x = (i : Int) ∧ i ≤ m ∧ Y = cov R Q i) (fun s => match s with | .c0 Y x => m - x.toNat) (fun _ r => r = .e0 (cov R Q m)) (fun s hs => by
    obtain ⟨Y, x⟩ := s
    obtain ⟨i, rfl, hi, rfl⟩ := hs
    by_cases c : i < m
    · have he := hI.ends i c
      obtain ⟨f, hf⟩ : ∃ f : Nat, (Q i).fFrom = (f : Int) := ⟨(Q i).fFrom.toNat, by omega⟩
      obtain ⟨t, ht⟩ : ∃ t : Nat, (Q i).fTo = (t : Int) := ⟨(Q i).fTo.toNat, by omega⟩
      have hcov : cov R Q (i + 1) = upTo (cov R Q i) R f t := by
        show upTo (cov R Q i) R (Q i).fFrom.toNat (Q i).fTo.toNat = _
        rw [hf, ht, Int.toNat_natCast, Int.toNat_natCast]
      rw [hf, ht] at he
      refine .inl ⟨.c0 (cov R Q (i + 1)) ((i + 1 : Nat) : Int), ?_, ⟨i + 1, rfl, by omega, rfl⟩, by show m - ((i + 1 : Nat) : Int).toNat < m - (i : Int).toNat; omega, fun r hr => hr⟩
      by_cases c0 : 0 < i
      · obtain ⟨a, b, c', d, hin⟩ := inner_barbicanlaw15_FlowBlocks_L0_L1v3 h hc hv hR hB hI c hf ht (cov R Q i)
        have e1 : IntKind.i64.wrap ((i : Int) - 1) = ((i - 1 : Nat) : Int) := by rw [wr] <;> omega
        have hri := hI.rise (i - 1) (by omega)
        rw [show i - 1 + 1 = i by omega, hf] at hri
        unfold st_barbicanlaw15_FlowBlocks_L0
        simp only
        rw [ct (d_t (by omega)), ct (inR_nat' c), Int.toNat_natCast, hf, ht, cf (d_f (by omega)), cf (d_f (by omega)), cf (d_f (by omega)), ct (d_t (by omega)), e1, ct (inR_nat' (show i - 1 < m by omega)), Int.toNat_natCast, cf (d_f (by omega)), hin]
        simp only [Option.bind_some]
        rw [w_succ (by omega), hcov]
      · obtain ⟨a, b, c', d, hin⟩ := inner_barbicanlaw15_FlowBlocks_L0_L1v4 h hc hv hR hB hI c hf ht (cov R Q i)
        unfold st_barbicanlaw15_FlowBlocks_L0
        simp only
        rw [ct (d_t (by omega)), ct (inR_nat' c), Int.toNat_natCast, hf, ht, cf (d_f (by omega)), cf (d_f (by omega)), cf (d_f (by omega)), cf (d_f (by omega)), hin]
        simp only [Option.bind_some]
        rw [w_succ (by omega), hcov]
    · obtain rfl : i = m := by omega
      refine .inr ⟨_, ?_, rfl⟩
      unfold st_barbicanlaw15_FlowBlocks_L0
      simp only
      rw [cf (d_f (by omega))]) (.c0 (fun _ => false) 0) ⟨0, rfl, by omega, rfl⟩
  rw [h1, h2]
end
/-- The law answers true. -/
theorem flowblocks_true (n : Nat) (A : Nat → Insn) : m_barbicanlaw15_FlowBlocks n A = some true := by
  unfold m_barbicanlaw15_FlowBlocks
  by_cases hn : 150 < (n : Int)
  · rw [ct (d_t hn)]
  rw [cf (d_f hn)]
  obtain ⟨v, hc, hv⟩ := check_fine n A
  by_cases hv0 : v.2 = 0
  · obtain ⟨N, P, h⟩ := hv hv0
    have hN := h.some
    obtain ⟨g, hP⟩ := h.parts
    have hp := hP.pos
    obtain ⟨R, hr, hR0, hR⟩ := reached_spec h (by omega)
    obtain ⟨B, hb, hB⟩ := begins_is h hR
    obtain ⟨m, Q, hq, hI⟩ := blocks_spec (B := B) h (by omega) hR0 hR
    have e1 : m_flow_Reached n A = some (.e0 R) := by
      unfold m_flow_Reached
      rw [hc]
      simp only [Option.bind_some]
      rw [ct (by rw [hv0]; rfl), hr]
      rfl
    have e2 : m_flow_Blocks n A = some (.e1 m Q) := by
      unfold m_flow_Blocks m_flow_program_blocks
      rw [hc]
      simp only [Option.bind_some]
      rw [ct (by rw [hv0]; rfl), hr]
      simp only [Option.bind_some]
      rw [hb]
      simp only [Option.bind_some]
      rw [hq]
      rfl
    have hbl : m_barbicanlaw15_bools n (cov R Q m) n R = some true := by
      refine bools_true (by omega) fun k hk => ?_
      cases hrk : R k
      · cases hck : cov R Q m k
        · rfl
        · rw [cov_sub hck] at hrk; cases hrk
      · obtain ⟨i, hi, h1, h2⟩ := hI.cover k hk hrk
        exact cov_has hrk hi (by omega) (by omega)
    rw [e1]
    simp only [Option.bind_some]
    rw [e2]
    simp only [Option.bind_some]
    rw [ct (d_t (by omega)), all_blocks h hc hv0 hR hB hI]
    simp only [Option.bind_some]
    rw [hbl]
    rfl
  · have hb : (v.2 == 0) = false := by simpa using hv0
    have e1 : m_flow_Reached n A = some (.e1 v.2) := by
      unfold m_flow_Reached
      rw [hc]
      simp only [Option.bind_some]
      rw [cf hb]
    have e2 : m_flow_Blocks n A = some (.e0 v.2) := by
      unfold m_flow_Blocks
      rw [hc]
      simp only [Option.bind_some]
      rw [cf hb]
    rw [e1]
    simp only [Option.bind_some]
    rw [e2]
    simp only [Option.bind_some]
    rw [ct (by simp), cf hb]
end Go.Proofs.Ytkfmmcobmjkilaa
