/-
  Flow: blocks, in plain words; the law on blocks.
-/
import Derived.Test.YtkfmmcobmjkilaaFN
import Derived.Test.YtkfmmcobmjkilaaFB3
namespace Go.Proofs.Ytkfmmcobmjkilaa
open Go.RowKit
set_option linter.unusedVariables false
set_option linter.unusedSimpArgs false
theorem updF_twice {α : Type} (P : Nat → α) (a : Nat) (x y : α) : updF (updF P a x) a y = updF P a y := by
  funext k
  unfold updF
  split <;> rfl
theorem updF_true {B : Nat → Bool} {a k : Nat} (h : B k = true) : updF B a true k = true := by
  unfold updF
  split
  · rfl
  · exact h
section
variable {n N : Nat} {A : Nat → Insn} {P : Nat → Part}
theorem begins_first (h : Fine n A N P) : ∃ B x, lpO (st_flow_program_begins_L0 n N P) (.c0 (fun _ => false) 0) = some (.e0 B x) := by
  have hm := h.most
  have hN := h.some
  obtain ⟨g, hP⟩ := h.parts
  have e0 : (IntKind.i64.wrap ((n : Int) + 1)).toNat = n + 1 := by rw [w_succ (by omega)]; rfl
  obtain ⟨r, h1, h2⟩ := lpO_ind (st := st_flow_program_begins_L0 n N P) (fun s => match s with | .c0 B x => ∃ k : Nat, x = (k : Int) ∧ k ≤ N) (fun s => match s with | .c0 B x => N - x.toNat) (fun _ r => ∃ B x, r = .e0 B x) (fun s hs => by
    obtain ⟨B, x⟩ := s
    obtain ⟨k, rfl, hk⟩ := hs
    by_cases c : k < N
    · have hl := hP.lt k c
      have ht := hP.to c
      refine .inl ⟨.c0 (updF B (P k).fFrom.toNat true) ((k + 1 : Nat) : Int), ?_, ⟨k + 1, rfl, by omega⟩, by show N - ((k + 1 : Nat) : Int).toNat < N - (k : Int).toNat; omega, fun r hr => hr⟩
      unfold st_flow_program_begins_L0
      simp only
      rw [ct (d_t (by omega)), ct (inR_nat' c), Int.toNat_natCast, e0, ct (inR_iff.2 ⟨by omega, by omega⟩), w_succ (by omega)]
    · refine .inr ⟨_, ?_, B, (k : Int), rfl⟩
      unfold st_flow_program_begins_L0
      simp only
      rw [cf (d_f (by omega))]) (.c0 (fun _ => false) 0) ⟨0, rfl, by omega⟩
  obtain ⟨B, x, rfl⟩ := h2
  exact ⟨B, x, h1⟩
/-- Behind what is reached and jumps, or ends, a row of slots begins. -/
def BehindB (n : Nat) (A : Nat → Insn) (R B : Nat → Bool) (k : Nat) : Prop := ∀ j, j < k → j < n → R j = true → m_op_Jumps (A j) = true ∨ ((A j).fOp == 149#8) = true → B (j + 1) = true
theorem begins_second (h : Fine n A N P) {R : Nat → Bool} (hR : ∀ k, R k = true → k < n ∧ sec A k = false) (B0 : Nat → Bool) : ∃ B x, lpO (st_flow_program_begins_L1v1 n A n R) (.c0 B0 0) = some (.e0 B x) ∧ BehindB n A R B n := by
  have hm := h.most
  have e0 : (IntKind.i64.wrap ((n : Int) + 1)).toNat = n + 1 := by rw [w_succ (by omega)]; rfl
  obtain ⟨r, h1, h2⟩ := lpO_ind (st := st_flow_program_begins_L1v1 n A n R) (fun s => match s with | .c0 B x => ∃ k : Nat, x = (k : Int) ∧ k ≤ n ∧ BehindB n A R B k) (fun s => match s with | .c0 B x => n - x.toNat) (fun _ r => ∃ B x, r = .e0 B x ∧ BehindB n A R B n) (fun s hs => by
    obtain ⟨B, x⟩ := s
    obtain ⟨k, rfl, hk, hB⟩ := hs
    by_cases c : k < n
    · have hμ : n - ((k + 1 : Nat) : Int).toNat < n - (k : Int).toNat := by omega
      cases hr : R k
      · refine .inl ⟨.c0 B ((k + 1 : Nat) : Int), ?_, ⟨k + 1, rfl, by omega, fun j h1 h2 h3 h4 => ?_⟩, hμ, fun r hr => hr⟩
        · unfold st_flow_program_begins_L1v1
          simp only
          rw [ct (d_t (by omega)), ct (inR_nat' c), Int.toNat_natCast, cf hr, w_succ (by omega)]
        · by_cases e : j = k
          · subst e; rw [hr] at h3; cases h3
          · exact hB j (by omega) h2 h3 h4
      · have hs := (hR k hr).2
        cases hj : m_op_Jumps (A k)
        · cases hx : ((A k).fOp == 149#8)
          · refine .inl ⟨.c0 B ((k + 1 : Nat) : Int), ?_, ⟨k + 1, rfl, by omega, fun j h1 h2 h3 h4 => ?_⟩, hμ, fun r hr => hr⟩
            · unfold st_flow_program_begins_L1v1
              simp only
              rw [ct (d_t (by omega)), ct (inR_nat' c), Int.toNat_natCast, ct hr, ct (inR_nat' c), cf hj, cf hx, w_succ (by omega)]
            · by_cases e : j = k
              · subst e
                rw [hj, hx] at h4
                rcases h4 with h4 | h4 <;> cases h4
              · exact hB j (by omega) h2 h3 h4
          · refine .inl ⟨.c0 (updF B (k + 1) true) ((k + 1 : Nat) : Int), ?_, ⟨k + 1, rfl, by omega, fun j h1 h2 h3 h4 => ?_⟩, hμ, fun r hr => hr⟩
            · unfold st_flow_program_begins_L1v1
              simp only
              rw [ct (d_t (by omega)), ct (inR_nat' c), Int.toNat_natCast, ct hr, ct (inR_nat' c), cf hj, ct hx, w_succ (by omega), e0, ct (inR_nat' (by omega)), Int.toNat_natCast]
            · by_cases e : j = k
              · subst e; exact updF_at B _ true
              · exact updF_true (hB j (by omega) h2 h3 h4)
        · obtain ⟨t, ht, ht1, ht2⟩ := h.to c hs hj
          refine .inl ⟨.c0 (updF (updF B t true) (k + 1) true) ((k + 1 : Nat) : Int), ?_, ⟨k + 1, rfl, by omega, fun j h1 h2 h3 h4 => ?_⟩, hμ, fun r hr => hr⟩
          · unfold st_flow_program_begins_L1v1
            simp only
            rw [ct (d_t (by omega)), ct (inR_nat' c), Int.toNat_natCast, ct hr, ct (inR_nat' c), ct hj, target_jump h c hs hj]
            simp only [Option.bind_some]
            rw [ht, e0, ct (inR_nat' (by omega)), w_succ (by omega), ct (inR_nat' (by omega)), Int.toNat_natCast, Int.toNat_natCast]
            rfl
          · by_cases e : j = k
            · subst e; exact updF_at _ _ true
            · exact updF_true (updF_true (hB j (by omega) h2 h3 h4))
    · refine .inr ⟨_, ?_, B, (k : Int), rfl, fun j h1 h2 => hB j (by omega) h2⟩
      unfold st_flow_program_begins_L1v1
      simp only
      rw [cf (d_f (by omega))]) (.c0 B0 0) ⟨0, rfl, by omega, fun j h1 => by omega⟩
  obtain ⟨B, x, rfl, h3⟩ := h2
  exact ⟨B, x, h1, h3⟩
theorem begins_is (h : Fine n A N P) {R : Nat → Bool} (hR : ∀ k, R k = true → k < n ∧ sec A k = false) : ∃ B, m_flow_program_begins n A n R = some (.e0 B) ∧ BehindB n A R B n := by
  have hm := h.most
  obtain ⟨B0, x0, h1⟩ := begins_first h
  obtain ⟨B, x, h2, h3⟩ := begins_second h hR B0
  refine ⟨B, ?_, h3⟩
  unfold m_flow_program_begins
  rw [w_succ (by omega), ct (inR_iff.2 ⟨by omega, by omega⟩), h.subs]
  simp only [Option.bind_some]
  rw [h1]
  simp only [Option.bind_some]
  rw [h2]
  rfl
end
/-- The blocks of the slots ahead of k. -/
structure BI (n : Nat) (A : Nat → Insn) (R B : Nat → Bool) (k m : Nat) (Q : Nat → Part) : Prop where
  pos : 0 < m
  most : m ≤ k
  ends : ∀ i, i < m → 0 ≤ (Q i).fFrom ∧ (Q i).fFrom < (Q i).fTo ∧ (Q i).fTo ≤ k
  rise : ∀ i, i + 1 < m → (Q i).fTo ≤ (Q (i + 1)).fFrom
  first : ∀ i, i < m → R (Q i).fFrom.toNat = true
  inner : ∀ i, i < m → ∀ j : Nat, (Q i).fFrom ≤ j → (j : Int) < (Q i).fTo → sec A j = false → R j = true ∧ ((Q i).fFrom < j → B j = false)
  cover : ∀ j, j < k → R j = true → ∃ i, i < m ∧ (Q i).fFrom ≤ j ∧ (j : Int) < (Q i).fTo
section
variable {n N : Nat} {A : Nat → Insn} {P : Nat → Part} {R B : Nat → Bool}
theorem BI.skip {k m : Nat} {Q : Nat → Part} (h : BI n A R B k m Q) (hR : ∀ k, R k = true → k < n ∧ sec A k = false) (hs : sec A k = false) (hr : R k = false) : BI n A R B (k + wid (A k)) m Q := by
  have hw := wid_pos (A k)
  refine ⟨h.pos, by have := h.most; omega, fun i hi => ?_, h.rise, h.first, h.inner, fun j hj hrj => ?_⟩
  · have := h.ends i hi
    omega
  · by_cases c : j < k
    · exact h.cover j c hrj
    · by_cases e : j = k
      · subst e; rw [hr] at hrj; cases hrj
      · have := sec_over hs (show k < j by omega) hj
        rw [(hR j hrj).2] at this
        cases this
theorem BI.fresh {k m : Nat} {Q : Nat → Part} (h : BI n A R B k m Q) (hR : ∀ k, R k = true → k < n ∧ sec A k = false) (hs : sec A k = false) (hr : R k = true) : BI n A R B (k + wid (A k)) (m + 1) (updF Q m ⟨(k : Int), ((k + wid (A k) : Nat) : Int)⟩) := by
  have hw := wid_pos (A k)
  have hp := h.pos
  have at' : updF Q m ⟨(k : Int), ((k + wid (A k) : Nat) : Int)⟩ m = ⟨(k : Int), ((k + wid (A k) : Nat) : Int)⟩ := updF_at _ _ _
  have ne' : ∀ {i}, i < m → updF Q m ⟨(k : Int), ((k + wid (A k) : Nat) : Int)⟩ i = Q i := fun {i} hi => updF_ne _ _ (by omega)
  refine ⟨by omega, by have := h.most; omega, fun i hi => ?_, fun i hi => ?_, fun i hi => ?_, fun i hi j h1 h2 h3 => ?_, fun j hj hrj => ?_⟩
  · by_cases e : i = m
    · subst e
      rw [at']
      refine ⟨?_, ?_, ?_⟩ <;> simp only <;> omega
    · rw [ne' (by omega)]
      have := h.ends i (by omega)
      omega
  · by_cases e : i + 1 = m
    · rw [e, at', ne' (by omega)]
      have := h.ends i (by omega)
      show (Q i).fTo ≤ (k : Int)
      omega
    · rw [ne' (by omega), ne' (by omega)]
      exact h.rise i (by omega)
  · by_cases e : i = m
    · subst e
      rw [at']
      exact hr
    · rw [ne' (by omega)]
      exact h.first i (by omega)
  · by_cases e : i = m
    · subst e
      rw [at'] at h1 h2 ⊢
      simp only at h1 h2 ⊢
      by_cases c : j = k
      · subst c; exact ⟨hr, fun h => by omega⟩
      · have := sec_over hs (show k < j by omega) (by omega)
        rw [h3] at this
        cases this
    · rw [ne' (by omega)] at h1 h2 ⊢
      exact h.inner i (by omega) j h1 h2 h3
  · by_cases c : j < k
    · obtain ⟨i, hi, h1⟩ := h.cover j c hrj
      exact ⟨i, by omega, by rw [ne' hi]; exact h1⟩
    · refine ⟨m, by omega, ?_⟩
      rw [at']
      constructor <;> simp only <;> omega
theorem BI.more {k m : Nat} {Q : Nat → Part} (h : BI n A R B k m Q) (hR : ∀ k, R k = true → k < n ∧ sec A k = false) (hs : sec A k = false) (hr : R k = true) (hb : B k = false) (ho : (Q (m - 1)).fTo = (k : Int)) : BI n A R B (k + wid (A k)) m (updF Q (m - 1) ⟨(Q (m - 1)).fFrom, ((k + wid (A k) : Nat) : Int)⟩) := by
  have hw := wid_pos (A k)
  have hp := h.pos
  have at' : updF Q (m - 1) ⟨(Q (m - 1)).fFrom, ((k + wid (A k) : Nat) : Int)⟩ (m - 1) = ⟨(Q (m - 1)).fFrom, ((k + wid (A k) : Nat) : Int)⟩ := updF_at _ _ _
  have ne' : ∀ {i}, i ≠ m - 1 → updF Q (m - 1) ⟨(Q (m - 1)).fFrom, ((k + wid (A k) : Nat) : Int)⟩ i = Q i := fun {i} hi => updF_ne _ _ hi
  have hl := h.ends (m - 1) (by omega)
  refine ⟨by omega, by have := h.most; omega, fun i hi => ?_, fun i hi => ?_, fun i hi => ?_, fun i hi j h1 h2 h3 => ?_, fun j hj hrj => ?_⟩
  · by_cases e : i = m - 1
    · rw [e, at']
      refine ⟨?_, ?_, ?_⟩ <;> simp only <;> omega
    · rw [ne' e]
      have := h.ends i hi
      omega
  · rw [ne' (show i ≠ m - 1 by omega)]
    by_cases e : i + 1 = m - 1
    · rw [e, at']
      have := h.rise i hi
      rw [e] at this
      exact this
    · rw [ne' e]
      exact h.rise i hi
  · by_cases e : i = m - 1
    · rw [e, at']
      exact h.first (m - 1) (by omega)
    · rw [ne' e]
      exact h.first i hi
  · by_cases e : i = m - 1
    · rw [e, at'] at h1 h2 ⊢
      simp only at h1 h2 ⊢
      by_cases c : j < k
      · exact h.inner (m - 1) (by omega) j h1 (by omega) h3
      · by_cases c2 : j = k
        · subst c2; exact ⟨hr, fun _ => hb⟩
        · have := sec_over hs (show k < j by omega) (by omega)
          rw [h3] at this
          cases this
    · rw [ne' e] at h1 h2 ⊢
      exact h.inner i hi j h1 h2 h3
  · by_cases c : j < k
    · obtain ⟨i, hi, h1, h2⟩ := h.cover j c hrj
      by_cases e : i = m - 1
      · subst e
        refine ⟨m - 1, hi, ?_⟩
        rw [at']
        constructor <;> simp only <;> omega
      · exact ⟨i, hi, by rw [ne' e]; exact ⟨h1, h2⟩⟩
    · refine ⟨m - 1, by omega, ?_⟩
      rw [at']
      constructor <;> simp only <;> omega
theorem wide_fits (h : Fine n A N P) {k : Nat} (hk : k < n) (hs : sec A k = false) : k + wid (A k) ≤ n := by
  unfold wid
  cases hw : wideB (A k)
  · simp only [Bool.false_eq_true, if_false]; omega
  · have hr := err_right (h.ok k hk hk hs) hw
    unfold rightB at hr
    rw [Bool.and_eq_true] at hr
    have := of_decide_eq_true hr.1
    simp only [if_true]; omega
theorem blocks_spec (h : Fine n A N P) (hn : 0 < n) (hR0 : R 0 = true) (hR : ∀ k, R k = true → k < n ∧ sec A k = false) : ∃ m Q, lpO (st_flow_program_blocks_L0 n A R B) (.c0 0) = some (.e1 m Q) ∧ BI n A R B n m Q := by
  have hm := h.most
  have e0 : (IntKind.i64.wrap ((n : Int) + 1)).toNat = n + 1 := by rw [w_succ (by omega)]; rfl
  have ew : ∀ {k : Nat}, k < n → IntKind.i64.wrap ((k : Int) + (wid (A k) : Int)) = ((k + wid (A k) : Nat) : Int) := fun {k} hk => by
    have := wid_pos (A k)
    rw [wr] <;> omega
  obtain ⟨r, h1, h2⟩ := lpO_ind (st := st_flow_program_blocks_L0 n A R B)
    (fun s => match s with | .c0 x => x = 0 | .c1 m Q o x => ∃ k : Nat, x = (k : Int) ∧ k ≤ n ∧ sec A k = false ∧ BI n A R B k m Q ∧ (o = true → (Q (m - 1)).fTo = (k : Int)))
    (fun s => match s with | .c0 x => n + 1 | .c1 m Q o x => n - x.toNat) (fun _ r => ∃ m Q, r = .e1 m Q ∧ BI n A R B n m Q) (fun s hs => by
      cases s with
      | c0 x =>
        subst hs
        have hw := wid_pos (A 0)
        have hb : BI n A R B (0 + wid (A 0)) 1 (updF (fun _ => (⟨0, 0⟩ : Part)) 0 ⟨((0 : Nat) : Int), ((0 + wid (A 0) : Nat) : Int)⟩) := by
          have at' : updF (fun _ => (⟨0, 0⟩ : Part)) 0 ⟨((0 : Nat) : Int), ((0 + wid (A 0) : Nat) : Int)⟩ 0 = ⟨((0 : Nat) : Int), ((0 + wid (A 0) : Nat) : Int)⟩ := updF_at _ _ _
          refine ⟨by omega, by omega, fun i hi => ?_, fun i hi => by omega, fun i hi => ?_, fun i hi j h1 h2 h3 => ?_, fun j hj hrj => ?_⟩
          · obtain rfl : i = 0 := by omega
            rw [at']
            refine ⟨?_, ?_, ?_⟩ <;> simp only <;> omega
          · obtain rfl : i = 0 := by omega
            rw [at']
            exact hR0
          · obtain rfl : i = 0 := by omega
            rw [at'] at h1 h2 ⊢
            simp only at h1 h2 ⊢
            by_cases c : j = 0
            · subst c; exact ⟨hR0, fun h => by omega⟩
            · have := sec_over (A := A) (k := 0) rfl (show 0 < j by omega) (by omega)
              rw [h3] at this
              cases this
          · refine ⟨0, by omega, ?_⟩
            rw [at']
            constructor <;> simp only <;> omega
        refine .inl ⟨.c1 1 (updF (fun _ => (⟨0, 0⟩ : Part)) 0 ⟨((0 : Nat) : Int), ((0 + wid (A 0) : Nat) : Int)⟩) true ((0 + wid (A 0) : Nat) : Int), ?_, ⟨0 + wid (A 0), rfl, wide_fits h hn rfl, sec_next (A := A) (k := 0) rfl, hb, fun _ => by rw [updF_at]⟩, by show n - ((0 + wid (A 0) : Nat) : Int).toNat < n + 1; omega, fun r hr => hr⟩
        have := ew hn
        simp only [Int.natCast_zero] at this
        unfold st_flow_program_blocks_L0
        simp only
        rw [ct (d_t (by omega)), ct (inR_iff.2 ⟨by omega, by omega⟩), show (0 : Int).toNat = 0 from rfl, ct hR0, width_eq]
        simp only [bindT]
        rw [this]
        rfl
      | c1 m Q o x =>
        obtain ⟨k, rfl, hk, hs, hI, ho⟩ := hs
        by_cases c : k < n
        · have hw := wid_pos (A k)
          have hf := wide_fits h c hs
          have hμ : n - ((k + wid (A k) : Nat) : Int).toNat < n - (k : Int).toNat := by omega
          have hmk := hI.most
          have hmp := hI.pos
          have e2 : IntKind.i64.wrap ((m : Int) + 1 - 1) = (m : Int) := by rw [wr] <;> omega
          have e3 : IntKind.i64.wrap ((m : Int) - 1) = ((m - 1 : Nat) : Int) := by rw [wr] <;> omega
          cases hr : R k
          · refine .inl ⟨.c1 m Q false ((k + wid (A k) : Nat) : Int), ?_, ⟨_, rfl, hf, sec_next hs, hI.skip hR hs hr, fun h => by cases h⟩, hμ, fun r hr => hr⟩
            unfold st_flow_program_blocks_L0
            simp only
            rw [ct (d_t (by omega)), ct (inR_nat' c), Int.toNat_natCast, cf hr, width_eq]
            simp only [bindT]
            rw [ew c]
          · have new : ∀ X, X = st_flow_program_blocks_L0 n A R B (.c1 m Q o (k : Int)) → (o = false ∨ B k = true) → X = some (.inl (.c1 (m + 1) (updF Q m ⟨(k : Int), ((k + wid (A k) : Nat) : Int)⟩) true ((k + wid (A k) : Nat) : Int))) := fun X hX hc => by
              rw [hX]
              unfold st_flow_program_blocks_L0
              simp only
              rw [ct (d_t (by omega)), ct (inR_nat' c), Int.toNat_natCast, ct hr, width_eq, e2, e0, ct (inR_nat' (show k < n + 1 by omega))]
              simp only [bindT]
              rw [ew c, ct (d_t (show m ≤ 1000000 by omega)), ct (inR_nat' (show m < m + 1 by omega)), Int.toNat_natCast, updF_at, updF_twice]
              cases o
              · rfl
              · rcases hc with hc | hc
                · cases hc
                · rw [hc]; rfl
            by_cases hc : o = false ∨ B k = true
            · exact .inl ⟨_, new _ rfl hc, ⟨_, rfl, hf, sec_next hs, hI.fresh hR hs hr, fun _ => by rw [show m + 1 - 1 = m from rfl, updF_at]⟩, hμ, fun r hr => hr⟩
            · have hot : o = true := by cases o <;> simp_all
              have hbf : B k = false := by cases hbk : B k <;> simp_all
              subst hot
              refine .inl ⟨.c1 m (updF Q (m - 1) ⟨(Q (m - 1)).fFrom, ((k + wid (A k) : Nat) : Int)⟩) true ((k + wid (A k) : Nat) : Int), ?_, ⟨_, rfl, hf, sec_next hs, hI.more hR hs hr hbf (ho rfl), fun _ => by rw [updF_at]⟩, hμ, fun r hr => hr⟩
              unfold st_flow_program_blocks_L0
              simp only
              rw [ct (d_t (by omega)), ct (inR_nat' c), Int.toNat_natCast, ct hr, ct rfl, e0, ct (inR_nat' (show k < n + 1 by omega)), cf hbf, width_eq, e3]
              simp only [bindT]
              rw [ew c, ct (inR_nat' (show m - 1 < m by omega)), Int.toNat_natCast]
        · obtain rfl : k = n := by omega
          refine .inr ⟨.e1 m Q, ?_, m, Q, rfl, hI⟩
          unfold st_flow_program_blocks_L0
          simp only
          rw [cf (d_f (by omega))]) (.c0 0) rfl
  obtain ⟨m, Q, rfl, h3⟩ := h2
  exact ⟨m, Q, h1, h3⟩
end
end Go.Proofs.Ytkfmmcobmjkilaa
