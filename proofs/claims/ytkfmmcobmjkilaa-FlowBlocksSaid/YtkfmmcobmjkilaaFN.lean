/-
  Flow: where a slot goes on, what is reached, in plain words.
-/
import Derived.Test.YtkfmmcobmjkilaaFM
import Derived.Test.YtkfmmcobmjkilaaFB1
namespace Go.Proofs.Ytkfmmcobmjkilaa
open Go.RowKit
set_option linter.unusedVariables false
set_option linter.unusedSimpArgs false
theorem ct {α : Sort _} {x y : α} {b : Bool} (h : b = true) : (bif b then x else y) = x := by rw [h]; rfl
theorem cf {α : Sort _} {x y : α} {b : Bool} (h : b = false) : (bif b then x else y) = y := by rw [h]; rfl
theorem w_succ {k : Nat} (h : k < 1000000) : IntKind.i64.wrap ((k : Int) + 1) = ((k + 1 : Nat) : Int) := by rw [wr] <;> omega
theorem jumps_not {x : Insn} (h : m_op_Jumps x = true) : (x.fOp == 24#8) = false ∧ (x.fOp == 133#8) = false ∧ (x.fOp == 149#8) = false := by
  unfold m_op_Jumps at h
  revert h
  generalize x.fOp = o
  revert o
  decide
theorem jumps_names {x : Insn} (h : m_op_Jumps x = true) : m_insn_names x = false := by
  obtain ⟨h1, h2, _⟩ := jumps_not h
  unfold m_insn_names
  rw [cf h1, cf h2]
theorem jumps_wid {x : Insn} (h : m_op_Jumps x = true) : wid x = 1 := by
  have : wideB x = false := (jumps_not h).1
  unfold wid
  rw [this]
  rfl
theorem ja_jumps {x : Insn} (h : (x.fOp == 5#8) = true) : m_op_Jumps x = true := by
  have : x.fOp = 5#8 := by simpa using h
  unfold m_op_Jumps
  rw [this]
  rfl
theorem err_known {n : Nat} {A : Nat → Insn} {k : Nat} (he : errB n A k = 0) : m_insn_known (A k) = true := by
  unfold errB at he
  cases h : m_insn_known (A k)
  · rw [h] at he
    cases he
  · rfl
/-- A slot that begins an operation. -/
def Valid (n : Nat) (A : Nat → Insn) (t : Int) : Prop := ∃ j : Nat, t = (j : Int) ∧ j < n ∧ sec A j = false
section
variable {n N : Nat} {A : Nat → Insn} {P : Nat → Part}
theorem part_of {g : Nat → Bool} (h : Parts g n N P) {k : Nat} (hk : k < n) : ∃ i, i < N ∧ (P i).fFrom ≤ k ∧ (k : Int) < (P i).fTo := by
  have key : ∀ i, i < N → (∃ i', i' ≤ i ∧ (P i').fFrom ≤ k ∧ (k : Int) < (P i').fTo) ∨ (P i).fTo ≤ k := by
    intro i
    induction i with
    | zero =>
      intro hi
      have := h.first
      by_cases c : (k : Int) < (P 0).fTo
      · exact .inl ⟨0, Nat.le_refl _, by omega, c⟩
      · exact .inr (by omega)
    | succ i ih =>
      intro hi
      rcases ih (by omega) with ⟨i', h1, h2⟩ | h1
      · exact .inl ⟨i', by omega, h2⟩
      · have := h.next i hi
        by_cases c : (k : Int) < (P (i + 1)).fTo
        · exact .inl ⟨i + 1, Nat.le_refl _, by omega, c⟩
        · exact .inr (by omega)
  have hp := h.pos
  rcases key (N - 1) (by omega) with ⟨i', h1, h2⟩ | h1
  · exact ⟨i', by omega, h2⟩
  · have := h.last
    omega
/-- An operation that isn't an exit, nor a jump without a condition, has another one behind it. -/
theorem Fine.behind (h : Fine n A N P) {k : Nat} (hk : k < n) (hs : sec A k = false) (h1 : ((A k).fOp == 149#8) = false) (h2 : ((A k).fOp == 5#8) = false) : k + wid (A k) < n := by
  obtain ⟨g, hP⟩ := h.parts
  obtain ⟨i, hi, h3, h4⟩ := part_of hP hk
  have ht := hP.to hi
  unfold wid
  cases hw : wideB (A k)
  · have : (P i).fTo ≠ ((k + 1 : Nat) : Int) := fun e => by
      rcases h.last hi e hs with c | c
      · rw [h1] at c; cases c
      · rw [h2] at c; cases c
    simp only [Bool.false_eq_true, if_false]
    omega
  · have := h.wide hi h4 hs hw
    simp only [if_true]
    omega
theorem Fine.known (h : Fine n A N P) {k : Nat} (hk : k < n) (hs : sec A k = false) : m_insn_known (A k) = true := err_known (h.ok k hk hk hs)
/-- Where a jump goes to. -/
theorem Fine.to (h : Fine n A N P) {k : Nat} (hk : k < n) (hs : sec A k = false) (hj : m_op_Jumps (A k) = true) : ∃ t : Nat, (k : Int) + 1 + ii (A k).fOff = (t : Int) ∧ t < n ∧ sec A t = false := by
  obtain ⟨g, hP⟩ := h.parts
  obtain ⟨i, hi, h3, h4⟩ := part_of hP hk
  have ht := hP.to hi
  have hl := hP.lt i hi
  obtain ⟨h5, h6⟩ := h.goes hi h3 h4 hs hj
  have hb := h.stay i hi k h3 h4 hs
  unfold badJump at hb
  rw [hj, Bool.true_and, Bool.or_eq_false_iff, Bool.or_eq_false_iff] at hb
  refine ⟨((k : Int) + 1 + ii (A k).fOff).toNat, by omega, by omega, hb.2.2⟩
theorem target_jump (h : Fine n A N P) {k : Nat} (hk : k < n) (hs : sec A k = false) (hj : m_op_Jumps (A k) = true) : m_insn_Target n A (k : Int) = some ((k : Int) + 1 + ii (A k).fOff, true) := by
  obtain ⟨t, h1, h2, h3⟩ := h.to hk hs hj
  have hm := h.most
  have e1 : IntKind.i64.wrap ((k : Int) + 1) = (k : Int) + 1 := by rw [wr] <;> omega
  have e3 : IntKind.i64.wrap ((k : Int) + 1 + ii (A k).fOff) = (k : Int) + 1 + ii (A k).fOff := by rw [wr] <;> omega
  unfold m_insn_Target
  rw [operation_eq hm hk, inR_nat' hk, Int.toNat_natCast, e1, e3, h.known hk hs, hs]
  simp only [Option.bind_some]
  rw [ct (b := true && !false) rfl, ct (b := true) rfl, cf (jumps_names hj), ct hj, cf (d_f (by omega)), cf (d_f (by omega))]
theorem named_spec (h : Fine n A N P) {k : Nat} (hk : k < n) (hs : sec A k = false) : (∃ t, m_flow_program_named n A (k : Int) = some (t, false)) ∨ ∃ t, Valid n A t ∧ m_flow_program_named n A (k : Int) = some (t, true) := by
  unfold m_flow_program_named
  rw [ct (inR_nat' hk), Int.toNat_natCast]
  cases hj : m_op_Jumps (A k)
  · rw [cf rfl]
    have h32 := ii32 (A k).fImm
    have hm := h.most
    have e1 : IntKind.i64.wrap ((k : Int) + 1) = (k : Int) + 1 := by rw [wr] <;> omega
    have e2 : IntKind.i64.wrap ((k : Int) + 1 + ii (A k).fImm) = (k : Int) + 1 + ii (A k).fImm := by rw [wr] <;> omega
    unfold m_insn_Target
    rw [operation_eq hm hk, inR_nat' hk, Int.toNat_natCast, e1, e2, h.known hk hs, hs]
    simp only [Option.bind_some]
    rw [ct (b := true && !false) rfl, ct (b := true) rfl]
    cases hn : m_insn_names (A k)
    · rw [cf rfl, hj, cf rfl]
      exact .inl ⟨0, rfl⟩
    · obtain ⟨h1, h2, h3⟩ := callB_iff.1 (names_call (h.ok k hk hk hs) hn)
      rw [ct rfl, cf (d_f (by omega)), cf (d_f (by omega))]
      exact .inr ⟨_, ⟨((k : Int) + 1 + ii (A k).fImm).toNat, by omega, by omega, h3⟩, rfl⟩
  · rw [ct rfl]
    exact .inl ⟨0, rfl⟩
theorem next_plain (h : Fine n A N P) {k : Nat} (hk : k < n) (hs : sec A k = false) (h1 : ((A k).fOp == 149#8) = false) (hj : m_op_Jumps (A k) = false) : m_flow_program_next n A (k : Int) = some (.e1 ((k + wid (A k) : Nat) : Int)) := by
  have hm := h.most
  have hw := wid_pos (A k)
  have e1 : IntKind.i64.wrap ((k : Int) + (wid (A k) : Int)) = ((k + wid (A k) : Nat) : Int) := by rw [wr] <;> omega
  unfold m_flow_program_next
  rw [ct (inR_nat' hk), Int.toNat_natCast, width_eq]
  simp only [bindT]
  rw [cf h1, cf hj, e1]
theorem next_spec (h : Fine n A N P) {k : Nat} (hk : k < n) (hs : sec A k = false) : m_flow_program_next n A (k : Int) = some .e0 ∨ (∃ t, Valid n A t ∧ m_flow_program_next n A (k : Int) = some (.e1 t)) ∨ ∃ a b, Valid n A a ∧ Valid n A b ∧ m_flow_program_next n A (k : Int) = some (.e2 a b) := by
  have hm := h.most
  cases hx : ((A k).fOp == 149#8)
  · cases hj : m_op_Jumps (A k)
    · have h2 : ((A k).fOp == 5#8) = false := by
        cases c : ((A k).fOp == 5#8)
        · rfl
        · rw [ja_jumps c] at hj; cases hj
      exact .inr (.inl ⟨_, ⟨k + wid (A k), rfl, h.behind hk hs hx h2, sec_next hs⟩, next_plain h hk hs hx hj⟩)
    · obtain ⟨t, ht, h1, h2⟩ := h.to hk hs hj
      have e1 : IntKind.i64.wrap ((k : Int) + (wid (A k) : Int)) = ((k + 1 : Nat) : Int) := by rw [jumps_wid hj, wr] <;> omega
      unfold m_flow_program_next
      rw [ct (inR_nat' hk), Int.toNat_natCast, width_eq]
      simp only [bindT]
      rw [cf hx, ct hj, target_jump h hk hs hj]
      simp only [Option.bind_some]
      rw [e1, ht]
      cases h5 : ((A k).fOp == 5#8)
      · rw [cf rfl]
        cases hb : ((t : Int) == ((k + 1 : Nat) : Int))
        · rw [cf rfl]
          have hb' := h.behind hk hs hx h5
          have hs' := sec_next hs
          rw [jumps_wid hj] at hb' hs'
          exact .inr (.inr ⟨_, _, ⟨k + 1, rfl, hb', hs'⟩, ⟨t, rfl, h1, h2⟩, rfl⟩)
        · rw [ct rfl]
          exact .inr (.inl ⟨_, ⟨t, rfl, h1, h2⟩, rfl⟩)
      · rw [ct rfl]
        exact .inr (.inl ⟨_, ⟨t, rfl, h1, h2⟩, rfl⟩)
  · unfold m_flow_program_next
    rw [ct (inR_nat' hk), Int.toNat_natCast]
    simp only [bindT]
    rw [ct hx]
    exact .inl rfl
end
/-! ### What is reached -/
def cnt (R : Nat → Bool) : Nat → Nat
  | 0 => 0
  | n + 1 => cnt R n + (if R n then 0 else 1)
theorem cnt_congr {R R' : Nat → Bool} : ∀ {n : Nat}, (∀ k, k < n → R k = R' k) → cnt R n = cnt R' n
  | 0, _ => rfl
  | n + 1, h => by unfold cnt; rw [cnt_congr (n := n) fun k hk => h k (by omega), h n (by omega)]
theorem cnt_upd {R : Nat → Bool} {t : Nat} (h0 : R t = false) : ∀ {n : Nat}, t < n → cnt (updF R t true) n + 1 = cnt R n
  | 0, h => by omega
  | n + 1, h => by
    unfold cnt
    by_cases e : t = n
    · subst e
      rw [updF_at, h0, cnt_congr (R' := R) fun k hk => updF_ne R true (by omega)]
      simp
    · rw [updF_ne R true (show n ≠ t by omega), ← cnt_upd h0 (show t < n by omega)]
      omega
/-- What is known while slots are waited for. -/
structure RI (n : Nat) (A : Nat → Insn) (R : Nat → Bool) (W : Nat) (Q : Nat → Int) : Prop where
  zero : R 0 = true
  first : ∀ k, R k = true → k < n ∧ sec A k = false
  wait : ∀ i, i < W → Valid n A (Q i)
noncomputable def pushF {α : Type} (b : Nat → Bool) (n : Nat) (t : Int) (K : (Nat → Bool) → Nat → (Nat → Int) → Option α) (R : Nat → Bool) (W : Nat) (Q : Nat → Int) : Option α :=
  bif inR t n then (bif R t.toNat then K R W Q else (bif b W then K (updF R t.toNat true) (W + 1) (updF Q W t) else none)) else none
theorem push_spec {α : Type} {b : Nat → Bool} {n : Nat} {A : Nat → Insn} {t : Int} {K : (Nat → Bool) → Nat → (Nat → Int) → Option α} {R : Nat → Bool} {W : Nat} {Q : Nat → Int} {G : α → Prop} (m : Nat) (hb : ∀ w, w ≤ 10000 → b w = true) (hI : RI n A R W Q) (ht : Valid n A t) (hm : 2 * cnt R n + W ≤ m) (hsm : m ≤ 10000)
    (hK : ∀ R' W' Q', RI n A R' W' Q' → 2 * cnt R' n + W' ≤ m → ∃ s, K R' W' Q' = some s ∧ G s) : ∃ s, pushF b n t K R W Q = some s ∧ G s := by
  obtain ⟨j, rfl, hj, hs⟩ := ht
  unfold pushF
  rw [ct (inR_nat' hj), Int.toNat_natCast]
  cases hR : R j
  · have hc := cnt_upd hR hj
    rw [cf rfl, ct (hb W (by omega))]
    refine hK _ _ _ ⟨?_, fun k hk => ?_, fun i hi => ?_⟩ (by omega)
    · unfold updF
      split
      · rfl
      · exact hI.zero
    · by_cases e : k = j
      · subst e; exact ⟨hj, hs⟩
      · rw [updF_ne R true e] at hk; exact hI.first k hk
    · by_cases e : i = W
      · subst e; rw [updF_at]; exact ⟨j, rfl, hj, hs⟩
      · rw [updF_ne Q _ e]; exact hI.wait i (by omega)
  · rw [ct rfl]
    exact hK R W Q hI hm
theorem cnt_le {R : Nat → Bool} : ∀ {n : Nat}, cnt R n ≤ n
  | 0 => Nat.le_refl _
  | n + 1 => by
    unfold cnt
    have := cnt_le (R := R) (n := n)
    split <;> omega
noncomputable def finR (R : Nat → Bool) (W : Nat) (Q : Nat → Int) : Option (Sh_flow_program_reached_L0 ⊕ Ex_flow_program_reached_L0) := some (.inl (.c1 R W Q))
def GoodR (n : Nat) (A : Nat → Insn) (m : Nat) (s : Sh_flow_program_reached_L0 ⊕ Ex_flow_program_reached_L0) : Prop := ∃ R W Q, s = .inl (.c1 R W Q) ∧ RI n A R W Q ∧ 2 * cnt R n + W ≤ m
theorem fin_spec {n : Nat} {A : Nat → Insn} (m : Nat) : ∀ R W Q, RI n A R W Q → 2 * cnt R n + W ≤ m → ∃ s, finR R W Q = some s ∧ GoodR n A m s := fun R W Q h1 h2 => ⟨_, rfl, R, W, Q, rfl, h1, h2⟩
theorem round1 {n N : Nat} {A : Nat → Insn} {P : Nat → Part} (h : Fine n A N P) {R : Nat → Bool} {w : Nat} {Q : Nat → Int} (hI : RI n A R (w + 1) Q) (hm : 2 * cnt R n + w ≤ 10000) : ∃ s, st_flow_program_reached_L0 n A (.c1 R (w + 1) Q) = some s ∧ GoodR n A (2 * cnt R n + w) s := by
  obtain ⟨k, hk0, hk, hs⟩ := hI.wait w (by omega)
  have hI' : RI n A R w Q := ⟨hI.zero, hI.first, fun i hi => hI.wait i (by omega)⟩
  have e1 : IntKind.i64.wrap (((w + 1 : Nat) : Int) - 1) = (w : Int) := by rw [wr] <;> omega
  have hb : ∀ x, x ≤ 10000 → (fun v => decide (v ≤ 1000000)) x = true := fun x hx => d_t (by omega)
  unfold st_flow_program_reached_L0
  simp only
  rw [ct (d_t (by omega)), e1, ct (inR_nat' (show w < w + 1 by omega)), ct (inR_nat' (show w < w + 1 + 1 by omega)), ct (d_t (by omega)), Int.toNat_natCast, hk0]
  rcases next_spec h hk hs with h1 | ⟨a, ha, h1⟩ | ⟨a, b, ha, hb', h1⟩ <;> rcases named_spec h hk hs with ⟨t, h2⟩ | ⟨t, ht, h2⟩ <;> rw [h1, h2] <;> simp only [Option.bind_some]
  · exact fin_spec _ R w Q hI' (Nat.le_refl _)
  · exact push_spec (b := fun v => decide (v ≤ 1000000)) (K := finR) _ hb hI' ht (Nat.le_refl _) hm (fin_spec _)
  · exact push_spec (b := fun v => decide (v ≤ 1000000)) (K := finR) _ hb hI' ha (Nat.le_refl _) hm (fin_spec _)
  · exact push_spec (b := fun v => decide (v ≤ 1000000)) (K := pushF (fun v => decide (v ≤ 1000000)) n t finR) _ hb hI' ha (Nat.le_refl _) hm (fun R1 W1 Q1 i1 m1 => push_spec (K := finR) _ hb i1 ht m1 hm (fin_spec _))
  · exact push_spec (b := fun v => decide (v ≤ 1000000)) (K := pushF (fun v => decide (v ≤ 1000000)) n b finR) _ hb hI' ha (Nat.le_refl _) hm (fun R1 W1 Q1 i1 m1 => push_spec (K := finR) _ hb i1 hb' m1 hm (fin_spec _))
  · exact push_spec (b := fun v => decide (v ≤ 1000000)) (K := pushF (fun v => decide (v ≤ 1000000)) n b (pushF (fun v => decide (v ≤ 1000000)) n t finR)) _ hb hI' ha (Nat.le_refl _) hm (fun R1 W1 Q1 i1 m1 => push_spec (K := pushF (fun v => decide (v ≤ 1000000)) n t finR) _ hb i1 hb' m1 hm (fun R2 W2 Q2 i2 m2 => push_spec (K := finR) _ hb i2 ht m2 hm (fin_spec _)))
theorem round0 {n N : Nat} {A : Nat → Insn} {P : Nat → Part} (h : Fine n A N P) (hn : 0 < n) : ∃ s, st_flow_program_reached_L0 n A .c0 = some s ∧ GoodR n A (2 * n) s := by
  have hm := h.most
  have hc : cnt (updF (fun _ => false) 0 true) n ≤ n := cnt_le
  have hI' : RI n A (updF (fun _ => false) 0 true) 0 (fun _ => 0) := by
    refine ⟨rfl, fun k hk => ?_, fun i hi => by omega⟩
    by_cases e : k = 0
    · subst e; exact ⟨hn, rfl⟩
    · rw [updF_ne _ true e] at hk
      cases hk
  have hb : ∀ x, x ≤ 10000 → (fun _ : Nat => true) x = true := fun x hx => rfl
  unfold st_flow_program_reached_L0
  simp only
  rcases next_spec h hn (show sec A 0 = false from rfl) with h1 | ⟨a, ha, h1⟩ | ⟨a, b, ha, hb', h1⟩ <;> rcases named_spec h hn (show sec A 0 = false from rfl) with ⟨t, h2⟩ | ⟨t, ht, h2⟩ <;> simp only [Int.natCast_zero] at h1 h2 <;> rw [h1, h2] <;> simp only [Option.bind_some]
  · exact fin_spec (2 * n) _ _ _ hI' (by omega)
  · exact push_spec (b := fun _ => true) (K := finR) (2 * n) hb hI' ht (by omega) (by omega) (fin_spec _)
  · exact push_spec (b := fun _ => true) (K := finR) (2 * n) hb hI' ha (by omega) (by omega) (fin_spec _)
  · exact push_spec (b := fun _ => true) (K := pushF (fun _ => true) n t finR) (2 * n) hb hI' ha (by omega) (by omega) (fun R1 W1 Q1 i1 m1 => push_spec (K := finR) (2 * n) hb i1 ht m1 (by omega) (fin_spec _))
  · exact push_spec (b := fun _ => true) (K := pushF (fun _ => true) n b finR) (2 * n) hb hI' ha (by omega) (by omega) (fun R1 W1 Q1 i1 m1 => push_spec (K := finR) (2 * n) hb i1 hb' m1 (by omega) (fin_spec _))
  · exact push_spec (b := fun _ => true) (K := pushF (fun _ => true) n b (pushF (fun _ => true) n t finR)) (2 * n) hb hI' ha (by omega) (by omega) (fun R1 W1 Q1 i1 m1 => push_spec (K := pushF (fun _ => true) n t finR) (2 * n) hb i1 hb' m1 (by omega) (fun R2 W2 Q2 i2 m2 => push_spec (K := finR) (2 * n) hb i2 ht m2 (by omega) (fin_spec _)))
/-- What is reached are operations' first slots. -/
theorem reached_spec {n N : Nat} {A : Nat → Insn} {P : Nat → Part} (h : Fine n A N P) (hn : 0 < n) : ∃ R, m_flow_program_reached n A = some (.e0 R) ∧ R 0 = true ∧ ∀ k, R k = true → k < n ∧ sec A k = false := by
  have hm := h.most
  obtain ⟨r, h1, h2⟩ := lpO_ind (st := st_flow_program_reached_L0 n A) (fun s => match s with | .c0 => True | .c1 R W Q => RI n A R W Q ∧ 2 * cnt R n + W ≤ 2 * n) (fun s => match s with | .c0 => 2 * n + 1 | .c1 R W Q => 2 * cnt R n + W)
    (fun _ r => ∃ R, r = .e0 R ∧ R 0 = true ∧ ∀ k, R k = true → k < n ∧ sec A k = false) (fun s hs => by
      cases s with
      | c0 =>
        obtain ⟨s, h1, R, W, Q, rfl, h2, h3⟩ := round0 h hn
        exact .inl ⟨_, h1, ⟨h2, h3⟩, by show 2 * cnt R n + W < 2 * n + 1; omega, fun r hr => hr⟩
      | c1 R W Q =>
        obtain ⟨hI, hmm⟩ := hs
        cases W with
        | zero =>
          refine .inr ⟨.e0 R, ?_, R, rfl, hI.zero, hI.first⟩
          unfold st_flow_program_reached_L0
          simp only
          rw [cf (d_f (by omega))]
        | succ w =>
          obtain ⟨s, h1, R', W', Q', rfl, h2, h3⟩ := round1 h hI (by omega)
          exact .inl ⟨_, h1, ⟨h2, by omega⟩, by show 2 * cnt R' n + W' < 2 * cnt R n + (w + 1); omega, fun r hr => hr⟩) .c0 trivial
  obtain ⟨R, rfl, h3⟩ := h2
  refine ⟨R, ?_, h3⟩
  unfold m_flow_program_reached
  rw [ct (d_t (by omega)), ct (show inR 0 n = true from inR_iff.2 ⟨by omega, by omega⟩), h1]
  rfl
end Go.Proofs.Ytkfmmcobmjkilaa
