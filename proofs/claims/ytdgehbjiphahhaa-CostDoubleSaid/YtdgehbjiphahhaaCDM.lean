/-
  Rows of comparisons, each over one operation: they are well formed, none goes back, none calls.
-/
import Derived.Test.YtdgehbjiphahhaaS1P
import Derived.Test.YtdgehbjiphahhaaCDL
namespace Go.Proofs.Ytdgehbjiphahhaa
open Go.RowKit
set_option linter.unusedVariables false
set_option linter.unusedSimpArgs false
theorem ct {α : Sort _} {x y : α} {b : Bool} (h : b = true) : (bif b then x else y) = x := by rw [h]; rfl
theorem cf {α : Sort _} {x y : α} {b : Bool} (h : b = false) : (bif b then x else y) = y := by rw [h]; rfl
theorem w_succ {k : Nat} (h : k < 1000000) : IntKind.i64.wrap ((k : Int) + 1) = ((k + 1 : Nat) : Int) := by rw [wr] <;> omega
theorem operation_eq {n : Nat} {A : Nat → Insn} (hn : n ≤ 4096) {j : Nat} (hj : j < n) : m_insn_operation n A (j : Int) = some (m_insn_known (A j) && !sec A j) := by
  unfold m_insn_operation
  rw [d_t (p := (0 : Int) ≤ (j : Int)) (by omega), d_t (p := (j : Int) < (n : Int)) (by omega), inR_nat' hj, Int.toNat_natCast, second_eq (by omega) (by omega)]
  cases m_insn_known (A j) <;> cases sec A j <;> rfl
abbrev jif : Insn := ⟨21#8, 0#8, 0#8, 1#16, 0#32⟩
abbrev add1 : Insn := ⟨7#8, 0#8, 0#8, 0#16, 1#32⟩
def fam (n k : Nat) : Insn := if k = 0 then mov0 else if k % 2 = 0 then add1 else if k = 2 * n + 1 then exit0 else jif
def Fam (n : Nat) (A : Nat → Insn) : Prop := ∀ k, k < 2 * n + 2 → A k = fam n k
/-- What a slot is, and what that says. -/
inductive Is (n : Nat) (A : Nat → Insn) (k : Nat) : Prop where
  | one (h : A k = mov0 ∨ A k = add1) (e : k % 2 = 0) (l : k < 2 * n + 1)
  | two (h : A k = jif) (e : k % 2 = 1) (l : k + 1 < 2 * n + 1)
  | last (h : A k = exit0) (e : k = 2 * n + 1)
section
variable {n : Nat} {A : Nat → Insn} (hA : Fam n A) (hn : n ≤ 200)
include hA
theorem Fam.is {k : Nat} (hk : k < 2 * n + 2) : Is n A k := by
  have h := hA k hk
  unfold fam at h
  split at h
  · exact .one (.inl h) (by omega) (by omega)
  · split at h
    · exact .one (.inr h) (by omega) (by omega)
    · split at h
      · exact .last h (by omega)
      · exact .two h (by omega) (by omega)
theorem Fam.four {k : Nat} (hk : k < 2 * n + 2) : A k = mov0 ∨ A k = add1 ∨ A k = jif ∨ A k = exit0 := by
  cases hA.is hk with
  | one h _ _ => rcases h with h | h <;> simp [h]
  | two h _ _ => simp [h]
  | last h _ => simp [h]
theorem Fam.known {k : Nat} (hk : k < 2 * n + 2) : m_insn_known (A k) = true := by
  rcases hA.four hk with h | h | h | h <;> rw [h] <;> rfl
theorem Fam.names {k : Nat} (hk : k < 2 * n + 2) : m_insn_names (A k) = false := by
  rcases hA.four hk with h | h | h | h <;> rw [h] <;> rfl
theorem Fam.wide {k : Nat} (hk : k < 2 * n + 2) : wideB (A k) = false := by
  rcases hA.four hk with h | h | h | h <;> rw [h] <;> rfl
theorem Fam.call {k : Nat} (hk : k < 2 * n + 2) : ((A k).fOp == 133#8) = false := by
  rcases hA.four hk with h | h | h | h <;> rw [h] <;> rfl
theorem Fam.err {N k : Nat} (hk : k < 2 * n + 2) : errB N A k = 0 := by
  rcases hA.four hk with h | h | h | h <;> (unfold errB; rw [h]; rfl)
theorem Fam.sec {k : Nat} (hk : k ≤ 2 * n + 2) : sec A k = false := by
  cases k with
  | zero => rfl
  | succ k => unfold Go.Proofs.Ytdgehbjiphahhaa.sec; rw [hA.wide (by omega)]; rfl
include hn
theorem Fam.plain : Plain (2 * n + 2) A where
  pos := by omega
  most := by omega
  ok := fun j _ hj _ => hA.err hj
  names := fun k hk _ => hA.names hk
  ends := by
    unfold endOk lastAt
    rw [hA.sec (by omega)]
    have : A (2 * n + 2 - 1) = exit0 := by
      cases hA.is (k := 2 * n + 1) (by omega) with
      | one h e l => omega
      | two h e l => omega
      | last h e => exact h
    show (((A (2 * n + 2 - 1)).fOp == 149#8) || _) = true
    rw [this]; rfl
theorem Fam.check : m_insn_Check (2 * n + 2) A = some (0, 0) := by
  refine (hA.plain hn).check fun p hf ht k hk _ => ?_
  unfold badJump
  cases hA.is hk with
  | one h e l => rcases h with h | h <;> (rw [h]; rfl)
  | last h e => rw [h]; rfl
  | two h e l =>
    rw [h]
    have h1 : ii (jif).fOff = 1 := rfl
    rw [h1, hf, ht, d_f (by omega), d_f (by omega)]
    have : ((k : Int) + 1 + 1).toNat = k + 2 := by omega
    rw [this, hA.sec (by omega)]
    rfl
theorem Fam.target {k : Nat} (hk : k < 2 * n + 2) : m_insn_Target (2 * n + 2) A (k : Int) = some (bif m_op_Jumps (A k) then (((k + 2 : Nat) : Int), true) else (0, false)) := by
  have h1 := operation_eq (A := A) (n := 2 * n + 2) (by omega) hk
  rw [hA.known hk, hA.sec (by omega)] at h1
  unfold m_insn_Target
  rw [h1]
  show (bif inR (k : Int) (2 * n + 2) then _ else none) = _
  rw [ct (inR_nat' hk), Int.toNat_natCast, cf (hA.names hk)]
  cases hA.is hk with
  | one h e l => rcases h with h | h <;> (rw [h]; rfl)
  | last h e => rw [h]; rfl
  | two h e l =>
    rw [h]
    have h1 : ii (jif).fOff = 1 := rfl
    have h2 : m_op_Jumps jif = true := rfl
    rw [ct h2, h1, w_succ (by omega), w_succ (by omega), cf (d_f (by omega)), cf (d_f (by omega)), ct h2]
theorem Fam.named {k : Nat} (hk : k < 2 * n + 2) : ∃ x, m_flow_program_named (2 * n + 2) A (k : Int) = some (x, false) := by
  unfold m_flow_program_named
  rw [ct (inR_nat' hk), Int.toNat_natCast, hA.target hn hk]
  cases hA.is hk with
  | one h e l => rcases h with h | h <;> (rw [h]; exact ⟨0, rfl⟩)
  | last h e => rw [h]; exact ⟨0, rfl⟩
  | two h e l => rw [h]; exact ⟨0, rfl⟩
/-- Where a slot goes on to. -/
inductive Nx (n k : Nat) : Option R_flow_program_next → Prop where
  | none (e : k = 2 * n + 1) : Nx n k (some .e0)
  | one (e : k % 2 = 0) (l : k < 2 * n + 1) : Nx n k (some (.e1 1 fun _ => ((k + 1 : Nat) : Int)))
  | two (e : k % 2 = 1) (l : k + 1 < 2 * n + 1) : Nx n k (some (.e1 2 (updF (fun _ => ((k + 1 : Nat) : Int)) 1 ((k + 2 : Nat) : Int))))
theorem Fam.next {k : Nat} (hk : k < 2 * n + 2) : Nx n k (m_flow_program_next (2 * n + 2) A (k : Int)) := by
  unfold m_flow_program_next
  rw [ct (inR_nat' hk), Int.toNat_natCast, hA.target hn hk]
  have hw : IntKind.i64.wrap ((k : Int) + 1) = ((k + 1 : Nat) : Int) := w_succ (by omega)
  cases hA.is hk with
  | one h e l =>
    have : (bindT (m_op_Width (A k)) fun r0 => bif (A k).fOp == 149#8 then some R_flow_program_next.e0 else (bif m_op_Jumps (A k) then ((some (bif m_op_Jumps (A k) then (((k + 2 : Nat) : Int), true) else (0, false))).bind fun r1 =>
      bif (A k).fOp == 5#8 then none else (bif r1.1 == (IntKind.i64.wrap ((k : Int) + r0)) then some (.e1 1 (fun _ => r1.1)) else (some (.e1 2 (updF (fun _ => (IntKind.i64.wrap ((k : Int) + r0))) 1 r1.1)))))
      else (some (.e1 1 (fun _ => (IntKind.i64.wrap ((k : Int) + r0))))))) = some (.e1 1 fun _ => ((k + 1 : Nat) : Int)) := by
      rcases h with h | h <;> (rw [h, ← hw]; rfl)
    rw [this]
    exact .one e l
  | last h e => rw [h]; exact .none e
  | two h e l =>
    rw [h]
    show Nx n k (bif ((((k + 2 : Nat) : Int) == IntKind.i64.wrap ((k : Int) + 1))) then _ else (some (.e1 2 (updF (fun _ => IntKind.i64.wrap ((k : Int) + 1)) 1 ((k + 2 : Nat) : Int)))))
    have hne : (((k + 2 : Nat) : Int) == ((k + 1 : Nat) : Int)) = false := by simp
    rw [hw, cf hne]
    exact .two e l
/-! ### What is reached -/
omit hA hn
def miss (R : Nat → Bool) : Nat → Nat
  | 0 => 0
  | k + 1 => miss R k + (if R k then 0 else 1)
theorem miss_upd {R : Nat → Bool} {t : Nat} (h0 : R t = false) : ∀ {n : Nat}, t < n → miss (updF R t true) n + 1 = miss R n
  | k + 1, h => by
    unfold miss
    by_cases e : t = k
    · subst e
      have : ∀ {m : Nat}, m ≤ t → miss (updF R t true) m = miss R m := by
        intro m
        induction m with
        | zero => intro _; rfl
        | succ m ih => intro hm; unfold miss; rw [ih (by omega), updF_ne _ _ (by omega)]
      rw [this (Nat.le_refl _), updF_at, h0]
      simp
    · rw [updF_ne _ _ (by omega)]
      have := miss_upd h0 (n := k) (by omega)
      omega
theorem miss_le {R : Nat → Bool} : ∀ {n : Nat}, miss R n ≤ n
  | 0 => Nat.le_refl _
  | k + 1 => by unfold miss; have := miss_le (R := R) (n := k); split <;> omega
/-- What is left to do: slots that wait, slots that aren't reached. -/
structure Wt (N : Nat) (R : Nat → Bool) (W : Nat) (Q : Nat → Int) : Prop where
  le : W + miss R N ≤ N
  ok : ∀ i, i < W → ∃ t : Nat, Q i = (t : Int) ∧ t < N
theorem push_ends {N m : Nat} {L : Nat → Int} (hN : N ≤ 500) (hL : ∀ i, i < m → ∃ t : Nat, L i = (t : Int) ∧ t < N) (hm : m ≤ 2) {R : Nat → Bool} {W : Nat} {Q : Nat → Int} (h : Wt N R W Q) :
    ∃ r, lpO (st_flow_program_reached_L0_L1v4 N m L) (.c0 R W Q 0) = some r ∧ ∃ R' W' Q', r = .e0 R' W' Q' ∧ Wt N R' W' Q' ∧ 2 * miss R' N + W' ≤ 2 * miss R N + W := by
  refine lpO_ind (st := st_flow_program_reached_L0_L1v4 N m L) (fun s => match s with | .c0 R' W' Q' x => Wt N R' W' Q' ∧ 2 * miss R' N + W' ≤ 2 * miss R N + W ∧ ∃ k : Nat, x = (k : Int) ∧ k ≤ m) (fun s => match s with | .c0 _ _ _ x => 5 - x.toNat)
    (fun _ r => ∃ R' W' Q', r = .e0 R' W' Q' ∧ Wt N R' W' Q' ∧ 2 * miss R' N + W' ≤ 2 * miss R N + W) (fun s hs => ?_) (.c0 R W Q 0) ⟨h, Nat.le_refl _, 0, rfl, Nat.zero_le _⟩
  match s, hs with
  | .c0 R' W' Q' x, ⟨h1, h2, k, hk, hkm⟩ =>
    subst hk
    have h1 : Wt N R' W' Q' := h1
    have h2 : 2 * miss R' N + W' ≤ 2 * miss R N + W := h2
    unfold st_flow_program_reached_L0_L1v4
    dsimp only
    by_cases hlt : k < m
    · obtain ⟨t, ht, htN⟩ := hL k hlt
      rw [ct (d_t (by omega)), ct (inR_nat' hlt), Int.toNat_natCast, ht, ct (inR_nat' (by omega)), Int.toNat_natCast, w_succ (by omega)]
      by_cases hR : R' t = true
      · rw [ct hR]
        exact .inl ⟨_, rfl, ⟨h1, h2, k + 1, rfl, hlt⟩, by simp only [Int.toNat_natCast]; omega, fun r hr => hr⟩
      · have hR : R' t = false := by simpa using hR
        have hu := miss_upd hR htN
        have h3 := h1.le
        rw [cf hR, ct (d_t (by omega))]
        have hw : Wt N (updF R' t true) (W' + 1) (updF Q' W' (t : Int)) := ⟨by omega, fun i hi => by
          by_cases e : i = W'
          · subst e; rw [updF_at]; exact ⟨t, rfl, htN⟩
          · rw [updF_ne _ _ e]; exact h1.ok i (by omega)⟩
        have hm2 : 2 * miss (updF R' t true) N + (W' + 1) ≤ 2 * miss R N + W := by omega
        exact .inl ⟨_, rfl, ⟨hw, hm2, k + 1, rfl, hlt⟩, by simp only [Int.toNat_natCast]; omega, fun r hr => hr⟩
    · rw [cf (d_f (by omega))]
      exact .inr ⟨_, rfl, _, _, _, rfl, h1, h2⟩
theorem push_ends0 {N m : Nat} {L : Nat → Int} (hN : N ≤ 500) (hL : ∀ i, i < m → ∃ t : Nat, L i = (t : Int) ∧ t < N) (hm : m ≤ 2) {R : Nat → Bool} {W : Nat} {Q : Nat → Int} (h : Wt N R W Q) :
    ∃ r, lpO (st_flow_program_reached_L0_L1v3 N m L) (.c0 R W Q 0) = some r ∧ ∃ R' W' Q', r = .e0 R' W' Q' ∧ Wt N R' W' Q' := by
  refine lpO_ind (st := st_flow_program_reached_L0_L1v3 N m L) (fun s => match s with | .c0 R' W' Q' x => Wt N R' W' Q' ∧ ∃ k : Nat, x = (k : Int) ∧ k ≤ m) (fun s => match s with | .c0 _ _ _ x => 5 - x.toNat)
    (fun _ r => ∃ R' W' Q', r = .e0 R' W' Q' ∧ Wt N R' W' Q') (fun s hs => ?_) (.c0 R W Q 0) ⟨h, 0, rfl, Nat.zero_le _⟩
  match s, hs with
  | .c0 R' W' Q' x, ⟨h1, k, hk, hkm⟩ =>
    subst hk
    have h1 : Wt N R' W' Q' := h1
    unfold st_flow_program_reached_L0_L1v3
    dsimp only
    by_cases hlt : k < m
    · obtain ⟨t, ht, htN⟩ := hL k hlt
      rw [ct (d_t (by omega)), ct (inR_nat' hlt), Int.toNat_natCast, ht, ct (inR_nat' (by omega)), Int.toNat_natCast, w_succ (by omega)]
      by_cases hR : R' t = true
      · rw [ct hR]
        exact .inl ⟨_, rfl, ⟨h1, k + 1, rfl, hlt⟩, by simp only [Int.toNat_natCast]; omega, fun r hr => hr⟩
      · have hR : R' t = false := by simpa using hR
        have hu := miss_upd hR htN
        have h3 := h1.le
        rw [cf hR, ct (d_t (by omega))]
        have hw : Wt N (updF R' t true) (W' + 1) (updF Q' W' (t : Int)) := ⟨by omega, fun i hi => by
          by_cases e : i = W'
          · subst e; rw [updF_at]; exact ⟨t, rfl, htN⟩
          · rw [updF_ne _ _ e]; exact h1.ok i (by omega)⟩
        exact .inl ⟨_, rfl, ⟨hw, k + 1, rfl, hlt⟩, by simp only [Int.toNat_natCast]; omega, fun r hr => hr⟩
    · rw [cf (d_f (by omega))]
      exact .inr ⟨_, rfl, _, _, _, rfl, h1⟩
include hA hn
theorem Fam.reached : ∃ R, m_flow_program_reached (2 * n + 2) A = some (.e0 R) := by
  have hl1 : ∀ k, k < 2 * n + 1 → ∀ i, i < 1 → ∃ t : Nat, (fun _ : Nat => ((k + 1 : Nat) : Int)) i = (t : Int) ∧ t < 2 * n + 2 := fun k hk i _ => ⟨k + 1, rfl, by omega⟩
  have hl2 : ∀ k, k + 1 < 2 * n + 1 → ∀ i, i < 2 → ∃ t : Nat, (updF (fun _ : Nat => ((k + 1 : Nat) : Int)) 1 ((k + 2 : Nat) : Int)) i = (t : Int) ∧ t < 2 * n + 2 := fun k hk i _ => by
    by_cases e : i = 1
    · subst e; rw [updF_at]; exact ⟨_, rfl, by omega⟩
    · rw [updF_ne _ _ e]; exact ⟨_, rfl, by omega⟩
  have key : ∀ R W Q, Wt (2 * n + 2) R W Q → ∃ r, lpO (st_flow_program_reached_L0 (2 * n + 2) A) (.c1 R W Q) = some r ∧ ∃ R', r = .e0 R' := by
    intro R W Q h
    refine lpO_ind (st := st_flow_program_reached_L0 (2 * n + 2) A) (fun s => match s with | .c0 => False | .c1 R W Q => Wt (2 * n + 2) R W Q) (fun s => match s with | .c0 => 0 | .c1 R W Q => 2 * miss R (2 * n + 2) + W) (fun _ r => ∃ R', r = .e0 R') (fun s hs => ?_) _ h
    match s, hs with
    | .c1 R W Q, h =>
      have h : Wt (2 * n + 2) R W Q := h
      unfold st_flow_program_reached_L0
      dsimp only
      by_cases hW : 0 < W
      · obtain ⟨w, rfl⟩ : ∃ w, W = w + 1 := ⟨W - 1, by omega⟩
        have hle := h.le
        have hw : IntKind.i64.wrap (((w + 1 : Nat) : Int) - 1) = (w : Int) := by rw [wr] <;> omega
        obtain ⟨k, hk, hkN⟩ := h.ok w (by omega)
        have h' : Wt (2 * n + 2) R w Q := ⟨by omega, fun i hi => h.ok i (by omega)⟩
        rw [ct (d_t (by omega)), hw, ct (inR_nat' (by omega)), ct (inR_nat' (by omega)), ct (d_t (by omega)), Int.toNat_natCast, hk]
        obtain ⟨x, hx⟩ := hA.named hn hkN
        rw [hx]
        have hN := hA.next hn hkN
        generalize m_flow_program_next (2 * n + 2) A (k : Int) = nx at hN
        cases hN with
        | none e => exact .inl ⟨_, rfl, h', by simp only; omega, fun r hr => hr⟩
        | one e l =>
          obtain ⟨r, hr, R', W', Q', rfl, h1, h2⟩ := push_ends (by omega) (hl1 k l) (by omega) h'
          refine .inl ⟨.c1 R' W' Q', ?_, h1, by simp only; omega, fun r hr => hr⟩
          show (Option.bind (lpO (st_flow_program_reached_L0_L1v4 (2 * n + 2) 1 fun _ => ((k + 1 : Nat) : Int)) (.c0 R w Q 0)) _) = _
          rw [hr]; rfl
        | two e l =>
          obtain ⟨r, hr, R', W', Q', rfl, h1, h2⟩ := push_ends (by omega) (hl2 k l) (by omega) h'
          refine .inl ⟨.c1 R' W' Q', ?_, h1, by simp only; omega, fun r hr => hr⟩
          show (Option.bind (lpO (st_flow_program_reached_L0_L1v4 (2 * n + 2) 2 (updF (fun _ => ((k + 1 : Nat) : Int)) 1 ((k + 2 : Nat) : Int))) (.c0 R w Q 0)) _) = _
          rw [hr]; rfl
      · rw [cf (d_f (by omega))]
        exact .inr ⟨_, rfl, _, rfl⟩
  have h0 : Wt (2 * n + 2) (updF (fun _ => false) 0 true) 0 (fun _ => 0) := ⟨by have := miss_le (R := updF (fun _ => false) 0 true) (n := 2 * n + 2); omega, fun i hi => by omega⟩
  have hfst : ∃ R W Q, st_flow_program_reached_L0 (2 * n + 2) A .c0 = some (.inl (.c1 R W Q)) ∧ Wt (2 * n + 2) R W Q := by
    unfold st_flow_program_reached_L0
    dsimp only
    obtain ⟨x, hx⟩ := hA.named hn (k := 0) (by omega)
    have hN := hA.next hn (k := 0) (by omega)
    rw [show ((0 : Nat) : Int) = 0 from rfl] at hx hN
    rw [hx]
    generalize m_flow_program_next (2 * n + 2) A (0 : Int) = nx at hN
    cases hN with
    | none e => omega
    | one e l =>
      obtain ⟨r, hr, R', W', Q', rfl, h1⟩ := push_ends0 (by omega) (hl1 0 l) (by omega) h0
      refine ⟨R', W', Q', ?_, h1⟩
      show (Option.bind (lpO (st_flow_program_reached_L0_L1v3 (2 * n + 2) 1 fun _ => ((0 + 1 : Nat) : Int)) (.c0 (updF (fun _ => false) 0 true) 0 (fun _ => 0) 0)) _) = _
      rw [hr]; rfl
    | two e l => omega
  obtain ⟨R, W, Q, h1, h2⟩ := hfst
  obtain ⟨r, h3, R', rfl⟩ := key R W Q h2
  refine ⟨R', ?_⟩
  unfold m_flow_program_reached
  rw [ct (inR_nat' (by omega)), ct (inR_iff.2 ⟨by omega, by omega⟩), lpO_next h1, h3]
  rfl
theorem Fam.back : m_flow_Back (2 * n + 2) A = some .e0 := by
  obtain ⟨R, hR⟩ := hA.reached hn
  have inner : ∀ (k m : Nat) (L : Nat → Int), (∀ i, i < m → (k : Int) < L i) → m ≤ 2 → ∃ r, lpO (st_flow_Back_L0_L1v2 (k : Int) m L) (.c0 0) = some r ∧ r = .e0 := by
    intro k m L hL hm
    refine lpO_ind (st := st_flow_Back_L0_L1v2 (k : Int) m L) (fun s => match s with | .c0 x => ∃ j : Nat, x = (j : Int) ∧ j ≤ m) (fun s => match s with | .c0 x => 5 - x.toNat) (fun _ r => r = .e0) (fun s hs => ?_) _ ⟨0, rfl, by omega⟩
    match s, hs with
    | .c0 x, ⟨j, hj, hjm⟩ =>
      subst hj
      unfold st_flow_Back_L0_L1v2
      dsimp only
      by_cases hlt : j < m
      · have := hL j hlt
        rw [ct (d_t (by omega)), ct (inR_nat' hlt), Int.toNat_natCast, cf (d_f (by omega)), w_succ (by omega)]
        exact .inl ⟨_, rfl, ⟨j + 1, rfl, hlt⟩, by simp only [Int.toNat_natCast]; omega, fun r hr => hr⟩
      · rw [cf (d_f (by omega))]
        exact .inr ⟨_, rfl, rfl⟩
  have outer : ∃ r, lpO (st_flow_Back_L0 (2 * n + 2) A R) (.c0 0) = some r ∧ r = .e0 := by
    refine lpO_ind (st := st_flow_Back_L0 (2 * n + 2) A R) (fun s => match s with | .c0 x => ∃ j : Nat, x = (j : Int) ∧ j ≤ 2 * n + 2) (fun s => match s with | .c0 x => 2 * n + 3 - x.toNat) (fun _ r => r = .e0) (fun s hs => ?_) _ ⟨0, rfl, by omega⟩
    match s, hs with
    | .c0 x, ⟨j, hj, hjm⟩ =>
      subst hj
      unfold st_flow_Back_L0
      dsimp only
      by_cases hlt : j < 2 * n + 2
      · rw [ct (d_t (by omega)), ct (inR_nat' (by omega)), Int.toNat_natCast, w_succ (by omega)]
        have fin : (∃ s', (some (.inl (.c0 ((j + 1 : Nat) : Int))) : Option (Sh_flow_Back_L0 ⊕ Ex_flow_Back_L0)) = some (.inl s') ∧ (match s' with | .c0 x => ∃ j : Nat, x = (j : Int) ∧ j ≤ 2 * n + 2) ∧ (match s' with | .c0 x => 2 * n + 3 - x.toNat) < 2 * n + 3 - j ∧ ∀ r : Ex_flow_Back_L0, r = .e0 → r = .e0) :=
          ⟨_, rfl, ⟨j + 1, rfl, hlt⟩, by simp only [Int.toNat_natCast]; omega, fun r hr => hr⟩
        refine .inl ?_
        by_cases hRj : R j = true
        · rw [ct hRj]
          have hN := hA.next hn hlt
          generalize m_flow_program_next (2 * n + 2) A (j : Int) = nx at hN
          cases hN with
          | none e => exact fin
          | one e l =>
            obtain ⟨r, hr, rfl⟩ := inner j 1 (fun _ => ((j + 1 : Nat) : Int)) (fun i _ => by show (j : Int) < ((j + 1 : Nat) : Int); omega) (by omega)
            show ∃ s', (Option.bind (lpO (st_flow_Back_L0_L1v2 (j : Int) 1 fun _ => ((j + 1 : Nat) : Int)) (.c0 0)) _) = _ ∧ _
            rw [hr]; exact fin
          | two e l =>
            obtain ⟨r, hr, rfl⟩ := inner j 2 (updF (fun _ => ((j + 1 : Nat) : Int)) 1 ((j + 2 : Nat) : Int)) (fun i _ => by
              by_cases e : i = 1
              · subst e; rw [updF_at]; omega
              · rw [updF_ne _ _ e]; omega) (by omega)
            show ∃ s', (Option.bind (lpO (st_flow_Back_L0_L1v2 (j : Int) 2 (updF (fun _ => ((j + 1 : Nat) : Int)) 1 ((j + 2 : Nat) : Int))) (.c0 0)) _) = _ ∧ _
            rw [hr]; exact fin
        · rw [cf (by simpa using hRj)]
          exact fin
      · rw [cf (d_f (by omega))]
        exact .inr ⟨_, rfl, rfl⟩
  obtain ⟨r, hr, rfl⟩ := outer
  unfold m_flow_Back
  rw [hA.check hn, Option.bind_some, ct (show ((((0 : Int), (0 : Int)).2 == 0) = true) from rfl), hR, Option.bind_some]
  dsimp only
  rw [hr, Option.bind_some]
theorem Fam.depth : m_flow_Depth (2 * n + 2) A = some (1, 0) := by
  obtain ⟨R, hR⟩ := hA.reached hn
  obtain ⟨r, hs, hr⟩ := subs_is (2 * n + 2) A
  obtain ⟨P, rfl, hf, ht⟩ := (hA.plain hn).subs hr
  have l0 : lpO (st_flow_program_calls_L0 1 P) (.c0 (fun _ => 0) 0) = some (.e0 (updF (fun _ => 0) 0 0)) := by
    have h1 : st_flow_program_calls_L0 1 P (.c0 (fun _ => 0) 0) = some (.inl (.c0 (updF (fun _ => 0) 0 0) 1)) := by
      unfold st_flow_program_calls_L0
      dsimp only
      simp only [show ((0 : Int)).toNat = 0 from rfl, hf]
      rfl
    rw [lpO_next h1]
    exact lpO_end rfl
  have l2 : ∃ r, lpO (st_flow_program_calls_L1_L2v2 (2 * n + 2) A P 0) (.c0 (P 0).fFrom) = some r ∧ ∃ a b, r = .e0 a b := by
    rw [hf]
    refine lpO_ind (st := st_flow_program_calls_L1_L2v2 (2 * n + 2) A P 0) (fun s => match s with | .c0 x => ∃ j : Nat, x = (j : Int) ∧ j ≤ 2 * n + 2) (fun s => match s with | .c0 x => 2 * n + 3 - x.toNat) (fun _ r => ∃ a b, r = .e0 a b) (fun s hs => ?_) _ ⟨0, rfl, by omega⟩
    match s, hs with
    | .c0 x, ⟨j, hj, hjm⟩ =>
      subst hj
      unfold st_flow_program_calls_L1_L2v2
      dsimp only
      rw [show ((0 : Int)).toNat = 0 from rfl, ht]
      by_cases hlt : j < 2 * n + 2
      · obtain ⟨x, hx⟩ := hA.named hn hlt
        rw [ct (d_t (by omega)), hx, w_succ (by omega)]
        exact .inl ⟨_, rfl, ⟨j + 1, rfl, hlt⟩, by simp only [Int.toNat_natCast]; omega, fun r hr => hr⟩
      · rw [cf (d_f (by omega))]
        exact .inr ⟨_, rfl, _, _, rfl⟩
  obtain ⟨r, l2, a, b, rfl⟩ := l2
  have l1 : lpO (st_flow_program_calls_L1 (2 * n + 2) A 1 P) (.c0 (fun _ => (0, fun _ => 0)) 0) = some (.e0 (updF (fun _ => (0, fun _ => 0)) 0 (0, fun _ => 0))) := by
    have h1 : st_flow_program_calls_L1 (2 * n + 2) A 1 P (.c0 (fun _ => (0, fun _ => 0)) 0) = some (.inl (.c0 (updF (fun _ => (0, fun _ => 0)) 0 (0, fun _ => 0)) 1)) := by
      unfold st_flow_program_calls_L1
      dsimp only
      rw [show ((0 : Int)).toNat = 0 from rfl]
      show (Option.bind (lpO (st_flow_program_calls_L1_L2v2 (2 * n + 2) A P 0) (.c0 (P 0).fFrom)) _) = _
      rw [l2]
      rfl
    rw [lpO_next h1]
    exact lpO_end rfl
  have hc : m_flow_program_calls (2 * n + 2) A = some (.e1 1 (updF (fun _ => (0, fun _ => 0)) 0 (0, fun _ => 0))) := by
    unfold m_flow_program_calls
    rw [hs, Option.bind_some]
    dsimp only
    rw [l0, Option.bind_some]
    rw [ct (d_t (by omega)), hR, Option.bind_some]
    rw [l1, Option.bind_some]
  have hl : m_flow_longest_v1 1 (updF (fun _ => (0, fun _ => 0)) 0 (0, fun _ => 0)) = some (.e0 1) := rfl
  unfold m_flow_Depth
  rw [hA.check hn, Option.bind_some, ct (show ((((0 : Int), (0 : Int)).2 == 0) = true) from rfl), hc, Option.bind_some]
  dsimp only
  rw [hl, Option.bind_some]
  rfl
theorem Fam.costs : m_cost_check_v2 (2 * n + 2) A = some 0 := by
  unfold m_cost_check_v2
  rw [hA.check hn, Option.bind_some, ct (show ((((0 : Int), (0 : Int)).2 == 0) = true) from rfl), hA.back hn, Option.bind_some]
  dsimp only
  rw [hA.depth hn, Option.bind_some]
  rfl
/-- The program's own answer. -/
inductive NxF (n k : Nat) : Option R_flow_Next → Prop where
  | none (e : k = 2 * n + 1) : NxF n k (some (.e0 0))
  | one (e : k % 2 = 0) (l : k < 2 * n + 1) : NxF n k (some (.e1 1 fun _ => ((k + 1 : Nat) : Int)))
  | two (e : k % 2 = 1) (l : k + 1 < 2 * n + 1) : NxF n k (some (.e1 2 (updF (fun _ => ((k + 1 : Nat) : Int)) 1 ((k + 2 : Nat) : Int))))
theorem Fam.flowNext {k : Nat} (hk : k < 2 * n + 2) : NxF n k (m_flow_Next (2 * n + 2) A (k : Int)) := by
  have hs : m_flow_program_isSecond (2 * n + 2) A (k : Int) = some false := by
    unfold m_flow_program_isSecond
    cases k with
    | zero => rfl
    | succ k =>
      have hw : IntKind.i64.wrap (((k + 1 : Nat) : Int) - 1) = (k : Int) := by rw [wr] <;> omega
      have := hA.wide (k := k) (by omega)
      unfold wideB at this
      rw [ct (d_t (by omega)), hw, ct (inR_nat' (by omega)), Int.toNat_natCast, this]
  unfold m_flow_Next
  rw [hA.check hn, Option.bind_some, ct (show ((((0 : Int), (0 : Int)).2 == 0) = true) from rfl), cf (d_f (by omega)), cf (d_f (by omega)), hs, Option.bind_some, cf rfl]
  have hN := hA.next hn hk
  generalize m_flow_program_next (2 * n + 2) A (k : Int) = nx at hN
  cases hN with
  | none e => exact .none e
  | one e l => exact .one e l
  | two e l => exact .two e l
end
end Go.Proofs.Ytdgehbjiphahhaa

