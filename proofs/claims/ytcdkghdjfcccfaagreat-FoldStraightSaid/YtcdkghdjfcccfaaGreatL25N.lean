/-
  A row of operations on registers: it is well formed, all of it is reached, and what is known at each slot, in plain words (no program).
-/
import Derived.Test.YtcdkghdjfcccfaaGreatL25M
namespace Go.Proofs.YtcdkghdjfcccfaaGreat
open Go.RowKit
set_option linter.unusedVariables false
set_option linter.unusedSimpArgs false
structure Fd (n : Nat) (P : Nat → Insn) : Prop where
  most : n ≤ 100
  ok : ∀ k, k < n → OkI (P k)
  last : P n = xit
namespace Fd
variable {n : Nat} {P : Nat → Insn}
theorem op24 (h : Fd n P) {k : Nat} (hk : k ≤ n) : ((P k).fOp == 24#8) = false := by
  by_cases e : k = n
  · rw [e, h.last]; rfl
  · exact (h.ok k (by omega)).op24
theorem names (h : Fd n P) {k : Nat} (hk : k ≤ n) : m_insn_names (P k) = false := by
  by_cases e : k = n
  · rw [e, h.last]; rfl
  · exact (h.ok k (by omega)).names
theorem jumps (h : Fd n P) {k : Nat} (hk : k ≤ n) : m_op_Jumps (P k) = false := by
  by_cases e : k = n
  · rw [e, h.last]; kernel_rfl
  · exact (h.ok k (by omega)).jumps
theorem known (h : Fd n P) {k : Nat} (hk : k ≤ n) : m_insn_known (P k) = true := by
  by_cases e : k = n
  · rw [e, h.last]; kernel_rfl
  · exact (h.ok k (by omega)).known
theorem sec0 (h : Fd n P) : ∀ k, k ≤ n + 1 → sec P k = false
  | 0, _ => rfl
  | k + 1, hk => by
    unfold sec wideB
    rw [h.op24 (by omega)]
    rfl
theorem err (h : Fd n P) {k : Nat} (hk : k ≤ n) : errB (n + 1) P k = 0 := by
  by_cases e : k = n
  · have h1 : m_insn_known xit = true := by kernel_rfl
    unfold errB wideB
    rw [e, h.last, h1]
    rfl
  · exact (h.ok k (by omega)).err rfl
theorem plain (h : Fd n P) : Plain (n + 1) P where
  pos := by omega
  most := by have := h.most; omega
  ok := fun k _ hk _ => h.err (by omega)
  names := fun k hk _ => h.names (by omega)
  ends := by
    unfold endOk lastAt
    rw [Nat.add_sub_cancel, h.sec0 n (by omega)]
    simp only [Bool.false_eq_true, if_false]
    rw [h.last]
    rfl
theorem check (h : Fd n P) : m_insn_Check (n + 1) P = some (0, 0) := h.plain.check fun p _ _ k hk _ => by
  unfold badJump
  rw [h.jumps (by omega)]
  rfl
/-- There is one subprogram. -/
theorem subs (h : Fd n P) : ∃ Q, m_insn_Subs (n + 1) P = some (.e1 1 Q) ∧ (Q 0).fFrom = 0 := by
  obtain ⟨r, hr, hs⟩ := subs_is (n + 1) P
  obtain ⟨Q, rfl, h1, h2⟩ := h.plain.subs hs
  exact ⟨Q, hr, h1⟩
theorem named (h : Fd n P) {k : Nat} (hk : k ≤ n) : m_flow_program_named_v4 (n + 1) P (k : Int) = some (0, false) := by
  have hm := h.most
  have ho : m_insn_operation (n + 1) P (k : Int) = some true := by
    unfold m_insn_operation
    rw [d_t (show (0 : Int) ≤ (k : Int) by omega), d_t (show (k : Int) < ((n + 1 : Nat) : Int) by omega), inR_nat' (show k < n + 1 by omega)]
    simp only [cond_true, Int.toNat_natCast]
    rw [h.known hk, second_eq (by omega) (show k ≤ n + 1 by omega), h.sec0 k (by omega)]
    rfl
  unfold m_flow_program_named_v4 m_insn_Target
  rw [inR_nat' (show k < n + 1 by omega), ho]
  simp only [cond_true, Int.toNat_natCast, Option.bind_some, h.jumps hk, h.names hk, cond_false]
theorem nxt (h : Fd n P) {k : Nat} (hk : k ≤ n) : m_flow_program_next_v4 (n + 1) P (k : Int) = some (if k = n then .e0 else .e1 ((k + 1 : Nat) : Int)) := by
  have hm := h.most
  unfold m_flow_program_next_v4
  rw [inR_nat' (show k < n + 1 by omega)]
  simp only [cond_true, Int.toNat_natCast, bindT]
  by_cases e : k = n
  · rw [if_pos e, e, h.last]
    rfl
  · have p2 : ((P k).fOp == 149#8) = false := (h.ok k (by omega)).op149
    have e1 : IntKind.i64.wrap ((k : Int) + m_op_Width (P k)) = ((k + 1 : Nat) : Int) := by
      rw [width_eq]
      unfold wid wideB
      rw [h.op24 hk, wr] <;> simp <;> omega
    rw [if_neg e, p2, h.jumps hk, e1]
    rfl
theorem second (h : Fd n P) {k : Nat} (hk : k ≤ n) : m_flow_program_isSecond_v4 (n + 1) P (k : Int) = some false := by
  have := h.most
  unfold m_flow_program_isSecond_v4
  by_cases h0 : k = 0
  · subst h0; rfl
  · have e1 : IntKind.i64.wrap ((k : Int) - 1) = ((k - 1 : Nat) : Int) := by rw [wr] <;> omega
    rw [d_t (show (0 : Int) < (k : Int) by omega), e1, inR_nat' (by omega), Int.toNat_natCast, h.op24 (by omega)]
    rfl
theorem next (h : Fd n P) {k : Nat} (hk : k ≤ n) : m_flow_Next_v4 (n + 1) P (k : Int) = some (if k = n then .e0 0 else .e1 ((k + 1 : Nat) : Int)) := by
  have := h.most
  unfold m_flow_Next_v4
  rw [h.check, Option.bind_some]
  simp only [beq_self_eq_true, cond_true, d_f (show ¬ ((k : Int) < 0) by omega), d_f (show ¬ (((n + 1 : Nat) : Int) ≤ (k : Int)) by omega), cond_false, h.second hk, h.nxt hk, Option.bind_some]
  by_cases e : k = n
  · rw [if_pos e, if_pos e]
  · rw [if_neg e, if_neg e]
/-! ### All of it is reached -/
theorem reached (h : Fd n P) : ∃ g, m_flow_Reached_v1 (n + 1) P = some (.e0 g) ∧ ∀ k, k ≤ n → g k = true := by
  have hm := h.most
  have key := lpO_ind (st := st_flow_program_reached_v1_L0 (n + 1) P)
    (fun | .c0 => True
         | .c1 g N Q => N = 0 ∧ (∀ j, j ≤ n → g j = true) ∨ N = 1 ∧ ∃ k : Nat, k ≤ n ∧ Q 0 = (k : Int) ∧ ∀ j, g j = decide (j ≤ k))
    (fun | .c0 => n + 10
         | .c1 g N Q => if N = 0 then 0 else n + 2 - (Q 0).toNat)
    (fun _ r => match r with | .e0 g => ∀ j, j ≤ n → g j = true)
    (fun s hI => by
      cases s with
      | c0 =>
        have e0 := h.nxt (k := 0) (by omega)
        have e1 := h.named (k := 0) (by omega)
        by_cases hn0 : 0 = n
        · rw [if_pos hn0] at e0
          refine .inl ⟨.c1 (updF (fun _ => false) 0 true) 0 (fun _ => 0), ?_, .inl ⟨rfl, fun j hj => ?_⟩, ?_, fun _ hr => hr⟩
          · unfold st_flow_program_reached_v1_L0
            rw [show (0 : Int) = ((0 : Nat) : Int) from rfl, e0]
            simp only [Option.bind_some]
            rw [e1]
            rfl
          · obtain rfl : j = 0 := by omega
            rfl
          · show (if (0 : Nat) = 0 then 0 else _) < n + 10
            rw [if_pos rfl]
            omega
        · rw [if_neg hn0] at e0
          refine .inl ⟨.c1 (updF (updF (fun _ => false) 0 true) 1 true) 1 (updF (fun _ => 0) 0 ((1 : Nat) : Int)), ?_, .inr ⟨rfl, 1, by omega, rfl, fun j => ?_⟩, ?_, fun _ hr => hr⟩
          · unfold st_flow_program_reached_v1_L0
            rw [show (0 : Int) = ((0 : Nat) : Int) from rfl, e0]
            simp only [Option.bind_some]
            rw [e1]
            simp only [Option.bind_some, cond_false, Nat.zero_add]
            rw [inR_nat' (show 1 < n + 1 by omega)]
            rfl
          · by_cases j1 : j = 1
            · rw [j1]; rfl
            · rw [updF_ne _ _ j1]
              by_cases j0 : j = 0
              · rw [j0]; rfl
              · rw [updF_ne _ _ j0, d_f (by omega)]
          · show (if (1 : Nat) = 0 then 0 else n + 2 - (((1 : Nat) : Int)).toNat) < n + 10
            rw [if_neg (by decide)]
            omega
      | c1 g N Q =>
        rcases hI with ⟨rfl, hg⟩ | ⟨rfl, k, hk, hQ, hg⟩
        · refine .inr ⟨.e0 g, ?_, hg⟩
          unfold st_flow_program_reached_v1_L0
          rfl
        · have ew : IntKind.i64.wrap (((1 : Nat) : Int) - 1) = 0 := by rw [wr] <;> omega
          have e0 := h.nxt hk
          have e1 := h.named hk
          have i0 : inR 0 1 = true := rfl
          have i1 : inR 0 2 = true := rfl
          by_cases e : k = n
          · rw [if_pos e] at e0
            refine .inl ⟨.c1 g 0 Q, ?_, .inl ⟨rfl, fun j hj => by rw [hg, d_t (by omega)]⟩, ?_, fun _ hr => hr⟩
            · unfold st_flow_program_reached_v1_L0
              simp only [ew, Int.toNat_zero, hQ, e0, e1, Option.bind_some, cond_false]
              rfl
            · show (if (0 : Nat) = 0 then 0 else n + 2 - (Q 0).toNat) < (if (1 : Nat) = 0 then 0 else n + 2 - (Q 0).toNat)
              rw [if_pos rfl, if_neg (by decide), hQ]
              omega
          · rw [if_neg e] at e0
            have hgk : g (k + 1) = false := by rw [hg, d_f (by omega)]
            refine .inl ⟨.c1 (updF g (k + 1) true) 1 (updF Q 0 ((k + 1 : Nat) : Int)), ?_, .inr ⟨rfl, k + 1, by omega, rfl, fun j => ?_⟩, ?_, fun _ hr => hr⟩
            · unfold st_flow_program_reached_v1_L0
              simp only [ew, Int.toNat_zero, hQ, e0, e1, Option.bind_some, cond_false, inR_nat' (show k + 1 < n + 1 by omega), Int.toNat_natCast, hgk, cond_true]
              rfl
            · by_cases j1 : j = k + 1
              · rw [j1, updF_at, d_t (by omega)]
              · rw [updF_ne _ _ j1, hg]
                congr 1
                exact propext ⟨fun _ => by omega, fun _ => by omega⟩
            · show (if (1 : Nat) = 0 then 0 else n + 2 - (((k + 1 : Nat) : Int)).toNat) < (if (1 : Nat) = 0 then 0 else n + 2 - (Q 0).toNat)
              rw [if_neg (by decide), if_neg (by decide), hQ]
              omega)
    .c0 trivial
  obtain ⟨⟨g⟩, hr, hg⟩ := key
  refine ⟨g, ?_, hg⟩
  unfold m_flow_Reached_v1 m_flow_program_reached_v1
  rw [h.check, Option.bind_some]
  simp only [beq_self_eq_true, cond_true]
  rw [d_t (show n + 1 ≤ 1000000 by omega), show inR 0 (n + 1) = true from inR_nat' (k := 0) (by omega), cond_true, cond_true, hr]
  rfl
end Fd
/-! ### What an operation makes of what is known -/
def num (v : BitVec 64) : Val := ⟨1, v, 0, 0⟩
def non : Val := ⟨0, 0#64, 0, 0⟩
noncomputable def valI (x : Insn) (r : Nat → Val) : BitVec 64 := ((doI x fun i => (r i).fNum).getD (0#64, true)).1
/-- All that it reads is known. -/
def Kn (x : Insn) (r : Nat → Val) : Prop := ∀ i, i < 11 → (((rdI x >>> i) &&& 1#16) == 1#16) = true → (r i).fKind = 1
theorem nn_dst {d : BitVec 8} (h : d.toNat < 4) : nn d = ((d.toNat : Nat) : Int) ∧ (nn d).toNat = d.toNat ∧ inR (nn d) 11 = true := by
  have e : nn d = ((d.toNat : Nat) : Int) := rfl
  exact ⟨e, by rw [e, Int.toNat_natCast], by rw [e, inR_nat' (by omega)]⟩
theorem result_is {x : Insn} (h : OkI x) (y : Arr42) (hy : Kn x (g_Arr42 y)) : m_fold_result_v3 x y = some (num (valI x (g_Arr42 y))) := by
  have key := lpO_ind (st := st_fold_result_v3_L0 y (rdI x, true))
    (fun | .c0 a => ∃ k : Nat, a = (k : Int) ∧ k ≤ 11)
    (fun | .c0 a => 11 - a.toNat)
    (fun _ r => r = .e0 (fun k => g_Arr42 y k))
    (fun s hI => by
      obtain ⟨a⟩ := s
      obtain ⟨k, rfl, hk⟩ := hI
      have e1 : IntKind.i64.wrap ((k : Int) + 1) = ((k + 1 : Nat) : Int) := by rw [wr] <;> omega
      by_cases hk' : k < 11
      · refine .inl ⟨.c0 ((k + 1 : Nat) : Int), ?_, ⟨k + 1, rfl, by omega⟩, by show 11 - ((k + 1 : Nat) : Int).toNat < 11 - (k : Int).toNat; omega, fun r hr => hr⟩
        unfold st_fold_result_v3_L0
        simp only [d_t (show (k : Int) < 11 by omega), cond_true, inR_nat' hk', d_t (show (0 : Int) ≤ (k : Int) by omega), Int.toNat_natCast, e1]
        cases hb : ((rdI x >>> k) &&& 1#16) == 1#16 with
        | false => rfl
        | true =>
          rw [cond_true, hy k hk' hb]
          rfl
      · refine .inr ⟨_, ?_, rfl⟩
        unfold st_fold_result_v3_L0
        simp only [d_f (show ¬ ((k : Int) < 11) by omega), cond_false])
    (.c0 0) ⟨0, rfl, by omega⟩
  obtain ⟨r, hr, rfl⟩ := key
  obtain ⟨d1, d2, d3⟩ := nn_dst h.dst
  obtain ⟨s1, s2, s3⟩ := nn_dst h.src
  obtain ⟨v, hv⟩ := h.do fun i => (g_Arr42 y i).fNum
  have hv2 : valI x (g_Arr42 y) = v := by unfold valI; rw [hv]; rfl
  have h13 := (op_facts _ h.op).2.2.2.2.2.2.2.1
  unfold m_fold_result_v3
  rw [h.reads, Option.bind_some, hr, Option.bind_some]
  unfold doI at hv
  rcases h.cls with h1 | ⟨h1, h2⟩
  · have h7 : ((x.fOp &&& 7#8) == 7#8) = false := by
      have : x.fOp &&& 7#8 = 4#8 := by simpa using h1
      rw [this]; rfl
    rw [h7] at hv
    simp only [h7, cond_false, d3, cond_true, h13, s3, d2, s2]
    cases hb : (x.fOp &&& 8#8) == 0#8 with
    | true =>
      rw [hb, cond_true] at hv
      simp only [cond_true, bindT, m_alu_Sign_v3, hv, Option.bind_some, hv2]
      rfl
    | false =>
      rw [hb, cond_false] at hv
      simp only [cond_false, hv, Option.bind_some, bindT, hv2]
      rfl
  · rw [h2] at hv
    simp only [h2, d3, cond_true, h13, s3, d2, s2, cond_false]
    cases hb : (x.fOp &&& 8#8) == 0#8 with
    | true =>
      rw [hb, cond_true] at hv
      simp only [cond_true, bindT, m_alu_Sign_v3, hv, Option.bind_some, hv2]
      rfl
    | false =>
      rw [hb, cond_false] at hv
      simp only [cond_false, hv, Option.bind_some, bindT, hv2]
      rfl
/-- What is known behind it. -/
noncomputable def stepR (x : Insn) (r : Nat → Val) : Nat → Val := updF r x.fDst.toNat (num (valI x r))
theorem g42 (f : Nat → Val) {i : Nat} (hi : i < 11) : g_Arr42 ⟨f 0, f 1, f 2, f 3, f 4, f 5, f 6, f 7, f 8, f 9, f 10⟩ i = f i := by
  have : i = 0 ∨ i = 1 ∨ i = 2 ∨ i = 3 ∨ i = 4 ∨ i = 5 ∨ i = 6 ∨ i = 7 ∨ i = 8 ∨ i = 9 ∨ i = 10 := by omega
  rcases this with rfl | rfl | rfl | rfl | rfl | rfl | rfl | rfl | rfl | rfl | rfl <;> rfl
theorem behind_is {n : Nat} {P : Nat → Insn} {k : Nat} (hk : k < n) (h : OkI (P k)) (y : Arr42) (hy : Kn (P k) (g_Arr42 y)) : ∃ z, m_fold_behind_v3 n P (k : Int) y = some z ∧ ∀ i, i < 11 → g_Arr42 z i = stepR (P k) (g_Arr42 y) i := by
  obtain ⟨d1, d2, d3⟩ := nn_dst h.dst
  have key := lpO_ind (st := st_fold_behind_v3_L0 P (k : Int) y (1#16 <<< (P k).fDst.toNat, true))
    (fun | .c0 r a => ∃ j : Nat, a = (j : Int) ∧ j ≤ 11 ∧ ∀ i, i ≠ (P k).fDst.toNat → r i = g_Arr42 y i)
    (fun | .c0 _ a => 11 - a.toNat)
    (fun _ r => ∃ f, r = .e0 (fun k => g_Arr42 y k) (fun _ => (⟨0, 0#64, 0, 0⟩ : Val)) (P k).fOp (P k).fDst (P k).fSrc (P k).fOff (P k).fImm f ∧ ∀ i, i ≠ (P k).fDst.toNat → f i = g_Arr42 y i)
    (fun s hI => by
      obtain ⟨r, a⟩ := s
      obtain ⟨j, rfl, hj, hr⟩ := hI
      have e1 : IntKind.i64.wrap ((j : Int) + 1) = ((j + 1 : Nat) : Int) := by rw [wr] <;> omega
      by_cases hj' : j < 11
      · have hw := writes_bits _ h.dst j hj'
        by_cases e : j = (P k).fDst.toNat
        · rw [d_t e] at hw
          refine .inl ⟨.c0 (updF r j (⟨0, 0#64, 0, 0⟩ : Val)) ((j + 1 : Nat) : Int), ?_, ⟨j + 1, rfl, by omega, fun i hi => by rw [updF_ne _ _ (by omega)]; exact hr i hi⟩, by show 11 - ((j + 1 : Nat) : Int).toNat < 11 - (j : Int).toNat; omega, fun r hr => hr⟩
          unfold st_fold_behind_v3_L0
          simp only [d_t (show (j : Int) < 11 by omega), cond_true, inR_nat' hj', d_t (show (0 : Int) ≤ (j : Int) by omega), Int.toNat_natCast, e1, hw]
        · rw [d_f e] at hw
          refine .inl ⟨.c0 r ((j + 1 : Nat) : Int), ?_, ⟨j + 1, rfl, by omega, hr⟩, by show 11 - ((j + 1 : Nat) : Int).toNat < 11 - (j : Int).toNat; omega, fun r hr => hr⟩
          unfold st_fold_behind_v3_L0
          simp only [d_t (show (j : Int) < 11 by omega), cond_true, d_t (show (0 : Int) ≤ (j : Int) by omega), Int.toNat_natCast, e1, hw, cond_false]
      · refine .inr ⟨_, ?_, r, rfl, hr⟩
        unfold st_fold_behind_v3_L0
        simp only [d_f (show ¬ ((j : Int) < 11) by omega), cond_false, Int.toNat_natCast])
    (.c0 (fun k => g_Arr42 y k) 0) ⟨0, rfl, by omega, fun i hi => rfl⟩
  obtain ⟨r, hr, f, rfl, hf⟩ := key
  have e1 := result_is h y hy
  have W : ∃ W : Nat → Val, W = updF f (P k).fDst.toNat (num (valI (P k) (g_Arr42 y))) := ⟨_, rfl⟩
  obtain ⟨W, hW⟩ := W
  refine ⟨⟨W 0, W 1, W 2, W 3, W 4, W 5, W 6, W 7, W 8, W 9, W 10⟩, ?_, fun i hi => ?_⟩
  rotate_left
  · rw [g42 W hi, hW]
    unfold stepR
    by_cases e : i = (P k).fDst.toNat
    · rw [e, updF_at, updF_at]
    · rw [updF_ne _ _ e, updF_ne _ _ e, hf i e]
  · unfold m_fold_behind_v3
    rw [inR_nat' hk, cond_true, Int.toNat_natCast, h.writes, Option.bind_some, hr, Option.bind_some]
    simp only
    have e2 : m_fold_isAlu_v4 (⟨(P k).fOp, (P k).fDst, (P k).fSrc, (P k).fOff, (P k).fImm⟩ : Insn) = true := h.isAlu
    have e3 : m_fold_result_v3 (⟨(P k).fOp, (P k).fDst, (P k).fSrc, (P k).fOff, (P k).fImm⟩ : Insn) (⟨g_Arr42 y 0, g_Arr42 y 1, g_Arr42 y 2, g_Arr42 y 3, g_Arr42 y 4, g_Arr42 y 5, g_Arr42 y 6, g_Arr42 y 7, g_Arr42 y 8, g_Arr42 y 9, g_Arr42 y 10⟩ : Arr42) = some (num (valI (P k) (g_Arr42 y))) := e1
    rw [e2, e3]
    simp only [cond_true, Option.bind_some, d3, d2, ← hW]
end Go.Proofs.YtcdkghdjfcccfaaGreat

