/-
  Of numbers that go from register to register what is live is the register that holds them, in plain words (no program).
-/
import Derived.Test.YtjfiakgkeniocaaL16MC
import Derived.Test.YtjfiakgkeniocaaS1P
namespace Go.Proofs.Ytjfiakgkeniocaa
open Go.RowKit
set_option linter.unusedVariables false
set_option linter.unusedSimpArgs false
theorem plain_names {x : Insn} (h : (x.fOp == 24#8) = false) (h' : (x.fOp == 133#8) = false) : m_insn_names x = false := by
  unfold m_insn_names
  rw [h, h']
  rfl
theorem sh_and : ∀ a : Nat, a < 10 → (((1#16 <<< a) &&& (1#16 <<< a)) == 0#16) = false := by decide
theorem le9 : ∀ d : BitVec 8, d.toNat < 10 → BitVec.ult 10#8 d = false ∧ (d == 10#8) = false := fun d h => by
  refine ⟨?_, ?_⟩
  · rw [BitVec.ult, decide_eq_false_iff_not]
    show ¬ (10 < d.toNat)
    omega
  · rw [beq_eq_false_iff_ne]
    rintro rfl
    exact absurd h (by decide)
def movA : Insn := ⟨183#8, 1#8, 0#8, 0#16, 7#32⟩
def mov (a b : BitVec 8) : Insn := ⟨191#8, a, b, 0#16, 0#32⟩
/-- 7 goes into r1, and from there from register to register, at last into r0. -/
structure Chain (n : Nat) (P : Nat → Insn) (d : Nat → BitVec 8) : Prop where
  most : n ≤ 50
  two : 2 ≤ n
  d0 : d 0 = 1#8
  dl : d (n - 1) = 0#8
  small : ∀ k, k < n → (d k).toNat < 10
  first : P 0 = movA
  mid : ∀ k, 0 < k → k < n → P k = mov (d k) (d (k - 1))
  last : P n = xit
namespace Chain
variable {n : Nat} {P : Nat → Insn} {d : Nat → BitVec 8}
theorem is (h : Chain n P d) {k : Nat} (hk : k ≤ n) : P k = movA ∨ P k = xit ∨ ∃ a b : BitVec 8, a.toNat < 10 ∧ b.toNat < 10 ∧ P k = mov a b := by
  by_cases e : k = n
  · rw [e]; exact .inr (.inl h.last)
  · by_cases e0 : k = 0
    · rw [e0]; exact .inl h.first
    · exact .inr (.inr ⟨_, _, h.small k (by omega), h.small (k - 1) (by omega), h.mid k (by omega) (by omega)⟩)
theorem op24 (h : Chain n P d) {k : Nat} (hk : k ≤ n) : ((P k).fOp == 24#8) = false := by
  rcases h.is hk with e | e | ⟨a, b, _, _, e⟩ <;> rw [e] <;> rfl
theorem op133 (h : Chain n P d) {k : Nat} (hk : k ≤ n) : ((P k).fOp == 133#8) = false := by
  rcases h.is hk with e | e | ⟨a, b, _, _, e⟩ <;> rw [e] <;> rfl
theorem names (h : Chain n P d) {k : Nat} (hk : k ≤ n) : m_insn_names (P k) = false := plain_names (h.op24 hk) (h.op133 hk)
theorem jumps (h : Chain n P d) {k : Nat} (hk : k ≤ n) : m_op_Jumps (P k) = false := by
  rcases h.is hk with e | e | ⟨a, b, _, _, e⟩ <;> rw [e] <;> kernel_rfl
theorem known (h : Chain n P d) {k : Nat} (hk : k ≤ n) : m_insn_known (P k) = true := by
  rcases h.is hk with e | e | ⟨a, b, _, _, e⟩ <;> rw [e] <;> kernel_rfl
theorem sec0 (h : Chain n P d) : ∀ k, k ≤ n + 1 → sec P k = false
  | 0, _ => rfl
  | k + 1, hk => by
    unfold sec wideB
    rw [h.op24 (by omega)]
    rfl
theorem err (h : Chain n P d) {k : Nat} (hk : k ≤ n) : errB (n + 1) P k = 0 := by
  have hd : BitVec.ult 10#8 (P k).fDst = false ∧ ((P k).fDst == 10#8) = false ∧ BitVec.ult 10#8 (P k).fSrc = false := by
    rcases h.is hk with e | e | ⟨a, b, ha, hb, e⟩ <;> rw [e]
    · exact ⟨rfl, rfl, rfl⟩
    · exact ⟨rfl, rfl, rfl⟩
    · exact ⟨(le9 a ha).1, (le9 a ha).2, (le9 b hb).1⟩
  unfold errB wideB
  rw [h.known hk, hd.1, hd.2.1, hd.2.2, h.op24 hk, h.op133 hk, h.names hk]
  rfl
theorem plain (h : Chain n P d) : Plain (n + 1) P where
  pos := by omega
  most := by have := h.most; omega
  ok := fun k _ hk _ => h.err (by omega)
  names := fun k hk _ => h.names (by omega)
  ends := by
    unfold endOk lastAt
    rw [Nat.add_sub_cancel, h.sec0 n (by omega)]
    simp only [Bool.false_eq_true, if_false]
    rw [h.last]
    rfl
theorem check (h : Chain n P d) : m_insn_Check (n + 1) P = some (0, 0) := h.plain.check fun p _ _ k hk _ => by
  unfold badJump
  rw [h.jumps (by omega)]
  rfl
theorem straight (h : Chain n P d) : Straight n P where
  most := by have := h.most; omega
  plain := fun k hk => by
    rcases h.is (Nat.le_of_lt hk) with e | e | ⟨a, b, _, _, e⟩
    · rw [e]; exact .inr (.inl rfl)
    · by_cases e0 : k = 0
      · subst e0; rw [h.first] at e; exact absurd (congrArg Insn.fOp e) (by decide)
      · rw [h.mid k (by omega) hk] at e; exact absurd (congrArg Insn.fOp e) (show (191#8 : BitVec 8) ≠ 149#8 by decide)
    · rw [e]; exact .inr (.inl (by kernel_rfl))
  last := h.last
  fine := ⟨0, h.check⟩
theorem rd0 (h : Chain n P d) : rdB P 0 = 0#16 := by
  have hs := h.two
  unfold rdB m_live_Reads_v3
  rw [h.straight.known (k := 0) (by omega), h.first]
  rfl
theorem rdn (h : Chain n P d) : rdB P n = 1#16 := by
  unfold rdB m_live_Reads_v3
  rw [h.straight.known (k := n) (by omega), h.last]
  rfl
theorem rdk (h : Chain n P d) {k : Nat} (h0 : 0 < k) (hk : k < n) : rdB P k = 1#16 <<< (d (k - 1)).toNat := by
  unfold rdB m_live_Reads_v3
  rw [h.straight.known (k := k) (by omega), h.mid k h0 hk]
  kernel_rfl
theorem dst (h : Chain n P d) {k : Nat} (hk : k < n) : (P k).fDst = d k := by
  by_cases e0 : k = 0
  · rw [e0, h.first, h.d0]; rfl
  · rw [h.mid k (by omega) hk]; rfl
theorem sets (h : Chain n P d) {k : Nat} (hk : k < n) : m_live_sets_v3 (P k) = true := by
  by_cases e0 : k = 0
  · rw [e0, h.first]; rfl
  · rw [h.mid k (by omega) hk]; kernel_rfl
theorem wrk (h : Chain n P d) {k : Nat} (hk : k < n) : wrB P k = 1#16 <<< (d k).toNat := by
  unfold wrB m_live_Writes_v3
  rw [h.straight.known (k := k) (by omega)]
  by_cases e0 : k = 0
  · rw [e0, h.first, h.d0]; rfl
  · rw [h.mid k (by omega) hk]; kernel_rfl
theorem clr (x : BitVec 16) : x &&& ~~~x = 0#16 := by simp
theorem lv_succ (h : Chain n P d) : ∀ e k, k + 1 + e = n → lv n P (k + 1) = 1#16 <<< (d k).toNat
  | 0, k, hk => by
    have e1 : k + 1 = n := by omega
    rw [e1, lv_last, h.rdn, show k = n - 1 by omega, h.dl]
    rfl
  | e + 1, k, hk => by
    rw [lv_step P (show k + 1 < n by omega), h.lv_succ e (k + 1) (by omega), h.wrk (show k + 1 < n by omega), clr, h.rdk (k := k + 1) (by omega) (by omega), Nat.add_sub_cancel]
    simp
theorem lv_s (h : Chain n P d) {k : Nat} (hk : k < n) : lv n P (k + 1) = 1#16 <<< (d k).toNat := h.lv_succ (n - (k + 1)) k (by omega)
theorem lv_0 (h : Chain n P d) : lv n P 0 = 0#16 := by
  have h2 := h.two
  rw [lv_step P (show 0 < n by omega), h.lv_s (show 0 < n by omega), h.wrk (show 0 < n by omega), clr, h.rd0]
  rfl
/-! ### What is reached: only that it is told -/
theorem named (h : Chain n P d) {k : Nat} (hk : k ≤ n) : m_flow_program_named_v3 (n + 1) P (k : Int) = some (0, false) := by
  have hm := h.most
  have ho : m_insn_operation (n + 1) P (k : Int) = some true := by
    unfold m_insn_operation
    rw [d_t (show (0 : Int) ≤ (k : Int) by omega), d_t (show (k : Int) < ((n + 1 : Nat) : Int) by omega), inR_nat' (show k < n + 1 by omega)]
    simp only [cond_true, Int.toNat_natCast]
    rw [h.known hk, second_eq (by omega) (show k ≤ n + 1 by omega), h.sec0 k (by omega)]
    rfl
  unfold m_flow_program_named_v3 m_insn_Target
  rw [inR_nat' (show k < n + 1 by omega), ho]
  simp only [cond_true, Int.toNat_natCast, Option.bind_some, h.jumps hk, h.names hk, cond_false]
theorem nxt (h : Chain n P d) {k : Nat} (hk : k ≤ n) : m_flow_program_next_v3 (n + 1) P (k : Int) = some (if k = n then .e0 else .e1 ((k + 1 : Nat) : Int)) := by
  have hm := h.most
  unfold m_flow_program_next_v3
  rw [inR_nat' (show k < n + 1 by omega)]
  simp only [cond_true, Int.toNat_natCast, bindT]
  by_cases e : k = n
  · rw [if_pos e, e, h.last]
    rfl
  · have p2 : ((P k).fOp == 149#8) = false := (plain_op (h.straight.plain k (by omega))).2.1
    have e1 : IntKind.i64.wrap ((k : Int) + m_op_Width (P k)) = ((k + 1 : Nat) : Int) := by
      rw [width_eq]
      unfold wid wideB
      rw [h.op24 hk, wr] <;> simp <;> omega
    rw [if_neg e, p2, h.jumps hk, e1]
    rfl
theorem reached (h : Chain n P d) : ∃ g, m_flow_Reached_v1 (n + 1) P = some (.e0 g) := by
  have hm := h.most
  have h2 := h.two
  have key := lpO_ind (st := st_flow_program_reached_v1_L0 (n + 1) P)
    (fun | .c0 => True
         | .c1 g N Q => N = 0 ∨ N = 1 ∧ ∃ k : Nat, k ≤ n ∧ Q 0 = (k : Int))
    (fun | .c0 => n + 10
         | .c1 g N Q => if N = 0 then 0 else n + 2 - (Q 0).toNat)
    (fun _ _ => True)
    (fun s hI => by
      cases s with
      | c0 =>
        have e0 := h.nxt (k := 0) (by omega)
        have e1 := h.named (k := 0) (by omega)
        rw [if_neg (show ¬ 0 = n by omega)] at e0
        refine .inl ⟨.c1 (updF (updF (fun _ => false) 0 true) 1 true) 1 (updF (fun _ => 0) 0 ((1 : Nat) : Int)), ?_, .inr ⟨rfl, 1, by omega, rfl⟩, ?_, fun _ _ => trivial⟩
        · unfold st_flow_program_reached_v1_L0
          rw [show (0 : Int) = ((0 : Nat) : Int) from rfl, e0]
          simp only [Option.bind_some]
          rw [e1]
          simp only [Option.bind_some, cond_false, Nat.zero_add]
          rw [inR_nat' (show 1 < n + 1 by omega)]
          rfl
        · show (if (1 : Nat) = 0 then 0 else n + 2 - (((1 : Nat) : Int)).toNat) < n + 10
          rw [if_neg (by decide)]
          omega
      | c1 g N Q =>
        rcases hI with rfl | ⟨rfl, k, hk, hQ⟩
        · refine .inr ⟨.e0 g, ?_, trivial⟩
          unfold st_flow_program_reached_v1_L0
          rfl
        · have ew : IntKind.i64.wrap (((1 : Nat) : Int) - 1) = 0 := by rw [wr] <;> omega
          have e0 := h.nxt hk
          have e1 := h.named hk
          have i0 : inR 0 1 = true := rfl
          have i1 : inR 0 2 = true := rfl
          by_cases e : k = n
          · rw [if_pos e] at e0
            refine .inl ⟨.c1 g 0 Q, ?_, .inl rfl, ?_, fun _ _ => trivial⟩
            · unfold st_flow_program_reached_v1_L0
              simp only [ew, Int.toNat_zero, hQ, e0, e1, Option.bind_some, cond_false]
              rfl
            · show (if (0 : Nat) = 0 then 0 else n + 2 - (Q 0).toNat) < (if (1 : Nat) = 0 then 0 else n + 2 - (Q 0).toNat)
              rw [if_pos rfl, if_neg (by decide), hQ]
              omega
          · rw [if_neg e] at e0
            cases hg : g (k + 1) with
            | true =>
              refine .inl ⟨.c1 g 0 Q, ?_, .inl rfl, ?_, fun _ _ => trivial⟩
              · unfold st_flow_program_reached_v1_L0
                simp only [ew, Int.toNat_zero, hQ, e0, e1, Option.bind_some, cond_false, inR_nat' (show k + 1 < n + 1 by omega), Int.toNat_natCast, hg, cond_true]
                rfl
              · show (if (0 : Nat) = 0 then 0 else n + 2 - (Q 0).toNat) < (if (1 : Nat) = 0 then 0 else n + 2 - (Q 0).toNat)
                rw [if_pos rfl, if_neg (by decide), hQ]
                omega
            | false =>
              refine .inl ⟨.c1 (updF g (k + 1) true) 1 (updF Q 0 ((k + 1 : Nat) : Int)), ?_, .inr ⟨rfl, k + 1, by omega, rfl⟩, ?_, fun _ _ => trivial⟩
              · unfold st_flow_program_reached_v1_L0
                simp only [ew, Int.toNat_zero, hQ, e0, e1, Option.bind_some, cond_false, inR_nat' (show k + 1 < n + 1 by omega), Int.toNat_natCast, hg, cond_true]
                rfl
              · show (if (1 : Nat) = 0 then 0 else n + 2 - (((k + 1 : Nat) : Int)).toNat) < (if (1 : Nat) = 0 then 0 else n + 2 - (Q 0).toNat)
                rw [if_neg (by decide), if_neg (by decide), hQ]
                omega)
    .c0 trivial
  obtain ⟨⟨g⟩, hr, _⟩ := key
  refine ⟨g, ?_⟩
  unfold m_flow_Reached_v1 m_flow_program_reached_v1
  rw [h.check, Option.bind_some]
  simp only [beq_self_eq_true, cond_true]
  rw [d_t (show n + 1 ≤ 1000000 by omega), show inR 0 (n + 1) = true from inR_nat' (k := 0) (by omega), cond_true, cond_true, hr]
  rfl
/-! ### Nothing is dead -/
theorem dead (h : Chain n P d) : m_live_Dead_v1 (n + 1) P = some (.e0 0) := by
  have hm := h.most
  obtain ⟨g, hg⟩ := h.reached
  obtain ⟨R, W, v, X, h1, h2, h3⟩ := look_is h.straight
  have key := lpO_ind (st := st_live_Dead_v1_L0 (n + 1) P g R W v X)
    (fun | .c0 a => ∃ k : Nat, a = (k : Int) ∧ k ≤ n + 1
         | .c1 _ _ _ => False)
    (fun | .c0 a => n + 1 - a.toNat
         | .c1 _ _ _ => 0)
    (fun _ r => r = .e0)
    (fun s hI => by
      cases s with
      | c1 _ _ _ => exact hI.elim
      | c0 a =>
        obtain ⟨k, rfl, hk⟩ := hI
        by_cases hkn : k < n + 1
        · have e1 : IntKind.i64.wrap ((k : Int) + 1) = ((k + 1 : Nat) : Int) := by rw [wr] <;> omega
          refine .inl ⟨.c0 ((k + 1 : Nat) : Int), ?_, ⟨k + 1, rfl, by omega⟩, by show n + 1 - ((k + 1 : Nat) : Int).toNat < n + 1 - (k : Int).toNat; omega, fun r hr => hr⟩
          unfold st_live_Dead_v1_L0
          simp only [d_t (show (k : Int) < ((n + 1 : Nat) : Int) by omega), cond_true, inR_nat' hkn, Int.toNat_natCast, e1]
          cases g k with
          | false => rfl
          | true =>
            by_cases e : k = n
            · rw [e, h.last]; rfl
            · have hb : (((1#16 <<< (d k).toNat) &&& (1#16 <<< (d k).toNat)) == 0#16) = false := sh_and _ (h.small k (by omega))
              have hv : v (k + 1) = 1#16 <<< (d k).toNat := by rw [h3 (k + 1) (by omega), h.lv_s (by omega)]
              simp only [cond_true, h.sets (show k < n by omega), h2.behind v (show k ≤ n by omega), if_neg e, Option.bind_some, bindT, m_live_bit_v2, h.dst (show k < n by omega), hv, hb, cond_false]
        · refine .inr ⟨.e0, ?_, rfl⟩
          unfold st_live_Dead_v1_L0
          simp only [d_f (show ¬ ((k : Int) < ((n + 1 : Nat) : Int)) by omega), cond_false])
    (.c0 0) ⟨0, rfl, by omega⟩
  obtain ⟨r, hr, rfl⟩ := key
  unfold m_live_Dead_v1
  rw [h.check, Option.bind_some]
  simp only [beq_self_eq_true, cond_true, hg, Option.bind_some, h1, hr]
theorem live (h : Chain n P d) : ∃ v, m_live_Live_v1 (n + 1) P = some (.e0 v) ∧ v 0 = 0#16 ∧ v n = 1#16 ∧ ∀ k, 0 < k → k < n → v k = 1#16 <<< ((P k).fSrc).toNat := by
  obtain ⟨R, W, v, X, h1, h2, h3⟩ := look_is h.straight
  refine ⟨v, ?_, ?_, ?_, fun k h4 h5 => ?_⟩
  · unfold m_live_Live_v1
    rw [h.check, Option.bind_some]
    simp only [beq_self_eq_true, cond_true, h1, Option.bind_some]
  · rw [h3 0 (by omega), h.lv_0]
  · rw [h3 n (by omega), lv_last, h.rdn]
  · have e1 : k = (k - 1) + 1 := by omega
    have e2 : lv n P k = 1#16 <<< (d (k - 1)).toNat := by rw [e1]; exact h.lv_s (by omega)
    rw [h3 k (by omega), e2, h.mid k h4 h5]
    rfl
end Chain
/-! ### The law's row -/
def dd (A : Nat → BitVec 8) : Nat → BitVec 8
  | 0 => 1#8
  | k + 1 => A k % 10#8
theorem dd_lt (A : Nat → BitVec 8) : ∀ k, (dd A k).toNat < 10
  | 0 => by
    show (1#8 : BitVec 8).toNat < 10
    decide
  | k + 1 => by
    show (A k % 10#8).toNat < 10
    rw [BitVec.toNat_umod]
    exact Nat.mod_lt _ (by decide)
def RowIs (A : Nat → BitVec 8) (N : Nat) (Q : Nat → Insn) : Prop := Q 0 = movA ∧ ∀ k, 0 < k → k < N → Q k = mov (dd A k) (dd A (k - 1))
theorem chain_of {A : Nat → BitVec 8} {N : Nat} {Q : Nat → Insn} (h1 : 1 ≤ N) (h2 : N ≤ 41) (h : RowIs A N Q) :
    Chain (N + 1) (updF (updF Q N (mov 0#8 (dd A (N - 1)))) (N + 1) xit) (fun k => if k < N then dd A k else 0#8) where
  most := by omega
  two := by omega
  d0 := by show (if 0 < N then dd A 0 else 0#8) = 1#8; rw [if_pos (by omega)]; rfl
  dl := by show (if N + 1 - 1 < N then _ else 0#8) = 0#8; rw [if_neg (by omega)]
  small := fun k _ => by
    show (if k < N then dd A k else 0#8).toNat < 10
    by_cases hk : k < N
    · rw [if_pos hk]; exact dd_lt A k
    · rw [if_neg hk]; decide
  first := by rw [updF_ne _ _ (by omega), updF_ne _ _ (by omega)]; exact h.1
  mid := fun k h0 hk => by
    rw [updF_ne _ _ (by omega)]
    show _ = mov (if k < N then dd A k else 0#8) (if k - 1 < N then dd A (k - 1) else 0#8)
    rw [if_pos (show k - 1 < N by omega)]
    by_cases e : k = N
    · rw [e, updF_at, if_neg (by omega)]
    · rw [updF_ne _ _ e, if_pos (by omega)]
      exact h.2 k h0 (by omega)
  last := by rw [updF_at]
theorem row_is (n : Nat) (A : Nat → BitVec 8) (hn : n ≤ 40) : ∃ r, lpO (st_barbicanlaw16_LiveChain_L0 n A) .c0 = some r ∧ (match r with | .e0 => True | .e1 N Q t => 1 ≤ N ∧ N ≤ 41 ∧ RowIs A N Q ∧ t = dd A (N - 1)) :=
  lpO_ind (st := st_barbicanlaw16_LiveChain_L0 n A)
    (fun | .c0 => True
         | .c1 N Q t a => ∃ k : Nat, a = (k : Int) ∧ 1 ≤ k ∧ k ≤ n ∧ N = k + 1 ∧ RowIs A N Q ∧ t = dd A k)
    (fun | .c0 => n + 1
         | .c1 _ _ _ a => n - a.toNat)
    (fun _ r => match r with | .e0 => True | .e1 N Q t => 1 ≤ N ∧ N ≤ 41 ∧ RowIs A N Q ∧ t = dd A (N - 1))
    (fun s hI => by
      cases s with
      | c0 =>
        by_cases h : 0 < n
        · refine .inl ⟨.c1 2 (updF (fun _ => movA) 1 (mov (A 0 % 10#8) 1#8)) (A 0 % 10#8) 1, ?_, ⟨1, rfl, by omega, by omega, rfl, ⟨rfl, fun k h1 h2 => ?_⟩, rfl⟩, by show n - (1 : Int).toNat < n + 1; omega, fun r hr => hr⟩
          · unfold st_barbicanlaw16_LiveChain_L0
            rw [d_t (show (0 : Int) < (n : Int) by omega), show inR 0 n = true from inR_nat' (k := 0) (by omega)]
            rfl
          · obtain rfl : k = 1 := by omega
            rfl
        · refine .inr ⟨.e0, ?_, trivial⟩
          unfold st_barbicanlaw16_LiveChain_L0
          simp only [d_f (show ¬ ((0 : Int) < (n : Int)) by omega), cond_false]
      | c1 N Q t a =>
        obtain ⟨k, rfl, h1, hk, rfl, hq, rfl⟩ := hI
        by_cases h : k < n
        · have e1 : IntKind.i64.wrap ((k : Int) + 1) = ((k + 1 : Nat) : Int) := by rw [wr] <;> omega
          refine .inl ⟨.c1 (k + 1 + 1) (updF Q (k + 1) (mov (A k % 10#8) (dd A k))) (A k % 10#8) ((k + 1 : Nat) : Int), ?_, ⟨k + 1, rfl, by omega, by omega, rfl, ⟨?_, fun j h2 h3 => ?_⟩, rfl⟩, by show n - ((k + 1 : Nat) : Int).toNat < n - (k : Int).toNat; omega, fun r hr => hr⟩
          · unfold st_barbicanlaw16_LiveChain_L0
            simp only [d_t (show (k : Int) < (n : Int) by omega), inR_nat' h, cond_true, Int.toNat_natCast, e1, d_t (show k + 1 ≤ 1000000 by omega), bindT]
            rfl
          · rw [updF_ne _ _ (by omega)]; exact hq.1
          · by_cases e : j = k + 1
            · subst e; rw [updF_at]; rfl
            · rw [updF_ne _ _ e]; exact hq.2 j h2 (by omega)
        · refine .inr ⟨.e1 (k + 1) Q (dd A k), ?_, by omega, by omega, hq, rfl⟩
          unfold st_barbicanlaw16_LiveChain_L0
          simp only [d_f (show ¬ ((k : Int) < (n : Int)) by omega), cond_false])
    .c0 trivial
theorem srcs (g0 : Nat) (hg : g0 ≤ 41) (r1 : Nat → Insn) (v : Nat → BitVec 16) (hv : ∀ k, 0 < k → k < g0 + 1 → v k = 1#16 <<< ((r1 k).fSrc).toNat) : lpO (st_barbicanlaw16_LiveChain_L1v2 g0 r1 v) (.c0 1) = some .e0 := by
  have key := lpO_ind (st := st_barbicanlaw16_LiveChain_L1v2 g0 r1 v)
    (fun | .c0 a => ∃ k : Nat, a = (k : Int) ∧ 0 < k ∧ k ≤ g0 + 1)
    (fun | .c0 a => g0 + 2 - a.toNat)
    (fun _ r => r = .e0)
    (fun s hI => by
      obtain ⟨a⟩ := s
      obtain ⟨k, rfl, h0, hk⟩ := hI
      have e1 : IntKind.i64.wrap ((k : Int) + 1) = ((k + 1 : Nat) : Int) := by rw [wr] <;> omega
      by_cases h : k < g0 + 1
      · refine .inl ⟨.c0 ((k + 1 : Nat) : Int), ?_, ⟨k + 1, rfl, by omega, by omega⟩, by show g0 + 2 - ((k + 1 : Nat) : Int).toNat < g0 + 2 - (k : Int).toNat; omega, fun r hr => hr⟩
        unfold st_barbicanlaw16_LiveChain_L1v2
        simp only [e1, d_t (show ((k + 1 : Nat) : Int) < ((g0 + 2) : Int) by omega), inR_nat' (show k < g0 + 2 by omega), cond_true, Int.toNat_natCast, hv k h0 h, beq_self_eq_true]
      · refine .inr ⟨.e0, ?_, rfl⟩
        unfold st_barbicanlaw16_LiveChain_L1v2
        simp only [e1, d_f (show ¬ (((k + 1 : Nat) : Int) < ((g0 + 2) : Int)) by omega), cond_false])
    (.c0 1) ⟨1, rfl, by omega, by omega⟩
  obtain ⟨r, hr, rfl⟩ := key
  exact hr
theorem chain_true (n : Nat) (A : Nat → BitVec 8) : m_barbicanlaw16_LiveChain n A = some true := by
  unfold m_barbicanlaw16_LiveChain
  by_cases hn : n ≤ 40
  case neg => rw [d_t (show (40 : Int) < (n : Int) by omega)]; rfl
  rw [d_f (show ¬ ((40 : Int) < (n : Int)) by omega), cond_false]
  obtain ⟨r, hr, hk⟩ := row_is n A hn
  rw [hr, Option.bind_some]
  cases r with
  | e0 =>
    have hc := chain_of (A := A) (N := 1) (Q := fun _ => movA) (by omega) (by omega) ⟨rfl, fun k h1 h2 => by omega⟩
    have hP : appL (fun _ => (⟨183#8, 1#8, 0#8, 0#16, 7#32⟩ : Insn)) 1 [(⟨191#8, 0#8, 1#8, 0#16, 0#32⟩ : Insn), (⟨149#8, 0#8, 0#8, 0#16, 0#32⟩ : Insn)] = updF (updF (fun _ => movA) 1 (mov 0#8 (dd A (1 - 1)))) (1 + 1) xit := rfl
    simp only [bindT]
    rw [hP]
    generalize updF (updF (fun _ => movA) 1 (mov 0#8 (dd A (1 - 1)))) (1 + 1) xit = P at hc ⊢
    obtain ⟨v, h1, h2, h3, h4⟩ := hc.live
    have h5 := hc.dead
    have h1 : m_live_Live_v1 3 P = some (.e0 v) := h1
    have h5 : m_live_Dead_v1 3 P = some (.e0 0) := h5
    have h3 : v 2 = 1#16 := h3
    have h6 : lpO (st_barbicanlaw16_LiveChain_L1 P v) (.c0 1) = some .e0 := by
      rw [lpO_next (s' := .c0 2) (by
        unfold st_barbicanlaw16_LiveChain_L1
        dsimp only
        rw [show IntKind.i64.wrap (1 + 1) = 2 by rw [wr] <;> omega, d_t (show (2 : Int) < 3 by decide), show inR 1 3 = true from rfl, show (1 : Int).toNat = 1 from rfl, h4 1 (by omega) (by omega)]
        simp only [cond_true, beq_self_eq_true])]
      refine lpO_end ?_
      unfold st_barbicanlaw16_LiveChain_L1
      dsimp only
      rw [show IntKind.i64.wrap (2 + 1) = 3 by rw [wr] <;> omega, d_f (show ¬ ((3 : Int) < 3) by decide)]
      rfl
    simp only [h1, h5, Option.bind_some, beq_self_eq_true, cond_true, h2, h6, h3]
  | e1 N Q t =>
    obtain ⟨hN1, hN, hq, rfl⟩ := hk
    have hc := chain_of hN1 hN hq
    have hP : appL Q N [(⟨191#8, 0#8, dd A (N - 1), 0#16, 0#32⟩ : Insn), (⟨149#8, 0#8, 0#8, 0#16, 0#32⟩ : Insn)] = updF (updF Q N (mov 0#8 (dd A (N - 1)))) (N + 1) xit := rfl
    simp only [bindT]
    rw [d_t (show N ≤ 1000000 by omega), cond_true, hP]
    generalize updF (updF Q N (mov 0#8 (dd A (N - 1)))) (N + 1) xit = P at hc ⊢
    obtain ⟨v, h1, h2, h3, h4⟩ := hc.live
    have h5 := hc.dead
    have h1 : m_live_Live_v1 (N + 2) P = some (.e0 v) := h1
    have h5 : m_live_Dead_v1 (N + 2) P = some (.e0 0) := h5
    have h6 := srcs N hN P v h4
    have e1 : IntKind.i64.wrap (((N + 2) : Int) - 1) = ((N + 1 : Nat) : Int) := by rw [wr] <;> omega
    simp only [h1, h5, Option.bind_some, beq_self_eq_true, cond_true, h2, h6, e1, inR_nat' (show N + 1 < N + 2 by omega), Int.toNat_natCast, h3, show inR 0 (N + 2) = true from inR_nat' (k := 0) (by omega)]
end Go.Proofs.Ytjfiakgkeniocaa
