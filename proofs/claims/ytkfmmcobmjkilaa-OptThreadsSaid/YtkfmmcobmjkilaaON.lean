/-
  Rows of jumps, each to the next one: what is kept of them, where they go when threaded, in plain words.
-/
import Derived.Test.YtkfmmcobmjkilaaFM
import Derived.Test.YtkfmmcobmjkilaaOC2
namespace Go.Proofs.Ytkfmmcobmjkilaa
open Go.RowKit
set_option linter.unusedVariables false
set_option linter.unusedSimpArgs false
theorem ct {α : Sort _} {x y : α} {b : Bool} (h : b = true) : (bif b then x else y) = x := by rw [h]; rfl
theorem cf {α : Sort _} {x y : α} {b : Bool} (h : b = false) : (bif b then x else y) = y := by rw [h]; rfl
theorem w_succ {k : Nat} (h : k < 1000000) : IntKind.i64.wrap ((k : Int) + 1) = ((k + 1 : Nat) : Int) := by rw [wr] <;> omega
theorem jumps_not {x : Insn} (h : m_op_Jumps x = true) : (x.fOp == 24#8) = false ∧ (x.fOp == 133#8) = false ∧ (x.fOp == 149#8) = false := by
  unfold m_op_Jumps at h
  revert h
  generalize x.fOp = o
  revert o
  decide
theorem jumps_names {x : Insn} (h : m_op_Jumps x = true) : m_insn_names x = false := by
  obtain ⟨h1, h2, _⟩ := jumps_not h
  unfold m_insn_names
  rw [cf h1, cf h2]
theorem ja_jumps {x : Insn} (h : (x.fOp == 5#8) = true) : m_op_Jumps x = true := by
  have : x.fOp = 5#8 := by simpa using h
  unfold m_op_Jumps
  rw [this]
  rfl
theorem err_kn {n : Nat} {A : Nat → Insn} {k : Nat} (he : errB n A k = 0) : m_insn_known (A k) = true := by
  unfold errB at he
  cases h : m_insn_known (A k)
  · rw [h] at he
    cases he
  · rfl
section
variable {n N : Nat} {A : Nat → Insn} {P : Nat → Part}
theorem part_of {g : Nat → Bool} (h : Parts g n N P) {k : Nat} (hk : k < n) : ∃ i, i < N ∧ (P i).fFrom ≤ k ∧ (k : Int) < (P i).fTo := by
  have key : ∀ i, i < N → (∃ i', i' ≤ i ∧ (P i').fFrom ≤ k ∧ (k : Int) < (P i').fTo) ∨ (P i).fTo ≤ k := by
    intro i
    induction i with
    | zero =>
      intro hi
      have := h.first
      by_cases c : (k : Int) < (P 0).fTo
      · exact .inl ⟨0, Nat.le_refl _, by omega, c⟩
      · exact .inr (by omega)
    | succ i ih =>
      intro hi
      rcases ih (by omega) with ⟨i', h1, h2⟩ | h1
      · exact .inl ⟨i', by omega, h2⟩
      · have := h.next i hi
        by_cases c : (k : Int) < (P (i + 1)).fTo
        · exact .inl ⟨i + 1, Nat.le_refl _, by omega, c⟩
        · exact .inr (by omega)
  have hp := h.pos
  rcases key (N - 1) (by omega) with ⟨i', h1, h2⟩ | h1
  · exact ⟨i', by omega, h2⟩
  · have := h.last
    omega
/-- An operation that isn't an exit, nor a jump without a condition, has another one behind it. -/
theorem Fine.behind (h : Fine n A N P) {k : Nat} (hk : k < n) (hs : sec A k = false) (h1 : ((A k).fOp == 149#8) = false) (h2 : ((A k).fOp == 5#8) = false) : k + wid (A k) < n := by
  obtain ⟨g, hP⟩ := h.parts
  obtain ⟨i, hi, h3, h4⟩ := part_of hP hk
  have ht := hP.to hi
  unfold wid
  cases hw : wideB (A k)
  · have : (P i).fTo ≠ ((k + 1 : Nat) : Int) := fun e => by
      rcases h.last hi e hs with c | c
      · rw [h1] at c; cases c
      · rw [h2] at c; cases c
    simp only [Bool.false_eq_true, if_false]
    omega
  · have := h.wide hi h4 hs hw
    simp only [if_true]
    omega
theorem Fine.known (h : Fine n A N P) {k : Nat} (hk : k < n) (hs : sec A k = false) : m_insn_known (A k) = true := err_kn (h.ok k hk hk hs)
/-- Where a jump goes to. -/
theorem Fine.to (h : Fine n A N P) {k : Nat} (hk : k < n) (hs : sec A k = false) (hj : m_op_Jumps (A k) = true) : ∃ t : Nat, (k : Int) + 1 + ii (A k).fOff = (t : Int) ∧ t < n ∧ sec A t = false := by
  obtain ⟨g, hP⟩ := h.parts
  obtain ⟨i, hi, h3, h4⟩ := part_of hP hk
  have ht := hP.to hi
  have hl := hP.lt i hi
  obtain ⟨h5, h6⟩ := h.goes hi h3 h4 hs hj
  have hb := h.stay i hi k h3 h4 hs
  unfold badJump at hb
  rw [hj, Bool.true_and, Bool.or_eq_false_iff, Bool.or_eq_false_iff] at hb
  refine ⟨((k : Int) + 1 + ii (A k).fOff).toNat, by omega, by omega, hb.2.2⟩
theorem target_jump (h : Fine n A N P) {k : Nat} (hk : k < n) (hs : sec A k = false) (hj : m_op_Jumps (A k) = true) : m_insn_Target n A (k : Int) = some ((k : Int) + 1 + ii (A k).fOff, true) := by
  obtain ⟨t, h1, h2, h3⟩ := h.to hk hs hj
  have hm := h.most
  have e1 : IntKind.i64.wrap ((k : Int) + 1) = (k : Int) + 1 := by rw [wr] <;> omega
  have e3 : IntKind.i64.wrap ((k : Int) + 1 + ii (A k).fOff) = (k : Int) + 1 + ii (A k).fOff := by rw [wr] <;> omega
  unfold m_insn_Target
  rw [operation_eq hm hk, inR_nat' hk, Int.toNat_natCast, e1, e3, h.known hk hs, hs]
  simp only [Option.bind_some]
  rw [ct (b := true && !false) rfl, ct (b := true) rfl, cf (jumps_names hj), ct hj, cf (d_f (by omega)), cf (d_f (by omega))]
end

/-! ### Rows of jumps -/
abbrev ja0 : Insn := ⟨5#8, 0#8, 0#8, 0#16, 0#32⟩
abbrev movC (c : BitVec 32) : Insn := ⟨183#8, 0#8, 0#8, 0#16, c⟩
structure Chain (n : Nat) (c : BitVec 32) (A : Nat → Insn) : Prop where
  most : n ≤ 100
  imm : c = 0#32 ∨ c = 3#32
  ja : ∀ k, k < n → A k = ja0
  mov : A n = movC c
  ex : A (n + 1) = exit0
section
variable {n : Nat} {c : BitVec 32} {A : Nat → Insn}
theorem Chain.cases (h : Chain n c A) {k : Nat} (hk : k < n + 2) : (k < n ∧ A k = ja0) ∨ (k = n ∧ A k = movC c) ∨ (k = n + 1 ∧ A k = exit0) := by
  by_cases c1 : k < n
  · exact .inl ⟨c1, h.ja k c1⟩
  by_cases c2 : k = n
  · exact .inr (.inl ⟨c2, c2 ▸ h.mov⟩)
  · obtain rfl : k = n + 1 := by omega
    exact .inr (.inr ⟨rfl, h.ex⟩)
theorem Chain.wide (h : Chain n c A) {k : Nat} (hk : k < n + 2) : wideB (A k) = false := by
  rcases h.cases hk with ⟨_, e⟩ | ⟨_, e⟩ | ⟨_, e⟩ <;> rw [e] <;> rfl
theorem Chain.op (h : Chain n c A) {k : Nat} (hk : k < n + 2) : ((A k).fOp == 24#8) = false := h.wide hk
theorem Chain.wid (h : Chain n c A) {k : Nat} (hk : k < n + 2) : wid (A k) = 1 := by
  have := h.wide hk
  unfold Go.Proofs.Ytkfmmcobmjkilaa.wid
  rw [this]
  rfl
theorem Chain.sec (h : Chain n c A) : ∀ {k : Nat}, k ≤ n + 2 → sec A k = false
  | 0, _ => rfl
  | k + 1, hk => by
    show (wideB (A k) && !Go.Proofs.Ytkfmmcobmjkilaa.sec A k) = false
    rw [h.wide (show k < n + 2 by omega)]
    rfl
theorem Chain.names (h : Chain n c A) {k : Nat} (hk : k < n + 2) : m_insn_names (A k) = false := by
  rcases h.cases hk with ⟨_, e⟩ | ⟨_, e⟩ | ⟨_, e⟩ <;> rw [e] <;> rfl
theorem Chain.jumps (h : Chain n c A) {k : Nat} (hk : k < n) : m_op_Jumps (A k) = true := by
  rw [h.ja k hk]
  rfl
theorem Chain.jumps' (h : Chain n c A) {k : Nat} (hk : k < n + 2) (hn : n ≤ k) : m_op_Jumps (A k) = false := by
  rcases h.cases hk with ⟨q, e⟩ | ⟨_, e⟩ | ⟨_, e⟩
  · omega
  · rw [e]; rcases h.imm with rfl | rfl <;> rfl
  · rw [e]; rfl
theorem Chain.off (h : Chain n c A) {k : Nat} (hk : k < n) : ii (A k).fOff = 0 := by
  rw [h.ja k hk]
  rfl
theorem Chain.plain (h : Chain n c A) : Plain (n + 2) A := by
  have hm := h.most
  refine ⟨by omega, by omega, fun k hk hk' hs => ?_, fun k hk hs => h.names hk, ?_⟩
  · rcases h.cases hk with ⟨_, e⟩ | ⟨_, e⟩ | ⟨_, e⟩
    · exact err_ja e
    · unfold errB
      rw [e]
      rcases h.imm with rfl | rfl <;> rfl
    · exact err_exit e
  · unfold endOk lastAt
    rw [show n + 2 - 1 = n + 1 by omega, h.sec (show n + 1 ≤ n + 2 by omega)]
    simp only [Bool.false_eq_true, if_false]
    rw [h.ex]
    rfl
theorem Chain.check (h : Chain n c A) : m_insn_Check (n + 2) A = some (0, 0) := by
  refine h.plain.check fun p h0 h1 k hk hs => ?_
  unfold badJump
  by_cases q : k < n
  · rw [h.jumps q, h.off q, h0, h1, d_f (by omega), d_f (by omega), h.sec (by omega)]
    rfl
  · rw [h.jumps' hk (by omega)]
    rfl
theorem Chain.fine (h : Chain n c A) : ∃ N P, Fine (n + 2) A N P := by
  obtain ⟨r, h1, h2⟩ := check_fine (n + 2) A
  rw [h.check] at h1
  cases h1
  exact h2 rfl
theorem Chain.target (h : Chain n c A) {k : Nat} (hk : k < n) : m_insn_Target (n + 2) A (k : Int) = some (((k + 1 : Nat) : Int), true) := by
  obtain ⟨N, P, hf⟩ := h.fine
  rw [target_jump hf (show k < n + 2 by omega) (h.sec (by omega)) (h.jumps hk), h.off hk]
  rw [show (k : Int) + 1 + 0 = ((k + 1 : Nat) : Int) by omega]
theorem Chain.target' (h : Chain n c A) {k : Nat} (hk : k < n + 2) (hn : n ≤ k) : m_insn_Target (n + 2) A (k : Int) = some (0, false) := by
  obtain ⟨N, P, hf⟩ := h.fine
  have hm := h.most
  unfold m_insn_Target
  rw [operation_eq (show n + 2 ≤ 4096 by omega) hk, inR_nat' hk, Int.toNat_natCast, hf.known hk (h.sec (by omega)), h.sec (show k ≤ n + 2 by omega)]
  simp only [Option.bind_some]
  rw [ct (b := true && !false) rfl, ct (b := true) rfl, cf (h.names hk), cf (h.jumps' hk hn)]
theorem Chain.named (h : Chain n c A) {k : Nat} (hk : k < n + 2) : m_flow_program_named (n + 2) A (k : Int) = some (0, false) := by
  unfold m_flow_program_named
  rw [ct (inR_nat' hk), Int.toNat_natCast]
  by_cases q : k < n
  · rw [ct (h.jumps q)]
  · rw [cf (h.jumps' hk (by omega)), h.target' hk (by omega)]
    rfl
theorem Chain.next (h : Chain n c A) {k : Nat} (hk : k ≤ n) : m_flow_program_next (n + 2) A (k : Int) = some (.e1 ((k + 1 : Nat) : Int)) := by
  have hm := h.most
  unfold m_flow_program_next
  rw [ct (inR_nat' (show k < n + 2 by omega)), Int.toNat_natCast, width_eq, h.wid (show k < n + 2 by omega)]
  simp only [bindT]
  by_cases q : k < n
  · rw [cf (show ((A k).fOp == 149#8) = false by rw [h.ja k q]; rfl), ct (h.jumps q), h.target q]
    simp only [Option.bind_some]
    rw [ct (show ((A k).fOp == 5#8) = true by rw [h.ja k q]; rfl)]
  · obtain rfl : k = n := by omega
    rw [cf (show ((A k).fOp == 149#8) = false by rw [h.mov]; rfl), cf (h.jumps' (by omega) (Nat.le_refl _)), show ((1 : Nat) : Int) = 1 from rfl, w_succ (by omega)]
theorem Chain.next' (h : Chain n c A) : m_flow_program_next (n + 2) A ((n + 1 : Nat) : Int) = some .e0 := by
  unfold m_flow_program_next
  rw [ct (inR_nat' (show n + 1 < n + 2 by omega)), Int.toNat_natCast]
  simp only [bindT]
  rw [ct (show ((A (n + 1)).fOp == 149#8) = true by rw [h.ex]; rfl)]
/-- The first slots up to one. -/
def rel (k : Nat) : Nat → Bool := fun j => decide (j ≤ k)
theorem rel_succ (k : Nat) : updF (rel k) (k + 1) true = rel (k + 1) := by
  funext j
  unfold updF rel
  by_cases e : j = k + 1
  · rw [if_pos e, d_t (by omega)]
  · rw [if_neg e]
    by_cases q : j ≤ k
    · rw [d_t q, d_t (by omega)]
    · rw [d_f q, d_f (by omega)]
theorem rel_zero : updF (fun _ => false) 0 true = rel 0 := by
  funext j
  unfold updF rel
  by_cases e : j = 0
  · rw [if_pos e, d_t (by omega)]
  · rw [if_neg e, d_f (by omega)]
theorem Chain.reached (h : Chain n c A) : m_flow_program_reached (n + 2) A = some (.e0 (rel (n + 1))) := by
  have hm := h.most
  obtain ⟨r, h1, h2⟩ := lpO_ind (st := st_flow_program_reached_L0 (n + 2) A)
    (fun s => match s with | .c0 => True | .c1 R W Q => ∃ k : Nat, R = rel k ∧ k ≤ n + 1 ∧ ((W = 1 ∧ Q 0 = (k : Int)) ∨ (W = 0 ∧ k = n + 1)))
    (fun s => match s with | .c0 => 10000 | .c1 R 0 Q => 0 | .c1 R (_ + 1) Q => n + 2 - (Q 0).toNat) (fun _ r => r = .e0 (rel (n + 1))) (fun s hs => by
      cases s with
      | c0 =>
        refine .inl ⟨.c1 (rel 1) 1 (updF (fun _ => 0) 0 1), ?_, ⟨1, rfl, by omega, .inl ⟨rfl, rfl⟩⟩, by show n + 2 - (1 : Int).toNat < 10000; omega, fun r hr => hr⟩
        have hn := h.next (k := 0) (by omega)
        have hd := h.named (k := 0) (by omega)
        simp only [Int.natCast_zero, Nat.zero_add, Int.natCast_one] at hn hd
        unfold st_flow_program_reached_L0
        simp only
        rw [hn]
        simp only [Option.bind_some]
        rw [hd]
        simp only [Option.bind_some]
        rw [cf (b := false) rfl, ct (show inR 1 (n + 2) = true from inR_iff.2 ⟨by omega, by omega⟩), rel_zero, cf (show rel 0 (1 : Int).toNat = false from rfl), show updF (rel 0) (1 : Int).toNat true = rel 1 from rel_succ 0]
      | c1 R W Q =>
        obtain ⟨k, rfl, hk, ⟨rfl, hQ⟩ | ⟨rfl, rfl⟩⟩ := hs
        · have e1 : IntKind.i64.wrap (((1 : Nat) : Int) - 1) = ((0 : Nat) : Int) := by rw [wr] <;> omega
          by_cases q : k ≤ n
          · refine .inl ⟨.c1 (rel (k + 1)) (0 + 1) (updF Q 0 ((k + 1 : Nat) : Int)), ?_, ⟨k + 1, rfl, by omega, .inl ⟨rfl, updF_at _ _ _⟩⟩, ?_, fun r hr => hr⟩
            · unfold st_flow_program_reached_L0
              simp only
              rw [ct (d_t (by omega)), e1, ct (inR_nat' (by omega)), ct (inR_nat' (by omega)), ct (d_t (by omega)), Int.toNat_natCast, hQ, h.next q]
              simp only [Option.bind_some]
              rw [h.named (by omega)]
              simp only [Option.bind_some]
              rw [cf (b := false) rfl, ct (inR_nat' (by omega)), Int.toNat_natCast, cf (show rel k (k + 1) = false from d_f (by omega)), ct (d_t (by omega)), rel_succ]
            · show n + 2 - (updF Q 0 ((k + 1 : Nat) : Int) 0).toNat < n + 2 - (Q 0).toNat
              rw [updF_at, hQ]
              simp only [Int.toNat_natCast]
              omega
          · obtain rfl : k = n + 1 := by omega
            refine .inl ⟨.c1 (rel (n + 1)) 0 Q, ?_, ⟨n + 1, rfl, by omega, .inr ⟨rfl, rfl⟩⟩, ?_, fun r hr => hr⟩
            · unfold st_flow_program_reached_L0
              simp only
              rw [ct (d_t (by omega)), e1, ct (inR_nat' (by omega)), ct (inR_nat' (by omega)), ct (d_t (by omega)), Int.toNat_natCast, hQ, h.next']
              simp only [Option.bind_some]
              rw [h.named (by omega)]
              simp only [Option.bind_some]
              rw [cf (b := false) rfl]
            · show 0 < n + 2 - (Q 0).toNat
              rw [hQ]
              simp only [Int.toNat_natCast]
              omega
        · refine .inr ⟨_, ?_, rfl⟩
          unfold st_flow_program_reached_L0
          simp only
          rw [cf (d_f (by omega))]) .c0 trivial
  unfold m_flow_program_reached
  rw [ct (d_t (by omega)), ct (show inR 0 (n + 2) = true from inR_iff.2 ⟨by omega, by omega⟩), h1, h2]
  rfl
theorem Chain.Reached (h : Chain n c A) : m_flow_Reached (n + 2) A = some (.e0 (rel (n + 1))) := by
  unfold m_flow_Reached
  rw [h.check]
  simp only [Option.bind_some]
  rw [ct (by rfl), h.reached]
  rfl
/-- What is kept, once the jumps from k on are gone. -/
def kp (n k : Nat) : Nat → Bool := fun j => decide (j ≤ n + 1) && (decide (j < k) || decide (n ≤ j))
theorem kp_all (n : Nat) : rel (n + 1) = kp n n := by
  funext j
  unfold rel kp
  by_cases q : j < n
  · rw [d_t q, Bool.true_or, Bool.and_true]
  · rw [d_f q, d_t (show n ≤ j by omega)]
    simp
theorem kp_drop {k : Nat} (hk : k < n) : updF (kp n (k + 1)) k false = kp n k := by
  funext j
  unfold updF kp
  by_cases e : j = k
  · rw [if_pos e, d_f (show ¬ j < k by omega), d_f (show ¬ n ≤ j by omega)]
    simp
  · rw [if_neg e]
    by_cases q : j < k
    · rw [d_t q, d_t (show j < k + 1 by omega)]
    · rw [d_f q, d_f (show ¬ j < k + 1 by omega)]
theorem Chain.goesOn (h : Chain n c A) {k : Nat} (hk : k < n) (K : Nat → Bool) : m_opt_goesOn (n + 2) A (k : Int) (n + 2) K = some true := by
  have hm := h.most
  unfold m_opt_goesOn
  rw [h.target hk]
  simp only [Option.bind_some]
  rw [cf (d_f (by omega)), w_succ (by omega), ct (inR_nat' (by omega)), ct (inR_nat' (by omega)), ct (d_t (by omega))]
  have : lpO (st_opt_goesOn_L0 (k : Int) (n + 2) K (((k + 1 : Nat) : Int), true)) (.c0 0) = some .e0 := lpO_end (by
    unfold st_opt_goesOn_L0
    simp only
    rw [w_succ (by omega), Nat.sub_self, cf (d_f (by omega))])
  rw [this]
  rfl
theorem Chain.kept (h : Chain n c A) : m_opt_kept (n + 2) A = some (.e0 (kp n 0)) := by
  have hm := h.most
  obtain ⟨r, h1, h2⟩ := lpO_ind (st := st_opt_kept_L0 (n + 2) A) (fun s => match s with | .c0 K y => K = kp n n ∧ ∃ k : Nat, y = (k : Int) ∧ k ≤ n + 2) (fun s => match s with | .c0 K y => n + 2 - y.toNat) (fun _ r => r = .e0 (kp n n)) (fun s hs => by
    obtain ⟨K, y⟩ := s
    obtain ⟨rfl, k, rfl, hk⟩ := hs
    by_cases q : k < n + 2
    · refine .inl ⟨.c0 (kp n n) ((k + 1 : Nat) : Int), ?_, ⟨rfl, k + 1, rfl, by omega⟩, by show n + 2 - ((k + 1 : Nat) : Int).toNat < n + 2 - (k : Int).toNat; omega, fun r hr => hr⟩
      unfold st_opt_kept_L0
      simp only
      rw [ct (d_t (by omega)), ct (inR_nat' q), Int.toNat_natCast, cf (h.op q), w_succ (by omega)]
    · refine .inr ⟨_, ?_, rfl⟩
      unfold st_opt_kept_L0
      simp only
      rw [cf (d_f (by omega))]) (.c0 (kp n n) 0) ⟨rfl, 0, rfl, by omega⟩
  subst h2
  obtain ⟨r, h3, h4⟩ := lpO_ind (st := st_opt_kept_L1 (n + 2) A) (fun s => match s with | .c0 K y => ∃ k : Nat, y = (k : Int) - 1 ∧ k ≤ n + 2 ∧ K = kp n (min k n)) (fun s => match s with | .c0 K y => (y + 1).toNat) (fun _ r => r = .e0 (kp n 0)) (fun s hs => by
    obtain ⟨K, y⟩ := s
    obtain ⟨k, rfl, hk, rfl⟩ := hs
    cases k with
    | zero =>
      refine .inr ⟨_, ?_, rfl⟩
      unfold st_opt_kept_L1
      simp only
      rw [cf (d_f (by omega)), Nat.zero_min]
    | succ k =>
      have e0 : ((k + 1 : Nat) : Int) - 1 = (k : Int) := by omega
      have e1 : IntKind.i64.wrap ((k : Int) - 1) = (k : Int) - 1 := by rw [wr] <;> omega
      refine .inl ⟨.c0 (kp n (min k n)) ((k : Int) - 1), ?_, ⟨k, rfl, by omega, rfl⟩, by show ((k : Int) - 1 + 1).toNat < (((k + 1 : Nat) : Int) - 1 + 1).toNat; omega, fun r hr => hr⟩
      rw [e0]
      unfold st_opt_kept_L1
      simp only
      rw [ct (d_t (by omega)), ct (inR_nat' (show k < n + 2 by omega)), Int.toNat_natCast, e1]
      by_cases q : k < n
      · rw [show min (k + 1) n = k + 1 by omega, show min k n = k by omega, ct (show kp n (k + 1) k = true by unfold kp; rw [d_t (show k ≤ n + 1 by omega), d_t (show k < k + 1 by omega)]; rfl), ct (show ((A k).fOp == 5#8) = true by rw [h.ja k q]; rfl), h.goesOn q]
        simp only [Option.bind_some]
        rw [ct (b := true) rfl, kp_drop q]
      · rw [show min (k + 1) n = n by omega, show min k n = n by omega, ct (show kp n n k = true by unfold kp; rw [d_t (show k ≤ n + 1 by omega), d_t (show n ≤ k by omega)]; simp)]
        rw [cf (show ((A k).fOp == 5#8) = false by
          rcases h.cases (show k < n + 2 by omega) with ⟨q', e⟩ | ⟨_, e⟩ | ⟨_, e⟩
          · omega
          · rw [e]; rfl
          · rw [e]; rfl)]) (.c0 (kp n n) (((n + 2 : Nat) : Int) - 1)) ⟨n + 2, rfl, by omega, by rw [show min (n + 2) n = n by omega]⟩
  subst h4
  have e1 : IntKind.i64.wrap (((n + 2 : Nat) : Int) - 1) = ((n + 2 : Nat) : Int) - 1 := by rw [wr] <;> omega
  unfold m_opt_kept
  rw [h.Reached]
  simp only [Option.bind_some]
  rw [kp_all, h1]
  simp only [Option.bind_some]
  rw [e1, h3]
  rfl
end
end Go.Proofs.Ytkfmmcobmjkilaa

