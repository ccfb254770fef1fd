/-
  Instructions: a jump in a row of moves and an exit (the law InsnJumps), in plain words.
-/
import Derived.Test.YtmlkiamemkfdlaaS1P
import Derived.Test.YtmlkiamemkfdlaaS1XJumpsB
namespace Go.Proofs.Ytmlkiamemkfdlaa
open Go.RowKit
set_option linter.unusedVariables false
set_option linter.unusedSimpArgs false
abbrev jmp (op : BitVec 8) (y : Int) : Insn := ⟨op, 0#8, 0#8, BitVec.ofInt 16 y, 0#32⟩
/-- The three jumps of the law. -/
def JOp (op : BitVec 8) : Prop := op = 5#8 ∨ op = 21#8 ∨ op = 22#8
theorem JOp.known {op : BitVec 8} (h : JOp op) (y : Int) : m_insn_known (jmp op y) = true := by
  rcases h with rfl | rfl | rfl <;> simp [m_insn_known, m_insn_compares, m_insn_knownAlu, m_insn_plainOperand, bindT]
theorem JOp.names {op : BitVec 8} (h : JOp op) (y : Int) : m_insn_names (jmp op y) = false := by
  rcases h with rfl | rfl | rfl <;> simp [m_insn_names]
theorem JOp.jumps {op : BitVec 8} (h : JOp op) (y : Int) : m_op_Jumps (jmp op y) = true := by
  rcases h with rfl | rfl | rfl <;> simp [m_op_Jumps]
theorem JOp.wide {op : BitVec 8} (h : JOp op) (y : Int) : wideB (jmp op y) = false := by
  rcases h with rfl | rfl | rfl <;> rfl
theorem JOp.err {op : BitVec 8} (h : JOp op) {y : Int} {n : Nat} {A : Nat → Insn} {k : Nat} (e : A k = jmp op y) : errB n A k = 0 := by
  unfold errB
  rw [e, h.known, h.names, h.wide]
  rcases h with rfl | rfl | rfl <;> rfl
structure JRow (n a : Nat) (op : BitVec 8) (y : Int) (A : Nat → Insn) : Prop where
  lt : a < n
  small : n ≤ 100
  jop : JOp op
  off : -1000 ≤ y ∧ y ≤ 1000
  mov : ∀ j, j < n → j ≠ a → A j = mov0
  at_ : A a = jmp op y
  exit : A n = exit0
section
variable {n a : Nat} {op : BitVec 8} {y : Int} {A : Nat → Insn}
theorem JRow.cases (h : JRow n a op y A) {j : Nat} (hj : j < n + 1) : (j = a ∧ A j = jmp op y) ∨ (j ≠ a ∧ (A j = mov0 ∨ A j = exit0)) := by
  by_cases c : j = a
  · exact .inl ⟨c, by rw [c]; exact h.at_⟩
  · by_cases c2 : j < n
    · exact .inr ⟨c, .inl (h.mov j c2 c)⟩
    · exact .inr ⟨c, .inr (by rw [show j = n by omega]; exact h.exit)⟩
theorem JRow.sec (h : JRow n a op y A) : ∀ {j : Nat}, j ≤ n + 1 → sec A j = false
  | 0, _ => rfl
  | j + 1, hj => by
    show (wideB (A j) && !Go.Proofs.Ytmlkiamemkfdlaa.sec A j) = false
    have : wideB (A j) = false := by
      rcases h.cases (show j < n + 1 by omega) with ⟨_, e⟩ | ⟨_, e | e⟩ <;> rw [e]
      · exact h.jop.wide y
      · rfl
      · rfl
    rw [this]; rfl
theorem JRow.plain (h : JRow n a op y A) : Plain (n + 1) A where
  pos := by omega
  most := by have := h.small; omega
  ok := fun j h1 h2 h3 => by
    rcases h.cases h2 with ⟨_, e⟩ | ⟨_, e | e⟩
    · exact h.jop.err e
    · exact err_mov e
    · exact err_exit e
  names := fun j h1 h2 => by
    rcases h.cases h1 with ⟨_, e⟩ | ⟨_, e | e⟩ <;> rw [e]
    · exact h.jop.names y
    · rfl
    · rfl
  ends := by
    unfold endOk lastAt
    rw [show n + 1 - 1 = n from rfl, h.sec (by omega), if_neg (by simp), h.exit]
    rfl
theorem JRow.stay (h : JRow n a op y A) (p : Part) {j : Nat} (hj : j < n + 1) (ha : j ≠ a) : badJump A p j = false := by
  have : m_op_Jumps (A j) = false := by
    rcases h.cases hj with ⟨e, _⟩ | ⟨_, e | e⟩
    · exact absurd e ha
    · rw [e]; rfl
    · rw [e]; rfl
  unfold badJump
  rw [this, Bool.false_and]
theorem JRow.off16 (h : JRow n a op y A) : ii (BitVec.ofInt 16 y) = y := by
  have := h.off
  unfold ii
  rw [BitVec.toInt_ofInt, Int.bmod_eq_of_le] <;> omega
theorem JRow.bad (h : JRow n a op y A) (p : Part) (q1 : p.fFrom = 0) (q2 : p.fTo = ((n + 1 : Nat) : Int)) : badJump A p a = (decide ((a : Int) + 1 + y < 0) || decide (((n : Int) < (a : Int) + 1 + y))) := by
  unfold badJump
  rw [h.at_, h.jop.jumps, q1, q2]
  show (true && (decide ((a : Int) + 1 + ii (BitVec.ofInt 16 y) < 0) || (decide (((n + 1 : Nat) : Int) ≤ (a : Int) + 1 + ii (BitVec.ofInt 16 y)) || Go.Proofs.Ytmlkiamemkfdlaa.sec A ((a : Int) + 1 + ii (BitVec.ofInt 16 y)).toNat))) = _
  rw [h.off16]
  by_cases c1 : (a : Int) + 1 + y < 0
  · rw [d_t c1]; rfl
  · by_cases c2 : (n : Int) < (a : Int) + 1 + y
    · rw [d_t c2, d_t (p := ((n + 1 : Nat) : Int) ≤ (a : Int) + 1 + y) (by omega)]; simp
    · rw [d_f c1, d_f c2, d_f (p := ((n + 1 : Nat) : Int) ≤ (a : Int) + 1 + y) (by omega), h.sec (by omega)]; rfl
theorem JRow.check (h : JRow n a op y A) : m_insn_Check (n + 1) A = some (if (a : Int) + 1 + y < 0 ∨ (n : Int) < (a : Int) + 1 + y then ((a : Int), 15) else (0, 0)) := by
  by_cases c : (a : Int) + 1 + y < 0 ∨ (n : Int) < (a : Int) + 1 + y
  · rw [if_pos c]
    refine h.plain.jump a (by have := h.lt; omega) (h.sec (by have := h.lt; omega)) (fun p q1 q2 => ?_) (fun p _ _ j hj _ => h.stay p (by have := h.lt; omega) (by omega))
    rw [h.bad p q1 q2]
    simpa using c
  · rw [if_neg c]
    refine h.plain.check fun p q1 q2 j hj _ => ?_
    by_cases ha : j = a
    · subst ha
      rw [h.bad p q1 q2]
      simp only [not_or] at c
      rw [d_f c.1, d_f c.2]; rfl
    · exact h.stay p hj ha
theorem JRow.target (h : JRow n a op y A) : m_insn_Target (n + 1) A (a : Int) = some (if (a : Int) + 1 + y < 0 ∨ (n : Int) < (a : Int) + 1 + y then (0, false) else ((a : Int) + 1 + y, true)) := by
  have hl := h.lt
  have hs := h.small
  have ho := h.off
  have e1 : IntKind.i64.wrap ((a : Int) + 1) = (a : Int) + 1 := by rw [wr] <;> omega
  have e3 : IntKind.i64.wrap ((a : Int) + 1 + y) = (a : Int) + 1 + y := by rw [wr] <;> omega
  have eo : m_insn_operation (n + 1) A (a : Int) = some true := by
    unfold m_insn_operation
    rw [d_t (p := (0 : Int) ≤ (a : Int)) (by omega), d_t (p := (a : Int) < ((n + 1 : Nat) : Int)) (by omega), inR_nat' (by omega), Int.toNat_natCast, second_eq (by omega) (by omega), h.at_, h.jop.known, h.sec (by omega)]
    rfl
  unfold m_insn_Target
  rw [eo, inR_nat' (show a < n + 1 by omega), Int.toNat_natCast, h.at_, h.jop.names, h.jop.jumps]
  simp only [Option.bind_some, cond_true, cond_false, e1, h.off16, e3]
  by_cases c1 : (a : Int) + 1 + y < 0
  · rw [d_t c1, if_pos (.inl c1)]; rfl
  · by_cases c2 : (n : Int) < (a : Int) + 1 + y
    · rw [d_f c1, d_t (p := ((n + 1 : Nat) : Int) ≤ (a : Int) + 1 + y) (by omega), if_pos (.inr c2)]; rfl
    · rw [d_f c1, d_f (p := ((n + 1 : Nat) : Int) ≤ (a : Int) + 1 + y) (by omega), if_neg (by omega)]; rfl
end
theorem jumps_loop {n : Nat} (hn : 0 < n) (hn' : n ≤ 100) : ∃ A, lpO (st_barbicanlaw1_InsnJumps_L0 (n : Int)) (.c0) = some (.e1 n A) ∧ ∀ j, j < n → A j = mov0 := by
  have key : ∃ r, lpO (st_barbicanlaw1_InsnJumps_L0 (n : Int)) (.c0) = some r ∧ ∃ A, r = .e1 n A ∧ ∀ j, j < n → A j = mov0 := by
    refine lpO_ind (st := st_barbicanlaw1_InsnJumps_L0 (n : Int)) (fun s => match s with | .c0 => True | .c1 k A x => x = (k : Int) ∧ 0 < k ∧ k ≤ n ∧ ∀ j, j < k → A j = mov0) (fun s => match s with | .c0 => 200 | .c1 k A x => 199 - k)
      (fun _ r => ∃ A, r = .e1 n A ∧ ∀ j, j < n → A j = mov0) ?_ .c0 trivial
    rintro (_ | ⟨k, A, x⟩) hI
    · refine .inl ⟨.c1 1 (fun _ => mov0) 1, ?_, ⟨rfl, by omega, by omega, fun j _ => rfl⟩, by show 199 - 1 < 200; omega, fun r hr => hr⟩
      simp only [st_barbicanlaw1_InsnJumps_L0, d_t (p := 0 < (n : Int)) (by omega), cond_true]
    · obtain ⟨rfl, hk, hle, hA⟩ := hI
      by_cases h : k < n
      · have e1 : IntKind.i64.wrap ((k : Int) + 1) = ((k + 1 : Nat) : Int) := by rw [wr] <;> omega
        refine .inl ⟨.c1 (k + 1) (updF A k mov0) ((k + 1 : Nat) : Int), ?_, ⟨rfl, by omega, by omega, fun j hj => ?_⟩, by show 199 - (k + 1) < 199 - k; omega, fun r hr => hr⟩
        · simp only [st_barbicanlaw1_InsnJumps_L0, d_t (p := (k : Int) < (n : Int)) (by omega), cond_true, d_t (p := k ≤ 1000000) (by omega), e1]
        · by_cases hj2 : j = k
          · subst hj2; exact updF_at _ _ _
          · rw [updF_ne _ _ hj2]; exact hA j (by omega)
      · obtain rfl : k = n := by omega
        refine .inr ⟨.e1 k A, ?_, A, rfl, hA⟩
        simp only [st_barbicanlaw1_InsnJumps_L0, d_f (p := (k : Int) < (k : Int)) (by omega), cond_false]
  obtain ⟨r, hr, A, rfl, hA⟩ := key
  exact ⟨A, hr, hA⟩
theorem JRow.turn {n a : Nat} {op : BitVec 8} {y : Int} {A : Nat → Insn} (h : JRow n a op y A) {op' : BitVec 8} (h' : JOp op') : JRow n a op' y (updF A a ⟨op', (A a).fDst, (A a).fSrc, (A a).fOff, (A a).fImm⟩) :=
  ⟨h.lt, h.small, h', h.off, fun j h1 h2 => by rw [updF_ne _ _ h2]; exact h.mov j h1 h2, by rw [updF_at, h.at_], by rw [updF_ne _ _ (by have := h.lt; omega)]; exact h.exit⟩
theorem jumps_end {n a : Nat} {y : Int} {r4 : Int × Int} {r5 : Int × Bool} (h4 : r4 = if (a : Int) + 1 + y < 0 ∨ (n : Int) < (a : Int) + 1 + y then ((a : Int), 15) else (0, 0)) (h5 : r5 = if (a : Int) + 1 + y < 0 ∨ (n : Int) < (a : Int) + 1 + y then (0, false) else ((a : Int) + 1 + y, true)) :
    (bif r5.2 then
      (bif decide ((a : Int) + 1 + y < 0) then (bif r4.2 == 15 then (bif r4.1 == (a : Int) then some false else some false) else some false)
      else (bif decide ((n : Int) < (a : Int) + 1 + y) then (bif r4.2 == 15 then (bif r4.1 == (a : Int) then some false else some false) else some false)
      else (bif r4.2 == 0 then (bif r4.1 == 0 then some (r5.1 == (a : Int) + 1 + y) else some false) else some false)))
    else (bif decide ((a : Int) + 1 + y < 0) then (bif r4.2 == 15 then (bif r4.1 == (a : Int) then some true else some false) else some false)
      else (bif decide ((n : Int) < (a : Int) + 1 + y) then (bif r4.2 == 15 then (bif r4.1 == (a : Int) then some true else some false) else some false)
      else (bif r4.2 == 0 then (bif r4.1 == 0 then some false else some false) else some false)))) = some true := by
  by_cases c1 : (a : Int) + 1 + y < 0
  · rw [if_pos (.inl c1)] at h4 h5
    subst h4 h5
    rw [d_t c1]; simp
  · by_cases c2 : (n : Int) < (a : Int) + 1 + y
    · rw [if_pos (.inr c2)] at h4 h5
      subst h4 h5
      rw [d_f c1, d_t c2]; simp
    · rw [if_neg (by omega)] at h4 h5
      subst h4 h5
      rw [d_f c1, d_f c2]; simp
theorem c_t {α : Type} (x y : α) : (bif true then x else y) = x := by simp
theorem c_f {α : Type} (x y : α) : (bif false then x else y) = y := by simp
theorem jumps_true (y0 y1 y2 : Int) (y3 y4 : Bool) : m_barbicanlaw1_InsnJumps y0 y1 y2 y3 y4 = some true := by
  unfold m_barbicanlaw1_InsnJumps
  by_cases h0 : y0 < 1
  · rw [d_t h0]; exact c_t _ _
  rw [d_f h0, c_f]
  by_cases h1 : 100 < y0
  · rw [d_t h1]; exact c_t _ _
  rw [d_f h1, c_f]
  by_cases h2 : y1 < 0
  · rw [d_t h2]; exact c_t _ _
  rw [d_f h2, c_f]
  by_cases h3 : y0 ≤ y1
  · rw [d_t h3]; exact c_t _ _
  rw [d_f h3, c_f]
  by_cases h4 : y2 < -1000
  · rw [d_t h4]; exact c_t _ _
  rw [d_f h4, c_f]
  by_cases h5 : 1000 < y2
  · rw [d_t h5]; exact c_t _ _
  rw [d_f h5, c_f]
  obtain ⟨n, rfl⟩ := Int.eq_ofNat_of_zero_le (show 0 ≤ y0 by omega)
  obtain ⟨a, rfl⟩ := Int.eq_ofNat_of_zero_le (show 0 ≤ y1 by omega)
  obtain ⟨A, hr, hA⟩ := jumps_loop (n := n) (by omega) (by omega)
  rw [hr]
  have e1 : IntKind.i64.wrap ((a : Int) + 1) = (a : Int) + 1 := by rw [wr] <;> omega
  have e2 : IntKind.i64.wrap ((a : Int) + 1 + y2) = (a : Int) + 1 + y2 := by rw [wr] <;> omega
  have hJ : JRow n a 5#8 y2 (updF (updF A n exit0) a (jmp 5#8 y2)) :=
    ⟨by omega, by omega, .inl rfl, by omega, fun j g1 g2 => by rw [updF_ne _ _ g2, updF_ne _ _ (by omega)]; exact hA j g1, updF_at _ _ _, by rw [updF_ne _ _ (by omega), updF_at]⟩
  have hJ1 := hJ.turn (op' := 21#8) (.inr (.inl rfl))
  have hJ2 := hJ1.turn (op' := 22#8) (.inr (.inr rfl))
  simp only [Option.bind_some]
  rw [d_t (p := n ≤ 1000000) (by omega), c_t, inR_nat' (show a < n + 1 by omega), c_t, Int.toNat_natCast, e1, e2]
  simp only [bindT]
  cases y3
  · simp only [c_f]
    rw [hJ.check, hJ.target]
    simp only [Option.bind_some]
    exact jumps_end rfl rfl
  · simp only [c_t]
    cases y4
    · simp only [c_f]
      rw [hJ1.check, hJ1.target]
      simp only [Option.bind_some]
      exact jumps_end rfl rfl
    · simp only [c_t]
      rw [hJ2.check, hJ2.target]
      simp only [Option.bind_some]
      exact jumps_end rfl rfl
end Go.Proofs.Ytmlkiamemkfdlaa
