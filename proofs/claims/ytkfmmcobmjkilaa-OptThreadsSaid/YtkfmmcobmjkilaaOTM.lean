/-
  Programs threaded: where their jumps go, in plain words.
-/
import Derived.Test.YtkfmmcobmjkilaaS1QF
import Derived.Test.YtkfmmcobmjkilaaON
namespace Go.Proofs.Ytkfmmcobmjkilaa
open Go.RowKit
set_option linter.unusedVariables false
set_option linter.unusedSimpArgs false
theorem ii_of16 {x : Int} (h0 : -32768 ≤ x) (h1 : x < 32768) : ii (BitVec.ofInt 16 x) = x := by
  unfold ii
  rw [BitVec.toInt_ofInt, Int.bmod_eq_of_le] <;> omega
theorem jumps_low {x : Insn} (h : m_op_Jumps x = true) : ((x.fOp &&& 7#8) == 4#8) = false ∧ ((x.fOp &&& 7#8) == 7#8) = false := by
  unfold m_op_Jumps at h
  revert h
  generalize x.fOp = o
  revert o
  decide
theorem jumps_same {x y : Insn} (h : y.fOp = x.fOp) : m_op_Jumps y = m_op_Jumps x := by
  unfold m_op_Jumps
  rw [h]
theorem known_off {x : Insn} (h : m_op_Jumps x = true) (o : BitVec 16) : m_insn_known (⟨x.fOp, x.fDst, x.fSrc, o, x.fImm⟩ : Insn) = m_insn_known x := by
  obtain ⟨h24, h133, h149⟩ := jumps_not h
  obtain ⟨h4, h7⟩ := jumps_low h
  unfold m_insn_known m_insn_compares m_insn_plainOperand
  simp only [h24, h133, h149, h4, h7, cond_false, beq_self_eq_true]
/-- As A, but for the offsets of jumps. -/
structure Alike (n : Nat) (A M : Nat → Insn) : Prop where
  op : ∀ k, k < n → (M k).fOp = (A k).fOp
  dst : ∀ k, k < n → (M k).fDst = (A k).fDst
  src : ∀ k, k < n → (M k).fSrc = (A k).fSrc
  imm : ∀ k, k < n → (M k).fImm = (A k).fImm
  off : ∀ k, k < n → m_op_Jumps (A k) = false → (M k).fOff = (A k).fOff
section
variable {n N : Nat} {A M : Nat → Insn} {P : Nat → Part}
theorem Alike.eq (h : Alike n A M) {k : Nat} (hk : k < n) : M k = ⟨(A k).fOp, (A k).fDst, (A k).fSrc, (M k).fOff, (A k).fImm⟩ := by
  have h1 := h.op k hk
  have h2 := h.dst k hk
  have h3 := h.src k hk
  have h4 := h.imm k hk
  cases hm : M k
  rw [hm] at h1 h2 h3 h4
  simp only at h1 h2 h3 h4
  rw [h1, h2, h3, h4]
theorem Alike.plain (h : Alike n A M) {k : Nat} (hk : k < n) (hj : m_op_Jumps (A k) = false) : M k = A k := by
  rw [h.eq hk, h.off k hk hj]
theorem Alike.wide (h : Alike n A M) {k : Nat} (hk : k < n) : wideB (M k) = wideB (A k) := by unfold wideB; rw [h.op k hk]
theorem Alike.sec (h : Alike n A M) : ∀ {k : Nat}, k ≤ n → sec M k = sec A k
  | 0, _ => rfl
  | k + 1, hk => by
    show (wideB (M k) && !Go.Proofs.Ytkfmmcobmjkilaa.sec M k) = (wideB (A k) && !Go.Proofs.Ytkfmmcobmjkilaa.sec A k)
    rw [h.wide (show k < n by omega), h.sec (show k ≤ n by omega)]
theorem Alike.known (h : Alike n A M) {k : Nat} (hk : k < n) : m_insn_known (M k) = m_insn_known (A k) := by
  cases hj : m_op_Jumps (A k)
  · rw [h.plain hk hj]
  · rw [h.eq hk, known_off hj]
theorem Alike.names (h : Alike n A M) {k : Nat} (hk : k < n) : m_insn_names (M k) = m_insn_names (A k) := by
  unfold m_insn_names
  rw [h.op k hk, h.src k hk]
theorem Alike.callB (h : Alike n A M) (t : Int) : callB n M t = callB n A t := by
  unfold Go.Proofs.Ytkfmmcobmjkilaa.callB
  by_cases h1 : 0 < t
  · by_cases h2 : t < n
    · rw [h.sec (show t.toNat ≤ n by omega)]
    · rw [d_f h2, Bool.false_and, Bool.false_and]
  · rw [d_f h1, Bool.false_and, Bool.false_and]
theorem op0_jumps {x : Insn} (h : x.fOp = 0#8) : m_op_Jumps x = false := by
  unfold m_op_Jumps
  rw [h]
  rfl
theorem right_op {k : Nat} (h : rightB n A k = true) : (A (k + 1)).fOp = 0#8 := by
  unfold rightB at h
  simp only [Bool.and_eq_true] at h
  simpa using h.2.1
theorem Alike.right (h : Alike n A M) {k : Nat} (hk : k < n) (hr : rightB n A k = true) : rightB n M k = true := by
  have h0 := right_op hr
  have hkn : k + 1 < n := by
    unfold rightB at hr
    simp only [Bool.and_eq_true, decide_eq_true_eq] at hr
    have := hr.1
    omega
  unfold rightB at hr ⊢
  rw [h.plain hkn (op0_jumps h0), h.src k hk]
  exact hr
theorem Alike.err (h : Alike n A M) {k : Nat} (hk : k < n) (he : errB n A k = 0) : errB n M k = 0 := by
  have hr := fun hw => err_right he hw
  unfold errB at he ⊢
  have hw : m_insn_writes (M k) = m_insn_writes (A k) := by unfold m_insn_writes; rw [h.op k hk]
  rw [h.known hk, h.dst k hk, h.src k hk, hw, h.wide hk, h.op k hk, h.imm k hk, h.names hk, h.callB]
  cases hwd : wideB (A k)
  · rw [hwd] at he
    exact he
  · rw [hwd, hr hwd] at he
    rw [h.right hk (hr hwd)]
    exact he
theorem Alike.ok (h : Alike n A M) (ho : okTo n A n) : okTo n M n := fun j hj hj' hs => h.err hj (ho j hj hj (by rw [← h.sec (show j ≤ n by omega)]; exact hs))
theorem Alike.beg (h : Alike n A M) (j : Nat) : Beg n A j → Beg n M j
  | .inl e => .inl e
  | .inr ⟨k, hk, hs, hm, he⟩ => .inr ⟨k, hk, by rw [h.sec (show k ≤ n by omega)]; exact hs, by rw [h.names hk]; exact hm, by rw [h.imm k hk]; exact he⟩
theorem Alike.beg' (h : Alike n A M) (j : Nat) : Beg n M j → Beg n A j
  | .inl e => .inl e
  | .inr ⟨k, hk, hs, hm, he⟩ => .inr ⟨k, hk, by rw [← h.sec (show k ≤ n by omega)]; exact hs, by rw [← h.names hk]; exact hm, by rw [← h.imm k hk]; exact he⟩
theorem Alike.last (h : Alike n A M) {t : Nat} (h0 : 0 < t) (ht : t ≤ n) : endOk M t = endOk A t := by
  unfold endOk lastAt
  rw [h.sec (show t - 1 ≤ n by omega)]
  split
  · rw [h.op _ (show t - 2 < n by omega)]
  · rw [h.op _ (show t - 1 < n by omega)]
theorem Alike.subs (h : Alike n A M) (hs : SubsIs n A (.e1 N P)) : SubsIs n M (.e1 N P) := by
  cases hs with
  | fine h0 hn hok g hg _ _ hN hP h64 he =>
    refine .fine h0 hn (h.ok hok) g (fun j => ⟨fun q => h.beg j ((hg j).1 q), fun q => (hg j).2 (h.beg' j q)⟩) N P hN hP h64 fun i hi => ?_
    have ht := hP.to hi
    have hl := hP.lt i hi
    rw [h.last (show 0 < (P i).fTo.toNat by omega) (by omega)]
    exact he i hi
/-! ### Where Jas lead -/
/-- The slot that a jump goes to. -/
def goto (A : Nat → Insn) (k : Nat) : Nat := ((k : Int) + 1 + ii (A k).fOff).toNat
noncomputable def isJa (A : Nat → Insn) (k : Nat) : Bool := (A k).fOp == 5#8
/-- Where so many Jas lead, behind a jump. -/
noncomputable def way (A : Nat → Insn) (k : Nat) : Nat → Nat
  | 0 => goto A k
  | m + 1 => if isJa A (way A k m) then goto A (way A k m) else way A k m
/-- A slot in a subprogram, one that begins an operation. -/
def InP (A : Nat → Insn) (p : Part) (k : Nat) : Prop := p.fFrom ≤ (k : Int) ∧ (k : Int) < p.fTo ∧ sec A k = false
theorem goto_in (hst : ∀ i, i < N → ∀ j : Nat, (P i).fFrom ≤ j → (j : Int) < (P i).fTo → sec A j = false → badJump A (P i) j = false) (hlt : ∀ i, i < N → 0 ≤ (P i).fFrom) {i k : Nat} (hi : i < N) (hk : InP A (P i) k) (hj : m_op_Jumps (A k) = true) :
    (k : Int) + 1 + ii (A k).fOff = ((goto A k : Nat) : Int) ∧ InP A (P i) (goto A k) := by
  have hb := hst i hi k hk.1 hk.2.1 hk.2.2
  have h0 := hlt i hi
  unfold badJump at hb
  rw [hj, Bool.true_and, Bool.or_eq_false_iff, Bool.or_eq_false_iff] at hb
  obtain ⟨b1, b2, b3⟩ := hb
  have b1 := of_decide_eq_false b1
  have b2 := of_decide_eq_false b2
  have e : (k : Int) + 1 + ii (A k).fOff = ((goto A k : Nat) : Int) := by unfold goto; omega
  refine ⟨e, by rw [← e]; omega, by rw [← e]; omega, ?_⟩
  rw [e, Int.toNat_natCast] at b3
  exact b3
theorem isJa_jumps {k : Nat} (h : isJa A k = true) : m_op_Jumps (A k) = true := ja_jumps h
theorem way_in (hst : ∀ i, i < N → ∀ j : Nat, (P i).fFrom ≤ j → (j : Int) < (P i).fTo → sec A j = false → badJump A (P i) j = false) (hlt : ∀ i, i < N → 0 ≤ (P i).fFrom) {i k : Nat} (hi : i < N) (hk : InP A (P i) k) (hj : m_op_Jumps (A k) = true) : ∀ m, InP A (P i) (way A k m)
  | 0 => (goto_in hst hlt hi hk hj).2
  | m + 1 => by
    have ih := way_in hst hlt hi hk hj m
    unfold way
    split
    · rename_i c
      exact (goto_in hst hlt hi ih (isJa_jumps c)).2
    · exact ih
theorem way_ja {k m : Nat} (h : isJa A (way A k m) = true) : way A k (m + 1) = goto A (way A k m) := by
  show (if isJa A (way A k m) then goto A (way A k m) else way A k m) = _
  rw [if_pos h]
theorem way_stay {k m : Nat} (h : isJa A (way A k m) = false) : ∀ d, way A k (m + d) = way A k m
  | 0 => rfl
  | d + 1 => by
    show (if isJa A (way A k (m + d)) then goto A (way A k (m + d)) else way A k (m + d)) = _
    rw [way_stay h d, h]
    rfl
/-- A way that comes back goes on for ever. -/
theorem way_round {k i m : Nat} (hi : i ≤ m) (hj : ∀ j, j ≤ m → isJa A (way A k j) = true) (e : way A k (m + 1) = way A k i) : ∀ j, isJa A (way A k j) = true := by
  have key : ∀ d, ∃ q, q ≤ m ∧ way A k (m + d) = way A k q := by
    intro d
    induction d with
    | zero => exact ⟨m, Nat.le_refl _, rfl⟩
    | succ d ih =>
      obtain ⟨q, hq, e2⟩ := ih
      have h1 : way A k (m + d + 1) = goto A (way A k q) := by
        have : isJa A (way A k (m + d)) = true := by rw [e2]; exact hj q hq
        rw [way_ja this, e2]
      by_cases c : q = m
      · subst c
        refine ⟨i, hi, ?_⟩
        rw [← e, way_ja (hj q hq)]
        exact h1
      · refine ⟨q + 1, by omega, ?_⟩
        rw [way_ja (hj q hq)]
        exact h1
  intro j
  by_cases c : j ≤ m
  · exact hj j c
  · obtain ⟨q, hq, e2⟩ := key (j - m)
    rw [show m + (j - m) = j by omega] at e2
    rw [e2]
    exact hj q hq
end
end Go.Proofs.Ytkfmmcobmjkilaa

