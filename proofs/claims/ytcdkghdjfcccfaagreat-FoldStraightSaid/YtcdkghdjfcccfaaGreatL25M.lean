/-
  Operations on registers: what one of them reads, writes and makes, in plain words (no program).
-/
import Derived.Test.YtcdkghdjfcccfaaGreatS1P
import Derived.Test.YtcdkghdjfcccfaaGreatL25F
namespace Go.Proofs.YtcdkghdjfcccfaaGreat
open Go.RowKit
set_option linter.unusedVariables false
set_option linter.unusedSimpArgs false
def xit : Insn := ⟨149#8, 0#8, 0#8, 0#16, 0#32⟩
/-- The codes that the law looks at. -/
def okOp (c : BitVec 8) : Bool := (c % 8#8 == 4#8 || c % 8#8 == 7#8) && (!(decide (12 < nn (c / 16#8))) && !(nn (c / 16#8) == 8))
def codes : List (BitVec 8) := [4#8, 12#8, 20#8, 28#8, 36#8, 44#8, 52#8, 60#8, 68#8, 76#8, 84#8, 92#8, 100#8, 108#8, 116#8, 124#8, 148#8, 156#8, 164#8, 172#8, 180#8, 188#8, 196#8, 204#8,
  7#8, 15#8, 23#8, 31#8, 39#8, 47#8, 55#8, 63#8, 71#8, 79#8, 87#8, 95#8, 103#8, 111#8, 119#8, 127#8, 151#8, 159#8, 167#8, 175#8, 183#8, 191#8, 199#8, 207#8]
theorem codes_are : ∀ c : BitVec 8, okOp c = true → c ∈ codes := by decide +kernel
/-- One operation: with an immediate, or with a register. -/
inductive OkI : Insn → Prop where
  | imm (c d : BitVec 8) (i : BitVec 32) : okOp c = true → c &&& 8#8 = 0#8 → d.toNat < 4 → OkI ⟨c, d, 0#8, 0#16, i⟩
  | reg (c d s : BitVec 8) : okOp c = true → c &&& 8#8 ≠ 0#8 → d.toNat < 4 → s.toNat < 4 → OkI ⟨c, d, s, 0#16, 0#32⟩
theorem imm_known : ∀ c, c ∈ codes → c &&& 8#8 = 0#8 → ∀ (d : BitVec 8) (i : BitVec 32), m_insn_known ⟨c, d, 0#8, 0#16, i⟩ = true := by
  intro c hc h d i
  simp only [codes, List.mem_cons, List.not_mem_nil, or_false] at hc
  rcases hc with rfl | rfl | rfl | rfl | rfl | rfl | rfl | rfl | rfl | rfl | rfl | rfl | rfl | rfl | rfl | rfl | rfl | rfl | rfl | rfl | rfl | rfl | rfl | rfl | rfl | rfl | rfl | rfl | rfl | rfl | rfl | rfl | rfl | rfl | rfl | rfl | rfl | rfl | rfl | rfl | rfl | rfl | rfl | rfl | rfl | rfl | rfl | rfl <;> first | (simp at h; done) | kernel_rfl
theorem reg_known : ∀ c, c ∈ codes → c &&& 8#8 ≠ 0#8 → ∀ (d s : BitVec 8), m_insn_known ⟨c, d, s, 0#16, 0#32⟩ = true := by
  intro c hc h d s
  simp only [codes, List.mem_cons, List.not_mem_nil, or_false] at hc
  rcases hc with rfl | rfl | rfl | rfl | rfl | rfl | rfl | rfl | rfl | rfl | rfl | rfl | rfl | rfl | rfl | rfl | rfl | rfl | rfl | rfl | rfl | rfl | rfl | rfl | rfl | rfl | rfl | rfl | rfl | rfl | rfl | rfl | rfl | rfl | rfl | rfl | rfl | rfl | rfl | rfl | rfl | rfl | rfl | rfl | rfl | rfl | rfl | rfl <;> first | exact absurd rfl h | kernel_rfl
theorem op_facts : ∀ c : BitVec 8, okOp c = true → (c == 24#8) = false ∧ (c == 133#8) = false ∧ (c == 149#8) = false ∧ ((c &&& 7#8) == 5#8) = false ∧ ((c &&& 7#8) == 6#8) = false ∧ (((c &&& 7#8) == 4#8) || ((c &&& 7#8) == 7#8)) = true ∧ (((c &&& 7#8) == 1#8) || (((c &&& 7#8) == 2#8) || (((c &&& 7#8) == 3#8) || ((c &&& 7#8) == 0#8)))) = false ∧ (nn (c >>> 4) == 13) = false ∧ ((c >>> 4) == 13#8) = false := by decide +kernel
theorem op_same : ∀ c : BitVec 8, c / 16#8 = c >>> 4 ∧ (c % 8#8 == 7#8) = (c &&& 7#8 == 7#8) ∧ ((c / 8#8) % 2#8 == 1#8) = !(c &&& 8#8 == 0#8) := by decide +kernel
theorem le4 : ∀ d : BitVec 8, d.toNat < 4 → BitVec.ult 10#8 d = false ∧ (d == 10#8) = false := fun d h => by
  refine ⟨?_, ?_⟩
  · rw [BitVec.ult, decide_eq_false_iff_not]
    show ¬ (10 < d.toNat)
    omega
  · rw [beq_eq_false_iff_ne]
    rintro rfl
    exact absurd h (by decide)
namespace OkI
variable {x : Insn}
theorem op (h : OkI x) : okOp x.fOp = true := by cases h <;> assumption
theorem known (h : OkI x) : m_insn_known x = true := by
  cases h with
  | imm c d i h1 h2 h3 => exact imm_known c (codes_are c h1) h2 d i
  | reg c d s h1 h2 h3 h4 => exact reg_known c (codes_are c h1) h2 d s
theorem dst (h : OkI x) : x.fDst.toNat < 4 := by cases h <;> assumption
theorem src (h : OkI x) : x.fSrc.toNat < 4 := by
  cases h with
  | imm => show (0#8 : BitVec 8).toNat < 4; decide
  | reg => assumption
theorem off (h : OkI x) : x.fOff = 0#16 := by cases h <;> rfl
theorem jumps (h : OkI x) : m_op_Jumps x = false := by
  obtain ⟨_, _, _, h5, h6, _⟩ := op_facts _ h.op
  unfold m_op_Jumps
  rw [h5, h6]
  rfl
theorem op24 (h : OkI x) : (x.fOp == 24#8) = false := (op_facts _ h.op).1
theorem op133 (h : OkI x) : (x.fOp == 133#8) = false := (op_facts _ h.op).2.1
theorem op149 (h : OkI x) : (x.fOp == 149#8) = false := (op_facts _ h.op).2.2.1
theorem names (h : OkI x) : m_insn_names x = false := by
  unfold m_insn_names
  rw [h.op24, h.op133]
  rfl
theorem err (h : OkI x) {n : Nat} {A : Nat → Insn} {k : Nat} (e : A k = x) : errB n A k = 0 := by
  unfold errB wideB
  rw [e, h.known, (le4 _ h.dst).1, (le4 _ h.dst).2, (le4 _ h.src).1, h.op24, h.op133, h.names]
  rfl
end OkI
theorem known_live {n : Nat} {A : Nat → Insn} {k : Nat} (h : errB n A k = 0) : m_live_known_v3 (A k) = some true := by
  unfold errB at h
  cases h1 : m_insn_known (A k) with
  | false => rw [h1] at h; cases h
  | true =>
    rw [h1] at h
    simp only [Bool.not_true, cond_false] at h
    cases h2 : BitVec.ult 10#8 (A k).fDst with
    | true => rw [h2] at h; cases h
    | false =>
      rw [h2] at h
      cases h3 : BitVec.ult 10#8 (A k).fSrc with
      | true => rw [h3] at h; cases h
      | false =>
        obtain ⟨r, hr, hi⟩ := check_is 1 (fun _ => A k)
        have hne : (r.2 == 11) = false := by
          cases hi with
          | subs a e hs =>
            cases hs with
            | many h => rfl
            | subs => rfl
            | ends => rfl
            | slot hn j hj hs he hok =>
              show (errB 1 (fun _ => A k) j == 11) = false
              unfold errB
              rw [h1]
              simp only [Bool.not_true, cond_false]
              generalize (BitVec.ult 10#8 (A k).fDst || (BitVec.ult 10#8 (A k).fSrc || (((A k).fDst == 10#8) && m_insn_writes (A k)))) = b1
              generalize (wideB (A k) && !rightB 1 (fun _ => A k) j) = b2
              generalize (((A k).fOp == 133#8) && (((A k).fSrc == 0#8) && (BitVec.slt (A k).fImm 1#32 || BitVec.slt 28#32 (A k).fImm))) = b3
              generalize (m_insn_names (A k) && !callB 1 (fun _ => A k) ((j : Int) + 1 + ii (A k).fImm)) = b4
              revert b1 b2 b3 b4
              decide
          | jump => rfl
          | fine => rfl
        unfold m_live_known_v3
        rw [hr, Option.bind_some, hne, h2, h3]
        rfl
/-- What an operation reads. -/
noncomputable def rdI (x : Insn) : BitVec 16 := (m_live_aluReads_v3 x).getD 0#16
theorem reads_bits_ : ∀ d s : Fin 4, ∀ i : Fin 7, ((((((1#16 <<< d.val) ||| (1#16 <<< s.val)) >>> (i.val + 4)) &&& 1#16) == 1#16) || ((((((1#16 <<< d.val) ||| 0#16) >>> (i.val + 4)) &&& 1#16) == 1#16) || (((((1#16 <<< s.val) >>> (i.val + 4)) &&& 1#16) == 1#16) || (((0#16 >>> (i.val + 4)) &&& 1#16) == 1#16)))) = false := by decide +kernel
theorem reads_bits (d : Nat) (hd : d < 4) (s : Nat) (hs : s < 4) (i : Nat) (hi : i < 11) (h4 : 4 ≤ i) : (((((1#16 <<< d) ||| (1#16 <<< s)) >>> i) &&& 1#16) == 1#16) = false ∧ (((((1#16 <<< d) ||| 0#16) >>> i) &&& 1#16) == 1#16) = false ∧ ((((1#16 <<< s) >>> i) &&& 1#16) == 1#16) = false ∧ (((0#16 >>> i) &&& 1#16) == 1#16) = false := by
  have h := reads_bits_ ⟨d, hd⟩ ⟨s, hs⟩ ⟨i - 4, by omega⟩
  simp only [Bool.or_eq_false_iff, show i - 4 + 4 = i by omega] at h
  exact h
theorem writes_bits : ∀ d : Nat, d < 4 → ∀ i, i < 11 → ((((1#16 <<< d) >>> i) &&& 1#16) == 1#16) = decide (i = d) := by decide +kernel
namespace OkI
variable {x : Insn}
theorem lknown (h : OkI x) : m_live_known_v3 x = some true := known_live (n := 1) (A := fun _ => x) (k := 0) (h.err rfl)
theorem cls (h : OkI x) : ((x.fOp &&& 7#8) == 4#8) = true ∨ ((x.fOp &&& 7#8) == 4#8) = false ∧ ((x.fOp &&& 7#8) == 7#8) = true := by
  have h1 := (op_facts _ h.op).2.2.2.2.2.1
  cases h2 : (x.fOp &&& 7#8) == 4#8 with
  | true => exact .inl rfl
  | false => rw [h2] at h1; exact .inr ⟨rfl, h1⟩
theorem ncls (h : OkI x) : ((x.fOp &&& 7#8) == 1#8) = false ∧ ((x.fOp &&& 7#8) == 2#8) = false ∧ ((x.fOp &&& 7#8) == 3#8) = false ∧ ((x.fOp &&& 7#8) == 0#8) = false := by
  have h1 := (op_facts _ h.op).2.2.2.2.2.2.1
  simpa only [Bool.or_eq_false_iff] using h1
theorem isAlu (h : OkI x) : m_fold_isAlu_v4 x = true := by
  unfold m_fold_isAlu_v4
  rcases h.cls with h1 | ⟨h1, h2⟩
  · rw [h1]; rfl
  · rw [h1, h2]; rfl
theorem reads (h : OkI x) : m_live_Reads_v3 x = some (rdI x, true) := by
  obtain ⟨n1, n2, n3, n0⟩ := h.ncls
  have ha : m_live_aluReads_v3 x = some (rdI x) := by
    unfold rdI m_live_aluReads_v3
    rw [(op_facts _ h.op).2.2.2.2.2.2.2.2]
    cases (x.fOp >>> 4) == 11#8 <;> rfl
  unfold m_live_Reads_v3
  rw [h.lknown, Option.bind_some, n1, n2, n3, ha]
  rcases h.cls with h1 | ⟨h1, h2⟩
  · rw [h1]; rfl
  · rw [h1, h2]; rfl
theorem writes (h : OkI x) : m_live_Writes_v3 x = some (1#16 <<< x.fDst.toNat, true) := by
  obtain ⟨n1, n2, n3, n0⟩ := h.ncls
  unfold m_live_Writes_v3
  rw [h.lknown, Option.bind_some, n0, n1]
  rcases h.cls with h1 | ⟨h1, h2⟩
  · rw [h1]; rfl
  · rw [h1, h2]; rfl
theorem rd_hi (h : OkI x) {i : Nat} (hi : i < 11) (h4 : 4 ≤ i) : (((rdI x >>> i) &&& 1#16) == 1#16) = false := by
  obtain ⟨b1, b2, b3, b4⟩ := reads_bits _ h.dst _ h.src i hi h4
  have h13 := (op_facts _ h.op).2.2.2.2.2.2.2.2
  unfold rdI m_live_aluReads_v3 m_live_operand_v3 m_live_bit_v2
  rw [h13]
  cases (x.fOp >>> 4) == 11#8 <;> cases (x.fOp &&& 8#8) == 0#8 <;> assumption
end OkI
/-- What is made. -/
noncomputable def doI (x : Insn) (r : Nat → BitVec 64) : Option (BitVec 64 × Bool) :=
  m_alu_Do (nn (x.fOp >>> 4)) ((x.fOp &&& 7#8) == 7#8) (r x.fDst.toNat) (bif (x.fOp &&& 8#8) == 0#8 then BitVec.ofInt 64 (ii x.fImm) else r x.fSrc.toNat)
theorem do_some : ∀ c : BitVec 8, okOp c = true → ∀ (w : Bool) (a b : BitVec 64), ∃ v, m_alu_Do (nn (c >>> 4)) w a b = some (v, true) := by
  intro c h w a b
  have hc := codes_are c h
  have : nn (c >>> 4) = 0 ∨ nn (c >>> 4) = 1 ∨ nn (c >>> 4) = 2 ∨ nn (c >>> 4) = 3 ∨ nn (c >>> 4) = 4 ∨ nn (c >>> 4) = 5 ∨ nn (c >>> 4) = 6 ∨ nn (c >>> 4) = 7 ∨ nn (c >>> 4) = 9 ∨ nn (c >>> 4) = 10 ∨ nn (c >>> 4) = 11 ∨ nn (c >>> 4) = 12 := by
    revert c
    decide +kernel
  unfold m_alu_Do
  cases w <;> (rcases this with e | e | e | e | e | e | e | e | e | e | e | e) <;> (rw [e]; exact ⟨_, rfl⟩)
theorem OkI.do {x : Insn} (h : OkI x) (r : Nat → BitVec 64) : ∃ v, doI x r = some (v, true) := do_some _ h.op _ _ _
end Go.Proofs.YtcdkghdjfcccfaaGreat

