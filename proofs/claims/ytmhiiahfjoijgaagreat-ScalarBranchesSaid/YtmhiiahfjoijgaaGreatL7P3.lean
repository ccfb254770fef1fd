/-
  Branches on scalars: operation by operation (written by genP3.py).
-/
import Derived.Test.YtmhiiahfjoijgaaGreatL7P2
namespace Go.Proofs.YtmhiiahfjoijgaaGreat
open Go.RowKit
set_option linter.unusedVariables false
set_option linter.unusedSimpArgs false
theorem lo_lo (x : BitVec 64) : lo (lo x) = lo x := BitVec.eq_of_toNat_eq (by rw [lo_n, lo_n]; omega)
theorem sx_n (x : BitVec 64) : (sx x).toNat % 4294967296 = x.toNat % 4294967296 := by
  have c := sx_int x
  have d := toInt_cond (sx x)
  have := (sx x).isLt
  split at c <;> split at d <;> omega
theorem lo_sx (x : BitVec 64) : lo (sx x) = lo x := BitVec.eq_of_toNat_eq (by rw [lo_n, lo_n, sx_n])
theorem sx_lo (x : BitVec 64) : sx (lo x) = sx x := BitVec.eq_of_toInt_eq (by rw [sx_int, sx_int, lo_n, Nat.mod_mod])
theorem sw_lo (x : BitVec 64) : (x.setWidth 32).setWidth 64 = lo x := BitVec.eq_of_toNat_eq (by rw [lo_n, up_n, sw_n])
/-- Which comparison a number stands for. -/
def pack (q : SS × Bool) : S × S × Bool := bif q.2 then (q.1.a, q.1.b, true) else (zS, zS, false)

abbrev R1 (x y : BitVec 64) : Prop := x = y
abbrev R5 (x y : BitVec 64) : Prop := x ≠ y
abbrev R2 (x y : BitVec 64) : Prop := y.toNat < x.toNat
abbrev R11 (x y : BitVec 64) : Prop := x.toNat ≤ y.toNat
abbrev R3 (x y : BitVec 64) : Prop := y.toNat ≤ x.toNat
abbrev R10 (x y : BitVec 64) : Prop := x.toNat < y.toNat
abbrev R6 (x y : BitVec 64) : Prop := y.toInt < x.toInt
abbrev R13 (x y : BitVec 64) : Prop := x.toInt ≤ y.toInt
abbrev R7 (x y : BitVec 64) : Prop := y.toInt ≤ x.toInt
abbrev R12 (x y : BitVec 64) : Prop := x.toInt < y.toInt
abbrev R4 (x y : BitVec 64) : Prop := x &&& y ≠ 0#64
abbrev Rm (x y : BitVec 64) : Prop := x &&& y = 0#64
theorem holds_1 {a b : S} (ha : isS a) (hb : isS b) : Rl R1 a b (m_scalar_relation_holds ⟨a, b⟩ (1#64)) := by
  unfold m_scalar_relation_holds
  simp only [BitVec.reduceBEq, cond_t', cond_f']
  exact equal_rl ha hb
theorem holds_5 {a b : S} (ha : isS a) (hb : isS b) : Rl R5 a b (m_scalar_relation_holds ⟨a, b⟩ (5#64)) := by
  unfold m_scalar_relation_holds
  simp only [BitVec.reduceBEq, cond_t', cond_f']
  exact unlike_rl ha hb
theorem holds_2 {a b : S} (ha : isS a) (hb : isS b) : Rl R2 a b (m_scalar_relation_holds ⟨a, b⟩ (2#64)) := by
  unfold m_scalar_relation_holds
  simp only [BitVec.reduceBEq, cond_t', cond_f']
  exact above_rl ha hb
theorem holds_11 {a b : S} (ha : isS a) (hb : isS b) : Rl R11 a b (m_scalar_relation_holds ⟨a, b⟩ (11#64)) := by
  unfold m_scalar_relation_holds
  simp only [BitVec.reduceBEq, cond_t', cond_f']
  unfold m_scalar_relation_turned_112
  exact (notBelow_rl hb ha).flip
theorem holds_3 {a b : S} (ha : isS a) (hb : isS b) : Rl R3 a b (m_scalar_relation_holds ⟨a, b⟩ (3#64)) := by
  unfold m_scalar_relation_holds
  simp only [BitVec.reduceBEq, cond_t', cond_f']
  exact notBelow_rl ha hb
theorem holds_10 {a b : S} (ha : isS a) (hb : isS b) : Rl R10 a b (m_scalar_relation_holds ⟨a, b⟩ (10#64)) := by
  unfold m_scalar_relation_holds
  simp only [BitVec.reduceBEq, cond_t', cond_f']
  unfold m_scalar_relation_turned_111
  exact (above_rl hb ha).flip
theorem holds_6 {a b : S} (ha : isS a) (hb : isS b) : Rl R6 a b (m_scalar_relation_holds ⟨a, b⟩ (6#64)) := by
  unfold m_scalar_relation_holds
  simp only [BitVec.reduceBEq, cond_t', cond_f']
  exact aboveSigned_rl ha hb
theorem holds_13 {a b : S} (ha : isS a) (hb : isS b) : Rl R13 a b (m_scalar_relation_holds ⟨a, b⟩ (13#64)) := by
  unfold m_scalar_relation_holds
  simp only [BitVec.reduceBEq, cond_t', cond_f']
  unfold m_scalar_relation_turned_115
  exact (notBelowSigned_rl hb ha).flip
theorem holds_7 {a b : S} (ha : isS a) (hb : isS b) : Rl R7 a b (m_scalar_relation_holds ⟨a, b⟩ (7#64)) := by
  unfold m_scalar_relation_holds
  simp only [BitVec.reduceBEq, cond_t', cond_f']
  exact notBelowSigned_rl ha hb
theorem holds_12 {a b : S} (ha : isS a) (hb : isS b) : Rl R12 a b (m_scalar_relation_holds ⟨a, b⟩ (12#64)) := by
  unfold m_scalar_relation_holds
  simp only [BitVec.reduceBEq, cond_t', cond_f']
  unfold m_scalar_relation_turned_114
  exact (aboveSigned_rl hb ha).flip
theorem holds_4 {a b : S} (ha : isS a) (hb : isS b) : Rl R4 a b (m_scalar_relation_holds ⟨a, b⟩ (4#64)) := by
  unfold m_scalar_relation_holds
  simp only [BitVec.reduceBEq, cond_t', cond_f']
  exact meeting_rl ha hb
theorem holds_m {a b : S} (ha : isS a) (hb : isS b) : Rl Rm a b (m_scalar_relation_holds ⟨a, b⟩ (18446744073709551615#64)) := by
  unfold m_scalar_relation_holds
  simp only [BitVec.reduceBEq, cond_t', cond_f']
  exact apart_rl ha hb
theorem nholds_1 {a b : S} (ha : isS a) (hb : isS b) : Rl (fun x y => R1 (lo x) (lo y)) a b (m_scalar_relation_holdsNarrow ⟨a, b⟩ (1#64)) := by
  unfold m_scalar_relation_holdsNarrow
  simp only [BitVec.reduceBEq, cond_t', cond_f']
  exact narrow_rl (f := m_scalar_low) (g := lo) ha hb (fun s x i h => (low_has i h).1) low_K lo_lo (holds_1 (settle_low ha) (settle_low hb))
theorem nholds_5 {a b : S} (ha : isS a) (hb : isS b) : Rl (fun x y => R5 (lo x) (lo y)) a b (m_scalar_relation_holdsNarrow ⟨a, b⟩ (5#64)) := by
  unfold m_scalar_relation_holdsNarrow
  simp only [BitVec.reduceBEq, cond_t', cond_f']
  exact narrow_rl (f := m_scalar_low) (g := lo) ha hb (fun s x i h => (low_has i h).1) low_K lo_lo (holds_5 (settle_low ha) (settle_low hb))
theorem nholds_2 {a b : S} (ha : isS a) (hb : isS b) : Rl (fun x y => R2 (lo x) (lo y)) a b (m_scalar_relation_holdsNarrow ⟨a, b⟩ (2#64)) := by
  unfold m_scalar_relation_holdsNarrow
  simp only [BitVec.reduceBEq, cond_t', cond_f']
  exact narrow_rl (f := m_scalar_low) (g := lo) ha hb (fun s x i h => (low_has i h).1) low_K lo_lo (holds_2 (settle_low ha) (settle_low hb))
theorem nholds_11 {a b : S} (ha : isS a) (hb : isS b) : Rl (fun x y => R11 (lo x) (lo y)) a b (m_scalar_relation_holdsNarrow ⟨a, b⟩ (11#64)) := by
  unfold m_scalar_relation_holdsNarrow
  simp only [BitVec.reduceBEq, cond_t', cond_f']
  exact narrow_rl (f := m_scalar_low) (g := lo) ha hb (fun s x i h => (low_has i h).1) low_K lo_lo (holds_11 (settle_low ha) (settle_low hb))
theorem nholds_3 {a b : S} (ha : isS a) (hb : isS b) : Rl (fun x y => R3 (lo x) (lo y)) a b (m_scalar_relation_holdsNarrow ⟨a, b⟩ (3#64)) := by
  unfold m_scalar_relation_holdsNarrow
  simp only [BitVec.reduceBEq, cond_t', cond_f']
  exact narrow_rl (f := m_scalar_low) (g := lo) ha hb (fun s x i h => (low_has i h).1) low_K lo_lo (holds_3 (settle_low ha) (settle_low hb))
theorem nholds_10 {a b : S} (ha : isS a) (hb : isS b) : Rl (fun x y => R10 (lo x) (lo y)) a b (m_scalar_relation_holdsNarrow ⟨a, b⟩ (10#64)) := by
  unfold m_scalar_relation_holdsNarrow
  simp only [BitVec.reduceBEq, cond_t', cond_f']
  exact narrow_rl (f := m_scalar_low) (g := lo) ha hb (fun s x i h => (low_has i h).1) low_K lo_lo (holds_10 (settle_low ha) (settle_low hb))
theorem nholds_6 {a b : S} (ha : isS a) (hb : isS b) : Rl (fun x y => R6 (sx (lo x)) (sx (lo y))) a b (m_scalar_relation_holdsNarrow ⟨a, b⟩ (6#64)) := by
  unfold m_scalar_relation_holdsNarrow
  simp only [BitVec.reduceBEq, cond_t', cond_f']
  unfold m_scalar_relation_holds_6
  exact narrow_rl (f := fun s => m_scalar_extend (m_scalar_low s)) (g := fun x => sx (lo x)) ha hb (fun s x i h => (ext_has (low_has i h).1).1) (fun x => by rw [low_K]; exact ext_K _) (fun x => by rw [lo_sx, lo_lo]) (aboveSigned_rl (ext_is _) (ext_is _))
theorem nholds_13 {a b : S} (ha : isS a) (hb : isS b) : Rl (fun x y => R13 (sx (lo x)) (sx (lo y))) a b (m_scalar_relation_holdsNarrow ⟨a, b⟩ (13#64)) := by
  unfold m_scalar_relation_holdsNarrow
  simp only [BitVec.reduceBEq, cond_t', cond_f']
  unfold m_scalar_relation_holds_13 m_scalar_relation_turned_115
  exact narrow_rl (f := fun s => m_scalar_extend (m_scalar_low s)) (g := fun x => sx (lo x)) ha hb (fun s x i h => (ext_has (low_has i h).1).1) (fun x => by rw [low_K]; exact ext_K _) (fun x => by rw [lo_sx, lo_lo]) ((notBelowSigned_rl (ext_is _) (ext_is _)).flip)
theorem nholds_7 {a b : S} (ha : isS a) (hb : isS b) : Rl (fun x y => R7 (sx (lo x)) (sx (lo y))) a b (m_scalar_relation_holdsNarrow ⟨a, b⟩ (7#64)) := by
  unfold m_scalar_relation_holdsNarrow
  simp only [BitVec.reduceBEq, cond_t', cond_f']
  unfold m_scalar_relation_holds_7
  exact narrow_rl (f := fun s => m_scalar_extend (m_scalar_low s)) (g := fun x => sx (lo x)) ha hb (fun s x i h => (ext_has (low_has i h).1).1) (fun x => by rw [low_K]; exact ext_K _) (fun x => by rw [lo_sx, lo_lo]) (notBelowSigned_rl (ext_is _) (ext_is _))
theorem nholds_12 {a b : S} (ha : isS a) (hb : isS b) : Rl (fun x y => R12 (sx (lo x)) (sx (lo y))) a b (m_scalar_relation_holdsNarrow ⟨a, b⟩ (12#64)) := by
  unfold m_scalar_relation_holdsNarrow
  simp only [BitVec.reduceBEq, cond_t', cond_f']
  unfold m_scalar_relation_holds_12 m_scalar_relation_turned_114
  exact narrow_rl (f := fun s => m_scalar_extend (m_scalar_low s)) (g := fun x => sx (lo x)) ha hb (fun s x i h => (ext_has (low_has i h).1).1) (fun x => by rw [low_K]; exact ext_K _) (fun x => by rw [lo_sx, lo_lo]) ((aboveSigned_rl (ext_is _) (ext_is _)).flip)
theorem nholds_4 {a b : S} (ha : isS a) (hb : isS b) : Rl (fun x y => R4 (lo x) (lo y)) a b (m_scalar_relation_holdsNarrow ⟨a, b⟩ (4#64)) := by
  unfold m_scalar_relation_holdsNarrow
  simp only [BitVec.reduceBEq, cond_t', cond_f']
  exact narrow_rl (f := m_scalar_low) (g := lo) ha hb (fun s x i h => (low_has i h).1) low_K lo_lo (holds_4 (settle_low ha) (settle_low hb))
theorem nholds_m {a b : S} (ha : isS a) (hb : isS b) : Rl (fun x y => Rm (lo x) (lo y)) a b (m_scalar_relation_holdsNarrow ⟨a, b⟩ (18446744073709551615#64)) := by
  unfold m_scalar_relation_holdsNarrow
  simp only [BitVec.reduceBEq, cond_t', cond_f']
  exact narrow_rl (f := m_scalar_low) (g := lo) ha hb (fun s x i h => (low_has i h).1) low_K lo_lo (holds_m (settle_low ha) (settle_low hb))
theorem cf_1 {x y : BitVec 64} : m_alu_comparisons_1 x y = decide (R1 x y) := by
  unfold m_alu_comparisons_1
  rw [Bool.eq_iff_iff]; simp
theorem cmp_1 {w : Bool} {x y : BitVec 64} : m_alu_Cmp 1#64 w x y = (bif w then decide (R1 x y) else decide (R1 (lo x) (lo y)), true) := by
  unfold m_alu_Cmp
  simp only [BitVec.reduceBEq, BitVec.reduceSLT, cond_t', cond_f', cf_1, sw_lo]
  cases w <;> rfl
theorem cf_2 {x y : BitVec 64} : m_alu_comparisons_3 x y = decide (R2 x y) := by
  unfold m_alu_comparisons_3
  rfl
theorem cmp_2 {w : Bool} {x y : BitVec 64} : m_alu_Cmp 2#64 w x y = (bif w then decide (R2 x y) else decide (R2 (lo x) (lo y)), true) := by
  unfold m_alu_Cmp
  simp only [BitVec.reduceBEq, BitVec.reduceSLT, cond_t', cond_f', cf_2, sw_lo]
  cases w <;> rfl
theorem cf_3 {x y : BitVec 64} : m_alu_comparisons_4 x y = decide (R3 x y) := by
  unfold m_alu_comparisons_4
  rw [ult_iff, Bool.eq_iff_iff]; simp
theorem cmp_3 {w : Bool} {x y : BitVec 64} : m_alu_Cmp 3#64 w x y = (bif w then decide (R3 x y) else decide (R3 (lo x) (lo y)), true) := by
  unfold m_alu_Cmp
  simp only [BitVec.reduceBEq, BitVec.reduceSLT, cond_t', cond_f', cf_3, sw_lo]
  cases w <;> rfl
theorem cf_4 {x y : BitVec 64} : m_alu_comparisons_7 x y = decide (R4 x y) := by
  unfold m_alu_comparisons_7
  rw [Bool.eq_iff_iff]; simp
theorem cmp_4 {w : Bool} {x y : BitVec 64} : m_alu_Cmp 4#64 w x y = (bif w then decide (R4 x y) else decide (R4 (lo x) (lo y)), true) := by
  unfold m_alu_Cmp
  simp only [BitVec.reduceBEq, BitVec.reduceSLT, cond_t', cond_f', cf_4, sw_lo]
  cases w <;> rfl
theorem cf_5 {x y : BitVec 64} : m_alu_comparisons_2 x y = decide (R5 x y) := by
  unfold m_alu_comparisons_2
  rw [Bool.eq_iff_iff]; simp
theorem cmp_5 {w : Bool} {x y : BitVec 64} : m_alu_Cmp 5#64 w x y = (bif w then decide (R5 x y) else decide (R5 (lo x) (lo y)), true) := by
  unfold m_alu_Cmp
  simp only [BitVec.reduceBEq, BitVec.reduceSLT, cond_t', cond_f', cf_5, sw_lo]
  cases w <;> rfl
theorem cf_6 {x y : BitVec 64} : m_alu_comparisons_8 x y = decide (R6 x y) := by
  unfold m_alu_comparisons_8
  rfl
theorem cmp_6 {w : Bool} {x y : BitVec 64} : m_alu_Cmp 6#64 w x y = (bif w then decide (R6 x y) else decide (R6 (sx x) (sx y)), true) := by
  unfold m_alu_Cmp
  simp only [BitVec.reduceBEq, BitVec.reduceSLT, cond_t', cond_f', cf_6]
  cases w <;> rfl
theorem cf_7 {x y : BitVec 64} : m_alu_comparisons_9 x y = decide (R7 x y) := by
  unfold m_alu_comparisons_9
  rw [slt_iff, Bool.eq_iff_iff]; simp
theorem cmp_7 {w : Bool} {x y : BitVec 64} : m_alu_Cmp 7#64 w x y = (bif w then decide (R7 x y) else decide (R7 (sx x) (sx y)), true) := by
  unfold m_alu_Cmp
  simp only [BitVec.reduceBEq, BitVec.reduceSLT, cond_t', cond_f', cf_7]
  cases w <;> rfl
theorem cf_10 {x y : BitVec 64} : m_alu_comparisons_5 x y = decide (R10 x y) := by
  unfold m_alu_comparisons_5
  rfl
theorem cmp_10 {w : Bool} {x y : BitVec 64} : m_alu_Cmp 10#64 w x y = (bif w then decide (R10 x y) else decide (R10 (lo x) (lo y)), true) := by
  unfold m_alu_Cmp
  simp only [BitVec.reduceBEq, BitVec.reduceSLT, cond_t', cond_f', cf_10, sw_lo]
  cases w <;> rfl
theorem cf_11 {x y : BitVec 64} : m_alu_comparisons_6 x y = decide (R11 x y) := by
  unfold m_alu_comparisons_6
  rw [ult_iff, Bool.eq_iff_iff]; simp
theorem cmp_11 {w : Bool} {x y : BitVec 64} : m_alu_Cmp 11#64 w x y = (bif w then decide (R11 x y) else decide (R11 (lo x) (lo y)), true) := by
  unfold m_alu_Cmp
  simp only [BitVec.reduceBEq, BitVec.reduceSLT, cond_t', cond_f', cf_11, sw_lo]
  cases w <;> rfl
theorem cf_12 {x y : BitVec 64} : m_alu_comparisons_10 x y = decide (R12 x y) := by
  unfold m_alu_comparisons_10
  rfl
theorem cmp_12 {w : Bool} {x y : BitVec 64} : m_alu_Cmp 12#64 w x y = (bif w then decide (R12 x y) else decide (R12 (sx x) (sx y)), true) := by
  unfold m_alu_Cmp
  simp only [BitVec.reduceBEq, BitVec.reduceSLT, cond_t', cond_f', cf_12]
  cases w <;> rfl
theorem cf_13 {x y : BitVec 64} : m_alu_comparisons_11 x y = decide (R13 x y) := by
  unfold m_alu_comparisons_11
  rw [slt_iff, Bool.eq_iff_iff]; simp
theorem cmp_13 {w : Bool} {x y : BitVec 64} : m_alu_Cmp 13#64 w x y = (bif w then decide (R13 x y) else decide (R13 (sx x) (sx y)), true) := by
  unfold m_alu_Cmp
  simp only [BitVec.reduceBEq, BitVec.reduceSLT, cond_t', cond_f', cf_13]
  cases w <;> rfl
theorem br_1 {a b : S} (ha : isS a) (hb : isS b) : ∀ (w taken : Bool), ∃ q, Rl (fun x y => (m_alu_Cmp 1#64 w x y).1 = taken) a b q ∧ m_scalar_Branch 1#64 w taken a b = pack q := by
  intro w taken
  have e0 : (m_alu_Cmp 1#64 w 0#64 0#64).2 = true := by rw [cmp_1]
  unfold m_scalar_Branch
  rw [e0, known_of ha, known_of hb]
  simp only [cond_t', cmp_1]
  cases taken
  · simp only [cond_f', show m_scalar_contrary 1#64 = 5#64 from rfl]
    cases w
    · simp only [cond_f']
      exact ⟨_, (nholds_5 ha hb).iff (fun x y => by simp [R5, R1]), rfl⟩
    · simp only [cond_t']
      exact ⟨_, (holds_5 ha hb).iff (fun x y => by simp [R5, R1]), rfl⟩
  · simp only [cond_t']
    cases w
    · simp only [cond_f']
      exact ⟨_, (nholds_1 ha hb).iff (fun x y => by simp [R1]), rfl⟩
    · simp only [cond_t']
      exact ⟨_, (holds_1 ha hb).iff (fun x y => by simp [R1]), rfl⟩
theorem br_2 {a b : S} (ha : isS a) (hb : isS b) : ∀ (w taken : Bool), ∃ q, Rl (fun x y => (m_alu_Cmp 2#64 w x y).1 = taken) a b q ∧ m_scalar_Branch 2#64 w taken a b = pack q := by
  intro w taken
  have e0 : (m_alu_Cmp 2#64 w 0#64 0#64).2 = true := by rw [cmp_2]
  unfold m_scalar_Branch
  rw [e0, known_of ha, known_of hb]
  simp only [cond_t', cmp_2]
  cases taken
  · simp only [cond_f', show m_scalar_contrary 2#64 = 11#64 from rfl]
    cases w
    · simp only [cond_f']
      exact ⟨_, (nholds_11 ha hb).iff (fun x y => by simp [R11, R2]), rfl⟩
    · simp only [cond_t']
      exact ⟨_, (holds_11 ha hb).iff (fun x y => by simp [R11, R2]), rfl⟩
  · simp only [cond_t']
    cases w
    · simp only [cond_f']
      exact ⟨_, (nholds_2 ha hb).iff (fun x y => by simp [R2]), rfl⟩
    · simp only [cond_t']
      exact ⟨_, (holds_2 ha hb).iff (fun x y => by simp [R2]), rfl⟩
theorem br_3 {a b : S} (ha : isS a) (hb : isS b) : ∀ (w taken : Bool), ∃ q, Rl (fun x y => (m_alu_Cmp 3#64 w x y).1 = taken) a b q ∧ m_scalar_Branch 3#64 w taken a b = pack q := by
  intro w taken
  have e0 : (m_alu_Cmp 3#64 w 0#64 0#64).2 = true := by rw [cmp_3]
  unfold m_scalar_Branch
  rw [e0, known_of ha, known_of hb]
  simp only [cond_t', cmp_3]
  cases taken
  · simp only [cond_f', show m_scalar_contrary 3#64 = 10#64 from rfl]
    cases w
    · simp only [cond_f']
      exact ⟨_, (nholds_10 ha hb).iff (fun x y => by simp [R10, R3]), rfl⟩
    · simp only [cond_t']
      exact ⟨_, (holds_10 ha hb).iff (fun x y => by simp [R10, R3]), rfl⟩
  · simp only [cond_t']
    cases w
    · simp only [cond_f']
      exact ⟨_, (nholds_3 ha hb).iff (fun x y => by simp [R3]), rfl⟩
    · simp only [cond_t']
      exact ⟨_, (holds_3 ha hb).iff (fun x y => by simp [R3]), rfl⟩
theorem br_4 {a b : S} (ha : isS a) (hb : isS b) : ∀ (w taken : Bool), ∃ q, Rl (fun x y => (m_alu_Cmp 4#64 w x y).1 = taken) a b q ∧ m_scalar_Branch 4#64 w taken a b = pack q := by
  intro w taken
  have e0 : (m_alu_Cmp 4#64 w 0#64 0#64).2 = true := by rw [cmp_4]
  unfold m_scalar_Branch
  rw [e0, known_of ha, known_of hb]
  simp only [cond_t', cmp_4]
  cases taken
  · simp only [cond_f', show m_scalar_contrary 4#64 = 18446744073709551615#64 from rfl]
    cases w
    · simp only [cond_f']
      exact ⟨_, (nholds_m ha hb).iff (fun x y => by simp [Rm, R4]), rfl⟩
    · simp only [cond_t']
      exact ⟨_, (holds_m ha hb).iff (fun x y => by simp [Rm, R4]), rfl⟩
  · simp only [cond_t']
    cases w
    · simp only [cond_f']
      exact ⟨_, (nholds_4 ha hb).iff (fun x y => by simp [R4]), rfl⟩
    · simp only [cond_t']
      exact ⟨_, (holds_4 ha hb).iff (fun x y => by simp [R4]), rfl⟩
theorem br_5 {a b : S} (ha : isS a) (hb : isS b) : ∀ (w taken : Bool), ∃ q, Rl (fun x y => (m_alu_Cmp 5#64 w x y).1 = taken) a b q ∧ m_scalar_Branch 5#64 w taken a b = pack q := by
  intro w taken
  have e0 : (m_alu_Cmp 5#64 w 0#64 0#64).2 = true := by rw [cmp_5]
  unfold m_scalar_Branch
  rw [e0, known_of ha, known_of hb]
  simp only [cond_t', cmp_5]
  cases taken
  · simp only [cond_f', show m_scalar_contrary 5#64 = 1#64 from rfl]
    cases w
    · simp only [cond_f']
      exact ⟨_, (nholds_1 ha hb).iff (fun x y => by simp [R1, R5]), rfl⟩
    · simp only [cond_t']
      exact ⟨_, (holds_1 ha hb).iff (fun x y => by simp [R1, R5]), rfl⟩
  · simp only [cond_t']
    cases w
    · simp only [cond_f']
      exact ⟨_, (nholds_5 ha hb).iff (fun x y => by simp [R5]), rfl⟩
    · simp only [cond_t']
      exact ⟨_, (holds_5 ha hb).iff (fun x y => by simp [R5]), rfl⟩
theorem br_6 {a b : S} (ha : isS a) (hb : isS b) : ∀ (w taken : Bool), ∃ q, Rl (fun x y => (m_alu_Cmp 6#64 w x y).1 = taken) a b q ∧ m_scalar_Branch 6#64 w taken a b = pack q := by
  intro w taken
  have e0 : (m_alu_Cmp 6#64 w 0#64 0#64).2 = true := by rw [cmp_6]
  unfold m_scalar_Branch
  rw [e0, known_of ha, known_of hb]
  simp only [cond_t', cmp_6]
  cases taken
  · simp only [cond_f', show m_scalar_contrary 6#64 = 13#64 from rfl]
    cases w
    · simp only [cond_f']
      exact ⟨_, (nholds_13 ha hb).iff (fun x y => by simp only [sx_lo]; simp [R13, R6]), rfl⟩
    · simp only [cond_t']
      exact ⟨_, (holds_13 ha hb).iff (fun x y => by simp [R13, R6]), rfl⟩
  · simp only [cond_t']
    cases w
    · simp only [cond_f']
      exact ⟨_, (nholds_6 ha hb).iff (fun x y => by simp only [sx_lo]; simp [R6]), rfl⟩
    · simp only [cond_t']
      exact ⟨_, (holds_6 ha hb).iff (fun x y => by simp [R6]), rfl⟩
theorem br_7 {a b : S} (ha : isS a) (hb : isS b) : ∀ (w taken : Bool), ∃ q, Rl (fun x y => (m_alu_Cmp 7#64 w x y).1 = taken) a b q ∧ m_scalar_Branch 7#64 w taken a b = pack q := by
  intro w taken
  have e0 : (m_alu_Cmp 7#64 w 0#64 0#64).2 = true := by rw [cmp_7]
  unfold m_scalar_Branch
  rw [e0, known_of ha, known_of hb]
  simp only [cond_t', cmp_7]
  cases taken
  · simp only [cond_f', show m_scalar_contrary 7#64 = 12#64 from rfl]
    cases w
    · simp only [cond_f']
      exact ⟨_, (nholds_12 ha hb).iff (fun x y => by simp only [sx_lo]; simp [R12, R7]), rfl⟩
    · simp only [cond_t']
      exact ⟨_, (holds_12 ha hb).iff (fun x y => by simp [R12, R7]), rfl⟩
  · simp only [cond_t']
    cases w
    · simp only [cond_f']
      exact ⟨_, (nholds_7 ha hb).iff (fun x y => by simp only [sx_lo]; simp [R7]), rfl⟩
    · simp only [cond_t']
      exact ⟨_, (holds_7 ha hb).iff (fun x y => by simp [R7]), rfl⟩
theorem br_10 {a b : S} (ha : isS a) (hb : isS b) : ∀ (w taken : Bool), ∃ q, Rl (fun x y => (m_alu_Cmp 10#64 w x y).1 = taken) a b q ∧ m_scalar_Branch 10#64 w taken a b = pack q := by
  intro w taken
  have e0 : (m_alu_Cmp 10#64 w 0#64 0#64).2 = true := by rw [cmp_10]
  unfold m_scalar_Branch
  rw [e0, known_of ha, known_of hb]
  simp only [cond_t', cmp_10]
  cases taken
  · simp only [cond_f', show m_scalar_contrary 10#64 = 3#64 from rfl]
    cases w
    · simp only [cond_f']
      exact ⟨_, (nholds_3 ha hb).iff (fun x y => by simp [R3, R10]), rfl⟩
    · simp only [cond_t']
      exact ⟨_, (holds_3 ha hb).iff (fun x y => by simp [R3, R10]), rfl⟩
  · simp only [cond_t']
    cases w
    · simp only [cond_f']
      exact ⟨_, (nholds_10 ha hb).iff (fun x y => by simp [R10]), rfl⟩
    · simp only [cond_t']
      exact ⟨_, (holds_10 ha hb).iff (fun x y => by simp [R10]), rfl⟩
theorem br_11 {a b : S} (ha : isS a) (hb : isS b) : ∀ (w taken : Bool), ∃ q, Rl (fun x y => (m_alu_Cmp 11#64 w x y).1 = taken) a b q ∧ m_scalar_Branch 11#64 w taken a b = pack q := by
  intro w taken
  have e0 : (m_alu_Cmp 11#64 w 0#64 0#64).2 = true := by rw [cmp_11]
  unfold m_scalar_Branch
  rw [e0, known_of ha, known_of hb]
  simp only [cond_t', cmp_11]
  cases taken
  · simp only [cond_f', show m_scalar_contrary 11#64 = 2#64 from rfl]
    cases w
    · simp only [cond_f']
      exact ⟨_, (nholds_2 ha hb).iff (fun x y => by simp [R2, R11]), rfl⟩
    · simp only [cond_t']
      exact ⟨_, (holds_2 ha hb).iff (fun x y => by simp [R2, R11]), rfl⟩
  · simp only [cond_t']
    cases w
    · simp only [cond_f']
      exact ⟨_, (nholds_11 ha hb).iff (fun x y => by simp [R11]), rfl⟩
    · simp only [cond_t']
      exact ⟨_, (holds_11 ha hb).iff (fun x y => by simp [R11]), rfl⟩
theorem br_12 {a b : S} (ha : isS a) (hb : isS b) : ∀ (w taken : Bool), ∃ q, Rl (fun x y => (m_alu_Cmp 12#64 w x y).1 = taken) a b q ∧ m_scalar_Branch 12#64 w taken a b = pack q := by
  intro w taken
  have e0 : (m_alu_Cmp 12#64 w 0#64 0#64).2 = true := by rw [cmp_12]
  unfold m_scalar_Branch
  rw [e0, known_of ha, known_of hb]
  simp only [cond_t', cmp_12]
  cases taken
  · simp only [cond_f', show m_scalar_contrary 12#64 = 7#64 from rfl]
    cases w
    · simp only [cond_f']
      exact ⟨_, (nholds_7 ha hb).iff (fun x y => by simp only [sx_lo]; simp [R7, R12]), rfl⟩
    · simp only [cond_t']
      exact ⟨_, (holds_7 ha hb).iff (fun x y => by simp [R7, R12]), rfl⟩
  · simp only [cond_t']
    cases w
    · simp only [cond_f']
      exact ⟨_, (nholds_12 ha hb).iff (fun x y => by simp only [sx_lo]; simp [R12]), rfl⟩
    · simp only [cond_t']
      exact ⟨_, (holds_12 ha hb).iff (fun x y => by simp [R12]), rfl⟩
theorem br_13 {a b : S} (ha : isS a) (hb : isS b) : ∀ (w taken : Bool), ∃ q, Rl (fun x y => (m_alu_Cmp 13#64 w x y).1 = taken) a b q ∧ m_scalar_Branch 13#64 w taken a b = pack q := by
  intro w taken
  have e0 : (m_alu_Cmp 13#64 w 0#64 0#64).2 = true := by rw [cmp_13]
  unfold m_scalar_Branch
  rw [e0, known_of ha, known_of hb]
  simp only [cond_t', cmp_13]
  cases taken
  · simp only [cond_f', show m_scalar_contrary 13#64 = 6#64 from rfl]
    cases w
    · simp only [cond_f']
      exact ⟨_, (nholds_6 ha hb).iff (fun x y => by simp only [sx_lo]; simp [R6, R13]), rfl⟩
    · simp only [cond_t']
      exact ⟨_, (holds_6 ha hb).iff (fun x y => by simp [R6, R13]), rfl⟩
  · simp only [cond_t']
    cases w
    · simp only [cond_f']
      exact ⟨_, (nholds_13 ha hb).iff (fun x y => by simp only [sx_lo]; simp [R13]), rfl⟩
    · simp only [cond_t']
      exact ⟨_, (holds_13 ha hb).iff (fun x y => by simp [R13]), rfl⟩
theorem cmp_codes {w : Bool} {x y : BitVec 64} {op : BitVec 64} (h : (m_alu_Cmp op w x y).2 = true) : op = 1#64 ∨ op = 2#64 ∨ op = 3#64 ∨ op = 4#64 ∨ op = 5#64 ∨ op = 6#64 ∨ op = 7#64 ∨ op = 10#64 ∨ op = 11#64 ∨ op = 12#64 ∨ op = 13#64 := by
  unfold m_alu_Cmp at h
  cases h0 : BitVec.slt op 0#64 <;> rw [h0] at h <;> simp only [cond_t', cond_f'] at h
  · cases h1 : BitVec.slt op 14#64 <;> rw [h1] at h <;> simp only [cond_t', cond_f'] at h
    · cases h
    · cases c0 : op == 0#64 <;> rw [c0] at h <;> simp only [cond_t', cond_f'] at h
      rotate_left 1
      · cases h
      cases c1 : op == 1#64 <;> rw [c1] at h <;> simp only [cond_t', cond_f'] at h
      rotate_left 1
      · have := eq_of_beq c1; subst this; simp
      cases c2 : op == 2#64 <;> rw [c2] at h <;> simp only [cond_t', cond_f'] at h
      rotate_left 1
      · have := eq_of_beq c2; subst this; simp
      cases c3 : op == 3#64 <;> rw [c3] at h <;> simp only [cond_t', cond_f'] at h
      rotate_left 1
      · have := eq_of_beq c3; subst this; simp
      cases c4 : op == 4#64 <;> rw [c4] at h <;> simp only [cond_t', cond_f'] at h
      rotate_left 1
      · have := eq_of_beq c4; subst this; simp
      cases c5 : op == 5#64 <;> rw [c5] at h <;> simp only [cond_t', cond_f'] at h
      rotate_left 1
      · have := eq_of_beq c5; subst this; simp
      cases c6 : op == 6#64 <;> rw [c6] at h <;> simp only [cond_t', cond_f'] at h
      rotate_left 1
      · have := eq_of_beq c6; subst this; simp
      cases c7 : op == 7#64 <;> rw [c7] at h <;> simp only [cond_t', cond_f'] at h
      rotate_left 1
      · have := eq_of_beq c7; subst this; simp
      cases c8 : op == 8#64 <;> rw [c8] at h <;> simp only [cond_t', cond_f'] at h
      rotate_left 1
      · cases h
      cases c9 : op == 9#64 <;> rw [c9] at h <;> simp only [cond_t', cond_f'] at h
      rotate_left 1
      · cases h
      cases c10 : op == 10#64 <;> rw [c10] at h <;> simp only [cond_t', cond_f'] at h
      rotate_left 1
      · have := eq_of_beq c10; subst this; simp
      cases c11 : op == 11#64 <;> rw [c11] at h <;> simp only [cond_t', cond_f'] at h
      rotate_left 1
      · have := eq_of_beq c11; subst this; simp
      cases c12 : op == 12#64 <;> rw [c12] at h <;> simp only [cond_t', cond_f'] at h
      rotate_left 1
      · have := eq_of_beq c12; subst this; simp
      cases c13 : op == 13#64 <;> rw [c13] at h <;> simp only [cond_t', cond_f'] at h
      rotate_left 1
      · have := eq_of_beq c13; subst this; simp
      cases h
  · cases h
/-- A branch: what it leaves. -/
theorem branch_any {a b : S} (ha : isS a) (hb : isS b) {w : Bool} {x y : BitVec 64} {op : BitVec 64} {taken : Bool} (h : (m_alu_Cmp op w x y).2 = true) : ∃ q, Rl (fun x y => (m_alu_Cmp op w x y).1 = taken) a b q ∧ m_scalar_Branch op w taken a b = pack q := by
  rcases cmp_codes h with rfl | rfl | rfl | rfl | rfl | rfl | rfl | rfl | rfl | rfl | rfl
  · exact br_1 ha hb w taken
  · exact br_2 ha hb w taken
  · exact br_3 ha hb w taken
  · exact br_4 ha hb w taken
  · exact br_5 ha hb w taken
  · exact br_6 ha hb w taken
  · exact br_7 ha hb w taken
  · exact br_10 ha hb w taken
  · exact br_11 ha hb w taken
  · exact br_12 ha hb w taken
  · exact br_13 ha hb w taken
theorem cmp_same {w : Bool} {x y : BitVec 64} {op : BitVec 64} (h : (m_alu_Cmp op w x y).2 = true) (x' y' : BitVec 64) : (m_alu_Cmp op w x' y').2 = true := by
  rcases cmp_codes h with rfl | rfl | rfl | rfl | rfl | rfl | rfl | rfl | rfl | rfl | rfl
  · rw [cmp_1]
  · rw [cmp_2]
  · rw [cmp_3]
  · rw [cmp_4]
  · rw [cmp_5]
  · rw [cmp_6]
  · rw [cmp_7]
  · rw [cmp_10]
  · rw [cmp_11]
  · rw [cmp_12]
  · rw [cmp_13]
end Go.Proofs.YtmhiiahfjoijgaaGreat
