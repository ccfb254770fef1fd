/-
  Instructions: a wide load behind a row of moves (the law InsnWides), in plain words.
-/
import Derived.Test.YtmlkiamemkfdlaaS1P
import Derived.Test.YtmlkiamemkfdlaaS1XWides
namespace Go.Proofs.Ytmlkiamemkfdlaa
open Go.RowKit
set_option linter.unusedVariables false
set_option linter.unusedSimpArgs false
theorem halves (v : BitVec 64) : (((v % 4294967296#64).setWidth 32).setWidth 64 ||| (((v >>> 32).setWidth 32).setWidth 64 <<< 32)) = v := by
  apply BitVec.eq_of_toNat_eq
  have hv := v.isLt
  simp only [BitVec.toNat_or, BitVec.toNat_setWidth, BitVec.toNat_shiftLeft, BitVec.toNat_umod, BitVec.toNat_ushiftRight, BitVec.toNat_ofNat, Nat.shiftRight_eq_div_pow, Nat.shiftLeft_eq]
  have e1 : v.toNat % (4294967296 % 2 ^ 64) % 2 ^ 32 % 2 ^ 64 = v.toNat % 2 ^ 32 := by rw [show (4294967296 % 2 ^ 64 : Nat) = 4294967296 from rfl]; omega
  have e2 : v.toNat / 2 ^ 32 % 2 ^ 32 % 2 ^ 64 * 2 ^ 32 % 2 ^ 64 = 2 ^ 32 * (v.toNat / 2 ^ 32) := by omega
  rw [e1, e2, Nat.or_comm, ← Nat.two_pow_add_eq_or_of_lt (Nat.mod_lt _ (by decide))]
  omega
/-- A wide load of the two halves. -/
abbrev wide0 (v : BitVec 64) : Insn := ⟨24#8, 3#8, 0#8, 0#16, ((v % 4294967296#64).setWidth 32)⟩
abbrev wide1 (v : BitVec 64) : Insn := ⟨0#8, 0#8, 0#8, 0#16, ((v >>> 32).setWidth 32)⟩
structure WRow (v : BitVec 64) (k : Nat) (A : Nat → Insn) : Prop where
  mov : ∀ j, 0 < j → j < k → A j = mov0
  first : 0 < k → A 0 = mov0 ∨ A 0 = ⟨5#8, 0#8, 0#8, BitVec.ofInt 16 (k : Int), 0#32⟩
  lo : A k = wide0 v
  hi : A (k + 1) = wide1 v
  exit : A (k + 2) = exit0
theorem WRow.low {v : BitVec 64} {k : Nat} {A : Nat → Insn} (h : WRow v k A) {j : Nat} (hj : j < k) : wideB (A j) = false := by
  by_cases h0 : j = 0
  · subst h0
    rcases h.first hj with e | e <;> rw [e] <;> rfl
  · rw [h.mov j (by omega) hj]; rfl
theorem WRow.sec0 {v : BitVec 64} {k : Nat} {A : Nat → Insn} (h : WRow v k A) : ∀ {j : Nat}, j ≤ k → sec A j = false
  | 0, _ => rfl
  | j + 1, hj => by
    show (wideB (A j) && !sec A j) = false
    rw [h.low (by omega)]; rfl
theorem WRow.sec1 {v : BitVec 64} {k : Nat} {A : Nat → Insn} (h : WRow v k A) : sec A (k + 1) = true := by
  show (wideB (A k) && !sec A k) = true
  rw [h.lo, h.sec0 (Nat.le_refl _)]; rfl
theorem WRow.sec2 {v : BitVec 64} {k : Nat} {A : Nat → Insn} (h : WRow v k A) : sec A (k + 2) = false := by
  show (wideB (A (k + 1)) && !sec A (k + 1)) = false
  rw [h.sec1]; simp
theorem known_wide (v : BitVec 64) : m_insn_known (wide0 v) = true := by unfold m_insn_known; simp
theorem WRow.err {v : BitVec 64} {k : Nat} {A : Nat → Insn} (h : WRow v k A) {j : Nat} (hj : j < k + 3) (hs : sec A j = false) : errB (k + 3) A j = 0 ∧ m_insn_names (A j) = false := by
  by_cases h1 : j < k
  · by_cases h0 : j = 0
    · subst h0
      rcases h.first h1 with e | e
      · exact ⟨err_mov e, by rw [e]; rfl⟩
      · exact ⟨err_ja e, by rw [e]; rfl⟩
    · exact ⟨err_mov (h.mov j (by omega) h1), by rw [h.mov j (by omega) h1]; rfl⟩
  · by_cases h2 : j = k
    · subst h2
      have hr : rightB (j + 3) A j = true := by
        unfold rightB
        rw [h.hi, h.lo, d_t (by omega)]
        rfl
      refine ⟨?_, by rw [h.lo]; rfl⟩
      unfold errB
      rw [hr, h.lo, known_wide]
      rfl
    · by_cases h3 : j = k + 1
      · subst h3; rw [h.sec1] at hs; cases hs
      · obtain rfl : j = k + 2 := by omega
        exact ⟨err_exit h.exit, by rw [h.exit]; rfl⟩
theorem WRow.plain {v : BitVec 64} {k : Nat} {A : Nat → Insn} (h : WRow v k A) (hk : k ≤ 50) : Plain (k + 3) A where
  pos := by omega
  most := by omega
  ok := fun j h1 h2 h3 => (h.err h2 h3).1
  names := fun j h1 h2 => (h.err h1 h2).2
  ends := by
    have h1 := h.sec2
    unfold endOk lastAt
    rw [show k + 3 - 1 = k + 2 from rfl, h1]
    simp [h.exit]
theorem WRow.stay {v : BitVec 64} {k : Nat} {A : Nat → Insn} (h : WRow v k A) (p : Part) {j : Nat} (hj : j < k + 3) (hs : sec A j = false) (h0 : 0 < k → j = 0 → A 0 = mov0) : badJump A p j = false := by
  have hq : m_op_Jumps (A j) = false := by
    by_cases h1 : j < k
    · by_cases h2 : j = 0
      · subst h2; rw [h0 h1 rfl]; rfl
      · rw [h.mov j (by omega) h1]; rfl
    · by_cases h2 : j = k
      · subst h2; rw [h.lo]; simp [m_op_Jumps]
      · by_cases h3 : j = k + 1
        · subst h3; rw [h.sec1] at hs; cases hs
        · obtain rfl : j = k + 2 := by omega
          rw [h.exit]; rfl
  unfold badJump
  rw [hq, Bool.false_and]
theorem WRow.check {v : BitVec 64} {k : Nat} {A : Nat → Insn} (h : WRow v k A) (hk : k ≤ 50) (h0 : 0 < k → A 0 = mov0) : m_insn_Check (k + 3) A = some (0, 0) :=
  (h.plain hk).check fun p _ _ j hj hs => h.stay p hj hs fun h1 _ => h0 h1
theorem ofInt16 {k : Nat} (hk : k ≤ 50) : ii (BitVec.ofInt 16 (k : Int)) = (k : Int) := by
  unfold ii
  rw [BitVec.toInt_ofInt, Int.bmod_eq_of_le] <;> omega
theorem WRow.bad {v : BitVec 64} {k : Nat} {A : Nat → Insn} (h : WRow v k A) (hk : k ≤ 50) (h1 : 0 < k) (h0 : A 0 = ⟨5#8, 0#8, 0#8, BitVec.ofInt 16 (k : Int), 0#32⟩) : m_insn_Check (k + 3) A = some (0, 15) :=
  (h.plain hk).jump 0 (by omega) rfl (fun p q1 q2 => by
    unfold badJump
    have e1 : m_op_Jumps (A 0) = true := by rw [h0]; simp [m_op_Jumps]
    have e2 : ((0 : Nat) : Int) + 1 + ii (A 0).fOff = ((k + 1 : Nat) : Int) := by rw [h0, show ii (Insn.fOff ⟨5#8, 0#8, 0#8, BitVec.ofInt 16 (k : Int), 0#32⟩) = (k : Int) from ofInt16 hk]; omega
    rw [e1, e2, Int.toNat_natCast, h.sec1]
    simp) (fun p _ _ j hj => by omega)
theorem WRow.wide {v : BitVec 64} {k : Nat} {A : Nat → Insn} (h : WRow v k A) (hk : k ≤ 50) : m_insn_Wide (k + 3) A (k : Int) = some (v, true) := by
  have e1 : IntKind.i64.wrap ((k : Int) + 1) = ((k + 1 : Nat) : Int) := by rw [wr] <;> omega
  have ho : m_insn_operation (k + 3) A (k : Int) = some true := by
    unfold m_insn_operation
    rw [d_t (p := (0 : Int) ≤ (k : Int)) (by omega), d_t (p := (k : Int) < ((k + 3 : Nat) : Int)) (by omega), inR_nat' (by omega), Int.toNat_natCast, h.lo, known_wide, second_eq (by omega) (by omega), h.sec0 (Nat.le_refl _)]
    rfl
  unfold m_insn_Wide
  rw [ho, e1, inR_nat' (show k < k + 3 by omega), inR_nat' (show k + 1 < k + 3 by omega), Int.toNat_natCast, Int.toNat_natCast, h.lo, h.hi]
  have e2 : (((k + 1 : Nat) : Int) == ((k + 3 : Nat) : Int)) = false := by rw [beq_eq_false_iff_ne]; omega
  have e3 : (((v % 4294967296#64).setWidth 32).setWidth 64 ||| (((v >>> 32).setWidth 32).setWidth 64 <<< 32)) = v  := halves v
  rw [e2]
  show some ((((v % 4294967296#64).setWidth 32).setWidth 64 ||| (((v >>> 32).setWidth 32).setWidth 64 <<< 32)), true) = some (v, true)
  rw [e3]
theorem wides_loop (y1 : Int) (h0 : 0 ≤ y1) (h1 : y1 ≤ 50) : ∃ r, lpO (st_barbicanlaw1_InsnWides_L0 y1) (.c0) = some r ∧ ((y1 = 0 ∧ r = .e0) ∨ ∃ A, 0 < y1 ∧ r = .e1 y1.toNat A ∧ ∀ j, j < y1.toNat → A j = mov0) := by
  refine lpO_ind (st := st_barbicanlaw1_InsnWides_L0 y1) (fun s => match s with | .c0 => True | .c1 k A x => x = (k : Int) ∧ 0 < k ∧ (k : Int) ≤ y1 ∧ ∀ j, j < k → A j = mov0) (fun s => match s with | .c0 => 100 | .c1 k A x => 99 - k)
    (fun _ r => (y1 = 0 ∧ r = .e0) ∨ ∃ A, 0 < y1 ∧ r = .e1 y1.toNat A ∧ ∀ j, j < y1.toNat → A j = mov0) ?_ .c0 trivial
  rintro (_ | ⟨k, A, x⟩) hI
  · by_cases h : 0 < y1
    · refine .inl ⟨.c1 1 (fun _ => mov0) 1, ?_, ⟨rfl, by omega, by omega, fun j _ => rfl⟩, by show 99 - 1 < 100; omega, fun r hr => hr⟩
      simp only [st_barbicanlaw1_InsnWides_L0, d_t h, cond_true]
    · refine .inr ⟨.e0, ?_, .inl ⟨by omega, rfl⟩⟩
      simp only [st_barbicanlaw1_InsnWides_L0, d_f h, cond_false]
  · obtain ⟨rfl, hk, hle, hA⟩ := hI
    by_cases h : (k : Int) < y1
    · have e1 : IntKind.i64.wrap ((k : Int) + 1) = ((k + 1 : Nat) : Int) := by rw [wr] <;> omega
      refine .inl ⟨.c1 (k + 1) (updF A k mov0) ((k + 1 : Nat) : Int), ?_, ⟨rfl, by omega, by omega, fun j hj => ?_⟩, by show 99 - (k + 1) < 99 - k; omega, fun r hr => hr⟩
      · simp only [st_barbicanlaw1_InsnWides_L0, d_t h, cond_true, d_t (p := k ≤ 1000000) (by omega), e1]
      · by_cases hj2 : j = k
        · subst hj2; exact updF_at _ _ _
        · rw [updF_ne _ _ hj2]; exact hA j (by omega)
    · refine .inr ⟨.e1 k A, ?_, .inr ⟨A, by omega, by rw [show y1.toNat = k by omega], fun j hj => hA j (by omega)⟩⟩
      simp only [st_barbicanlaw1_InsnWides_L0, d_f h, cond_false]
theorem row_of (v : BitVec 64) (k : Nat) (A : Nat → Insn) (h : ∀ j, j < k → A j = mov0) : WRow v k (appL A k [wide0 v, wide1 v, exit0]) := by
  simp only [appL]
  refine ⟨fun j h0 h1 => ?_, fun h1 => .inl ?_, ?_, ?_, ?_⟩
  · rw [updF_ne _ _ (by omega), updF_ne _ _ (by omega), updF_ne _ _ (by omega)]; exact h j h1
  · rw [updF_ne _ _ (by omega), updF_ne _ _ (by omega), updF_ne _ _ (by omega)]; exact h 0 h1
  · rw [updF_ne _ _ (by omega), updF_ne _ _ (by omega), updF_at]
  · rw [updF_ne _ _ (by omega), updF_at]
  · rw [updF_at]
theorem WRow.jump {v : BitVec 64} {k : Nat} {A : Nat → Insn} (h : WRow v k A) (h1 : 0 < k) : WRow v k (updF A 0 ⟨5#8, 0#8, 0#8, BitVec.ofInt 16 (k : Int), 0#32⟩) := by
  refine ⟨fun j h2 h3 => ?_, fun _ => .inr (updF_at _ _ _), ?_, ?_, ?_⟩
  · rw [updF_ne _ _ (by omega)]; exact h.mov j h2 h3
  · rw [updF_ne _ _ (by omega)]; exact h.lo
  · rw [updF_ne _ _ (by omega)]; exact h.hi
  · rw [updF_ne _ _ (by omega)]; exact h.exit
theorem wides_true (y0 : BitVec 64) (y1 : Int) : m_barbicanlaw1_InsnWides y0 y1 = some true := by
  unfold m_barbicanlaw1_InsnWides
  by_cases h0 : y1 < 0
  · rw [d_t h0]; rfl
  rw [d_f h0]
  by_cases h1 : 50 < y1
  · rw [d_t h1]; rfl
  rw [d_f h1]
  simp only [cond_false]
  obtain ⟨r, hr, hcase⟩ := wides_loop y1 (by omega) (by omega)
  rw [hr]
  rcases hcase with ⟨rfl, rfl⟩ | ⟨A, hp, rfl, hA⟩
  · have hW := row_of y0 0 (fun _ => (⟨0#8, 0#8, 0#8, 0#16, 0#32⟩ : Insn)) (fun j hj => by omega)
    have e1 : m_insn_Wide 3 _ 0 = _ := hW.wide (by omega)
    have e2 : m_insn_Check 3 _ = _ := hW.check (by omega) (fun h => by omega)
    simp only [Option.bind_some, bindT, e1, e2, cond_true]
    simp
  · obtain ⟨k, rfl⟩ := Int.eq_ofNat_of_zero_le (show 0 ≤ y1 by omega)
    rw [Int.toNat_natCast] at hA ⊢
    have hW := row_of y0 k A hA
    have e1 := hW.wide (by omega)
    have h00 : appL A k [wide0 y0, wide1 y0, exit0] 0 = mov0 := by
      simp only [appL]
      rw [updF_ne _ _ (by omega), updF_ne _ _ (by omega), updF_ne _ _ (by omega)]; exact hA 0 (by omega)
    have e2 := hW.check (by omega) (fun _ => h00)
    have e3 := (hW.jump (by omega)).bad (by omega) (by omega) (updF_at _ _ _)
    have e4 : inR 0 (k + 3) = true := inR_iff.2 ⟨by omega, by omega⟩
    have e5 : ((k : Int) == 0) = false := by rw [beq_eq_false_iff_ne]; omega
    simp only [Option.bind_some, bindT, d_t (p := k ≤ 1000000) (by omega), e1, e2, e3, e4, e5, cond_true, cond_false]
    simp
end Go.Proofs.Ytmlkiamemkfdlaa
