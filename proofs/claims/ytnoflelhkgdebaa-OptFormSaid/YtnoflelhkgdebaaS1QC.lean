/-
  Instructions: the reference's second slots, and what it says of a slot by itself.
-/
import Derived.Test.YtnoflelhkgdebaaS1QB
namespace Go.Proofs.Ytnoflelhkgdebaa
open Go.RowKit
set_option linter.unusedVariables false
set_option linter.unusedSimpArgs false
set_option maxRecDepth 100000
theorem seconds_spec {n : Nat} (hn : n ≤ 1000000) (A : Nat → Insn) : ∃ G, m_barbicanref1_Seconds n A = some (.e0 G) ∧ ∀ k, k < n → G k = sec A k := by
  have h0 : ∃ k : Nat, (1 : Int) = (k : Int) ∧ 1 ≤ k ∧ (k ≤ n ∨ k = 1) ∧ ∀ j, j < k → (fun _ => false) j = sec A j := ⟨1, rfl, Nat.le_refl _, .inr rfl, fun j hj => by
    have hj0 : j = 0 := by omega
    subst hj0
    rfl⟩
  have key : ∃ r, lpO (st_barbicanref1_Seconds_L0 n A) (.c0 (fun _ => false) 1) = some r ∧ ∃ G, r = .e0 G ∧ ∀ k, k < n → G k = sec A k := by
    refine lpO_ind (st := st_barbicanref1_Seconds_L0 n A) (fun s => match s with | .c0 G x => ∃ k : Nat, x = (k : Int) ∧ 1 ≤ k ∧ (k ≤ n ∨ k = 1) ∧ ∀ j, j < k → G j = sec A j) (fun s => match s with | .c0 G x => n + 1 - x.toNat)
      (fun _ r => ∃ G, r = .e0 G ∧ ∀ k, k < n → G k = sec A k) ?_ _ h0
    rintro ⟨G, x⟩ ⟨k, rfl, h1, hk, hG⟩
    by_cases h : k < n
    · obtain ⟨i, rfl⟩ : ∃ i, k = i + 1 := ⟨k - 1, by omega⟩
      have e1 : IntKind.i64.wrap (((i + 1 : Nat) : Int) - 1) = (i : Int) := by rw [wz] <;> omega
      have e2 : IntKind.i64.wrap (((i + 1 : Nat) : Int) + 1) = ((i + 1 + 1 : Nat) : Int) := by rw [wz] <;> omega
      refine .inl ⟨.c0 (updF G (i + 1) (sec A (i + 1))) ((i + 1 + 1 : Nat) : Int), ?_, ⟨i + 1 + 1, rfl, by omega, .inl (by omega), fun j hj => ?_⟩, by show n + 1 - ((i + 1 + 1 : Nat) : Int).toNat < n + 1 - ((i + 1 : Nat) : Int).toNat; omega, fun r hr => hr⟩
      · unfold st_barbicanref1_Seconds_L0
        dsimp only
        have hw : m_barbicanref1_IsWide (A i) = wideB (A i) := rfl
        have hsec : sec A (i + 1) = (wideB (A i) && !sec A i) := rfl
        rw [e1, e2]
        simp only [Int.toNat_natCast]
        rw [bd_t (by omega), bi_t (by omega), hw, bi_t (by omega), bi_t (by omega), bi_t (by omega), hG i (by omega), hsec]
        cases wideB (A i) <;> cases sec A i <;> rfl
      · rw [updF_get]
        by_cases c : j = i + 1
        · rw [if_pos c, c]
        · rw [if_neg c]; exact hG j (by omega)
    · refine .inr ⟨.e0 G, ?_, G, rfl, fun j hj => hG j (by omega)⟩
      unfold st_barbicanref1_Seconds_L0
      dsimp only
      rw [bd_f (by omega)]
  obtain ⟨r, hr, G, rfl, hG⟩ := key
  refine ⟨G, ?_, hG⟩
  unfold m_barbicanref1_Seconds
  rw [bi_t (by omega), hr]
  rfl
theorem to_eq {n : Nat} (A : Nat → Insn) {k : Nat} (hk : k ≤ 1000000) {y : Int} (h0 : -4000000000 ≤ y) (h1 : y ≤ 4000000000) : m_barbicanref1_To n A (k : Int) y = if 0 ≤ (k : Int) + 1 + y ∧ (k : Int) + 1 + y < n then (k : Int) + 1 + y else -1 := by
  have e1 : IntKind.i64.wrap ((k : Int) + 1) = (k : Int) + 1 := by rw [wz] <;> omega
  have e2 : IntKind.i64.wrap ((k : Int) + 1 + y) = (k : Int) + 1 + y := by rw [wz] <;> omega
  unfold m_barbicanref1_To
  rw [e1, e2]
  by_cases c : (k : Int) + 1 + y < 0
  · rw [bd_t c, if_neg (by omega)]
  · rw [bd_f c]
    by_cases c2 : (n : Int) ≤ (k : Int) + 1 + y
    · rw [bd_t c2, if_neg (by omega)]
    · rw [bd_f c2, if_pos (by omega)]
theorem one_eq {n : Nat} (hn : n ≤ 4096) {A : Nat → Insn} {G : Nat → Bool} (hG : ∀ k, k < n → G k = sec A k) {k : Nat} (hk : k < n) : m_barbicanref1_one n A n G (k : Int) = some (errB n A k) := by
  have h32 := ii32 (A k).fImm
  have e1 : IntKind.i64.wrap ((k : Int) + 1) = ((k + 1 : Nat) : Int) := by rw [wz] <;> omega
  have ht := to_eq (n := n) A (k := k) (by omega) (y := ii (A k).fImm) (by omega) (by omega)
  have hcall : ∀ f : Bool → Option Int, ((bindT (m_barbicanref1_To n A (k : Int) (ii (A k).fImm)) fun r3 => (jp_barbicanref1_one_J3 n G r3).bind f)) = f (!callB n A ((k : Int) + 1 + ii (A k).fImm)) := fun f => by
    rw [ht]
    unfold bindT jp_barbicanref1_one_J3 callB
    generalize hz : (k : Int) + 1 + ii (A k).fImm = z
    by_cases c : 0 ≤ z ∧ z < n
    · rw [if_pos c]
      dsimp only
      by_cases c1 : z < 1
      · rw [bd_t c1, dd_f (p := 0 < z) (by omega)]; rfl
      · rw [bd_f c1, bi_t c, dd_t (p := 0 < z) (by omega), dd_t (p := z < n) (by omega), hG _ (by omega)]
        cases sec A z.toNat <;> rfl
    · rw [if_neg c]
      dsimp only
      rw [bd_t (by omega)]
      by_cases c1 : 0 < z
      · rw [dd_t c1, dd_f (p := z < n) (by omega)]; rfl
      · rw [dd_f c1]; rfl
  have hcall' : ∀ f : Bool → Option Int, ((bindT (m_barbicanref1_To n A (k : Int) (ii (A k).fImm)) fun r3 => (jp_barbicanref1_one_J5 n G r3).bind f)) = f (!callB n A ((k : Int) + 1 + ii (A k).fImm)) := hcall
  have hw : m_barbicanref1_IsWide (A k) = wideB (A k) := rfl
  unfold m_barbicanref1_one
  rw [bi_t (by omega)]
  simp only [Int.toNat_natCast]
  rw [known_eq]
  unfold errB
  cases hkn : m_insn_known (A k)
  · rfl
  simp only [hcall, hcall', hw, names_eq hkn]
  rw [b_t]
  unfold jp_barbicanref1_one_J0 jp_barbicanref1_one_J2 jp_barbicanref1_one_J4
  simp only [Int.toNat_natCast, writes_eq, helper_eq hkn, e1]
  have hr : rightB n A k = !(bif ((k + 1 : Nat) : Int) == (n : Int) then true else jp_barbicanref1_one_J1 A (k : Int)) := by
    unfold rightB jp_barbicanref1_one_J1
    simp only [e1, Int.toNat_natCast]
    by_cases c : k + 1 < n
    · rw [dd_t c, bz_f (by omega)]
      cases (A (k + 1)).fOp == 0#8 <;> cases (A (k + 1)).fDst == 0#8 <;> cases (A (k + 1)).fSrc == 0#8 <;> cases (A (k + 1)).fOff == 0#16 <;> cases (A k).fSrc == 0#8 <;> cases (A (k + 1)).fImm == 0#32 <;> rfl
    · rw [dd_f c, bz_t (by omega)]; rfl
  by_cases c : k + 1 < n
  · rw [bz_f (show ((k + 1 : Nat) : Int) ≠ (n : Int) by omega)] at hr ⊢
    rw [bi_t (by omega)]
    rw [hr]
    unfold bindT
    generalize BitVec.ult 10#8 (A k).fDst = b2
    generalize BitVec.ult 10#8 (A k).fSrc = b3
    generalize ((A k).fDst == 10#8) = b4
    generalize m_insn_writes (A k) = b5
    generalize wideB (A k) = b6
    generalize jp_barbicanref1_one_J1 A (k : Int) = b7
    generalize ((A k).fOp == 133#8) = b8
    generalize ((A k).fSrc == 0#8) = b9
    generalize BitVec.slt (A k).fImm 1#32 = b10
    generalize BitVec.slt 28#32 (A k).fImm = b11
    generalize m_insn_names (A k) = b12
    generalize callB n A ((k : Int) + 1 + ii (A k).fImm) = b13
    revert b2 b3 b4 b5 b6 b7 b8 b9 b10 b11 b12 b13
    decide +kernel
  · rw [bz_t (show ((k + 1 : Nat) : Int) = (n : Int) by omega)] at hr ⊢
    rw [hr]
    unfold bindT
    generalize BitVec.ult 10#8 (A k).fDst = b2
    generalize BitVec.ult 10#8 (A k).fSrc = b3
    generalize ((A k).fDst == 10#8) = b4
    generalize m_insn_writes (A k) = b5
    generalize wideB (A k) = b6
    generalize ((A k).fOp == 133#8) = b8
    generalize ((A k).fSrc == 0#8) = b9
    generalize BitVec.slt (A k).fImm 1#32 = b10
    generalize BitVec.slt 28#32 (A k).fImm = b11
    generalize m_insn_names (A k) = b12
    generalize callB n A ((k : Int) + 1 + ii (A k).fImm) = b13
    revert b2 b3 b4 b5 b6 b8 b9 b10 b11 b12 b13
    decide +kernel
end Go.Proofs.Ytnoflelhkgdebaa

