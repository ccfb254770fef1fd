/-
  Instructions: the reference's bytes are the program's; the same slots, in plain words.
-/
import Derived.Test.YtmlkiamemkfdlaaS1H
import Derived.Test.YtmlkiamemkfdlaaS1I
namespace Go.Proofs.Ytmlkiamemkfdlaa
open Go.RowKit
set_option linter.unusedVariables false
set_option linter.unusedSimpArgs false
theorem nib (s d : BitVec 8) : (s % 16#8) * 16#8 + d % 16#8 = (s <<< 4) ||| (d &&& 15#8) := by
  apply BitVec.eq_of_toNat_eq
  have hs := s.isLt
  have hd := d.isLt
  have e1 : d.toNat &&& 15 = d.toNat % 16 := Nat.and_two_pow_sub_one_eq_mod d.toNat 4
  simp only [BitVec.toNat_add, BitVec.toNat_mul, BitVec.toNat_umod, BitVec.toNat_or, BitVec.toNat_and, BitVec.toNat_shiftLeft, BitVec.toNat_ofNat, Nat.shiftLeft_eq]
  rw [show 15 % 2 ^ 8 = 15 from rfl, show 16 % 2 ^ 8 = 16 from rfl, e1]
  have e2 : s.toNat * 2 ^ 4 % 2 ^ 8 = 2 ^ 4 * (s.toNat % 16) := by omega
  rw [e2, ← Nat.two_pow_add_eq_or_of_lt (show d.toNat % 16 < 2 ^ 4 by omega)]
  omega
theorem low16 (x : BitVec 16) : (x % 256#16).setWidth 8 = x.setWidth 8 := by
  apply BitVec.eq_of_toNat_eq
  simp only [BitVec.toNat_setWidth, BitVec.toNat_umod, BitVec.toNat_ofNat]
  rw [show 256 % 2 ^ 16 = 256 from rfl]
  omega
theorem high16 (x : BitVec 16) : (x / 256#16).setWidth 8 = (x >>> 8).setWidth 8 := by
  apply BitVec.eq_of_toNat_eq
  simp only [BitVec.toNat_setWidth, BitVec.toNat_udiv, BitVec.toNat_ofNat, BitVec.toNat_ushiftRight, Nat.shiftRight_eq_div_pow]
theorem insns_loop {n : Nat} (hn : n ≤ 1000000) {A B : Nat → Insn} (h : ∀ k, k < n → A k = B k) : m_barbicanhelp_Insns n A n B = some true := by
  have key : ∃ r, lpO (st_barbicanhelp_Insns_L0 n A n B) (.c0 0) = some r ∧ r = .e0 := by
    refine lpO_ind (st := st_barbicanhelp_Insns_L0 n A n B) (fun s => match s with | .c0 x => ∃ k : Nat, x = (k : Int) ∧ k ≤ n) (fun s => match s with | .c0 x => n - x.toNat) (fun _ r => r = .e0) ?_ _ ⟨0, rfl, by omega⟩
    rintro ⟨x⟩ ⟨k, rfl, hk⟩
    by_cases c : k < n
    · have e1 : IntKind.i64.wrap ((k : Int) + 1) = ((k + 1 : Nat) : Int) := by rw [wr] <;> omega
      refine .inl ⟨.c0 ((k + 1 : Nat) : Int), ?_, ⟨k + 1, rfl, by omega⟩, by show n - ((k + 1 : Nat) : Int).toNat < n - (k : Int).toNat; omega, fun r hr => hr⟩
      unfold st_barbicanhelp_Insns_L0
      dsimp only
      rw [d_t (p := (k : Int) < (n : Int)) (by omega), c_t', inR_nat' c, c_t', c_t', Int.toNat_natCast, h k c, e1]
      simp only [beq_self_eq_true, Bool.and_self, cond_true]
    · refine .inr ⟨.e0, ?_, rfl⟩
      unfold st_barbicanhelp_Insns_L0
      dsimp only
      rw [d_f (p := (k : Int) < (n : Int)) (by omega), c_f']
  obtain ⟨r, hr, rfl⟩ := key
  unfold m_barbicanhelp_Insns
  rw [hr, beq_self_eq_true]
  rfl
abbrev refE (E : Nat → BitVec 8) (N : Nat) (x : Insn) : Nat → BitVec 8 :=
  updF (updF (updF (updF (appL (appL E N [x.fOp, (((x.fSrc % 16#8) * 16#8) + (x.fDst % 16#8))]) (N + 2) [((x.fOff % 256#16).setWidth 8), ((x.fOff / 256#16).setWidth 8)]) ((N + 2) + 2) ((x.fImm >>> 0).setWidth 8)) (((N + 2) + 2) + 1) ((x.fImm >>> 8).setWidth 8)) ((((N + 2) + 2) + 1) + 1) ((x.fImm >>> 16).setWidth 8)) (((((N + 2) + 2) + 1) + 1) + 1) ((x.fImm >>> 24).setWidth 8)
theorem ref_step (E : Nat → BitVec 8) (N : Nat) (x : Insn) : (∀ i, i < 8 → refE E N x (N + i) = encB x i) ∧ ∀ j, j < N → refE E N x j = E j := by
  constructor
  · intro i hi
    show updF _ _ _ _ = _
    simp only [appL, nib, low16, high16]
    rcases i with _ | _ | _ | _ | _ | _ | _ | _ | i
    · repeat rw [updF_ne _ _ (by omega)]
      exact updF_at _ _ _
    · repeat rw [updF_ne _ _ (by omega)]
      exact updF_at _ _ _
    · repeat rw [updF_ne _ _ (by omega)]
      exact updF_at _ _ _
    · repeat rw [updF_ne _ _ (by omega)]
      exact updF_at _ _ _
    · repeat rw [updF_ne _ _ (by omega)]
      exact updF_at _ _ _
    · repeat rw [updF_ne _ _ (by omega)]
      exact updF_at _ _ _
    · repeat rw [updF_ne _ _ (by omega)]
      exact updF_at _ _ _
    · exact updF_at _ _ _
    · omega
  · intro j hj
    show updF _ _ _ _ = _
    simp only [appL]
    repeat rw [updF_ne _ _ (by omega)]
theorem refenc_spec {n : Nat} (hn : n ≤ 100000) (A : Nat → Insn) : (n = 0 ∧ m_barbicanref1_Encode n A = some .e0) ∨ (0 < n ∧ ∃ E, m_barbicanref1_Encode n A = some (.e1 (8 * n) E) ∧ ∀ k, k < n → ∀ i, i < 8 → E (8 * k + i) = encB (A k) i) := by
  have key : ∃ r, lpO (st_barbicanref1_Encode_L0 n A) .c0 = some r ∧ ((n = 0 ∧ r = .e0) ∨ (0 < n ∧ ∃ E, r = .e1 (8 * n) E ∧ ∀ k, k < n → ∀ i, i < 8 → E (8 * k + i) = encB (A k) i)) := by
    refine lpO_ind (st := st_barbicanref1_Encode_L0 n A) (fun s => match s with | .c0 => True | .c1 N E x => ∃ k : Nat, x = (k : Int) ∧ 0 < k ∧ k ≤ n ∧ N = 8 * k ∧ ∀ k', k' < k → ∀ i, i < 8 → E (8 * k' + i) = encB (A k') i) (fun s => match s with | .c0 => n + 1 | .c1 N E x => n - x.toNat)
      (fun _ r => (n = 0 ∧ r = .e0) ∨ (0 < n ∧ ∃ E, r = .e1 (8 * n) E ∧ ∀ k, k < n → ∀ i, i < 8 → E (8 * k + i) = encB (A k) i)) ?_ _ trivial
    rintro (_ | ⟨N, E, x⟩) hI
    · by_cases h : 0 < n
      · obtain ⟨s1, s2⟩ := ref_step (fun _ => 0#8) 0 (A 0)
        refine .inl ⟨.c1 8 (refE (fun _ => 0#8) 0 (A 0)) 1, ?_, ⟨1, rfl, by omega, by omega, rfl, fun k' hk' i hi => ?_⟩, by show n - (1 : Int).toNat < n + 1; omega, fun r hr => hr⟩
        · unfold st_barbicanref1_Encode_L0
          dsimp only
          rw [d_t (p := 0 < (n : Int)) (by omega), c_t', show inR 0 n = true from inR_iff.2 ⟨by omega, by omega⟩, c_t']
          rfl
        · obtain rfl : k' = 0 := by omega
          exact s1 i hi
      · refine .inr ⟨.e0, ?_, .inl ⟨by omega, rfl⟩⟩
        unfold st_barbicanref1_Encode_L0
        dsimp only
        rw [d_f (p := 0 < (n : Int)) (by omega), c_f']
    · obtain ⟨k, rfl, hk0, hk, rfl, hE⟩ := hI
      by_cases h : k < n
      · have e1 : IntKind.i64.wrap ((k : Int) + 1) = ((k + 1 : Nat) : Int) := by rw [wr] <;> omega
        obtain ⟨s1, s2⟩ := ref_step E (8 * k) (A k)
        refine .inl ⟨.c1 (((((8 * k + 2) + 2) + 1) + 1) + 1 + 1) (refE E (8 * k) (A k)) ((k + 1 : Nat) : Int), ?_, ⟨k + 1, rfl, by omega, by omega, by omega, fun k' hk' i hi => ?_⟩, by show n - ((k + 1 : Nat) : Int).toNat < n - (k : Int).toNat; omega, fun r hr => hr⟩
        · unfold st_barbicanref1_Encode_L0
          dsimp only
          rw [d_t (p := (k : Int) < (n : Int)) (by omega), c_t', inR_nat' h, c_t', d_t (p := 8 * k ≤ 1000000) (by omega), c_t', Int.toNat_natCast]
          simp only [bindT]
          rw [d_t (p := 8 * k + 2 ≤ 1000000) (by omega), c_t', d_t (p := 8 * k + 2 + 2 ≤ 1000000) (by omega), c_t', d_t (p := 8 * k + 2 + 2 + 1 ≤ 1000000) (by omega), c_t', d_t (p := 8 * k + 2 + 2 + 1 + 1 ≤ 1000000) (by omega), c_t', d_t (p := 8 * k + 2 + 2 + 1 + 1 + 1 ≤ 1000000) (by omega), c_t', e1]
        · by_cases c : k' = k
          · subst c; exact s1 i hi
          · rw [s2 _ (by omega)]; exact hE k' (by omega) i hi
      · obtain rfl : k = n := by omega
        refine .inr ⟨.e1 (8 * k) E, ?_, .inr ⟨hk0, E, rfl, hE⟩⟩
        unfold st_barbicanref1_Encode_L0
        dsimp only
        rw [d_f (p := (k : Int) < (k : Int)) (by omega), c_f']
  obtain ⟨r, hr, hcase⟩ := key
  unfold m_barbicanref1_Encode
  rw [hr]
  rcases hcase with ⟨h0, rfl⟩ | ⟨h0, E, rfl, hE⟩
  · exact .inl ⟨h0, rfl⟩
  · exact .inr ⟨h0, E, rfl, hE⟩
end Go.Proofs.Ytmlkiamemkfdlaa
