/-
  Instructions: the bytes of slots one behind the other (the law InsnJoined), in plain words.
-/
import Derived.Test.YtmlkiamemkfdlaaS1M
import Derived.Test.YtmlkiamemkfdlaaS1G
namespace Go.Proofs.Ytmlkiamemkfdlaa
open Go.RowKit
set_option linter.unusedVariables false
set_option linter.unusedSimpArgs false
/-- Byte i of a slot. -/
def encB (x : Insn) : Nat → BitVec 8
  | 0 => x.fOp
  | 1 => (x.fSrc <<< 4) ||| (x.fDst &&& 15#8)
  | 2 => x.fOff.setWidth 8
  | 3 => (x.fOff >>> 8).setWidth 8
  | 4 => x.fImm.setWidth 8
  | 5 => (x.fImm >>> 8).setWidth 8
  | 6 => (x.fImm >>> 16).setWidth 8
  | _ => (x.fImm >>> 24).setWidth 8
theorem c_t' {α : Type} (x y : α) : (bif true then x else y) = x := by simp
theorem c_f' {α : Type} (x y : α) : (bif false then x else y) = y := by simp
abbrev encE (E : Nat → BitVec 8) (N : Nat) (x : Insn) : Nat → BitVec 8 := appL (appL E N [x.fOp, ((x.fSrc <<< 4) ||| (x.fDst &&& 15#8)), (x.fOff.setWidth 8), ((x.fOff >>> 8).setWidth 8)]) (N + 4) [(x.fImm.setWidth 8), ((x.fImm >>> 8).setWidth 8), ((x.fImm >>> 16).setWidth 8), ((x.fImm >>> 24).setWidth 8)]
theorem enc_step (E : Nat → BitVec 8) (N : Nat) (x : Insn) : (∀ i, i < 8 → encE E N x (N + i) = encB x i) ∧ ∀ j, j < N → encE E N x j = E j := by
  constructor
  · intro i hi
    show appL _ _ _ _ = _
    simp only [appL]
    rcases i with _ | _ | _ | _ | _ | _ | _ | _ | i
    · repeat rw [updF_ne _ _ (by omega)]
      exact updF_at _ _ _
    · repeat rw [updF_ne _ _ (by omega)]
      exact updF_at _ _ _
    · repeat rw [updF_ne _ _ (by omega)]
      exact updF_at _ _ _
    · repeat rw [updF_ne _ _ (by omega)]
      exact updF_at _ _ _
    · repeat rw [updF_ne _ _ (by omega)]
      exact updF_at _ _ _
    · repeat rw [updF_ne _ _ (by omega)]
      exact updF_at _ _ _
    · repeat rw [updF_ne _ _ (by omega)]
      exact updF_at _ _ _
    · exact updF_at _ _ _
    · omega
  · intro j hj
    show appL _ _ _ _ = _
    simp only [appL]
    repeat rw [updF_ne _ _ (by omega)]
theorem enc_spec {n : Nat} (hn : n ≤ 100000) (A : Nat → Insn) : ∃ E, m_insn_Encode n A = some (.e0 (8 * n) E) ∧ ∀ k, k < n → ∀ i, i < 8 → E (8 * k + i) = encB (A k) i := by
  have key : ∃ r, lpO (st_insn_Encode_L0 n A) (.c0 0 (fun _ => 0#8) 0) = some r ∧ ∃ E, r = .e0 (8 * n) E ∧ ∀ k, k < n → ∀ i, i < 8 → E (8 * k + i) = encB (A k) i := by
    refine lpO_ind (st := st_insn_Encode_L0 n A) (fun s => match s with | .c0 N E x => ∃ k : Nat, x = (k : Int) ∧ k ≤ n ∧ N = 8 * k ∧ ∀ k', k' < k → ∀ i, i < 8 → E (8 * k' + i) = encB (A k') i) (fun s => match s with | .c0 N E x => n - x.toNat)
      (fun _ r => ∃ E, r = .e0 (8 * n) E ∧ ∀ k, k < n → ∀ i, i < 8 → E (8 * k + i) = encB (A k) i) ?_ _ ⟨0, rfl, by omega, rfl, fun k hk => by omega⟩
    rintro ⟨N, E, x⟩ ⟨k, rfl, hk, rfl, hE⟩
    by_cases h : k < n
    · have e1 : IntKind.i64.wrap ((k : Int) + 1) = ((k + 1 : Nat) : Int) := by rw [wr] <;> omega
      obtain ⟨s1, s2⟩ := enc_step E (8 * k) (A k)
      refine .inl ⟨.c0 (8 * k + 4 + 4) (encE E (8 * k) (A k)) ((k + 1 : Nat) : Int), ?_, ⟨k + 1, rfl, by omega, by omega, fun k' hk' i hi => ?_⟩, by show n - ((k + 1 : Nat) : Int).toNat < n - (k : Int).toNat; omega, fun r hr => hr⟩
      · unfold st_insn_Encode_L0
        dsimp only
        rw [d_t (p := (k : Int) < (n : Int)) (by omega), c_t', inR_nat' h, c_t', d_t (p := 8 * k ≤ 1000000) (by omega), c_t', Int.toNat_natCast]
        simp only [bindT]
        rw [d_t (p := 8 * k + 4 ≤ 1000000) (by omega), c_t', e1]
      · by_cases c : k' = k
        · subst c; exact s1 i hi
        · rw [s2 _ (by omega)]; exact hE k' (by omega) i hi
    · obtain rfl : k = n := by omega
      refine .inr ⟨.e0 (8 * k) E, ?_, E, rfl, hE⟩
      unfold st_insn_Encode_L0
      dsimp only
      rw [d_f (p := (k : Int) < (k : Int)) (by omega), c_f']
  obtain ⟨r, hr, E, rfl, hE⟩ := key
  refine ⟨E, ?_, hE⟩
  have e1 : IntKind.i64.wrap ((n : Int) * 8) = ((8 * n : Nat) : Int) := by rw [wr] <;> omega
  unfold m_insn_Encode
  rw [e1, inR_nat' (by omega), c_t', hr]
  rfl
theorem joined_bytes {n0 n1 n : Nat} {A0 A1 A : Nat → Insn} {E0 E1 E : Nat → BitVec 8} (hn : n = n0 + n1) (hA : ∀ k, k < n → A k = catF A0 n0 A1 k)
    (h : ∀ k, k < n → ∀ i, i < 8 → E (8 * k + i) = encB (A k) i) (h0 : ∀ k, k < n0 → ∀ i, i < 8 → E0 (8 * k + i) = encB (A0 k) i) (h1 : ∀ k, k < n1 → ∀ i, i < 8 → E1 (8 * k + i) = encB (A1 k) i) :
    m_barbicanhelp_Bytes (8 * n) E (8 * n0 + 8 * n1) (catF E0 (8 * n0) E1) = true := by
  unfold m_barbicanhelp_Bytes
  suffices hs : bstr (8 * n) E = bstr (8 * n0 + 8 * n1) (catF E0 (8 * n0) E1) by
    rw [hs, beq_toListBytes]
    exact beq_self_eq_true _
  refine bstr_congr (by omega) fun j hj => ?_
  have ej : j = 8 * (j / 8) + j % 8 := (Nat.div_add_mod j 8).symm
  have hi : j % 8 < 8 := Nat.mod_lt _ (by omega)
  have hk : j / 8 < n := by omega
  have e1 := h (j / 8) hk (j % 8) hi
  rw [← ej, hA _ hk] at e1
  rw [e1]
  by_cases c : j / 8 < n0
  · rw [catF_lo _ _ c, catF_lo _ _ (by omega), ← h0 (j / 8) c (j % 8) hi, ← ej]
  · obtain ⟨d, hd⟩ := Nat.exists_eq_add_of_le (show n0 ≤ j / 8 by omega)
    have ej2 : j = 8 * n0 + (8 * d + j % 8) := by omega
    rw [hd, catF_hi]
    conv => rhs; rw [ej2]
    rw [catF_hi, h1 d (by omega) (j % 8) hi]
theorem joined_true {n0 n1 : Nat} (hs63 : n0 + n1 < 9223372036854775808) (A0 A1 : Nat → Insn) : m_barbicanlaw1_InsnJoined n0 A0 n1 A1 = some true := by
  have e0 : IntKind.i64.wrap ((n0 : Int) + (n1 : Int)) = ((n0 + n1 : Nat) : Int) := by rw [wr] <;> omega
  unfold m_barbicanlaw1_InsnJoined
  rw [e0]
  by_cases hs : 2000 < n0 + n1
  · rw [d_t (p := 2000 < ((n0 + n1 : Nat) : Int)) (by omega), c_t']
  rw [d_f (p := 2000 < ((n0 + n1 : Nat) : Int)) (by omega), c_f']
  obtain ⟨E0, hE0, hB0⟩ := enc_spec (show n0 ≤ 100000 by omega) A0
  obtain ⟨E1, hE1, hB1⟩ := enc_spec (show n1 ≤ 100000 by omega) A1
  have l0 : decide (8 * n0 ≤ 1000000) = true := d_t (by omega)
  have l1 : decide (8 * n1 ≤ 1000000) = true := d_t (by omega)
  by_cases c0 : 0 < n0
  · obtain ⟨E, hE, hB⟩ := enc_spec (show n0 + n1 ≤ 100000 by omega) (catF A0 n0 A1)
    have hj := joined_bytes rfl (fun _ _ => rfl) hB hB0 hB1
    rw [d_t c0, c_t', d_t (p := n0 ≤ 1000000) (by omega), c_t', d_t (p := n1 ≤ 1000000) (by omega), c_t', hE]
    simp only [Option.bind_some]
    rw [hE0]
    simp only [Option.bind_some]
    rw [hE1]
    simp only [Option.bind_some]
    rw [l0, c_t', l1, c_t', hj]
    rfl
  · obtain rfl : n0 = 0 := by omega
    rw [d_f c0, c_f']
    by_cases c1 : 0 < n1
    · have hj := joined_bytes (n0 := 0) (n1 := n1) (n := n1) (A0 := A0) (A1 := A1) (A := A1) (by omega) (fun k _ => by have := catF_hi A0 A1 0 k; rw [Nat.zero_add] at this; exact this.symm) hB1 hB0 hB1
      rw [d_t c1, c_t', d_t (p := n1 ≤ 1000000) (by omega), c_t', hE1]
      simp only [Option.bind_some]
      rw [hE0]
      simp only [Option.bind_some]
      rw [l0, c_t', l1, c_t', hj]
      rfl
    · obtain rfl : n1 = 0 := by omega
      obtain ⟨E, hE, hB⟩ := enc_spec (show 0 ≤ 100000 by omega) (fun _ => (⟨0#8, 0#8, 0#8, 0#16, 0#32⟩ : Insn))
      have hj := joined_bytes (n0 := 0) (n1 := 0) (n := 0) (A0 := A0) (A1 := A1) (by omega) (fun k hk => by omega) hB hB0 hB1
      rw [d_f c1, c_f', hE]
      simp only [Option.bind_some]
      rw [hE0]
      simp only [Option.bind_some]
      rw [hE1]
      simp only [Option.bind_some]
      rw [show decide (8 * 0 ≤ 1000000) = true from rfl, c_t', c_t', hj]
      rfl
end Go.Proofs.Ytmlkiamemkfdlaa
