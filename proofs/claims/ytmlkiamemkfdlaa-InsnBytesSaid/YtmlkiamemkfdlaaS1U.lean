/-
  Instructions: bytes read as slots, in plain words.
-/
import Derived.Test.YtmlkiamemkfdlaaRxJ
import Derived.Test.YtmlkiamemkfdlaaS1L
import Derived.Test.YtmlkiamemkfdlaaS1T
namespace Go.Proofs.Ytmlkiamemkfdlaa
open Go.RowKit
set_option linter.unusedVariables false
set_option linter.unusedSimpArgs false
theorem n15 (x : BitVec 8) : (x &&& 15#8).toNat = x.toNat % 16 := by
  have e1 : x.toNat &&& 15 = x.toNat % 16 := Nat.and_two_pow_sub_one_eq_mod x.toNat 4
  simp only [BitVec.toNat_and, BitVec.toNat_ofNat]
  rw [show 15 % 2 ^ 8 = 15 from rfl, e1]
theorem or_add {a b k : Nat} (h : a < 2 ^ k) : a ||| 2 ^ k * b = a + 2 ^ k * b := by
  rw [Nat.or_comm, ← Nat.two_pow_add_eq_or_of_lt h, Nat.add_comm]
theorem or16 (a b : BitVec 8) : (a.setWidth 16 ||| (b.setWidth 16 <<< 8)).toNat = a.toNat + 256 * b.toNat := by
  have ha := a.isLt
  have hb := b.isLt
  simp only [BitVec.toNat_or, BitVec.toNat_shiftLeft, BitVec.toNat_setWidth, Nat.shiftLeft_eq]
  have e1 : a.toNat % 2 ^ 16 = a.toNat := by omega
  have e2 : b.toNat % 2 ^ 16 * 2 ^ 8 % 2 ^ 16 = 2 ^ 8 * b.toNat := by omega
  rw [e1, e2, or_add (by omega)]
theorem or32 (a b c d : BitVec 8) : ((((a.setWidth 32) ||| ((b.setWidth 32) <<< 8)) ||| ((c.setWidth 32) <<< 16)) ||| ((d.setWidth 32) <<< 24)).toNat = a.toNat + 256 * b.toNat + 65536 * c.toNat + 16777216 * d.toNat := by
  have ha := a.isLt
  have hb := b.isLt
  have hc := c.isLt
  have hd := d.isLt
  simp only [BitVec.toNat_or, BitVec.toNat_shiftLeft, BitVec.toNat_setWidth, Nat.shiftLeft_eq]
  simp only [Nat.reducePow]
  have e1 : a.toNat % 4294967296 = a.toNat := by omega
  have e2 : b.toNat % 4294967296 * 256 % 4294967296 = 256 * b.toNat := by rw [Nat.mod_eq_of_lt (a := b.toNat) (by omega), Nat.mod_eq_of_lt (by omega), Nat.mul_comm]
  have e3 : c.toNat % 4294967296 * 65536 % 4294967296 = 65536 * c.toNat := by rw [Nat.mod_eq_of_lt (a := c.toNat) (by omega), Nat.mod_eq_of_lt (by omega), Nat.mul_comm]
  have e4 : d.toNat % 4294967296 * 16777216 % 4294967296 = 16777216 * d.toNat := by rw [Nat.mod_eq_of_lt (a := d.toNat) (by omega), Nat.mod_eq_of_lt (by omega), Nat.mul_comm]
  have o1 : a.toNat ||| 256 * b.toNat = a.toNat + 256 * b.toNat := or_add (k := 8) (by omega)
  have o2 : (a.toNat + 256 * b.toNat) ||| 65536 * c.toNat = a.toNat + 256 * b.toNat + 65536 * c.toNat := or_add (k := 16) (by omega)
  have o3 : (a.toNat + 256 * b.toNat + 65536 * c.toNat) ||| 16777216 * d.toNat = a.toNat + 256 * b.toNat + 65536 * c.toNat + 16777216 * d.toNat := or_add (k := 24) (by omega)
  rw [e1, e2, e3, e4, o1, o2, o3]
/-- The slot of eight bytes. -/
abbrev decS (B : Nat → BitVec 8) : Insn := ⟨B 0, B 1 &&& 15#8, B 1 >>> 4, ((B 2).setWidth 16) ||| (((B 3).setWidth 16) <<< 8), ((((B 4).setWidth 32) ||| (((B 5).setWidth 32) <<< 8)) ||| (((B 6).setWidth 32) <<< 16)) ||| (((B 7).setWidth 32) <<< 24)⟩
theorem ref_slot (B : Nat → BitVec 8) : (⟨B 0, B 1 % 16#8, B 1 / 16#8, ((B 2).setWidth 16) + (256#16 * ((B 3).setWidth 16)), (256#32 * ((256#32 * ((256#32 * (0#32 + ((B 7).setWidth 32))) + ((B 6).setWidth 32))) + ((B 5).setWidth 32))) + ((B 4).setWidth 32)⟩ : Insn) = decS B := by
  have h := fun i => (B i).isLt
  have h1 := h 1; have h2 := h 2; have h3 := h 3; have h4 := h 4; have h5 := h 5; have h6 := h 6; have h7 := h 7
  have e1 : B 1 % 16#8 = B 1 &&& 15#8 := by
    apply BitVec.eq_of_toNat_eq
    rw [n15]
    simp only [BitVec.toNat_umod, BitVec.toNat_ofNat]
  have e2 : B 1 / 16#8 = B 1 >>> 4 := by
    apply BitVec.eq_of_toNat_eq
    simp only [BitVec.toNat_udiv, BitVec.toNat_ofNat, BitVec.toNat_ushiftRight, Nat.shiftRight_eq_div_pow]
  have e3 : ((B 2).setWidth 16) + (256#16 * ((B 3).setWidth 16)) = ((B 2).setWidth 16) ||| (((B 3).setWidth 16) <<< 8) := by
    apply BitVec.eq_of_toNat_eq
    rw [or16]
    simp only [BitVec.toNat_add, BitVec.toNat_mul, BitVec.toNat_setWidth, BitVec.toNat_ofNat]
    omega
  have e4 : (256#32 * ((256#32 * ((256#32 * (0#32 + ((B 7).setWidth 32))) + ((B 6).setWidth 32))) + ((B 5).setWidth 32))) + ((B 4).setWidth 32) = ((((B 4).setWidth 32) ||| (((B 5).setWidth 32) <<< 8)) ||| (((B 6).setWidth 32) <<< 16)) ||| (((B 7).setWidth 32) <<< 24) := by
    apply BitVec.eq_of_toNat_eq
    rw [or32]
    simp only [BitVec.toNat_add, BitVec.toNat_mul, BitVec.toNat_setWidth, BitVec.toNat_ofNat]
    omega
  rw [e1, e2, e3, e4]
theorem nibN (s d : BitVec 8) : ((s <<< 4) ||| (d &&& 15#8)).toNat = 16 * (s.toNat % 16) + d.toNat % 16 := by
  have hs := s.isLt
  have hd := d.isLt
  simp only [BitVec.toNat_or, BitVec.toNat_shiftLeft, Nat.shiftLeft_eq, n15]
  have e2 : s.toNat * 2 ^ 4 % 2 ^ 8 = 2 ^ 4 * (s.toNat % 16) := by omega
  rw [e2, Nat.or_comm, or_add (show d.toNat % 16 < 2 ^ 4 by omega)]
  omega
theorem enc_dec (B : Nat → BitVec 8) {i : Nat} (hi : i < 8) : encB (decS B) i = B i := by
  have h := fun i => (B i).isLt
  have h1 := h 1; have h2 := h 2; have h3 := h 3; have h4 := h 4; have h5 := h 5; have h6 := h 6; have h7 := h 7
  rcases i with _ | _ | _ | _ | _ | _ | _ | _ | i
  · rfl
  · apply BitVec.eq_of_toNat_eq
    show ((B 1 >>> 4) <<< 4 ||| (B 1 &&& 15#8 &&& 15#8)).toNat = _
    rw [nibN, n15]
    simp only [BitVec.toNat_ushiftRight, Nat.shiftRight_eq_div_pow]
    show _ = (B 1).toNat
    omega
  · apply BitVec.eq_of_toNat_eq
    show (((B 2).setWidth 16 ||| (B 3).setWidth 16 <<< 8).setWidth 8).toNat = _
    rw [BitVec.toNat_setWidth, or16]
    show _ = (B 2).toNat
    omega
  · apply BitVec.eq_of_toNat_eq
    show ((((B 2).setWidth 16 ||| (B 3).setWidth 16 <<< 8) >>> 8).setWidth 8).toNat = _
    rw [BitVec.toNat_setWidth, BitVec.toNat_ushiftRight, Nat.shiftRight_eq_div_pow, or16]
    show _ = (B 3).toNat
    omega
  · apply BitVec.eq_of_toNat_eq
    show ((((((B 4).setWidth 32) ||| (((B 5).setWidth 32) <<< 8)) ||| (((B 6).setWidth 32) <<< 16)) ||| (((B 7).setWidth 32) <<< 24)).setWidth 8).toNat = _
    rw [BitVec.toNat_setWidth, or32]
    show _ = (B 4).toNat
    omega
  · apply BitVec.eq_of_toNat_eq
    show (((((((B 4).setWidth 32) ||| (((B 5).setWidth 32) <<< 8)) ||| (((B 6).setWidth 32) <<< 16)) ||| (((B 7).setWidth 32) <<< 24)) >>> 8).setWidth 8).toNat = _
    rw [BitVec.toNat_setWidth, BitVec.toNat_ushiftRight, Nat.shiftRight_eq_div_pow, or32]
    show _ = (B 5).toNat
    omega
  · apply BitVec.eq_of_toNat_eq
    show (((((((B 4).setWidth 32) ||| (((B 5).setWidth 32) <<< 8)) ||| (((B 6).setWidth 32) <<< 16)) ||| (((B 7).setWidth 32) <<< 24)) >>> 16).setWidth 8).toNat = _
    rw [BitVec.toNat_setWidth, BitVec.toNat_ushiftRight, Nat.shiftRight_eq_div_pow, or32]
    show _ = (B 6).toNat
    omega
  · apply BitVec.eq_of_toNat_eq
    show (((((((B 4).setWidth 32) ||| (((B 5).setWidth 32) <<< 8)) ||| (((B 6).setWidth 32) <<< 16)) ||| (((B 7).setWidth 32) <<< 24)) >>> 24).setWidth 8).toNat = _
    rw [BitVec.toNat_setWidth, BitVec.toNat_ushiftRight, Nat.shiftRight_eq_div_pow, or32]
    show _ = (B 7).toNat
    omega
  · omega
theorem dec_enc (x : Insn) (hd : x.fDst.toNat ≤ 15) (hs : x.fSrc.toNat ≤ 15) : decS (encB x) = x := by
  obtain ⟨o, d, s, f, m⟩ := x
  have hf := f.isLt
  have hm := m.isLt
  simp only at hd hs
  have e1 : ((s <<< 4) ||| (d &&& 15#8)) &&& 15#8 = d := by
    apply BitVec.eq_of_toNat_eq
    rw [n15, nibN]; omega
  have e2 : ((s <<< 4) ||| (d &&& 15#8)) >>> 4 = s := by
    apply BitVec.eq_of_toNat_eq
    rw [BitVec.toNat_ushiftRight, Nat.shiftRight_eq_div_pow, nibN]; omega
  have e3 : ((f.setWidth 8).setWidth 16) ||| ((((f >>> 8).setWidth 8).setWidth 16) <<< 8) = f := by
    apply BitVec.eq_of_toNat_eq
    rw [or16]
    simp only [BitVec.toNat_setWidth, BitVec.toNat_ushiftRight, Nat.shiftRight_eq_div_pow]
    omega
  have e4 : ((((m.setWidth 8).setWidth 32) ||| ((((m >>> 8).setWidth 8).setWidth 32) <<< 8)) ||| ((((m >>> 16).setWidth 8).setWidth 32) <<< 16)) ||| ((((m >>> 24).setWidth 8).setWidth 32) <<< 24) = m := by
    apply BitVec.eq_of_toNat_eq
    rw [or32]
    simp only [BitVec.toNat_setWidth, BitVec.toNat_ushiftRight, Nat.shiftRight_eq_div_pow]
    omega
  show Insn.mk _ _ _ _ _ = _
  simp only [encB]
  rw [e1, e2, e3, e4]
theorem dec_no {n : Nat} (h : n % 8 ≠ 0) (A : Nat → BitVec 8) : m_insn_Decode_v1 n A = some .e1 := by
  unfold m_insn_Decode_v1
  rw [zr_nat (by omega), bz_f (by omega)]
theorem dec_spec {n : Nat} (hn : n ≤ 8000000) (h8 : n % 8 = 0) (A : Nat → BitVec 8) : ∃ D, m_insn_Decode_v1 n A = some (.e0 D) ∧ ∀ k, k < n / 8 → D k = decS (fun i => A (8 * k + i)) := by
  have ez : zquo (n : Int) 8 = ((n / 8 : Nat) : Int) := by rw [zq_nat (by omega) (by omega) (by omega)]; omega
  have key : ∃ r, lpO (st_insn_Decode_v1_L0 n A) (.c0 (fun _ => (⟨0#8, 0#8, 0#8, 0#16, 0#32⟩ : Insn)) 0) = some r ∧ ∃ D, r = .e0 D ∧ ∀ k, k < n / 8 → D k = decS (fun i => A (8 * k + i)) := by
    refine lpO_ind (st := st_insn_Decode_v1_L0 n A) (fun s => match s with | .c0 D x => ∃ k : Nat, x = (k : Int) ∧ k ≤ n / 8 ∧ ∀ k', k' < k → D k' = decS (fun i => A (8 * k' + i))) (fun s => match s with | .c0 D x => n - x.toNat)
      (fun _ r => ∃ D, r = .e0 D ∧ ∀ k, k < n / 8 → D k = decS (fun i => A (8 * k + i))) ?_ _ ⟨0, rfl, by omega, fun k hk => by omega⟩
    rintro ⟨D, x⟩ ⟨k, rfl, hk, hD⟩
    by_cases h : k < n / 8
    · refine .inl ⟨.c0 (updF D k (decS (fun i => A (8 * k + i)))) ((k + 1 : Nat) : Int), ?_, ⟨k + 1, rfl, by omega, fun k' hk' => ?_⟩, by show n - ((k + 1 : Nat) : Int).toNat < n - (k : Int).toNat; omega, fun r hr => hr⟩
      · unfold st_insn_Decode_v1_L0
        dsimp only
        have e1 : IntKind.i64.wrap ((k : Int) * 8) = ((8 * k : Nat) : Int) := by rw [wz] <;> omega
        have e2 : IntKind.i64.wrap ((k : Int) + 1) = ((k + 1 : Nat) : Int) := by rw [wz] <;> omega
        rw [ez, e1, e2]
        simp only [Int.toNat_natCast]
        rw [bd_t (by omega), bi_t (by omega), bd_t (by omega), bt_, bi_t (by omega)]
        rfl
      · rw [updF_get]
        by_cases c : k' = k
        · rw [if_pos c, c]
        · rw [if_neg c]; exact hD k' (by omega)
    · obtain rfl : k = n / 8 := by omega
      refine .inr ⟨.e0 D, ?_, D, rfl, hD⟩
      unfold st_insn_Decode_v1_L0
      dsimp only
      rw [ez, bd_f (by omega)]
  obtain ⟨r, hr, D, rfl, hD⟩ := key
  refine ⟨D, ?_, hD⟩
  unfold m_insn_Decode_v1
  rw [zr_nat (by omega), bz_t (by omega), ez, bi_t (by omega), hr]
  rfl
theorem refdec_no {n : Nat} (h : n % 8 ≠ 0) (A : Nat → BitVec 8) : m_barbicanref1_Decode n A = some (.e0 18) := by
  unfold m_barbicanref1_Decode
  rw [zr_nat (by omega), bz_f (by omega)]
theorem refdec_spec {n : Nat} (hn : n ≤ 8000000) (h8 : n % 8 = 0) (A : Nat → BitVec 8) : (n = 0 ∧ m_barbicanref1_Decode n A = some (.e0 0)) ∨ (0 < n ∧ ∃ D, m_barbicanref1_Decode n A = some (.e1 (n / 8) D) ∧ ∀ k, k < n / 8 → D k = decS (fun i => A (8 * k + i))) := by
  have key : ∃ r, lpO (st_barbicanref1_Decode_L0 n A) .c0 = some r ∧ ((n = 0 ∧ r = .e0) ∨ (0 < n ∧ ∃ D, r = .e1 (n / 8) D ∧ ∀ k, k < n / 8 → D k = decS (fun i => A (8 * k + i)))) := by
    refine lpO_ind (st := st_barbicanref1_Decode_L0 n A) (fun s => match s with | .c0 => True | .c1 N D x => x = ((8 * N : Nat) : Int) ∧ 0 < N ∧ N ≤ n / 8 ∧ ∀ k', k' < N → D k' = decS (fun i => A (8 * k' + i))) (fun s => match s with | .c0 => n + 1 | .c1 N D x => n - x.toNat)
      (fun _ r => (n = 0 ∧ r = .e0) ∨ (0 < n ∧ ∃ D, r = .e1 (n / 8) D ∧ ∀ k, k < n / 8 → D k = decS (fun i => A (8 * k + i)))) ?_ _ trivial
    rintro (_ | ⟨N, D, x⟩) hI
    · by_cases h : 0 < n
      · refine .inl ⟨.c1 1 (fun _ => decS (fun i => A (8 * 0 + i))) 8, ?_, ⟨rfl, by omega, by omega, fun k' hk' => ?_⟩, by show n - (8 : Int).toNat < n + 1; omega, fun r hr => hr⟩
        · unfold st_barbicanref1_Decode_L0
          dsimp only
          rw [bd_t (by omega), bi_t (by omega), bi_t (by omega), bi_t (by omega), bi_t (by omega), bi_t (by omega), bi_t (by omega), bi_t (by omega), bi_t (by omega), ref_slot A]
          try simp only [Nat.mul_zero, Nat.zero_add]
        · obtain rfl : k' = 0 := by omega
          try rfl
      · refine .inr ⟨.e0, ?_, .inl ⟨by omega, rfl⟩⟩
        unfold st_barbicanref1_Decode_L0
        dsimp only
        rw [bd_f (by omega)]
    · obtain ⟨rfl, hN0, hN, hD⟩ := hI
      by_cases h : N < n / 8
      · refine .inl ⟨.c1 (N + 1) (updF D N (decS (fun i => A (8 * N + i)))) ((8 * (N + 1) : Nat) : Int), ?_, ⟨rfl, by omega, by omega, fun k' hk' => ?_⟩, by show n - ((8 * (N + 1) : Nat) : Int).toNat < n - ((8 * N : Nat) : Int).toNat; omega, fun r hr => hr⟩
        · unfold st_barbicanref1_Decode_L0
          dsimp only
          have w (j : Nat) (hj : j ≤ 8) : IntKind.i64.wrap (((8 * N : Nat) : Int) + (j : Int)) = ((8 * N + j : Nat) : Int) := by rw [wz] <;> omega
          have w1 := w 1 (by omega); have w2 := w 2 (by omega); have w3 := w 3 (by omega); have w4 := w 4 (by omega); have w8 := w 8 (by omega)
          have v (j : Nat) (hj : j ≤ 4) : IntKind.i64.wrap (((8 * N + 4 : Nat) : Int) + (j : Int)) = ((8 * N + (4 + j) : Nat) : Int) := by rw [wz] <;> omega
          have v0 := v 0 (by omega); have v1 := v 1 (by omega); have v2 := v 2 (by omega); have v3 := v 3 (by omega)
          simp only [Int.cast_ofNat_Int] at w1 w2 w3 w4 w8 v0 v1 v2 v3
          rw [w1, w2, w3, w4, w8, v0, v1, v2, v3]
          simp only [Int.toNat_natCast]
          rw [bd_t (by omega), bi_t (by omega), bi_t (by omega), bi_t (by omega), bi_t (by omega), bi_t (by omega), bi_t (by omega), bi_t (by omega), bi_t (by omega), bd_t (by omega), bt_]
          have := ref_slot (fun i => A (8 * N + i))
          simp only [Nat.add_zero] at this
          simp only [Nat.add_zero, Nat.reduceAdd, this]
          rfl
        · rw [updF_get]
          by_cases c : k' = N
          · rw [if_pos c, c]
          · rw [if_neg c]; exact hD k' (by omega)
      · obtain rfl : N = n / 8 := by omega
        refine .inr ⟨.e1 (n / 8) D, ?_, .inr ⟨by omega, D, rfl, hD⟩⟩
        unfold st_barbicanref1_Decode_L0
        dsimp only
        rw [bd_f (by omega)]
  obtain ⟨r, hr, hcase⟩ := key
  unfold m_barbicanref1_Decode
  rw [zr_nat (by omega), bz_t (by omega), hr]
  rcases hcase with ⟨h0, rfl⟩ | ⟨h0, D, rfl, hD⟩
  · exact .inl ⟨h0, rfl⟩
  · exact .inr ⟨h0, D, rfl, hD⟩
end Go.Proofs.Ytmlkiamemkfdlaa
