/-
  Operations on scalars keep all numbers: bits, the lowest bits.
-/
import Derived.Test.YtmhiiahfjoijgaaGreatL7M5
import Derived.Test.YtmhiiahfjoijgaaGreatL7E
namespace Go.Proofs.YtmhiiahfjoijgaaGreat
open Go.RowKit
set_option linter.unusedVariables false
set_option linter.unusedSimpArgs false
theorem mk_hs {t : T} {u1 u2 s1 s2 z : BitVec 64} (h : has t z) (h1 : u1.toNat ≤ z.toNat) (h2 : z.toNat ≤ u2.toNat) (h3 : s1.toInt ≤ z.toInt) (h4 : z.toInt ≤ s2.toInt) : hs (⟨t, u1, u2, s1, s2⟩ : S) z := ⟨h, h1, h2, h3, h4⟩
theorem ofBits_hs {t : T} {z : BitVec 64} (h : has t z) : hs (m_scalar_ofBits t) z := ⟨h, (hs_U z).2⟩
theorem settle_keep {s : S} {z : BitVec 64} (h : hs s z) : hs (m_scalar_settle s) z ∧ isS (m_scalar_settle s) := ⟨((settle_has h).keep z).1 h, (settle_has h).isS⟩
theorem u0 (z : BitVec 64) : (0#64).toNat ≤ z.toNat := Nat.zero_le _
theorem uM (z : BitVec 64) : z.toNat ≤ (18446744073709551615#64).toNat := (hs_U z).2.2.1
theorem s0' (z : BitVec 64) : (9223372036854775808#64).toInt ≤ z.toInt := (hs_U z).2.2.2.1
theorem sM (z : BitVec 64) : z.toInt ≤ (9223372036854775807#64).toInt := (hs_U z).2.2.2.2
theorem and_eq' (a b : T) : m_tnum_And a b = pand (kn a) (kn b) := by
  unfold m_tnum_And m_tnum_of_141 m_tnum_pair_and m_tnum_without
  rw [kn_eq, kn_eq]
  rfl
theorem or_eq' (a b : T) : m_tnum_Or a b = por (kn a) (kn b) := by
  unfold m_tnum_Or m_tnum_of_154 m_tnum_pair_or
  rw [kn_eq, kn_eq]
  rfl
theorem xor_eq' (a b : T) : m_tnum_Xor a b = pxor (kn a) (kn b) := by
  unfold m_tnum_Xor m_tnum_of_156 m_tnum_pair_xor m_tnum_without
  rw [kn_eq, kn_eq]
  rfl
theorem add_eq' (a b : T) : m_tnum_Add a b = padd (kn a) (kn b) := by
  unfold m_tnum_Add m_tnum_of_151 m_tnum_pair_add m_tnum_without
  rw [kn_eq, kn_eq]
  rfl
theorem sub_eq' (a b : T) : m_tnum_Sub a b = psub (kn a) (kn b) := by
  unfold m_tnum_Sub m_tnum_of_152 m_tnum_pair_sub m_tnum_without
  rw [kn_eq, kn_eq]
  rfl
theorem tand_has {a b : T} {x y : BitVec 64} (ha : has a x) (hb : has b y) : has (m_tnum_And a b) (x &&& y) := by
  rw [and_eq', kn_wf ha.1, kn_wf hb.1]; exact pand_has ha hb
theorem tconst_has (n : BitVec 64) : has (m_tnum_Const n) n := ((hs_K (n := n)).2 rfl).1
section
variable {a b : S} {w x y : BitVec 64}
theorem op_and (hx : hs a x) (hy : hs b y) : hs (m_scalar_operands_and ⟨a, b, w⟩) (x &&& y) ∧ isS (m_scalar_operands_and ⟨a, b, w⟩) ∧ (m_scalar_operands_and ⟨a, b, w⟩).umax.toNat ≤ min a.umax.toNat b.umax.toNat := by
  have h : hs (⟨m_tnum_And a.t b.t, 0#64, uMin a.umax b.umax, 9223372036854775808#64, 9223372036854775807#64⟩ : S) (x &&& y) := by
    refine mk_hs (tand_has hx.1 hy.1) (u0 _) ?_ (s0' _) (sM _)
    rw [uMin_n, BitVec.toNat_and]
    have h1 := hx.2.2.1
    have h2 := hy.2.2.1
    have h3 : x.toNat &&& y.toNat ≤ x.toNat := Nat.and_le_left
    have h4 : x.toNat &&& y.toNat ≤ y.toNat := Nat.and_le_right
    omega
  refine ⟨(settle_keep h).1, (settle_keep h).2, ?_⟩
  have := (settle_has h).sub.2.2.1
  rw [show (⟨m_tnum_And a.t b.t, 0#64, uMin a.umax b.umax, 9223372036854775808#64, 9223372036854775807#64⟩ : S).umax = uMin a.umax b.umax from rfl, uMin_n] at this
  exact this
theorem op_or (hx : hs a x) (hy : hs b y) : hs (m_scalar_operands_or ⟨a, b, w⟩) (x ||| y) ∧ isS (m_scalar_operands_or ⟨a, b, w⟩) := by
  have h : hs (⟨m_tnum_Or a.t b.t, uMax a.umin b.umin, 18446744073709551615#64, 9223372036854775808#64, 9223372036854775807#64⟩ : S) (x ||| y) := by
    refine mk_hs ?_ ?_ (uM _) (s0' _) (sM _)
    · rw [or_eq', kn_wf hx.1.1, kn_wf hy.1.1]; exact por_has hx.1 hy.1
    · rw [uMax_n, BitVec.toNat_or]
      have h1 := hx.2.1
      have h2 := hy.2.1
      have h3 : x.toNat ≤ x.toNat ||| y.toNat := Nat.left_le_or
      have h4 : y.toNat ≤ x.toNat ||| y.toNat := Nat.right_le_or
      omega
  exact settle_keep h
theorem op_xor (hx : hs a x) (hy : hs b y) : hs (m_scalar_operands_xor ⟨a, b, w⟩) (x ^^^ y) ∧ isS (m_scalar_operands_xor ⟨a, b, w⟩) := by
  have h : hs (m_scalar_ofBits (m_tnum_Xor a.t b.t)) (x ^^^ y) := ofBits_hs (by rw [xor_eq', kn_wf hx.1.1, kn_wf hy.1.1]; exact pxor_has hx.1 hy.1)
  exact settle_keep h
/-! ### The lowest bits -/
theorem and_mod (x : BitVec 64) (n : Nat) (m : BitVec 64) (hm : m.toNat = 2 ^ n - 1) : (x &&& m).toNat = x.toNat % 2 ^ n := by
  rw [BitVec.toNat_and, hm, Nat.and_two_pow_sub_one_eq_mod]
theorem lowest_gen {s : S} {x m : BitVec 64} (n : Nat) (hn : n < 64) (hm : m.toNat = 2 ^ n - 1) (hx : hs s x) (f : S)
    (hf : f = bif BitVec.ult m s.umax then (bif (s.umin >>> n) == (s.umax >>> n) then m_scalar_settle ⟨m_tnum_And s.t (m_tnum_Const m), s.umin &&& m, s.umax &&& m, 9223372036854775808#64, 9223372036854775807#64⟩ else m_scalar_settle (m_scalar_ofBits (m_tnum_And s.t (m_tnum_Const m)))) else s) (hi : isS s) :
    hs f (x &&& m) ∧ isS f := by
  subst hf
  have hb : has (m_tnum_And s.t (m_tnum_Const m)) (x &&& m) := tand_has hx.1 (tconst_has m)
  rw [ult_iff]
  by_cases h1 : m.toNat < s.umax.toNat
  · rw [decide_eq_true h1, cond_true]
    cases h2 : (s.umin >>> n) == (s.umax >>> n)
    · rw [cond_false]; exact settle_keep (ofBits_hs hb)
    · rw [cond_true]
      refine settle_keep (mk_hs hb ?_ ?_ (s0' _) (sM _))
      all_goals
        have e := congrArg BitVec.toNat (eq_of_beq h2)
        rw [BitVec.toNat_ushiftRight, BitVec.toNat_ushiftRight, Nat.shiftRight_eq_div_pow, Nat.shiftRight_eq_div_pow] at e
        have k1 := hx.2.1
        have k2 := hx.2.2.1
        have d1 := Nat.div_le_div_right (c := 2 ^ n) k1
        have d2 := Nat.div_le_div_right (c := 2 ^ n) k2
        have q1 := Nat.div_add_mod s.umin.toNat (2 ^ n)
        have q2 := Nat.div_add_mod s.umax.toNat (2 ^ n)
        have q3 := Nat.div_add_mod x.toNat (2 ^ n)
        rw [and_mod _ n m hm, and_mod _ n m hm]
        have e3 : x.toNat / 2 ^ n = s.umin.toNat / 2 ^ n := by omega
        rw [e3] at q3
        rw [← e] at q2
        generalize 2 ^ n * (s.umin.toNat / 2 ^ n) = z at *
        omega
  · rw [decide_eq_false h1, cond_false]
    have : x &&& m = x := by
      apply BitVec.eq_of_toNat_eq
      rw [and_mod _ n m hm]
      have := hx.2.2.1
      have h3 := Nat.two_pow_pos n
      exact Nat.mod_eq_of_lt (by omega)
    rw [this]
    exact ⟨hx, hi⟩
theorem low_has (hi : isS a) (hx : hs a x) : hs (m_scalar_low a) (x &&& 4294967295#64) ∧ isS (m_scalar_low a) :=
  lowest_gen 32 (by decide) (by decide) hx _ rfl hi
theorem lowest16_has (hi : isS a) (hx : hs a x) : hs (m_scalar_lowest_16 a) (x &&& 65535#64) ∧ isS (m_scalar_lowest_16 a) :=
  lowest_gen 16 (by decide) (by decide) hx _ rfl hi
end
/-- Where both ends are one there is one number. -/
theorem const_of {t : S} (h : isS t) (e : t.umin = t.umax) : t = K t.umin := by
  have f := h.fix
  obtain ⟨h1, h2⟩ := fix_r2 f (by rw [e])
  rw [← e] at h2
  refine sub_K h.good ⟨?_, Nat.le_refl _, by rw [← e]; exact Nat.le_refl _, h1, h2⟩
  refine inn_trans (fix_range f) ?_
  rw [← e]
  intro i hi hm
  have hr := range_bit_m (x := t.umin) (y := t.umin) (Nat.le_refl _) i hi
  have hb : blen (t.umin ^^^ t.umin) = 0 := by
    have := blen_pos (z := t.umin ^^^ t.umin) (n := 0) (by rw [BitVec.toNat_xor, Nat.xor_self]; decide)
    omega
  rw [hb] at hr
  have hr : (m_tnum_Range t.umin t.umin).m.getLsbD i = false := by rw [hr]; rfl
  exact ⟨hr, (has_bit (range_has (x := t.umin) (y := t.umin) (z := t.umin) (Nat.le_refl _) (Nat.le_refl _)) i hi hr).symm⟩
theorem isConst_iff (s : S) : m_scalar_isConst s = (s.umin == s.umax) := rfl
theorem isConst_K (n : BitVec 64) : m_scalar_isConst (K n) = true := by rw [isConst_iff]; exact beq_self_eq_true _
theorem exact_K (n : BitVec 64) : m_scalar_exact (K n) = K n := by unfold m_scalar_exact; rw [isConst_K]; rfl
theorem low_K (n : BitVec 64) : m_scalar_low (K n) = K (n &&& 4294967295#64) := by
  obtain ⟨h1, h2⟩ := low_has (isS_K n) (hs_K.2 rfl)
  have key : (m_scalar_low (K n)).umin = (m_scalar_low (K n)).umax := by
    have h3 : m_scalar_low (K n) = bif BitVec.ult 4294967295#64 n then m_scalar_settle ⟨m_tnum_And (K n).t (m_tnum_Const 4294967295#64), n &&& 4294967295#64, n &&& 4294967295#64, 9223372036854775808#64, 9223372036854775807#64⟩ else K n := by
      unfold m_scalar_low m_scalar_lowest_32
      show (bif BitVec.ult 4294967295#64 n then (bif (n >>> 32) == (n >>> 32) then _ else _) else _) = _
      rw [beq_self_eq_true]
      rfl
    cases hc : BitVec.ult 4294967295#64 n <;> rw [hc] at h3
    · rw [h3]; rfl
    · rw [cond_true] at h3
      have hb : has (m_tnum_And (K n).t (m_tnum_Const 4294967295#64)) (n &&& 4294967295#64) := tand_has (hs_K.2 rfl).1 (tconst_has _)
      have hs1 : hs (⟨m_tnum_And (K n).t (m_tnum_Const 4294967295#64), n &&& 4294967295#64, n &&& 4294967295#64, 9223372036854775808#64, 9223372036854775807#64⟩ : S) (n &&& 4294967295#64) := mk_hs hb (Nat.le_refl _) (Nat.le_refl _) (s0' _) (sM _)
      have hsb := (settle_has hs1).sub
      rw [← h3] at hsb
      have g := h2.good.2.1
      have a1 : (n &&& 4294967295#64).toNat ≤ _ := hsb.2.1
      have a2 : _ ≤ (n &&& 4294967295#64).toNat := hsb.2.2.1
      exact BitVec.eq_of_toNat_eq (by omega)
  have := const_of h2 key
  rw [this]
  have h4 := h1
  rw [this] at h4
  rw [← hs_K.1 h4]
end Go.Proofs.YtmhiiahfjoijgaaGreat
