/-
  Bytes turned: no number is lost.
-/
import Derived.Test.YtmhiiahfjoijgaaGreatL7Q1
namespace Go.Proofs.YtmhiiahfjoijgaaGreat
open Go.RowKit
set_option linter.unusedVariables false
set_option linter.unusedSimpArgs false
/-- A way to move bits: bit i of the answer is bit p i, or none. -/
def Moves (f : BitVec 64 → BitVec 64) (c : Nat → Bool) (p : Nat → Nat) : Prop := ∀ x i, i < 64 → (f x).getLsbD i = (c i && x.getLsbD (p i))
theorem moves_has {f : BitVec 64 → BitVec 64} {c : Nat → Bool} {p : Nat → Nat} (hm : Moves f c p) (hp : ∀ i, i < 64 → c i = true → p i < 64) {t : T} {x : BitVec 64} (h : has t x) : has ⟨f t.v, f t.m⟩ (f x) := by
  have w : wf (⟨f t.v, f t.m⟩ : T) := by
    apply bit_ext
    intro i hi
    show (f t.v &&& f t.m).getLsbD i = (0#64).getLsbD i
    rw [BitVec.getLsbD_and, hm _ i hi, hm _ i hi]
    have := wf_bit (show wf t from h.1) (p i)
    cases c i
    · simp
    · simp only [Bool.true_and, this]; simp
  refine has_of w fun i hi hq => ?_
  have hq : (f t.m).getLsbD i = false := hq
  rw [hm _ i hi] at hq
  show _ = (f t.v).getLsbD i
  rw [hm _ i hi, hm _ i hi]
  cases hc : c i
  · rfl
  · rw [hc, Bool.true_and] at hq
    rw [has_bit h (p i) (hp i hi hc) hq]
def s8 (x : BitVec 64) : BitVec 64 := ((x >>> 8) &&& 71777214294589695#64) ||| ((x &&& 71777214294589695#64) <<< 8)
def s16 (x : BitVec 64) : BitVec 64 := ((x >>> 16) &&& 281470681808895#64) ||| ((x &&& 281470681808895#64) <<< 16)
def s32 (x : BitVec 64) : BitVec 64 := (x >>> 32) ||| (x <<< 32)
theorem m8 : ∀ i, i < 64 → (71777214294589695#64 : BitVec 64).getLsbD i = decide ((i / 8) % 2 = 0) := by decide
theorem m16 : ∀ i, i < 64 → (281470681808895#64 : BitVec 64).getLsbD i = decide ((i / 16) % 2 = 0) := by decide
theorem s8_bit (x : BitVec 64) (i : Nat) (hi : i < 64) : (s8 x).getLsbD i = x.getLsbD (if (i / 8) % 2 = 0 then i + 8 else i - 8) := by
  unfold s8
  rw [BitVec.getLsbD_or, BitVec.getLsbD_and, BitVec.getLsbD_ushiftRight, BitVec.getLsbD_shiftLeft, BitVec.getLsbD_and, m8 i hi, m8 (i - 8) (by omega)]
  by_cases h : (i / 8) % 2 = 0
  · rw [if_pos h]
    have h2 : i < 8 ∨ ¬ ((i - 8) / 8) % 2 = 0 := by omega
    rw [Nat.add_comm 8 i]
    rcases h2 with h2 | h2
    · simp [h, h2]
    · simp [h, h2]
  · rw [if_neg h]
    have h1 : ¬ i < 8 := by omega
    have h2 : ((i - 8) / 8) % 2 = 0 := by omega
    simp [h, h1, h2, hi]
theorem s16_bit (x : BitVec 64) (i : Nat) (hi : i < 64) : (s16 x).getLsbD i = x.getLsbD (if (i / 16) % 2 = 0 then i + 16 else i - 16) := by
  unfold s16
  rw [BitVec.getLsbD_or, BitVec.getLsbD_and, BitVec.getLsbD_ushiftRight, BitVec.getLsbD_shiftLeft, BitVec.getLsbD_and, m16 i hi, m16 (i - 16) (by omega)]
  by_cases h : (i / 16) % 2 = 0
  · rw [if_pos h]
    have h2 : i < 16 ∨ ¬ ((i - 16) / 16) % 2 = 0 := by omega
    rw [Nat.add_comm 16 i]
    rcases h2 with h2 | h2
    · simp [h, h2]
    · simp [h, h2]
  · rw [if_neg h]
    have h1 : ¬ i < 16 := by omega
    have h2 : ((i - 16) / 16) % 2 = 0 := by omega
    simp [h, h1, h2, hi]
theorem s32_bit (x : BitVec 64) (i : Nat) (hi : i < 64) : (s32 x).getLsbD i = x.getLsbD (if i < 32 then i + 32 else i - 32) := by
  unfold s32
  rw [BitVec.getLsbD_or, BitVec.getLsbD_ushiftRight, BitVec.getLsbD_shiftLeft]
  by_cases h : i < 32
  · rw [if_pos h, Nat.add_comm 32 i]; simp [h]
  · rw [if_neg h]
    have : x.getLsbD (32 + i) = false := BitVec.getLsbD_of_ge _ _ (by omega)
    simp [h, hi, this]
def p8 (i : Nat) : Nat := if (i / 8) % 2 = 0 then i + 8 else i - 8
def p16 (i : Nat) : Nat := if (i / 16) % 2 = 0 then i + 16 else i - 16
def p32 (i : Nat) : Nat := if i < 32 then i + 32 else i - 32
theorem p8_lt {i n : Nat} (h : i < 16 * n) : p8 i < 16 * n := by unfold p8; split <;> omega
theorem p16_lt {i n : Nat} (h : i < 32 * n) : p16 i < 32 * n := by unfold p16; split <;> omega
theorem p32_lt {i : Nat} (h : i < 64) : p32 i < 64 := by unfold p32; split <;> omega
theorem rev64 (x : BitVec 64) : m_math_bits_ReverseBytes64 x = s32 (s16 (s8 x)) := rfl
theorem mov64 : Moves m_math_bits_ReverseBytes64 (fun _ => true) (fun i => p8 (p16 (p32 i))) := fun x i hi => by
  rw [rev64, s32_bit _ _ hi]
  have h1 := p32_lt hi
  have h2 := p16_lt (n := 2) h1
  rw [show (if i < 32 then i + 32 else i - 32) = p32 i from rfl, s16_bit _ _ h1, show (if (p32 i / 16) % 2 = 0 then p32 i + 16 else p32 i - 16) = p16 (p32 i) from rfl, s8_bit _ _ h2]
  rfl
def rv32 (x : BitVec 64) : BitVec 64 := (m_math_bits_ReverseBytes32 (x.setWidth 32)).setWidth 64
def rv16 (x : BitVec 64) : BitVec 64 := (m_math_bits_ReverseBytes16 (x.setWidth 16)).setWidth 64
theorem m832 : ∀ i, i < 32 → (16711935#32 : BitVec 32).getLsbD i = decide ((i / 8) % 2 = 0) := by decide
def s832 (x : BitVec 32) : BitVec 32 := ((x >>> 8) &&& 16711935#32) ||| ((x &&& 16711935#32) <<< 8)
theorem s832_bit (x : BitVec 32) (i : Nat) (hi : i < 32) : (s832 x).getLsbD i = x.getLsbD (p8 i) := by
  unfold s832 p8
  rw [BitVec.getLsbD_or, BitVec.getLsbD_and, BitVec.getLsbD_ushiftRight, BitVec.getLsbD_shiftLeft, BitVec.getLsbD_and, m832 i hi, m832 (i - 8) (by omega)]
  by_cases h : (i / 8) % 2 = 0
  · rw [if_pos h]
    have h2 : i < 8 ∨ ¬ ((i - 8) / 8) % 2 = 0 := by omega
    rw [Nat.add_comm 8 i]
    rcases h2 with h2 | h2
    · simp [h, h2]
    · simp [h, h2]
  · rw [if_neg h]
    have h1 : ¬ i < 8 := by omega
    have h2 : ((i - 8) / 8) % 2 = 0 := by omega
    simp [h, h1, h2, hi]
theorem rev32 (x : BitVec 32) : m_math_bits_ReverseBytes32 x = (s832 x >>> 16) ||| (s832 x <<< 16) := rfl
theorem mov32 : Moves rv32 (fun i => decide (i < 32)) (fun i => p8 (p16 i)) := fun x i hi => by
  unfold rv32
  rw [BitVec.getLsbD_setWidth, rev32]
  by_cases h : i < 32
  · have h2 : p16 i < 32 := p16_lt (n := 1) (by omega)
    have h3 : p8 (p16 i) < 32 := p8_lt (n := 2) h2
    have e : ((s832 (x.setWidth 32) >>> 16) ||| (s832 (x.setWidth 32) <<< 16)).getLsbD i = (s832 (x.setWidth 32)).getLsbD (p16 i) := by
      rw [BitVec.getLsbD_or, BitVec.getLsbD_ushiftRight, BitVec.getLsbD_shiftLeft]
      by_cases k : i < 16
      · have : p16 i = i + 16 := by unfold p16; rw [if_pos (by omega)]
        rw [this, Nat.add_comm 16 i]; simp [k]
      · have : p16 i = i - 16 := by unfold p16; rw [if_neg (by omega)]
        have z : (s832 (x.setWidth 32)).getLsbD (16 + i) = false := BitVec.getLsbD_of_ge _ _ (by omega)
        rw [this]; simp [k, h, z]
    rw [e, s832_bit _ _ h2, BitVec.getLsbD_setWidth]
    simp [h, hi, h3]
  · have : ((s832 (x.setWidth 32) >>> 16) ||| (s832 (x.setWidth 32) <<< 16)).getLsbD i = false := BitVec.getLsbD_of_ge _ _ (by omega)
    rw [this]; simp [h]
theorem mov16 : Moves rv16 (fun i => decide (i < 16)) (fun i => p8 i) := fun x i hi => by
  unfold rv16 m_math_bits_ReverseBytes16
  rw [BitVec.getLsbD_setWidth]
  show _ = (decide (i < 16) && x.getLsbD (p8 i))
  by_cases h : i < 16
  · rw [BitVec.getLsbD_or, BitVec.getLsbD_ushiftRight, BitVec.getLsbD_shiftLeft]
    by_cases k : i < 8
    · have : p8 i = i + 8 := by unfold p8; rw [if_pos (by omega)]
      rw [this, Nat.add_comm 8 i, BitVec.getLsbD_setWidth]
      have : i + 8 < 16 := by omega
      simp [k, h, hi, this]
    · have : p8 i = i - 8 := by unfold p8; rw [if_neg (by omega)]
      have z : (x.setWidth 16).getLsbD (8 + i) = false := BitVec.getLsbD_of_ge _ _ (by omega)
      rw [this, z, BitVec.getLsbD_setWidth]
      have : i - 8 < 16 := by omega
      simp [k, h, hi, this]
  · have : ((x.setWidth 16 >>> 8) ||| (x.setWidth 16 <<< 8)).getLsbD i = false := BitVec.getLsbD_of_ge _ _ (by omega)
    rw [this]; simp [h]
/-- What settles stays below what its bits can be. -/
theorem settle_below {f : S} {z : BitVec 64} (hz : hs f z) {n : Nat} (hn : (hi f.t).toNat < n) : (m_scalar_settle f).umax.toNat < n := by
  have h := settle_has hz
  have h1 := (fix_lo h.isS.fix).2
  have h2 := le_nat (inn_hi h.sub.1)
  omega
theorem rv16_lt (x : BitVec 64) : (rv16 x).toNat < 65536 := by
  unfold rv16; rw [BitVec.toNat_setWidth]; have := (m_math_bits_ReverseBytes16 (x.setWidth 16)).isLt; omega
theorem rv32_lt (x : BitVec 64) : (rv32 x).toNat < 4294967296 := by
  unfold rv32; rw [BitVec.toNat_setWidth]; have := (m_math_bits_ReverseBytes32 (x.setWidth 32)).isLt; omega
theorem or_lt {x y : BitVec 64} {n : Nat} (hx : x.toNat < 2 ^ n) (hy : y.toNat < 2 ^ n) : (x ||| y).toNat < 2 ^ n := by
  rw [BitVec.toNat_or]; exact Nat.or_lt_two_pow hx hy
section
variable {a : S} {x : BitVec 64}
theorem turn_fact {f : BitVec 64 → BitVec 64} {c : Nat → Bool} {p : Nat → Nat} (hm : Moves f c p) (hp : ∀ i, i < 64 → c i = true → p i < 64) (hx : hs a x) : hs (m_scalar_ofBits ⟨f a.t.v, f a.t.m⟩) (f x) := ofBits_hs (moves_has hm hp hx.1)
theorem tf16 (hx : hs a x) : hs (m_scalar_settle (m_scalar_ofBits ⟨rv16 a.t.v, rv16 a.t.m⟩)) (rv16 x) ∧ isS (m_scalar_settle (m_scalar_ofBits ⟨rv16 a.t.v, rv16 a.t.m⟩)) ∧ (m_scalar_settle (m_scalar_ofBits ⟨rv16 a.t.v, rv16 a.t.m⟩)).umax.toNat < 65536 := by
  have h := turn_fact mov16 (fun i _ hc => by have : i < 16 := of_decide_eq_true hc; have := p8_lt (i := i) (n := 1) (by omega); omega) hx
  exact ⟨(settle_keep h).1, settle_is _, settle_below h (or_lt (n := 16) (rv16_lt _) (rv16_lt _))⟩
theorem tf32 (hx : hs a x) : hs (m_scalar_settle (m_scalar_ofBits ⟨rv32 a.t.v, rv32 a.t.m⟩)) (rv32 x) ∧ isS (m_scalar_settle (m_scalar_ofBits ⟨rv32 a.t.v, rv32 a.t.m⟩)) ∧ (m_scalar_settle (m_scalar_ofBits ⟨rv32 a.t.v, rv32 a.t.m⟩)).umax.toNat < 4294967296 := by
  have h := turn_fact mov32 (fun i _ hc => by have : i < 32 := of_decide_eq_true hc; have := p8_lt (n := 2) (p16_lt (n := 1) (i := i) (by omega)); show p8 (p16 i) < 64; omega) hx
  exact ⟨(settle_keep h).1, settle_is _, settle_below h (or_lt (n := 32) (rv32_lt _) (rv32_lt _))⟩
theorem tf64 (hx : hs a x) : hs (m_scalar_settle (m_scalar_ofBits ⟨m_math_bits_ReverseBytes64 a.t.v, m_math_bits_ReverseBytes64 a.t.m⟩)) (m_math_bits_ReverseBytes64 x) ∧ isS (m_scalar_settle (m_scalar_ofBits ⟨m_math_bits_ReverseBytes64 a.t.v, m_math_bits_ReverseBytes64 a.t.m⟩)) := by
  have h := turn_fact mov64 (fun i hi _ => by have := p8_lt (n := 4) (p16_lt (n := 2) (p32_lt hi)); exact this) hx
  exact ⟨(settle_keep h).1, settle_is _⟩
theorem low_mid {s : S} {x m : BitVec 64} (n : Nat) (hm : m.toNat = 2 ^ n - 1) (hx : hs s x) (h2 : ((s.umin >>> n) == (s.umax >>> n)) = true) : (s.umin &&& m).toNat ≤ (x &&& m).toNat ∧ (x &&& m).toNat ≤ (s.umax &&& m).toNat := by
  have e := congrArg BitVec.toNat (eq_of_beq h2)
  rw [BitVec.toNat_ushiftRight, BitVec.toNat_ushiftRight, Nat.shiftRight_eq_div_pow, Nat.shiftRight_eq_div_pow] at e
  have k1 := hx.2.1
  have k2 := hx.2.2.1
  have d1 := Nat.div_le_div_right (c := 2 ^ n) k1
  have d2 := Nat.div_le_div_right (c := 2 ^ n) k2
  have q1 := Nat.div_add_mod s.umin.toNat (2 ^ n)
  have q2 := Nat.div_add_mod s.umax.toNat (2 ^ n)
  have q3 := Nat.div_add_mod x.toNat (2 ^ n)
  rw [and_mod _ n m hm, and_mod _ n m hm, and_mod _ n m hm]
  have e3 : x.toNat / 2 ^ n = s.umin.toNat / 2 ^ n := by omega
  rw [e3] at q3
  rw [← e] at q2
  generalize 2 ^ n * (s.umin.toNat / 2 ^ n) = z at *
  omega
theorem lowest_below {x m : BitVec 64} {a f : S} (n : Nat) (hm : m.toNat = 2 ^ n - 1) (hx : hs a x)
    (hf : f = bif BitVec.ult m a.umax then (bif (a.umin >>> n) == (a.umax >>> n) then m_scalar_settle ⟨m_tnum_And a.t (m_tnum_Const m), a.umin &&& m, a.umax &&& m, 9223372036854775808#64, 9223372036854775807#64⟩ else m_scalar_settle (m_scalar_ofBits (m_tnum_And a.t (m_tnum_Const m)))) else a) : f.umax.toNat < 2 ^ n := by
  have h2 := Nat.two_pow_pos n
  have hb : has (m_tnum_And a.t (m_tnum_Const m)) (x &&& m) := tand_has hx.1 (tconst_has m)
  have hk : wf (m_tnum_Const m) := (tconst_has m).1
  have hT : (hi (m_tnum_And a.t (m_tnum_Const m))).toNat < 2 ^ n := by
    have h3 : le (hi (m_tnum_And a.t (m_tnum_Const m))) m := by
      rw [and_eq', kn_wf hx.1.1, kn_wf hk]
      refine le_of fun i hi' h => ?_
      have h : ((a.t.v &&& m) &&& ~~~((a.t.v ||| a.t.m) &&& (m ||| 0#64) &&& ~~~(a.t.v &&& m)) ||| ((a.t.v ||| a.t.m) &&& (m ||| 0#64) &&& ~~~(a.t.v &&& m))).getLsbD i = true := h
      cases hmi : m.getLsbD i
      · simp [hmi] at h
      · rfl
    have := le_nat h3
    omega
  subst hf
  cases h1 : BitVec.ult m a.umax
  · rw [cond_f']
    rw [ult_iff, decide_eq_false_iff_not] at h1
    omega
  · rw [cond_t']
    cases h4 : (a.umin >>> n) == (a.umax >>> n)
    · rw [cond_f']; exact settle_below (ofBits_hs hb) hT
    · rw [cond_t']; exact settle_below (mk_hs hb (low_mid n hm hx h4).1 (low_mid n hm hx h4).2 (s0' _) (sM _)) hT

theorem lowb16 (hx : hs a x) : (m_scalar_lowest_16 a).umax.toNat < 65536 := lowest_below (a := a) (x := x) 16 (by decide) hx rfl
theorem lowb32 (hx : hs a x) : (m_scalar_lowest_32 a).umax.toNat < 4294967296 := lowest_below (a := a) (x := x) 32 (by decide) hx rfl
theorem low32_has (hi : isS a) (hx : hs a x) : hs (m_scalar_lowest_32 a) (lo x) ∧ isS (m_scalar_lowest_32 a) := low_has hi hx
theorem sw16_eq (x : BitVec 64) : (x.setWidth 16).setWidth 64 = x &&& 65535#64 := BitVec.eq_of_toNat_eq (by
  rw [and_mod x 16 _ (by decide), BitVec.toNat_setWidth, BitVec.toNat_setWidth]; have := Nat.mod_lt x.toNat (show 0 < 2 ^ 16 by decide); omega)
/-- Bytes turned, 16 of them. -/
theorem sw_all16 {big turn : Bool} (ha : isS a) (hx : hs a x) : m_scalar_Is (m_scalar_Swap 16#64 big turn a) = true ∧ BitVec.ult (m_scalar_Swap 16#64 big turn a).umax 65536#64 = true ∧ (turn = false → m_scalar_Has (m_scalar_Swap 16#64 big turn a) (m_alu_Swap 16#64 big x).1 = true) ∧ (turn = true → m_scalar_Has (m_scalar_Swap 16#64 big turn a) (m_alu_Turn 16#64 x).1 = true) := by
  have T := tf16 hx
  have L := lowest16_has ha hx
  have B := lowb16 hx
  have e1 : ∀ y : BitVec 64, m_alu_Turn 16#64 y = (rv16 y, true) := fun y => by
    unfold m_alu_Turn; simp only [BitVec.reduceBEq, cond_t']; rfl
  unfold m_scalar_Swap m_alu_Swap
  rw [known_of ha]
  simp only [BitVec.reduceBEq, cond_t', cond_f', e1, ult_iff]
  cases big
  · simp only [cond_f']
    cases turn
    · simp only [cond_f', sw16_eq]
      exact ⟨(is_iff _).2 L.2, decide_eq_true B, fun _ => (has_iff _ _).2 L.1, fun k => (by cases k)⟩
    · simp only [cond_t']
      exact ⟨(is_iff _).2 T.2.1, decide_eq_true T.2.2, fun k => (by cases k), fun _ => (has_iff _ _).2 T.1⟩
  · simp only [cond_t']
    exact ⟨(is_iff _).2 T.2.1, decide_eq_true T.2.2, fun _ => (has_iff _ _).2 T.1, fun _ => (has_iff _ _).2 T.1⟩
theorem sw_all32 {big turn : Bool} (ha : isS a) (hx : hs a x) : m_scalar_Is (m_scalar_Swap 32#64 big turn a) = true ∧ BitVec.ult (m_scalar_Swap 32#64 big turn a).umax 4294967296#64 = true ∧ (turn = false → m_scalar_Has (m_scalar_Swap 32#64 big turn a) (m_alu_Swap 32#64 big x).1 = true) ∧ (turn = true → m_scalar_Has (m_scalar_Swap 32#64 big turn a) (m_alu_Turn 32#64 x).1 = true) := by
  have T := tf32 hx
  have L := low32_has ha hx
  have B := lowb32 hx
  have e1 : ∀ y : BitVec 64, m_alu_Turn 32#64 y = (rv32 y, true) := fun y => by
    unfold m_alu_Turn; simp only [BitVec.reduceBEq, cond_t', cond_f']; rfl
  unfold m_scalar_Swap m_alu_Swap
  rw [known_of ha]
  simp only [BitVec.reduceBEq, cond_t', cond_f', e1, ult_iff]
  cases big
  · simp only [cond_f']
    cases turn
    · simp only [cond_f', sw_lo]
      exact ⟨(is_iff _).2 L.2, decide_eq_true B, fun _ => (has_iff _ _).2 L.1, fun k => (by cases k)⟩
    · simp only [cond_t']
      exact ⟨(is_iff _).2 T.2.1, decide_eq_true T.2.2, fun k => (by cases k), fun _ => (has_iff _ _).2 T.1⟩
  · simp only [cond_t']
    exact ⟨(is_iff _).2 T.2.1, decide_eq_true T.2.2, fun _ => (has_iff _ _).2 T.1, fun _ => (has_iff _ _).2 T.1⟩
theorem sw_all64 {big turn : Bool} (ha : isS a) (hx : hs a x) : m_scalar_Is (m_scalar_Swap 64#64 big turn a) = true ∧ (turn = false → m_scalar_Has (m_scalar_Swap 64#64 big turn a) (m_alu_Swap 64#64 big x).1 = true) ∧ (turn = true → m_scalar_Has (m_scalar_Swap 64#64 big turn a) (m_alu_Turn 64#64 x).1 = true) := by
  have T := tf64 hx
  have e1 : ∀ y : BitVec 64, m_alu_Turn 64#64 y = (m_math_bits_ReverseBytes64 y, true) := fun y => by
    unfold m_alu_Turn; simp only [BitVec.reduceBEq, cond_t', cond_f']
  unfold m_scalar_Swap m_alu_Swap
  rw [known_of ha]
  simp only [BitVec.reduceBEq, cond_t', cond_f', e1]
  cases big
  · simp only [cond_f']
    cases turn
    · simp only [cond_f']
      exact ⟨(is_iff _).2 ha, fun _ => (has_iff _ _).2 hx, fun k => (by cases k)⟩
    · simp only [cond_t']
      exact ⟨(is_iff _).2 T.2, fun k => (by cases k), fun _ => (has_iff _ _).2 T.1⟩
  · simp only [cond_t']
    exact ⟨(is_iff _).2 T.2, fun _ => (has_iff _ _).2 T.1, fun _ => (has_iff _ _).2 T.1⟩
theorem sw_other {to : BitVec 64} {big turn : Bool} (h1 : (to == 16#64) = false) (h2 : (to == 32#64) = false) (h3 : (to == 64#64) = false) : m_scalar_Is (m_scalar_Swap to big turn a) = true := by
  unfold m_scalar_Swap
  rw [h1, h2, h3]
  simp only [cond_f']
  cases big
  · rw [cond_f']; exact (is_iff _).2 isS_U
  · rw [cond_t']; exact (is_iff _).2 isS_U
theorem sw_no {to : BitVec 64} {big : Bool} (h1 : (to == 16#64) = false) (h2 : (to == 32#64) = false) (h3 : (to == 64#64) = false) : (m_alu_Swap to big x).2 = false ∧ (m_alu_Turn to x).2 = false := by
  have e : (m_alu_Turn to x) = (0#64, false) := by unfold m_alu_Turn; rw [h1, h2, h3]; simp only [cond_f']
  unfold m_alu_Swap
  rw [e, h1, h2, h3]
  simp only [cond_f']
  cases big
  · rw [cond_f']; exact ⟨rfl, trivial⟩
  · rw [cond_t']; exact ⟨rfl, trivial⟩
theorem sw_yes {to : BitVec 64} {big : Bool} (h : to = 16#64 ∨ to = 32#64 ∨ to = 64#64) : (m_alu_Swap to big x).2 = true ∧ (m_alu_Turn to x).2 = true := by
  have e : (m_alu_Turn to x).2 = true := by
    unfold m_alu_Turn
    rcases h with rfl | rfl | rfl <;> simp only [BitVec.reduceBEq, cond_t', cond_f']
  refine ⟨?_, e⟩
  unfold m_alu_Swap
  cases big
  · rw [cond_f']
    rcases h with rfl | rfl | rfl <;> simp only [BitVec.reduceBEq, cond_t', cond_f']
  · rw [cond_t']; exact e
end
end Go.Proofs.YtmhiiahfjoijgaaGreat
