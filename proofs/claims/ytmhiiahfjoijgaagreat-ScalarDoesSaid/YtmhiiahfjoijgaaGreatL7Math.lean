/-
  Numbers some of whose bits are known, as pairs of bit vectors, and laws of them. Nothing of the program stands here.
-/
import Derived.WalkKit
namespace Go.Proofs.YtmhiiahfjoijgaaGreat
set_option linter.unusedVariables false
set_option linter.unusedSimpArgs false

/-- A number some of whose bits are known: the known bits, and which are not. -/
structure T where
  v : BitVec 64
  m : BitVec 64
  deriving DecidableEq, Inhabited

theorem T.ext' {a b : T} (h1 : a.v = b.v) (h2 : a.m = b.m) : a = b := by
  cases a; cases b; simp_all

def wf (t : T) : Prop := t.v &&& t.m = 0#64
instance (t : T) : Decidable (wf t) := by unfold wf; infer_instance
def unk : T := ⟨0#64, BitVec.allOnes 64⟩
def kn (t : T) : T := if t.v &&& t.m = 0#64 then t else unk
def wo (v m : BitVec 64) : T := ⟨v &&& ~~~m, m⟩
def pjoin (a b : T) : T := wo a.v (a.m ||| b.m ||| (a.v ^^^ b.v))
def padd (a b : T) : T := wo (a.v + b.v) (((a.v + b.v) ^^^ (a.v + b.v + a.m + b.m)) ||| a.m ||| b.m)
def psub (a b : T) : T := wo (a.v - b.v) (((a.v - b.v - b.m) ^^^ (a.v - b.v + a.m)) ||| a.m ||| b.m)
def pand (a b : T) : T := wo (a.v &&& b.v) ((a.v ||| a.m) &&& (b.v ||| b.m) &&& ~~~(a.v &&& b.v))
def por (a b : T) : T := ⟨a.v ||| b.v, (a.m ||| b.m) &&& ~~~(a.v ||| b.v)⟩
def pxor (a b : T) : T := wo (a.v ^^^ b.v) (a.m ||| b.m)
def join (a b : T) : T := pjoin (kn a) (kn b)
def add (a b : T) : T := padd (kn a) (kn b)
def sub (a b : T) : T := psub (kn a) (kn b)
def and (a b : T) : T := pand (kn a) (kn b)
def or (a b : T) : T := por (kn a) (kn b)
def xor (a b : T) : T := pxor (kn a) (kn b)
def shl (a : T) (k : Nat) : T := ⟨(kn a).v <<< k, (kn a).m <<< k⟩
def shr (a : T) (k : Nat) : T := ⟨(kn a).v >>> k, (kn a).m >>> k⟩
def sar (a : T) (k : Nat) : T := ⟨(kn a).v.sshiftRight k, (kn a).m.sshiftRight k⟩
def has (t : T) (x : BitVec 64) : Prop := t.v &&& t.m = 0#64 ∧ x &&& ~~~t.m = t.v
def low (t : T) : T := ⟨(kn t).v &&& 0xffffffff#64, (kn t).m &&& 0xffffffff#64⟩

theorem wf_unk : wf unk := by decide
theorem wf_kn (t : T) : wf (kn t) := by
  unfold kn; split
  · assumption
  · exact wf_unk
theorem kn_wf {t : T} (h : wf t) : kn t = t := by unfold kn; exact if_pos h
theorem wf_wo (v m) : wf (wo v m) := by
  unfold wf wo; ext i; simp

theorem bit_ext {x y : BitVec 64} (h : ∀ i, i < 64 → x.getLsbD i = y.getLsbD i) : x = y :=
  BitVec.eq_of_getLsbD_eq (fun i hi => h i hi)

/-- bits of a wf tnum -/
theorem wf_bit {t : T} (h : wf t) (i : Nat) : (t.v.getLsbD i && t.m.getLsbD i) = false := by
  have := congrArg (fun z => BitVec.getLsbD z i) h
  simpa using this
theorem has_bit {t : T} {x} (h : has t x) (i : Nat) (hi : i < 64) : t.m.getLsbD i = false → x.getLsbD i = t.v.getLsbD i := by
  have := congrArg (fun z => BitVec.getLsbD z i) h.2
  intro hm
  simpa only [BitVec.getLsbD_and, BitVec.getLsbD_not, hm, hi, decide_true, Bool.true_and, Bool.not_false, Bool.and_true] using this
theorem has_of {t : T} {x} (h : wf t) (g : ∀ i, i < 64 → t.m.getLsbD i = false → x.getLsbD i = t.v.getLsbD i) : has t x := by
  refine ⟨h, bit_ext fun i hi => ?_⟩
  have hw := wf_bit h i
  simp only [BitVec.getLsbD_and, BitVec.getLsbD_not, hi, decide_true, Bool.true_and]
  cases hm : t.m.getLsbD i
  · rw [g i hi hm]; simp
  · rw [hm] at hw; simp at hw; simp [hw]

/-- v below x below v|m, bitwise. -/
def le (x y : BitVec 64) : Prop := ∀ i, x.getLsbD i = true → y.getLsbD i = true

theorem le_mod {x y : BitVec 64} (h : le x y) (i : Nat) : x.toNat % 2 ^ i ≤ y.toNat % 2 ^ i := by
  have : x.toNat % 2 ^ i = (x.toNat % 2 ^ i) &&& (y.toNat % 2 ^ i) := by
    apply Nat.eq_of_testBit_eq
    intro j
    have := h j
    simp only [BitVec.getLsbD] at this
    simp only [Nat.testBit_and, Nat.testBit_mod_two_pow]
    cases hx : x.toNat.testBit j
    · simp
    · rw [this hx]; simp
  rw [this]; exact Nat.and_le_right

theorem carry_mono {x y x' y' : BitVec 64} (hx : le x x') (hy : le y y') (c : Bool) (i : Nat) : BitVec.carry i x y c = true → BitVec.carry i x' y' c = true := by
  simp only [BitVec.carry, decide_eq_true_eq]
  have := le_mod hx i
  have := le_mod hy i
  omega

def hi (t : T) : BitVec 64 := t.v ||| t.m
theorem le_lo {t : T} {x} (h : has t x) : le t.v x := by
  intro i hv
  have hi : i < 64 := by
    rcases Nat.lt_or_ge i 64 with h | h
    · exact h
    · rw [BitVec.getLsbD_of_ge _ _ h] at hv; cases hv
  have := has_bit h i hi
  have w := wf_bit h.1 i
  rw [hv] at this w
  simp at w
  exact this w
theorem le_hi {t : T} {x} (h : has t x) : le x (hi t) := by
  intro i hv
  have hi' : i < 64 := by
    rcases Nat.lt_or_ge i 64 with h | h
    · exact h
    · rw [BitVec.getLsbD_of_ge _ _ h] at hv; cases hv
  have := has_bit h i hi'
  simp only [hi, BitVec.getLsbD_or]
  cases hm : t.m.getLsbD i
  · rw [hm, hv] at this; simp [← this rfl]
  · simp
theorem hi_add {t : T} (h : wf t) : t.v + t.m = hi t := by
  unfold hi
  exact BitVec.add_eq_or_of_and_eq_zero _ _ h

theorem add_bit (x y : BitVec 64) (i : Nat) (hi : i < 64) : (x + y).getLsbD i = (x.getLsbD i ^^ (y.getLsbD i ^^ BitVec.carry i x y false)) := by
  rw [BitVec.getLsbD_add hi]
theorem sub_bit (x y : BitVec 64) (i : Nat) (hi : i < 64) : (x - y).getLsbD i = (x.getLsbD i ^^ (!y.getLsbD i ^^ BitVec.carry i x (~~~y) true)) := by
  have : x - y = x + ~~~y + (BitVec.ofBool true).setWidth 64 := by
    rw [BitVec.sub_eq_add_neg, BitVec.neg_eq_not_add, BitVec.add_assoc]; rfl
  rw [this, BitVec.getLsbD_add_add_bool hi]
  simp [hi]

/-- The bits of a sum's tnum. -/
theorem padd_m {a b : T} (ha : wf a) (hb : wf b) (i : Nat) (hi' : i < 64) :
    (padd a b).m.getLsbD i = (a.m.getLsbD i || b.m.getLsbD i || (BitVec.carry i a.v b.v false ^^ BitVec.carry i (hi a) (hi b) false)) := by
  have e : a.v + b.v + a.m + b.m = hi a + hi b := by
    rw [← hi_add ha, ← hi_add hb]; ac_rfl
  unfold padd wo
  rw [e]
  simp only [BitVec.getLsbD_or, BitVec.getLsbD_xor, add_bit _ _ _ hi']
  simp only [hi, BitVec.getLsbD_or]
  cases a.m.getLsbD i <;> cases b.m.getLsbD i <;> simp
  cases a.v.getLsbD i <;> cases b.v.getLsbD i <;> simp
theorem padd_v {a b : T} (i : Nat) (hi' : i < 64) :
    (padd a b).v.getLsbD i = (!(padd a b).m.getLsbD i && (a.v.getLsbD i ^^ (b.v.getLsbD i ^^ BitVec.carry i a.v b.v false))) := by
  unfold padd wo
  simp only [BitVec.getLsbD_and, BitVec.getLsbD_not, hi', add_bit _ _ _ hi', decide_true, Bool.true_and]
  rw [Bool.and_comm]

theorem padd_has {a b : T} {x y} (ha : has a x) (hb : has b y) : has (padd a b) (x + y) := by
  refine has_of (wf_wo _ _) fun i hi' hm => ?_
  rw [padd_v i hi', hm]
  rw [padd_m ha.1 hb.1 i hi'] at hm
  simp only [Bool.or_eq_false_iff] at hm
  obtain ⟨⟨h1, h2⟩, h3⟩ := hm
  rw [add_bit _ _ _ hi', has_bit ha i hi' h1, has_bit hb i hi' h2]
  have c1 := carry_mono (le_lo ha) (le_lo hb) false i
  have c2 := carry_mono (le_hi ha) (le_hi hb) false i
  have : BitVec.carry i x y false = BitVec.carry i a.v b.v false := by
    revert c1 c2 h3
    cases BitVec.carry i x y false <;> cases BitVec.carry i a.v b.v false <;> cases BitVec.carry i (hi a) (hi b) false <;> simp
  rw [this]; simp

theorem le_not {x y : BitVec 64} (h : ∀ i, i < 64 → x.getLsbD i = true → y.getLsbD i = true) : le (~~~y) (~~~x) := by
  intro i
  simp only [BitVec.getLsbD_not]
  by_cases hi : i < 64
  · have := h i hi
    revert this
    cases x.getLsbD i <;> cases y.getLsbD i <;> simp [hi]
  · simp [hi]
theorem le_of {x y : BitVec 64} (h : ∀ i, i < 64 → x.getLsbD i = true → y.getLsbD i = true) : le x y := by
  intro i hv
  by_cases hi : i < 64
  · exact h i hi hv
  · rw [BitVec.getLsbD_of_ge _ _ (by omega)] at hv; cases hv

/-- The bits of a difference's tnum. -/
theorem psub_m {a b : T} (ha : wf a) (hb : wf b) (i : Nat) (hi' : i < 64) :
    (psub a b).m.getLsbD i = (a.m.getLsbD i || b.m.getLsbD i || (BitVec.carry i a.v (~~~(hi b)) true ^^ BitVec.carry i (hi a) (~~~b.v) true)) := by
  have e : a.v - b.v - b.m = a.v - hi b := by
    rw [← hi_add hb, BitVec.sub_eq_add_neg, BitVec.sub_eq_add_neg, BitVec.sub_eq_add_neg, BitVec.neg_add]; 
    rw [BitVec.sub_eq_add_neg]; ac_rfl
  have e' : a.v - b.v + a.m = hi a - b.v := by
    rw [← hi_add ha, BitVec.sub_eq_add_neg, BitVec.sub_eq_add_neg]; ac_rfl
  unfold psub wo
  rw [e, e']
  simp only [BitVec.getLsbD_or, BitVec.getLsbD_xor, sub_bit _ _ _ hi']
  simp only [hi, BitVec.getLsbD_or]
  cases a.m.getLsbD i <;> cases b.m.getLsbD i <;> simp
  cases a.v.getLsbD i <;> cases b.v.getLsbD i <;> simp
theorem psub_v {a b : T} (i : Nat) (hi' : i < 64) :
    (psub a b).v.getLsbD i = (!(psub a b).m.getLsbD i && (a.v.getLsbD i ^^ (!b.v.getLsbD i ^^ BitVec.carry i a.v (~~~b.v) true))) := by
  unfold psub wo
  simp only [BitVec.getLsbD_and, BitVec.getLsbD_not, hi', sub_bit _ _ _ hi', decide_true, Bool.true_and]
  rw [Bool.and_comm]
theorem psub_has {a b : T} {x y} (ha : has a x) (hb : has b y) : has (psub a b) (x - y) := by
  refine has_of (wf_wo _ _) fun i hi' hm => ?_
  rw [psub_v i hi', hm]
  rw [psub_m ha.1 hb.1 i hi'] at hm
  simp only [Bool.or_eq_false_iff] at hm
  obtain ⟨⟨h1, h2⟩, h3⟩ := hm
  rw [sub_bit _ _ _ hi', has_bit ha i hi' h1, has_bit hb i hi' h2]
  have l1 := le_not (x := y) (y := hi b) (fun i _ => le_hi hb i)
  have l2 := le_not (x := b.v) (y := y) (fun i _ => le_lo hb i)
  have l3 := le_not (x := b.v) (y := hi b) (fun i _ h => le_hi hb i (le_lo hb i h))
  have c1 := carry_mono (le_lo ha) l1 true i
  have c2 := carry_mono (le_hi ha) l2 true i
  have c3 := carry_mono (x := a.v) (x' := hi a) (fun i h => le_hi ha i (le_lo ha i h)) (y := ~~~b.v) (fun i h => h) true i
  have c4 := carry_mono (x := a.v) (fun i h => h) l3 true i
  have : BitVec.carry i x (~~~y) true = BitVec.carry i a.v (~~~b.v) true := by
    revert c1 c2 h3 c3 c4
    cases BitVec.carry i x (~~~y) true <;> cases BitVec.carry i a.v (~~~b.v) true <;> cases BitVec.carry i a.v (~~~(hi b)) true <;> cases BitVec.carry i (hi a) (~~~b.v) true <;> simp
  rw [this]; simp

/-- what is within another one -/
def inn (a b : T) : Prop := ∀ i, i < 64 → b.m.getLsbD i = false → a.m.getLsbD i = false ∧ a.v.getLsbD i = b.v.getLsbD i
theorem inn_lo {a b : T} (hb : wf b) (h : inn a b) : le b.v a.v := by
  apply le_of
  intro i hi hv
  have w := wf_bit hb i
  rw [hv] at w
  have := h i hi (by simpa using w)
  rw [this.2, hv]
theorem inn_hi {a b : T} (h : inn a b) : le (hi a) (hi b) := by
  apply le_of
  intro i hi' hv
  have := h i hi'
  simp only [hi, BitVec.getLsbD_or] at *
  cases hm : b.m.getLsbD i
  · obtain ⟨h1, h2⟩ := this hm
    rw [h1, h2] at hv; simpa using hv
  · simp
theorem lo_hi (a : T) : le a.v (hi a) := by
  apply le_of
  intro i _ hv
  simp [hi, hv]

theorem padd_inn {a b c d : T} (ha : wf a) (hb : wf b) (hc : wf c) (hd : wf d) (h : inn a c) (g : inn b d) : inn (padd a b) (padd c d) := by
  intro i hi' hm
  have e1 := padd_v (a := a) (b := b) i hi'
  have e2 := padd_v (a := c) (b := d) i hi'
  rw [hm] at e2
  rw [padd_m hc hd i hi'] at hm
  simp only [Bool.or_eq_false_iff] at hm
  obtain ⟨⟨h1, h2⟩, h3⟩ := hm
  obtain ⟨p1, p2⟩ := h i hi' h1
  obtain ⟨q1, q2⟩ := g i hi' h2
  have c1 := carry_mono (inn_lo hc h) (inn_lo hd g) false i
  have c2 := carry_mono (lo_hi a) (lo_hi b) false i
  have c3 := carry_mono (inn_hi h) (inn_hi g) false i
  have m0 : (padd a b).m.getLsbD i = false := by
    rw [padd_m ha hb i hi', p1, q1]
    revert h3 c1 c2 c3
    cases BitVec.carry i c.v d.v false <;> cases BitVec.carry i a.v b.v false <;> cases BitVec.carry i (hi a) (hi b) false <;> cases BitVec.carry i (hi c) (hi d) false <;> simp
  refine ⟨m0, ?_⟩
  rw [m0] at e1
  rw [e1, e2, p2, q2]
  revert h3 c1 c2 c3
  cases BitVec.carry i c.v d.v false <;> cases BitVec.carry i a.v b.v false <;> cases BitVec.carry i (hi a) (hi b) false <;> cases BitVec.carry i (hi c) (hi d) false <;> simp

theorem psub_inn {a b c d : T} (ha : wf a) (hb : wf b) (hc : wf c) (hd : wf d) (h : inn a c) (g : inn b d) : inn (psub a b) (psub c d) := by
  intro i hi' hm
  have e1 := psub_v (a := a) (b := b) i hi'
  have e2 := psub_v (a := c) (b := d) i hi'
  rw [hm] at e2
  rw [psub_m hc hd i hi'] at hm
  simp only [Bool.or_eq_false_iff] at hm
  obtain ⟨⟨h1, h2⟩, h3⟩ := hm
  obtain ⟨p1, p2⟩ := h i hi' h1
  obtain ⟨q1, q2⟩ := g i hi' h2
  have n1 := le_not (fun i _ => inn_hi g i)
  have n2 := le_not (fun i _ => inn_lo hd g i)
  have n3 := le_not (fun i _ => lo_hi b i)
  have n4 := le_not (fun i _ => lo_hi d i)
  have c1 := carry_mono (inn_lo hc h) n1 true i
  have c2 := carry_mono (fun i h => h) n3 true i (x := a.v)
  have c3 := carry_mono (lo_hi a) (fun i h => h) true i (y := ~~~b.v)
  have c4 := carry_mono (inn_hi h) n2 true i
  have c5 := carry_mono (fun i h => h) n4 true i (x := c.v)
  have c6 := carry_mono (lo_hi c) (fun i h => h) true i (y := ~~~d.v)
  have m0 : (psub a b).m.getLsbD i = false := by
    rw [psub_m ha hb i hi', p1, q1]
    revert h3 c1 c2 c3 c4
    cases BitVec.carry i c.v (~~~(hi d)) true <;> cases BitVec.carry i a.v (~~~(hi b)) true <;> cases BitVec.carry i (hi a) (~~~b.v) true <;> cases BitVec.carry i (hi c) (~~~d.v) true <;> cases BitVec.carry i a.v (~~~b.v) true <;> simp
  refine ⟨m0, ?_⟩
  rw [m0] at e1
  rw [e1, e2, p2, q2]
  revert h3 c1 c2 c3 c4 c5 c6
  cases BitVec.carry i c.v (~~~(hi d)) true <;> cases BitVec.carry i a.v (~~~(hi b)) true <;> cases BitVec.carry i (hi a) (~~~b.v) true <;> cases BitVec.carry i (hi c) (~~~d.v) true <;> cases BitVec.carry i a.v (~~~b.v) true <;> cases BitVec.carry i c.v (~~~d.v) true <;> simp


/-! the others, by bits -/
theorem wf_pand (a b : T) : wf (pand a b) := wf_wo _ _
theorem wf_por (a b : T) : wf (por a b) := by
  unfold wf por; apply bit_ext; intro i hi
  simp only [BitVec.getLsbD_and, BitVec.getLsbD_or, BitVec.getLsbD_not, hi, decide_true, Bool.true_and, BitVec.getLsbD_zero]
  cases a.v.getLsbD i <;> cases b.v.getLsbD i <;> simp
theorem wf_sh (a : T) (h : wf a) (k : Nat) : wf ⟨a.v <<< k, a.m <<< k⟩ := by
  unfold wf; rw [← BitVec.shiftLeft_and_distrib, h]; simp
theorem wf_sr (a : T) (h : wf a) (k : Nat) : wf ⟨a.v >>> k, a.m >>> k⟩ := by
  unfold wf; rw [← BitVec.ushiftRight_and_distrib, h]; simp
theorem wf_sar (a : T) (h : wf a) (k : Nat) : wf ⟨a.v.sshiftRight k, a.m.sshiftRight k⟩ := by
  unfold wf; rw [← BitVec.sshiftRight_and_distrib, h]; simp

theorem pand_has {a b : T} {x y} (ha : has a x) (hb : has b y) : has (pand a b) (x &&& y) := by
  refine has_of (wf_wo _ _) fun i hi' hm => ?_
  have w1 := wf_bit ha.1 i
  have w2 := wf_bit hb.1 i
  have p := has_bit ha i hi'
  have q := has_bit hb i hi'
  revert hm p q w1 w2
  simp only [pand, wo, BitVec.getLsbD_and, BitVec.getLsbD_or, BitVec.getLsbD_not, hi', decide_true, Bool.true_and]
  cases a.v.getLsbD i <;> cases a.m.getLsbD i <;> cases b.v.getLsbD i <;> cases b.m.getLsbD i <;> cases x.getLsbD i <;> cases y.getLsbD i <;> simp
theorem por_has {a b : T} {x y} (ha : has a x) (hb : has b y) : has (por a b) (x ||| y) := by
  refine has_of (wf_por _ _) fun i hi' hm => ?_
  have w1 := wf_bit ha.1 i
  have w2 := wf_bit hb.1 i
  have p := has_bit ha i hi'
  have q := has_bit hb i hi'
  revert hm p q w1 w2
  simp only [por, wo, BitVec.getLsbD_and, BitVec.getLsbD_or, BitVec.getLsbD_not, hi', decide_true, Bool.true_and]
  cases a.v.getLsbD i <;> cases a.m.getLsbD i <;> cases b.v.getLsbD i <;> cases b.m.getLsbD i <;> cases x.getLsbD i <;> cases y.getLsbD i <;> simp
theorem pxor_has {a b : T} {x y} (ha : has a x) (hb : has b y) : has (pxor a b) (x ^^^ y) := by
  refine has_of (wf_wo _ _) fun i hi' hm => ?_
  have w1 := wf_bit ha.1 i
  have w2 := wf_bit hb.1 i
  have p := has_bit ha i hi'
  have q := has_bit hb i hi'
  revert hm p q w1 w2
  simp only [pxor, wo, BitVec.getLsbD_and, BitVec.getLsbD_or, BitVec.getLsbD_xor, BitVec.getLsbD_not, hi', decide_true, Bool.true_and]
  cases a.v.getLsbD i <;> cases a.m.getLsbD i <;> cases b.v.getLsbD i <;> cases b.m.getLsbD i <;> cases x.getLsbD i <;> cases y.getLsbD i <;> simp
theorem has_eq {t : T} {x} : has t x ↔ (t.v &&& t.m = 0#64 ∧ x &&& ~~~t.m = t.v) := Iff.rfl
theorem shl_has {a : T} {x} (ha : has a x) (k : Nat) : has ⟨a.v <<< k, a.m <<< k⟩ (x <<< k) := by
  refine has_of (wf_sh a ha.1 k) fun i hi' hm => ?_
  simp only [BitVec.getLsbD_shiftLeft, hi', decide_true, Bool.true_and] at hm ⊢
  by_cases h : i < k
  · simp [h]
  · simp only [h, decide_false, Bool.not_false, Bool.true_and] at hm ⊢
    exact has_bit ha _ (by omega) hm
theorem shr_has {a : T} {x} (ha : has a x) (k : Nat) : has ⟨a.v >>> k, a.m >>> k⟩ (x >>> k) := by
  refine has_of (wf_sr a ha.1 k) fun i hi' hm => ?_
  simp only [BitVec.getLsbD_ushiftRight] at hm ⊢
  by_cases h : k + i < 64
  · exact has_bit ha _ h hm
  · rw [BitVec.getLsbD_of_ge _ _ (by omega), BitVec.getLsbD_of_ge _ _ (by omega)]
theorem sar_bit (x : BitVec 64) (k i : Nat) (hi : i < 64) : (x.sshiftRight k).getLsbD i = x.getLsbD (if k + i < 64 then k + i else 63) := by
  rw [BitVec.getLsbD_sshiftRight]
  have : ¬ 64 ≤ i := by omega
  simp only [this, decide_false, Bool.not_false, Bool.true_and]
  by_cases h : k + i < 64
  · simp only [h, if_true]
  · simp only [h, if_false]; rfl
theorem sar_has {a : T} {x} (ha : has a x) (k : Nat) : has ⟨a.v.sshiftRight k, a.m.sshiftRight k⟩ (x.sshiftRight k) := by
  refine has_of (wf_sar a ha.1 k) fun i hi' hm => ?_
  simp only [sar_bit _ _ _ hi'] at hm ⊢
  exact has_bit ha _ (by split <;> omega) hm
theorem sh_inn {a c : T} (h : inn a c) (k : Nat) : inn ⟨a.v <<< k, a.m <<< k⟩ ⟨c.v <<< k, c.m <<< k⟩ := by
  intro i hi' hm
  simp only [BitVec.getLsbD_shiftLeft, hi', decide_true, Bool.true_and] at hm ⊢
  by_cases g : i < k
  · simp [g]
  · simp only [g, decide_false, Bool.not_false, Bool.true_and] at hm ⊢
    exact h _ (by omega) hm
theorem sr_inn {a c : T} (h : inn a c) (k : Nat) : inn ⟨a.v >>> k, a.m >>> k⟩ ⟨c.v >>> k, c.m >>> k⟩ := by
  intro i hi' hm
  simp only [BitVec.getLsbD_ushiftRight] at hm ⊢
  by_cases g : k + i < 64
  · exact h _ g hm
  · repeat rw [BitVec.getLsbD_of_ge _ _ (by omega)]
    simp
theorem sar_inn {a c : T} (h : inn a c) (k : Nat) : inn ⟨a.v.sshiftRight k, a.m.sshiftRight k⟩ ⟨c.v.sshiftRight k, c.m.sshiftRight k⟩ := by
  intro i hi' hm
  simp only [sar_bit _ _ _ hi'] at hm ⊢
  exact h _ (by split <;> omega) hm
theorem pand_inn {a b c d : T} (ha : wf a) (hb : wf b) (hc : wf c) (hd : wf d) (h : inn a c) (g : inn b d) : inn (pand a b) (pand c d) := by
  intro i hi' hm
  have w1 := wf_bit ha i
  have w2 := wf_bit hb i
  have w3 := wf_bit hc i
  have w4 := wf_bit hd i
  have p := h i hi'
  have q := g i hi'
  revert hm p q w1 w2 w3 w4
  simp only [pand, wo, BitVec.getLsbD_and, BitVec.getLsbD_or, BitVec.getLsbD_not, hi', decide_true, Bool.true_and]
  cases a.v.getLsbD i <;> cases a.m.getLsbD i <;> cases b.v.getLsbD i <;> cases b.m.getLsbD i <;> cases c.v.getLsbD i <;> cases c.m.getLsbD i <;> cases d.v.getLsbD i <;> cases d.m.getLsbD i <;> decide
theorem por_inn {a b c d : T} (ha : wf a) (hb : wf b) (hc : wf c) (hd : wf d) (h : inn a c) (g : inn b d) : inn (por a b) (por c d) := by
  intro i hi' hm
  have w1 := wf_bit ha i
  have w2 := wf_bit hb i
  have w3 := wf_bit hc i
  have w4 := wf_bit hd i
  have p := h i hi'
  have q := g i hi'
  revert hm p q w1 w2 w3 w4
  simp only [por, wo, BitVec.getLsbD_and, BitVec.getLsbD_or, BitVec.getLsbD_not, hi', decide_true, Bool.true_and]
  cases a.v.getLsbD i <;> cases a.m.getLsbD i <;> cases b.v.getLsbD i <;> cases b.m.getLsbD i <;> cases c.v.getLsbD i <;> cases c.m.getLsbD i <;> cases d.v.getLsbD i <;> cases d.m.getLsbD i <;> decide
theorem pxor_inn {a b c d : T} (h : inn a c) (g : inn b d) : inn (pxor a b) (pxor c d) := by
  intro i hi' hm
  have p := h i hi'
  have q := g i hi'
  revert hm p q
  simp only [pxor, wo, BitVec.getLsbD_and, BitVec.getLsbD_or, BitVec.getLsbD_xor, BitVec.getLsbD_not, hi', decide_true, Bool.true_and]
  cases a.v.getLsbD i <;> cases a.m.getLsbD i <;> cases b.v.getLsbD i <;> cases b.m.getLsbD i <;> cases c.v.getLsbD i <;> cases c.m.getLsbD i <;> cases d.v.getLsbD i <;> cases d.m.getLsbD i <;> decide
theorem pjoin_inn {a b c d : T} (h : inn a c) (g : inn b d) : inn (pjoin a b) (pjoin c d) := by
  intro i hi' hm
  have p := h i hi'
  have q := g i hi'
  revert hm p q
  simp only [pjoin, wo, BitVec.getLsbD_and, BitVec.getLsbD_or, BitVec.getLsbD_xor, BitVec.getLsbD_not, hi', decide_true, Bool.true_and]
  cases a.v.getLsbD i <;> cases a.m.getLsbD i <;> cases b.v.getLsbD i <;> cases b.m.getLsbD i <;> cases c.v.getLsbD i <;> cases c.m.getLsbD i <;> cases d.v.getLsbD i <;> cases d.m.getLsbD i <;> decide

/-- In's test: Join(a, b) == known(b). -/
theorem join_inn {a b : T} (ha : wf a) (hb : wf b) : inn a b ↔ pjoin a b = b := by
  constructor
  · intro h
    apply T.ext' <;> apply bit_ext <;> intro i hi' <;>
    · have w1 := wf_bit ha i
      have w2 := wf_bit hb i
      have p := h i hi'
      revert p w1 w2
      simp only [pjoin, wo, BitVec.getLsbD_and, BitVec.getLsbD_or, BitVec.getLsbD_xor, BitVec.getLsbD_not, hi', decide_true, Bool.true_and]
      cases a.v.getLsbD i <;> cases a.m.getLsbD i <;> cases b.v.getLsbD i <;> cases b.m.getLsbD i <;> decide
  · intro h i hi' hm
    have hv : (pjoin a b).v.getLsbD i = b.v.getLsbD i := by rw [h]
    have hmm : (pjoin a b).m.getLsbD i = b.m.getLsbD i := by rw [h]
    revert hm hv hmm
    simp only [pjoin, wo, BitVec.getLsbD_and, BitVec.getLsbD_or, BitVec.getLsbD_xor, BitVec.getLsbD_not, hi', decide_true, Bool.true_and]
    cases a.v.getLsbD i <;> cases a.m.getLsbD i <;> cases b.v.getLsbD i <;> cases b.m.getLsbD i <;> decide
theorem pjoin_comm (a b : T) : pjoin a b = pjoin b a := by
  apply T.ext' <;> apply bit_ext <;> intro i hi' <;>
  · simp only [pjoin, wo, BitVec.getLsbD_and, BitVec.getLsbD_or, BitVec.getLsbD_xor, BitVec.getLsbD_not, hi', decide_true, Bool.true_and]
    cases a.v.getLsbD i <;> cases a.m.getLsbD i <;> cases b.v.getLsbD i <;> cases b.m.getLsbD i <;> decide
theorem pjoin_self {a : T} (h : wf a) : pjoin a a = a := (join_inn h h).1 fun i _ hm => ⟨hm, rfl⟩
theorem inn_pjoin (a b : T) : inn a (pjoin a b) := by
  intro i hi' hm
  revert hm
  simp only [pjoin, wo, BitVec.getLsbD_and, BitVec.getLsbD_or, BitVec.getLsbD_xor, BitVec.getLsbD_not, hi', decide_true, Bool.true_and]
  cases a.v.getLsbD i <;> cases a.m.getLsbD i <;> cases b.v.getLsbD i <;> cases b.m.getLsbD i <;> decide
theorem inn_has {a b : T} (hb : wf b) {x} (h : inn a b) (hx : has a x) : has b x := by
  refine has_of hb fun i hi' hm => ?_
  obtain ⟨p, q⟩ := h i hi' hm
  rw [has_bit hx i hi' p, q]

/-- meeting -/
def apart (a b : T) : Prop := (a.v ^^^ b.v) &&& ~~~(a.m ||| b.m) ≠ 0#64
instance (a b : T) : Decidable (apart a b) := by unfold apart; infer_instance
def pmeet (a b : T) : T := if apart a b then ⟨0#64, 0#64⟩ else ⟨a.v ||| b.v, a.m &&& b.m⟩
theorem apart_comm (a b : T) : apart a b ↔ apart b a := by
  unfold apart; rw [BitVec.xor_comm, BitVec.or_comm]
theorem pmeet_comm (a b : T) : pmeet a b = pmeet b a := by
  unfold pmeet; rw [BitVec.or_comm, BitVec.and_comm]; simp only [apart_comm a b]
theorem not_apart {a b : T} : ¬ apart a b ↔ ∀ i, i < 64 → a.m.getLsbD i = false → b.m.getLsbD i = false → a.v.getLsbD i = b.v.getLsbD i := by
  unfold apart
  rw [Classical.not_not]
  constructor
  · intro h i hi' h1 h2
    have := congrArg (fun z => BitVec.getLsbD z i) h
    simp only [BitVec.getLsbD_and, BitVec.getLsbD_or, BitVec.getLsbD_xor, BitVec.getLsbD_not, hi', decide_true, Bool.true_and, h1, h2, BitVec.getLsbD_zero] at this
    revert this
    cases a.v.getLsbD i <;> cases b.v.getLsbD i <;> decide
  · intro h
    apply bit_ext; intro i hi'
    have := h i hi'
    simp only [BitVec.getLsbD_and, BitVec.getLsbD_or, BitVec.getLsbD_xor, BitVec.getLsbD_not, hi', decide_true, Bool.true_and, BitVec.getLsbD_zero]
    revert this
    cases a.v.getLsbD i <;> cases b.v.getLsbD i <;> cases a.m.getLsbD i <;> cases b.m.getLsbD i <;> decide
theorem meet_has {a b : T} {x} (ha : has a x) (hb : has b x) : ¬ apart a b ∧ has (pmeet a b) x := by
  have hn : ¬ apart a b := not_apart.2 fun i hi' h1 h2 => by rw [← has_bit ha i hi' h1, ← has_bit hb i hi' h2]
  refine ⟨hn, ?_⟩
  unfold pmeet; rw [if_neg hn]
  have g := not_apart.1 hn
  have key : ∀ i, i < 64 → ((a.v ||| b.v).getLsbD i && (a.m &&& b.m).getLsbD i) = false ∧ ((a.m &&& b.m).getLsbD i = false → x.getLsbD i = (a.v ||| b.v).getLsbD i) := by
    intro i hi'
    have w1 := wf_bit ha.1 i
    have w2 := wf_bit hb.1 i
    have p := has_bit ha i hi'
    have q := has_bit hb i hi'
    revert w1 w2 p q
    simp only [BitVec.getLsbD_and, BitVec.getLsbD_or]
    cases a.v.getLsbD i <;> cases b.v.getLsbD i <;> cases a.m.getLsbD i <;> cases b.m.getLsbD i <;> cases x.getLsbD i <;> decide
  refine has_of ?_ fun i hi' hm => (key i hi').2 hm
  unfold wf
  apply bit_ext; intro i hi'
  rw [BitVec.getLsbD_and, (key i hi').1]; simp
theorem wf_pmeet {a b : T} (ha : wf a) (hb : wf b) : wf (pmeet a b) := by
  unfold pmeet; split
  · decide
  · rename_i hn
    have g := not_apart.1 hn
    unfold wf
    apply bit_ext; intro i hi'
    have w1 := wf_bit ha i
    have w2 := wf_bit hb i
    have p := g i hi'
    revert w1 w2 p
    simp only [BitVec.getLsbD_and, BitVec.getLsbD_or, BitVec.getLsbD_zero]
    cases a.v.getLsbD i <;> cases b.v.getLsbD i <;> cases a.m.getLsbD i <;> cases b.m.getLsbD i <;> decide
theorem pmeet_inn {a b : T} (ha : wf a) (hb : wf b) (hn : ¬ apart a b) : inn (pmeet a b) a := by
  unfold pmeet; rw [if_neg hn]
  have g := not_apart.1 hn
  intro i hi'
  have w1 := wf_bit ha i
  have w2 := wf_bit hb i
  have p := g i hi'
  revert w1 w2 p
  simp only [BitVec.getLsbD_and, BitVec.getLsbD_or]
  cases a.v.getLsbD i <;> cases b.v.getLsbD i <;> cases a.m.getLsbD i <;> cases b.m.getLsbD i <;> decide
theorem inn_pmeet {a b : T} (ha : wf a) (hb : wf b) (h : inn a b) : ¬ apart a b ∧ pmeet a b = a := by
  have hn : ¬ apart a b := not_apart.2 fun i hi' h1 h2 => (h i hi' h2).2
  refine ⟨hn, ?_⟩
  unfold pmeet; rw [if_neg hn]
  apply T.ext' <;> apply bit_ext <;> intro i hi' <;>
  · have w1 := wf_bit ha i
    have w2 := wf_bit hb i
    have p := h i hi'
    revert w1 w2 p
    simp only [BitVec.getLsbD_and, BitVec.getLsbD_or]
    cases a.v.getLsbD i <;> cases b.v.getLsbD i <;> cases a.m.getLsbD i <;> cases b.m.getLsbD i <;> decide

/-! products -/
def st (a b : T) (i : Nat) (u : T) : T :=
  if a.v.getLsbD i then padd u ⟨0#64, b.m <<< i⟩ else if a.m.getLsbD i then padd u ⟨0#64, (b.v ||| b.m) <<< i⟩ else u
def mulU (a b : T) : Nat → T
  | 0 => ⟨0#64, 0#64⟩
  | i + 1 => st a b i (mulU a b i)
def pmul (a b : T) : T := padd ⟨a.v * b.v, 0#64⟩ (mulU a b 64)
theorem wf_mulU (a b : T) (i : Nat) : wf (mulU a b i) := by
  induction i with
  | zero => exact (by decide : wf ⟨0#64, 0#64⟩)
  | succ i ih =>
    unfold mulU st
    split
    · exact wf_wo _ _
    · split
      · exact wf_wo _ _
      · exact ih
theorem wf_pmul (a b : T) : wf (pmul a b) := wf_wo _ _

def loB (k : Nat) (z : BitVec 64) : BitVec 64 := (z.setWidth k).setWidth 64
theorem loB_succ (k : Nat) (z : BitVec 64) : loB (k + 1) z = loB k z + (if z.getLsbD k then BitVec.twoPow 64 k else 0#64) := by
  unfold loB
  rw [BitVec.setWidth_setWidth_succ_eq_setWidth_setWidth_add_twoPow, BitVec.and_twoPow]
theorem loB_64 (z : BitVec 64) : loB 64 z = z := by unfold loB; simp
theorem twoPow_mul (k : Nat) (y : BitVec 64) : BitVec.twoPow 64 k * y = y <<< k := by
  rw [BitVec.mul_comm, BitVec.mul_twoPow_eq_shiftLeft]
theorem mulU_has {a b : T} {x y} (ha : has a x) (hb : has b y) (k : Nat) (hk : k ≤ 64) :
    has (mulU a b k) (loB k a.v * (y &&& b.m) + loB k (x &&& a.m) * y) := by
  induction k with
  | zero =>
    have e : ∀ z : BitVec 64, loB 0 z = 0#64 := fun z => by unfold loB; apply bit_ext; intro i hi; simp
    rw [e, e]; simp only [BitVec.zero_mul]
    refine has_of (wf_mulU a b 0) fun i hi h => ?_
    unfold mulU
    simp
  | succ k ih =>
    have ih := ih (by omega)
    have hm : has ⟨0#64, b.m⟩ (y &&& b.m) := by
      refine has_of (by unfold wf; simp) fun i hi h => ?_
      simp only at h
      simp only [BitVec.getLsbD_and, h, Bool.and_false, BitVec.getLsbD_zero]
    have hy : has ⟨0#64, b.v ||| b.m⟩ y := by
      refine has_of (by unfold wf; simp) fun i hi h => ?_
      simp only [BitVec.getLsbD_or, Bool.or_eq_false_iff] at h
      rw [has_bit hb i hi h.2, h.1]; simp
    have h0 : ∀ m, has ⟨0#64, m⟩ 0#64 := fun m => has_of (by unfold wf; simp) fun i hi h => rfl
    have w := wf_bit ha.1 k
    rw [loB_succ, loB_succ]
    unfold mulU st
    simp only [BitVec.getLsbD_and]
    cases hv : a.v.getLsbD k
    · cases hmm : a.m.getLsbD k
      · simp only [Bool.and_false, Bool.false_eq_true, if_false, BitVec.add_zero]; exact ih
      · simp only [Bool.and_true, Bool.false_eq_true, if_false, if_true, BitVec.add_zero]
        cases hx : x.getLsbD k
        · simp only [Bool.false_eq_true, if_false, BitVec.add_zero]
          have := padd_has ih (shl_has (h0 (b.v ||| b.m)) k)
          simpa using this
        · simp only [if_true, BitVec.add_mul, twoPow_mul, ← BitVec.add_assoc]
          have := padd_has ih (shl_has hy k)
          simpa using this
    · rw [hv] at w
      have w : a.m.getLsbD k = false := by simpa only [Bool.true_and] using w
      simp only [w, Bool.and_false, Bool.false_eq_true, if_false, if_true, BitVec.add_zero, BitVec.add_mul, twoPow_mul]
      have := padd_has ih (shl_has hm k)
      have e : loB k a.v * (y &&& b.m) + (y &&& b.m) <<< k + loB k (x &&& a.m) * y = loB k a.v * (y &&& b.m) + loB k (x &&& a.m) * y + (y &&& b.m) <<< k := by ac_rfl
      rw [e]
      simpa using this
theorem has_split {t : T} {x} (h : has t x) : x = t.v + (x &&& t.m) := by
  have e : t.v &&& (x &&& t.m) = 0#64 := by
    rw [BitVec.and_comm x, ← BitVec.and_assoc, h.1]; simp
  rw [BitVec.add_eq_or_of_and_eq_zero _ _ e]
  apply bit_ext; intro i hi
  have := has_bit h i hi
  have w := wf_bit h.1 i
  revert this w
  simp only [BitVec.getLsbD_or, BitVec.getLsbD_and]
  cases t.v.getLsbD i <;> cases t.m.getLsbD i <;> cases x.getLsbD i <;> decide
theorem pmul_has {a b : T} {x y} (ha : has a x) (hb : has b y) : has (pmul a b) (x * y) := by
  have h := mulU_has ha hb 64 (Nat.le_refl _)
  rw [loB_64, loB_64] at h
  have hp : has ⟨a.v * b.v, 0#64⟩ (a.v * b.v) := has_of (by unfold wf; simp) fun i hi h => rfl
  have := padd_has hp h
  have e : a.v * b.v + (a.v * (y &&& b.m) + (x &&& a.m) * y) = x * y := by
    have h1 := has_split ha
    have h2 := has_split hb
    calc a.v * b.v + (a.v * (y &&& b.m) + (x &&& a.m) * y) = a.v * (b.v + (y &&& b.m)) + (x &&& a.m) * y := by rw [BitVec.mul_add]; ac_rfl
      _ = (a.v + (x &&& a.m)) * y := by rw [← h2, BitVec.add_mul]
      _ = x * y := by rw [← h1]
  rw [e] at this
  exact this

/-! noughts at the end -/
def Z (n : Nat) (x : BitVec 64) : Prop := 2 ^ n ∣ x.toNat
theorem Z_iff {n : Nat} (x : BitVec 64) : Z n x ↔ ∀ i, i < n → x.getLsbD i = false := by
  unfold Z
  rw [Nat.dvd_iff_mod_eq_zero]
  constructor
  · intro h i hi
    have := Nat.testBit_mod_two_pow x.toNat n i
    rw [h] at this
    simpa [BitVec.getLsbD, hi] using this.symm
  · intro h
    apply Nat.eq_of_testBit_eq; intro i
    rw [Nat.testBit_mod_two_pow]
    by_cases hi : i < n
    · have := h i hi
      simp only [BitVec.getLsbD] at this
      simp [this]
    · simp [hi]
theorem Z_add {n : Nat} (hn : n ≤ 64) {x y : BitVec 64} (hx : Z n x) (hy : Z n y) : Z n (x + y) := by
  unfold Z at *
  rw [BitVec.toNat_add]
  exact (Nat.dvd_mod_iff (Nat.pow_dvd_pow 2 hn)).2 (Nat.dvd_add hx hy)
theorem Z_or {n : Nat} {x y : BitVec 64} (hx : Z n x) (hy : Z n y) : Z n (x ||| y) := by
  rw [Z_iff] at *
  intro i hi; rw [BitVec.getLsbD_or, hx i hi, hy i hi]; rfl
theorem Z_xor {n : Nat} {x y : BitVec 64} (hx : Z n x) (hy : Z n y) : Z n (x ^^^ y) := by
  rw [Z_iff] at *
  intro i hi; rw [BitVec.getLsbD_xor, hx i hi, hy i hi]; rfl
theorem Z_and {n : Nat} {x : BitVec 64} (hx : Z n x) (y : BitVec 64) : Z n (x &&& y) := by
  rw [Z_iff] at *
  intro i hi; rw [BitVec.getLsbD_and, hx i hi]; rfl
theorem Z_zero (n : Nat) : Z n 0#64 := by unfold Z; simp
theorem Z_shl {n p q : Nat} (hn : n ≤ 64) {x : BitVec 64} (hx : Z q x) (h : n ≤ p + q) : Z n (x <<< p) := by
  unfold Z at *
  rw [BitVec.toNat_shiftLeft, Nat.shiftLeft_eq]
  refine (Nat.dvd_mod_iff (Nat.pow_dvd_pow 2 hn)).2 (Nat.dvd_trans (Nat.pow_dvd_pow 2 h) ?_)
  rw [Nat.pow_add, Nat.mul_comm x.toNat]
  exact Nat.mul_dvd_mul_left _ hx
theorem Z_mul {n p q : Nat} (hn : n ≤ 64) {x y : BitVec 64} (hx : Z p x) (hy : Z q y) (h : n ≤ p + q) : Z n (x * y) := by
  unfold Z at *
  rw [BitVec.toNat_mul]
  refine (Nat.dvd_mod_iff (Nat.pow_dvd_pow 2 hn)).2 (Nat.dvd_trans (Nat.pow_dvd_pow 2 h) ?_)
  rw [Nat.pow_add]
  exact Nat.mul_dvd_mul hx hy
def ZT (n : Nat) (t : T) : Prop := Z n t.v ∧ Z n t.m
theorem ZT_padd {n : Nat} (hn : n ≤ 64) {a b : T} (ha : ZT n a) (hb : ZT n b) : ZT n (padd a b) := by
  have s := Z_add hn ha.1 hb.1
  exact ⟨Z_and s _, Z_or (Z_or (Z_xor s (Z_add hn (Z_add hn s ha.2) hb.2)) ha.2) hb.2⟩
theorem ZT_mulU {a b : T} {p q n : Nat} (ha : ZT p a) (hb : ZT q b) (hn : n ≤ 64) (h : n ≤ p + q) (k : Nat) : ZT n (mulU a b k) := by
  induction k with
  | zero => exact ⟨Z_zero _, Z_zero _⟩
  | succ k ih =>
    unfold mulU st
    by_cases hk : k < p
    · rw [(Z_iff _).1 ha.1 k hk, (Z_iff _).1 ha.2 k hk]; simpa using ih
    · split
      · exact ZT_padd hn ih ⟨Z_zero _, Z_shl hn hb.2 (by omega)⟩
      · split
        · exact ZT_padd hn ih ⟨Z_zero _, Z_shl hn (Z_or hb.1 hb.2) (by omega)⟩
        · exact ih
theorem ZT_pmul {a b : T} {p q n : Nat} (ha : ZT p a) (hb : ZT q b) (hn : n ≤ 64) (h : n ≤ p + q) : ZT n (pmul a b) :=
  ZT_padd hn ⟨Z_mul hn ha.1 hb.1 h, Z_zero _⟩ (ZT_mulU ha hb hn h 64)
theorem pmul_const (x y : BitVec 64) : pmul ⟨x, 0#64⟩ ⟨y, 0#64⟩ = ⟨x * y, 0#64⟩ := by
  have h : ∀ k, mulU ⟨x, 0#64⟩ ⟨y, 0#64⟩ k = ⟨0#64, 0#64⟩ := by
    intro k
    induction k with
    | zero => rfl
    | succ k ih =>
      unfold mulU st
      rw [ih]
      simp only [BitVec.zero_shiftLeft, BitVec.getLsbD_zero, Bool.false_eq_true, if_false]
      split <;> rfl
  unfold pmul
  rw [h]
  apply T.ext'
  · show x * y + 0#64 &&& ~~~_ = x * y
    simp
    exact BitVec.and_allOnes
  · simp [padd, wo]

end Go.Proofs.YtmhiiahfjoijgaaGreat
