/-
  What becomes of a scalar when its parts help each other, and that it ends.
-/
import Derived.Test.YtmhiiahfjoijgaaGreatL7A
import Derived.Test.YtmhiiahfjoijgaaGreatL7RMath
namespace Go.Proofs.YtmhiiahfjoijgaaGreat
open Go.RowKit
set_option linter.unusedVariables false
set_option linter.unusedSimpArgs false
abbrev none' := m_scalar_facts_none
abbrev r0 := m_scalar_facts_endsByBits
abbrev r1 := m_scalar_facts_bitsByEnds
abbrev r2 := m_scalar_facts_signedByUnsigned
abbrev r3 := m_scalar_facts_unsignedBySigned
def zS : S := ⟨⟨0#64, 0#64⟩, 0#64, 0#64, 0#64, 0#64⟩
/-! ### Numbers -/
theorem ult_iff (a b : BitVec 64) : a.ult b = decide (a.toNat < b.toNat) := rfl
theorem slt_iff (a b : BitVec 64) : a.slt b = decide (a.toInt < b.toInt) := rfl
theorem uMax_n (a b : BitVec 64) : (uMax a b).toNat = max a.toNat b.toNat := by
  unfold uMax; rw [ult_iff]; by_cases h : a.toNat < b.toNat <;> simp [h] <;> omega
theorem uMin_n (a b : BitVec 64) : (uMin a b).toNat = min a.toNat b.toNat := by
  unfold uMin; rw [ult_iff]; by_cases h : b.toNat < a.toNat <;> simp [h] <;> omega
theorem sMax_i (a b : BitVec 64) : (sMax a b).toInt = max a.toInt b.toInt := by
  unfold sMax; rw [slt_iff]; by_cases h : a.toInt < b.toInt <;> simp [h] <;> omega
theorem sMin_i (a b : BitVec 64) : (sMin a b).toInt = min a.toInt b.toInt := by
  unfold sMin; rw [slt_iff]; by_cases h : b.toInt < a.toInt <;> simp [h] <;> omega
theorem toInt_cond (a : BitVec 64) : a.toInt = if a.toNat < 9223372036854775808 then (a.toNat : Int) else (a.toNat : Int) - 18446744073709551616 := by
  rw [BitVec.toInt_eq_toNat_cond]; have := a.isLt; split <;> split <;> omega
theorem shr63 (a : BitVec 64) : (a >>> 63).toNat = if a.toNat < 9223372036854775808 then 0 else 1 := by
  rw [BitVec.toNat_ushiftRight, Nat.shiftRight_eq_div_pow]; have := a.isLt; split <;> omega
theorem le_nat {x y : BitVec 64} (h : le x y) : x.toNat ≤ y.toNat := by
  have := le_mod h 64
  rw [Nat.mod_eq_of_lt x.isLt, Nat.mod_eq_of_lt y.isLt] at this
  exact this
/-! ### What a scalar has -/
def hs (s : S) (x : BitVec 64) : Prop := has s.t x ∧ s.umin.toNat ≤ x.toNat ∧ x.toNat ≤ s.umax.toNat ∧ s.smin.toInt ≤ x.toInt ∧ x.toInt ≤ s.smax.toInt
def good (s : S) : Prop := wf s.t ∧ s.umin.toNat ≤ s.umax.toNat ∧ s.smin.toInt ≤ s.smax.toInt
/-- g is within f, part by part. -/
def sub' (g f : S) : Prop := inn g.t f.t ∧ f.umin.toNat ≤ g.umin.toNat ∧ g.umax.toNat ≤ f.umax.toNat ∧ f.smin.toInt ≤ g.smin.toInt ∧ g.smax.toInt ≤ f.smax.toInt
theorem inn_refl (t : T) : inn t t := fun i _ h => ⟨h, rfl⟩
theorem inn_trans {a b c : T} (h : inn a b) (k : inn b c) : inn a c := fun i hi hc => by
  obtain ⟨h1, h2⟩ := k i hi hc
  obtain ⟨h3, h4⟩ := h i hi h1
  exact ⟨h3, h4.trans h2⟩
theorem sub'.refl (s : S) : sub' s s := ⟨inn_refl _, Nat.le_refl _, Nat.le_refl _, Int.le_refl _, Int.le_refl _⟩
theorem sub'.trans {a b c : S} (h : sub' a b) (k : sub' b c) : sub' a c := ⟨inn_trans h.1 k.1, Nat.le_trans k.2.1 h.2.1, Nat.le_trans h.2.2.1 k.2.2.1, Int.le_trans k.2.2.2.1 h.2.2.2.1, Int.le_trans h.2.2.2.2 k.2.2.2.2⟩
theorem none_iff (s : S) : none' s = false ↔ good s := by
  unfold none' m_scalar_facts_none good m_tnum_Is wf
  rw [ult_iff, slt_iff]
  by_cases h1 : s.umax.toNat < s.umin.toNat
  · simp [h1]; try omega
  · by_cases h2 : s.smax.toInt < s.smin.toInt
    · simp [h1, h2]; try omega
    · simp [h1, h2]; try omega
theorem hs_good {s : S} {x : BitVec 64} (h : hs s x) : good s := ⟨h.1.1, Nat.le_trans h.2.1 h.2.2.1, Int.le_trans h.2.2.2.1 h.2.2.2.2⟩
theorem sub_hs {g f : S} (hf : wf f.t) (h : sub' g f) {x : BitVec 64} (hx : hs g x) : hs f x :=
  ⟨inn_has hf h.1 hx.1, Nat.le_trans h.2.1 hx.2.1, Nat.le_trans hx.2.2.1 h.2.2.1, Int.le_trans h.2.2.2.1 hx.2.2.2.1, Int.le_trans hx.2.2.2.2 h.2.2.2.2⟩
/-! ### Bits, by the program's own text -/
theorem kn_eq (t : T) : m_tnum_known t = kn t := by
  unfold m_tnum_known m_tnum_Is kn
  by_cases h : t.v &&& t.m = 0#64
  · simp [h]
  · have : (t.v &&& t.m == 0#64) = false := by simpa using h
    rw [this, if_neg h]; rfl
theorem meet_eq (a b : T) : m_tnum_Meet a b = if apart (kn a) (kn b) then (⟨0#64, 0#64⟩, false) else (pmeet (kn a) (kn b), true) := by
  unfold m_tnum_Meet
  rw [kn_eq, kn_eq]
  by_cases h : apart (kn a) (kn b)
  · rw [if_pos h]
    have h' : (((kn a).v ^^^ (kn b).v) &&& ~~~((kn a).m ||| (kn b).m) == 0#64) = false := by
      unfold apart at h; simpa using h
    rw [h']; rfl
  · rw [if_neg h]
    unfold pmeet
    rw [if_neg h]
    have h' : (((kn a).v ^^^ (kn b).v) &&& ~~~((kn a).m ||| (kn b).m) == 0#64) = true := by
      unfold apart at h; simpa using h
    rw [h']; rfl
theorem mk_bit (L : Nat) (h : L ≤ 64) (i : Nat) (hi : i < 64) : (1#64 <<< L - 1#64).getLsbD i = decide (i < L) := by
  have e : (1#64 <<< L - 1#64).toNat = 2 ^ L - 1 := by
    rw [BitVec.toNat_sub, BitVec.toNat_shiftLeft, Nat.shiftLeft_eq]
    show (2 ^ 64 - 1 % 2 ^ 64 + 1 % 2 ^ 64 * 2 ^ L % 2 ^ 64) % 2 ^ 64 = _
    have p := Nat.two_pow_pos L
    rcases Nat.lt_or_ge L 64 with h1 | h1
    · have : 2 ^ L ≤ 2 ^ 63 := Nat.pow_le_pow_right (by omega) (by omega)
      omega
    · obtain rfl : L = 64 := by omega
      decide
  unfold BitVec.getLsbD
  rw [e, Nat.testBit_two_pow_sub_one]
theorem range_has {x y z : BitVec 64} (h : x.toNat ≤ z.toNat) (h' : z.toNat ≤ y.toNat) : has (m_tnum_Range x y) z := by
  unfold m_tnum_Range
  rw [ult_iff]
  have hn : ¬ y.toNat < x.toNat := by omega
  simp only [hn, decide_false, cond_false]
  rw [len_toNat]
  have hL := blen_le (x ^^^ y)
  obtain ⟨h1, h2⟩ := blen_spec (x ^^^ y)
  rw [BitVec.toNat_xor] at h1 h2
  refine has_of (wf_wo _ _) fun i hi hm => ?_
  rw [mk_bit _ hL i hi] at hm
  have hm : ¬ i < blen (x ^^^ y) := by simpa using hm
  have := mt (range_bits x.toNat y.toNat _ (by omega) h1 h2 i).1 hm
  have h3 : (z.toNat ^^^ x.toNat).testBit i = false := by
    cases hb : (z.toNat ^^^ x.toNat).testBit i
    · rfl
    · exact absurd ⟨z.toNat, h, h', hb⟩ this
  rw [Nat.testBit_xor] at h3
  have h4 : z.getLsbD i = x.getLsbD i := by
    show z.toNat.testBit i = x.toNat.testBit i
    revert h3; cases z.toNat.testBit i <;> cases x.toNat.testBit i <;> decide
  rw [h4]
  show _ = (x &&& ~~~_).getLsbD i
  rw [BitVec.getLsbD_and, BitVec.getLsbD_not, mk_bit _ hL i hi]
  simp [hm, hi]
theorem wf_range (x y : BitVec 64) : wf (m_tnum_Range x y) := by
  unfold m_tnum_Range
  cases y.ult x
  · exact wf_wo _ _
  · exact wf_unk
/-! ### The four rules -/
theorem r0_sub {f : S} (hf : good f) : sub' (r0 f) f := by
  unfold r0 m_scalar_facts_endsByBits
  refine ⟨inn_refl _, ?_, ?_, Int.le_refl _, Int.le_refl _⟩
  · show _ ≤ (uMax _ _).toNat
    rw [uMax_n]; omega
  · show (uMin _ _).toNat ≤ _
    rw [uMin_n]; omega
theorem r0_hs {f : S} (hf : good f) {x : BitVec 64} (h : hs f x) : hs (r0 f) x := by
  have h1 := le_nat (le_lo h.1)
  have h2 := le_nat (le_hi h.1)
  refine ⟨h.1, ?_, ?_, h.2.2.2.1, h.2.2.2.2⟩
  · show (uMax f.umin (m_tnum_Least f.t)).toNat ≤ _
    rw [uMax_n]; unfold m_tnum_Least; rw [kn_eq, kn_wf hf.1]
    have := h.2.1; omega
  · show _ ≤ (uMin f.umax (m_tnum_Most f.t)).toNat
    rw [uMin_n]; unfold m_tnum_Most; rw [kn_eq, kn_wf hf.1]
    have := h.2.2.1
    show _ ≤ min _ (hi f.t).toNat
    omega
theorem r1_cases {f : S} (hf : good f) : (apart f.t (m_tnum_Range f.umin f.umax) ∧ r1 f = ⟨⟨1#64, 1#64⟩, f.umin, f.umax, f.smin, f.smax⟩) ∨
    (¬ apart f.t (m_tnum_Range f.umin f.umax) ∧ r1 f = ⟨pmeet f.t (m_tnum_Range f.umin f.umax), f.umin, f.umax, f.smin, f.smax⟩) := by
  unfold r1 m_scalar_facts_bitsByEnds
  rw [meet_eq, kn_wf hf.1, kn_wf (wf_range _ _)]
  by_cases h : apart f.t (m_tnum_Range f.umin f.umax)
  · rw [if_pos h]; exact .inl ⟨h, rfl⟩
  · rw [if_neg h]; exact .inr ⟨h, rfl⟩
theorem r1_sub {f : S} (hf : good f) (hg : good (r1 f)) : sub' (r1 f) f := by
  rcases r1_cases hf with ⟨h, e⟩ | ⟨h, e⟩
  · rw [e] at hg; exact absurd (show wf (⟨1#64, 1#64⟩ : T) from hg.1) (by decide)
  · rw [e]
    exact ⟨pmeet_inn hf.1 (wf_range _ _) h, Nat.le_refl _, Nat.le_refl _, Int.le_refl _, Int.le_refl _⟩
theorem r1_hs {f : S} (hf : good f) {x : BitVec 64} (h : hs f x) : hs (r1 f) x := by
  have h1 := meet_has h.1 (range_has h.2.1 h.2.2.1)
  rcases r1_cases hf with ⟨h2, e⟩ | ⟨h2, e⟩
  · exact absurd h2 h1.1
  · rw [e]; exact ⟨h1.2, h.2⟩
theorem r2_sub {f : S} (hf : good f) : sub' (r2 f) f := by
  unfold r2 m_scalar_facts_signedByUnsigned
  cases f.umin >>> 63 == f.umax >>> 63
  · exact .refl _
  · refine ⟨inn_refl _, Nat.le_refl _, Nat.le_refl _, ?_, ?_⟩
    · show _ ≤ (sMax _ _).toInt
      rw [sMax_i]; omega
    · show (sMin _ _).toInt ≤ _
      rw [sMin_i]; omega
theorem r2_hs {f : S} (hf : good f) {x : BitVec 64} (h : hs f x) : hs (r2 f) x := by
  unfold r2 m_scalar_facts_signedByUnsigned
  cases hc : f.umin >>> 63 == f.umax >>> 63
  · exact h
  · have hc : (f.umin >>> 63).toNat = (f.umax >>> 63).toNat := by rw [eq_of_beq hc]
    rw [shr63, shr63] at hc
    obtain ⟨h1, h2, h3, h4, h5⟩ := h
    have hx := toInt_cond x
    have ha := toInt_cond f.umin
    have hb := toInt_cond f.umax
    refine ⟨h1, h2, h3, ?_, ?_⟩
    · show (sMax f.smin f.umin).toInt ≤ _
      rw [sMax_i]
      split at hc <;> split at hx <;> split at ha <;> split at hb <;> (try split at hc) <;> omega
    · show _ ≤ (sMin f.smax f.umax).toInt
      rw [sMin_i]
      split at hc <;> split at hx <;> split at ha <;> split at hb <;> (try split at hc) <;> omega
theorem r3_cases (f : S) : r3 f = f ∨ ((f.smin.toInt < 0 ↔ f.smax.toInt < 0) ∧ r3 f = ⟨f.t, uMax f.umin f.smin, uMin f.umax f.smax, f.smin, f.smax⟩) := by
  unfold r3 m_scalar_facts_unsignedBySigned
  rw [slt_iff, slt_iff, show (0#64 : BitVec 64).toInt = 0 from by decide]
  by_cases h1 : f.smin.toInt < 0 <;> by_cases h2 : f.smax.toInt < 0 <;> simp [h1, h2]
theorem r3_sub {f : S} (hf : good f) : sub' (r3 f) f := by
  rcases r3_cases f with e | ⟨_, e⟩
  · rw [e]; exact .refl _
  · rw [e]
    refine ⟨inn_refl _, ?_, ?_, Int.le_refl _, Int.le_refl _⟩
    · show _ ≤ (uMax _ _).toNat
      rw [uMax_n]; omega
    · show (uMin _ _).toNat ≤ _
      rw [uMin_n]; omega
theorem r3_hs {f : S} (hf : good f) {x : BitVec 64} (h : hs f x) : hs (r3 f) x := by
  rcases r3_cases f with e | ⟨hc, e⟩
  · rw [e]; exact h
  · rw [e]
    obtain ⟨h1, h2, h3, h4, h5⟩ := h
    have hx := toInt_cond x
    have ha := toInt_cond f.smin
    have hb := toInt_cond f.smax
    refine ⟨h1, ?_, ?_, h4, h5⟩
    · show (uMax f.umin f.smin).toNat ≤ _
      rw [uMax_n]
      split at hx <;> split at ha <;> split at hb <;> omega
    · show _ ≤ (uMin f.umax f.smax).toNat
      rw [uMin_n]
      split at hx <;> split at ha <;> split at hb <;> omega
/-! ### It ends -/
/-- How far it may still shrink. -/
def mu (f : S) : Nat := (f.umax.toNat - f.umin.toNat) + (f.smax.toInt - f.smin.toInt).toNat + f.t.m.toNat
theorem inn_m {a b : T} (h : inn a b) : le a.m b.m := le_of fun i hi ha => by
  cases hb : b.m.getLsbD i
  · rw [(h i hi hb).1] at ha; cases ha
  · rfl
theorem inn_eq {a b : T} (ha : wf a) (hb : wf b) (h : inn a b) (hm : a.m = b.m) : a = b := by
  refine T.ext' (bit_ext fun i hi => ?_) hm
  cases hbm : b.m.getLsbD i
  · exact (h i hi hbm).2
  · have h1 := wf_bit hb i
    have h2 := wf_bit ha i
    rw [hm] at h2
    rw [hbm] at h1 h2
    revert h1 h2; cases a.v.getLsbD i <;> cases b.v.getLsbD i <;> decide
theorem mu_lt {g f : S} (hg : good g) (hf : good f) (h : sub' g f) (hne : g ≠ f) : mu g < mu f := by
  obtain ⟨h1, h2, h3, h4, h5⟩ := h
  have hm := le_nat (inn_m h1)
  unfold mu
  obtain ⟨g1, g2, g3⟩ := hg
  obtain ⟨f1, f2, f3⟩ := hf
  rcases Nat.lt_or_ge (g.t.m.toNat) (f.t.m.toNat) with hl | hl
  · omega
  · have hmm : g.t.m = f.t.m := BitVec.eq_of_toNat_eq (by omega)
    have ht := inn_eq g1 f1 h1 hmm
    have : ¬ (f.umin.toNat = g.umin.toNat ∧ g.umax.toNat = f.umax.toNat ∧ f.smin.toInt = g.smin.toInt ∧ g.smax.toInt = f.smax.toInt) := by
      rintro ⟨a, b, c, d⟩
      apply hne
      have := BitVec.eq_of_toNat_eq a
      have := BitVec.eq_of_toNat_eq b
      have := BitVec.eq_of_toInt_eq c
      have := BitVec.eq_of_toInt_eq d
      cases g; cases f; simp_all
    omega
inductive Out where
  | none
  | again (s : S)
  | done
def tryR (f n : S) (k : Out) : Out := bif none' n then .none else bif decide (n = f) then k else .again n
def pass (f : S) : Out := tryR f (r0 f) (tryR f (r1 f) (tryR f (r2 f) (tryR f (r3 f) .done)))
/-- A rule, as it is used. -/
structure Rule (f g : S) : Prop where
  sub : good g → sub' g f
  keep : ∀ x, hs f x → hs g x
theorem rule0 {f : S} (hf : good f) : Rule f (r0 f) := ⟨fun _ => r0_sub hf, fun x h => r0_hs hf h⟩
theorem rule1 {f : S} (hf : good f) : Rule f (r1 f) := ⟨fun h => r1_sub hf h, fun x h => r1_hs hf h⟩
theorem rule2 {f : S} (hf : good f) : Rule f (r2 f) := ⟨fun _ => r2_sub hf, fun x h => r2_hs hf h⟩
theorem rule3 {f : S} (hf : good f) : Rule f (r3 f) := ⟨fun _ => r3_sub hf, fun x h => r3_hs hf h⟩
/-- What a pass tells. -/
theorem tryR_cases {f n : S} {k : Out} (hf : good f) (hr : Rule f n) :
    (tryR f n k = .none ∧ none' n = true ∧ ∀ x, ¬ hs f x) ∨ (tryR f n k = k ∧ none' n = false ∧ n = f) ∨ (tryR f n k = .again n ∧ good n ∧ sub' n f ∧ n ≠ f ∧ ∀ x, hs f x ↔ hs n x) := by
  unfold tryR
  cases hn : none' n
  · have hg := (none_iff n).1 hn
    by_cases he : n = f
    · exact .inr (.inl ⟨by simp [he], rfl, he⟩)
    · exact .inr (.inr ⟨by simp [he], hg, hr.sub hg, he, fun x => ⟨hr.keep x, sub_hs hf.1 (hr.sub hg)⟩⟩)
  · refine .inl ⟨by simp, rfl, fun x h => ?_⟩
    have := (none_iff n).2 (hs_good (hr.keep x h))
    rw [hn] at this; cases this
theorem pass_cases {f : S} (hf : good f) :
    (pass f = .none ∧ ∀ x, ¬ hs f x) ∨ (∃ g, pass f = .again g ∧ good g ∧ sub' g f ∧ g ≠ f ∧ ∀ x, hs f x ↔ hs g x) ∨ (pass f = .done ∧ r0 f = f ∧ r1 f = f ∧ r2 f = f ∧ r3 f = f) := by
  unfold pass
  rcases tryR_cases (k := tryR f (r1 f) (tryR f (r2 f) (tryR f (r3 f) .done))) hf (rule0 hf) with ⟨a, _, b⟩ | ⟨a, _, e0⟩ | ⟨a, b⟩
  · exact .inl ⟨a, b⟩
  · rw [a]
    rcases tryR_cases (k := tryR f (r2 f) (tryR f (r3 f) .done)) hf (rule1 hf) with ⟨a, _, b⟩ | ⟨a, _, e1⟩ | ⟨a, b⟩
    · exact .inl ⟨a, b⟩
    · rw [a]
      rcases tryR_cases (k := tryR f (r3 f) .done) hf (rule2 hf) with ⟨a, _, b⟩ | ⟨a, _, e2⟩ | ⟨a, b⟩
      · exact .inl ⟨a, b⟩
      · rw [a]
        rcases tryR_cases (k := .done) hf (rule3 hf) with ⟨a, _, b⟩ | ⟨a, _, e3⟩ | ⟨a, b⟩
        · exact .inl ⟨a, b⟩
        · exact .inr (.inr ⟨a, e0, e1, e2, e3⟩)
        · exact .inr (.inl ⟨_, a, b⟩)
      · exact .inr (.inl ⟨_, a, b⟩)
    · exact .inr (.inl ⟨_, a, b⟩)
  · exact .inr (.inl ⟨_, a, b⟩)
def syncF : Nat → S → S × Bool
  | 0, f => (zS, false)
  | n + 1, f => match pass f with
    | .none => (zS, false)
    | .again g => syncF n g
    | .done => (f, true)
def F0 (f : S) : S × Bool := syncF (mu f + 1) f
theorem syncF_any : ∀ (n m : Nat) (f : S), good f → mu f < n → mu f < m → syncF n f = syncF m f
  | 0, _, _, _, h, _ => by omega
  | _ + 1, 0, _, _, _, h => by omega
  | n + 1, m + 1, f, hf, hn, hm => by
    simp only [syncF]
    rcases pass_cases hf with ⟨e, _⟩ | ⟨g, e, hg, hsub, hne, _⟩ | ⟨e, _⟩
    · rw [e]
    · rw [e]
      have := mu_lt hg hf hsub hne
      exact syncF_any n m g hg (by omega) (by omega)
    · rw [e]
theorem F0_again {f g : S} (hf : good f) (hp : pass f = .again g) (hg : good g) (hlt : mu g < mu f) : F0 g = F0 f := by
  unfold F0
  rw [show syncF (mu f + 1) f = syncF (mu f) g by simp only [syncF, hp]]
  exact syncF_any _ _ g hg (by omega) hlt
def m_Sync (s : S) : S × Bool := bif none' s then (zS, false) else F0 s
/-- What bringing together tells. -/
structure Synced (s t : S) : Prop where
  good : good t
  sub : sub' t s
  keep : ∀ x, hs s x ↔ hs t x
  e0 : r0 t = t
  e1 : r1 t = t
  e2 : r2 t = t
  e3 : r3 t = t
theorem F0_cases : ∀ (n : Nat) (f : S), good f → mu f < n → (F0 f = (zS, false) ∧ ∀ x, ¬ hs f x) ∨ (∃ t, F0 f = (t, true) ∧ Synced f t)
  | 0, _, _, h => by omega
  | n + 1, f, hf, hn => by
    rcases pass_cases hf with ⟨e, h⟩ | ⟨g, e, hg, hsub, hne, hk⟩ | ⟨e, e0, e1, e2, e3⟩
    · exact .inl ⟨by unfold F0; simp only [syncF, e], h⟩
    · have hlt := mu_lt hg hf hsub hne
      rw [← F0_again hf e hg hlt]
      rcases F0_cases n g hg (by omega) with ⟨e1, h⟩ | ⟨t, e1, h⟩
      · exact .inl ⟨e1, fun x hx => h x ((hk x).1 hx)⟩
      · exact .inr ⟨t, e1, ⟨h.good, h.sub.trans hsub, fun x => (hk x).trans (h.keep x), h.e0, h.e1, h.e2, h.e3⟩⟩
    · exact .inr ⟨f, by unfold F0; simp only [syncF, e], ⟨hf, .refl _, fun _ => Iff.rfl, e0, e1, e2, e3⟩⟩
theorem sync_cases (s : S) : (m_Sync s = (zS, false) ∧ ∀ x, ¬ hs s x) ∨ (∃ t, m_Sync s = (t, true) ∧ Synced s t) := by
  unfold m_Sync
  cases h : none' s
  · exact F0_cases (mu s + 1) s ((none_iff s).1 h) (by omega)
  · refine .inl ⟨rfl, fun x hx => ?_⟩
    have := (none_iff s).2 (hs_good hx)
    rw [h] at this; cases this
theorem F0_fix {t : S} (hg : good t) (e0 : r0 t = t) (e1 : r1 t = t) (e2 : r2 t = t) (e3 : r3 t = t) : m_Sync t = (t, true) := by
  have hn := (none_iff t).2 hg
  unfold m_Sync F0
  rw [hn]
  have : pass t = .done := by
    unfold pass tryR
    rw [e0, e1, e2, e3, hn]
    simp
  simp only [cond_false, syncF, this]
theorem Synced.again {s t : S} (h : Synced s t) : m_Sync t = (t, true) := F0_fix h.good h.e0 h.e1 h.e2 h.e3
end Go.Proofs.YtmhiiahfjoijgaaGreat
