/-
  Scalars: what is within, what joins, what stays when parts help each other.
-/
import Derived.Test.YtmhiiahfjoijgaaGreatL7Cx
namespace Go.Proofs.YtmhiiahfjoijgaaGreat
open Go.RowKit
set_option linter.unusedVariables false
set_option linter.unusedSimpArgs false
/-! ### Ranges within ranges -/
theorem blen_pos {z : BitVec 64} {n : Nat} (h : z.toNat < 2 ^ n) : blen z ≤ n := by
  obtain ⟨h1, h2⟩ := blen_spec z
  rcases h2 with h2 | h2
  · omega
  · rcases Nat.lt_or_ge n (blen z) with h3 | h3
    · have : 2 ^ n ≤ 2 ^ (blen z - 1) := Nat.pow_le_pow_right (by omega) (by omega)
      omega
    · exact h3
theorem xor_lt {x y n : Nat} (h : x / 2 ^ n = y / 2 ^ n) : x ^^^ y < 2 ^ n := by
  have := Nat.xor_div_two_pow (a := x) (b := y) (n := n)
  rw [h, Nat.xor_self] at this
  exact Nat.lt_of_div_eq_zero (Nat.two_pow_pos n) this
theorem div_of_xor {x y n : Nat} (h : x ^^^ y < 2 ^ n) : x / 2 ^ n = y / 2 ^ n := by
  have := Nat.xor_div_two_pow (a := x) (b := y) (n := n)
  rw [Nat.div_eq_of_lt h] at this
  apply Nat.eq_of_testBit_eq
  intro i
  have h1 := congrArg (fun z => z.testBit i) this
  simp only [Nat.zero_testBit, Nat.testBit_xor] at h1
  revert h1
  cases (x / 2 ^ n).testBit i <;> cases (y / 2 ^ n).testBit i <;> simp
theorem range_bit_m {x y : BitVec 64} (h : x.toNat ≤ y.toNat) (i : Nat) (hi : i < 64) : (m_tnum_Range x y).m.getLsbD i = decide (i < blen (x ^^^ y)) := by
  unfold m_tnum_Range
  rw [ult_iff]
  have hn : ¬ y.toNat < x.toNat := by omega
  simp only [hn, decide_false, cond_false]
  rw [len_toNat]
  exact mk_bit _ (blen_le _) i hi
theorem range_inn {x y x' y' : BitVec 64} (h1 : x.toNat ≤ x'.toNat) (h2 : x'.toNat ≤ y'.toNat) (h3 : y'.toNat ≤ y.toNat) : inn (m_tnum_Range x' y') (m_tnum_Range x y) := by
  intro i hi hm
  rw [range_bit_m (by omega) i hi] at hm
  have hm : blen (x ^^^ y) ≤ i := by simpa using hm
  have hB : x.toNat / 2 ^ blen (x ^^^ y) = y.toNat / 2 ^ blen (x ^^^ y) := div_of_xor (by rw [← BitVec.toNat_xor]; exact (blen_spec _).1)
  have e1 : x'.toNat / 2 ^ blen (x ^^^ y) = x.toNat / 2 ^ blen (x ^^^ y) := by
    have a := Nat.div_le_div_right (c := 2 ^ blen (x ^^^ y)) h1
    have b := Nat.div_le_div_right (c := 2 ^ blen (x ^^^ y)) (Nat.le_trans h2 h3)
    omega
  have e2 : y'.toNat / 2 ^ blen (x ^^^ y) = x.toNat / 2 ^ blen (x ^^^ y) := by
    have a := Nat.div_le_div_right (c := 2 ^ blen (x ^^^ y)) (Nat.le_trans h1 h2)
    have b := Nat.div_le_div_right (c := 2 ^ blen (x ^^^ y)) h3
    omega
  have hm' : (m_tnum_Range x' y').m.getLsbD i = false := by
    rw [range_bit_m h2 i hi]
    have : blen (x' ^^^ y') ≤ blen (x ^^^ y) := blen_pos (by rw [BitVec.toNat_xor]; exact xor_lt (by rw [e1, e2]))
    simp; omega
  refine ⟨hm', ?_⟩
  have g1 := has_bit (range_has (x := x') (y := y') (z := x') (Nat.le_refl _) h2) i hi hm'
  have g2 := has_bit (range_has (x := x) (y := y) (z := x') h1 (by omega)) i hi (by rw [range_bit_m (by omega) i hi]; simp; omega)
  rw [← g1, g2]
theorem inn_pm {a b c : T} (ha : wf a) (hb : wf b) (hc : wf c) (h : inn a b) (k : inn a c) : ¬ apart b c ∧ inn a (pmeet b c) := by
  have hn : ¬ apart b c := not_apart.2 fun i hi h1 h2 => by rw [← (h i hi h1).2, ← (k i hi h2).2]
  refine ⟨hn, fun i hi hm => ?_⟩
  unfold pmeet at hm ⊢
  rw [if_neg hn] at hm ⊢
  simp only [BitVec.getLsbD_and, BitVec.getLsbD_or, Bool.and_eq_false_iff] at hm ⊢
  have wb := wf_bit hb i
  have wc := wf_bit hc i
  rcases hm with hm | hm
  · obtain ⟨h1, h2⟩ := h i hi hm
    refine ⟨h1, ?_⟩
    cases hcm : c.m.getLsbD i
    · obtain ⟨_, h4⟩ := k i hi hcm
      rw [← h2, ← h4, Bool.or_self]
    · rw [hcm, Bool.and_true] at wc
      rw [wc, Bool.or_false, h2]
  · obtain ⟨h1, h2⟩ := k i hi hm
    refine ⟨h1, ?_⟩
    cases hbm : b.m.getLsbD i
    · obtain ⟨_, h4⟩ := h i hi hbm
      rw [← h2, ← h4, Bool.or_self]
    · rw [hbm, Bool.and_true] at wb
      rw [wb, Bool.false_or, h2]
/-! ### What is within stays within -/
theorem fix_lo {a : S} (h : Synced a a) : a.t.v.toNat ≤ a.umin.toNat ∧ a.umax.toNat ≤ (hi a.t).toNat := by
  have e := h.e0
  unfold r0 m_scalar_facts_endsByBits m_tnum_Least m_tnum_Most at e
  rw [kn_eq, kn_wf h.good.1] at e
  have h1 := congrArg (fun s : S => s.umin.toNat) e
  have h2 := congrArg (fun s : S => s.umax.toNat) e
  simp only [uMax_n, uMin_n] at h1 h2
  refine ⟨by omega, ?_⟩
  show _ ≤ (a.t.v ||| a.t.m).toNat
  omega
theorem fix_range {a : S} (h : Synced a a) : inn a.t (m_tnum_Range a.umin a.umax) := by
  rcases r1_cases h.good with ⟨_, e⟩ | ⟨hn, e⟩
  · have e1 := h.e1
    rw [e] at e1
    have : wf (⟨1#64, 1#64⟩ : T) := by rw [show (⟨1#64, 1#64⟩ : T) = a.t from congrArg S.t e1]; exact h.good.1
    exact absurd this (by decide)
  · have e1 := h.e1
    rw [e] at e1
    have e2 : pmeet a.t (m_tnum_Range a.umin a.umax) = a.t := congrArg S.t e1
    have := pmeet_inn (wf_range a.umin a.umax) h.good.1 (fun k => hn ((apart_comm _ _).1 k))
    rw [pmeet_comm, e2] at this
    exact this
theorem top_eq (x y : BitVec 64) : (x >>> 63 == y >>> 63) = decide ((x.toNat < 9223372036854775808) ↔ (y.toNat < 9223372036854775808)) := by
  rw [Bool.eq_iff_iff, beq_iff_eq, decide_eq_true_eq, BitVec.toNat_eq, shr63, shr63]
  split <;> split <;> constructor <;> intro h <;> first | omega | (constructor <;> intro _ <;> omega)
theorem r2_cases (f : S) : (¬ ((f.umin.toNat < 9223372036854775808) ↔ (f.umax.toNat < 9223372036854775808)) ∧ r2 f = f) ∨ (((f.umin.toNat < 9223372036854775808) ↔ (f.umax.toNat < 9223372036854775808)) ∧ r2 f = ⟨f.t, f.umin, f.umax, sMax f.smin f.umin, sMin f.smax f.umax⟩) := by
  unfold r2 m_scalar_facts_signedByUnsigned
  rw [top_eq]
  by_cases h : ((f.umin.toNat < 9223372036854775808) ↔ (f.umax.toNat < 9223372036854775808))
  · rw [decide_eq_true h]; exact .inr ⟨h, rfl⟩
  · rw [decide_eq_false h]; exact .inl ⟨h, rfl⟩
theorem fix_r2 {a : S} (h : Synced a a) (hs : (a.umin.toNat < 9223372036854775808) ↔ (a.umax.toNat < 9223372036854775808)) : a.umin.toInt ≤ a.smin.toInt ∧ a.smax.toInt ≤ a.umax.toInt := by
  rcases r2_cases a with ⟨k, _⟩ | ⟨_, e⟩
  · exact absurd hs k
  · rw [h.e2] at e
    have h1 := congrArg (fun s : S => s.smin.toInt) e
    have h2 := congrArg (fun s : S => s.smax.toInt) e
    simp only [sMax_i, sMin_i] at h1 h2
    omega
theorem fix_r3 {a : S} (h : Synced a a) (hs : a.smin.toInt < 0 ↔ a.smax.toInt < 0) : a.smin.toNat ≤ a.umin.toNat ∧ a.umax.toNat ≤ a.smax.toNat := by
  rcases r3_cases a with e | ⟨_, e⟩
  · -- the rule changed nothing: by its text
    have e' := e
    unfold r3 m_scalar_facts_unsignedBySigned at e'
    have hd : (a.smin.slt 0#64) = (a.smax.slt 0#64) := by
      rw [slt_iff, slt_iff, Bool.eq_iff_iff, decide_eq_true_eq, decide_eq_true_eq]
      simpa using hs
    cases h1 : a.smin.slt 0#64 <;> rw [h1] at hd <;> rw [h1, ← hd] at e' <;> simp only [cond_true, cond_false] at e' <;> (
      have g1 := congrArg (fun s : S => s.umin.toNat) e'
      have g2 := congrArg (fun s : S => s.umax.toNat) e'
      simp only [uMax_n, uMin_n] at g1 g2
      omega)
  · rw [h.e3] at e
    have h1 := congrArg (fun s : S => s.umin.toNat) e
    have h2 := congrArg (fun s : S => s.umax.toNat) e
    simp only [uMax_n, uMin_n] at h1 h2
    omega
theorem sub_good {a g : S} (ha : good a) (hw : wf g.t) (h : sub' a g) : good g := by
  obtain ⟨_, h2, h3⟩ := ha
  exact ⟨hw, Nat.le_trans h.2.1 (Nat.le_trans h2 h.2.2.1), Int.le_trans h.2.2.2.1 (Int.le_trans h3 h.2.2.2.2)⟩
theorem keep0 {a f : S} (ha : Synced a a) (hf : good f) (h : sub' a f) : sub' a (r0 f) ∧ good (r0 f) := by
  have h1 := le_nat (inn_lo hf.1 h.1)
  have h2 := le_nat (inn_hi h.1)
  obtain ⟨k1, k2⟩ := fix_lo ha
  have hs : sub' a (r0 f) := by
    refine ⟨h.1, ?_, ?_, h.2.2.2.1, h.2.2.2.2⟩
    · show (uMax f.umin (m_tnum_Least f.t)).toNat ≤ _
      rw [uMax_n]; unfold m_tnum_Least; rw [kn_eq, kn_wf hf.1]
      have := h.2.1; omega
    · show _ ≤ (uMin f.umax (m_tnum_Most f.t)).toNat
      rw [uMin_n]; unfold m_tnum_Most; rw [kn_eq, kn_wf hf.1]
      have := h.2.2.1
      show _ ≤ min _ (hi f.t).toNat
      omega
  exact ⟨hs, sub_good ha.good hf.1 hs⟩
theorem keep1 {a f : S} (ha : Synced a a) (hf : good f) (h : sub' a f) : sub' a (r1 f) ∧ good (r1 f) := by
  have hr : inn a.t (m_tnum_Range f.umin f.umax) := inn_trans (fix_range ha) (range_inn h.2.1 ha.good.2.1 h.2.2.1)
  obtain ⟨h1, h2⟩ := inn_pm ha.good.1 hf.1 (wf_range _ _) h.1 hr
  rcases r1_cases hf with ⟨k, _⟩ | ⟨_, e⟩
  · exact absurd k h1
  · rw [e]
    have hs : sub' a ⟨pmeet f.t (m_tnum_Range f.umin f.umax), f.umin, f.umax, f.smin, f.smax⟩ := ⟨h2, h.2⟩
    exact ⟨hs, sub_good ha.good (wf_pmeet hf.1 (wf_range _ _)) hs⟩
theorem keep2 {a f : S} (ha : Synced a a) (hf : good f) (h : sub' a f) : sub' a (r2 f) ∧ good (r2 f) := by
  rcases r2_cases f with ⟨_, e⟩ | ⟨hs, e⟩
  · rw [e]; exact ⟨h, hf⟩
  · rw [e]
    have g := ha.good.2.1
    have g1 := h.2.1
    have g2 := h.2.2.1
    have hs' : (a.umin.toNat < 9223372036854775808) ↔ (a.umax.toNat < 9223372036854775808) := by omega
    obtain ⟨k1, k2⟩ := fix_r2 ha hs'
    have s1 := toInt_cond f.umin
    have s2 := toInt_cond f.umax
    have s3 := toInt_cond a.umin
    have s4 := toInt_cond a.umax
    have hsub : sub' a ⟨f.t, f.umin, f.umax, sMax f.smin f.umin, sMin f.smax f.umax⟩ := by
      refine ⟨h.1, g1, g2, ?_, ?_⟩
      · show (sMax _ _).toInt ≤ _
        rw [sMax_i]
        have := h.2.2.2.1
        split at s1 <;> split at s3 <;> omega
      · show _ ≤ (sMin _ _).toInt
        rw [sMin_i]
        have := h.2.2.2.2
        split at s2 <;> split at s4 <;> omega
    exact ⟨hsub, sub_good ha.good hf.1 hsub⟩
theorem keep3 {a f : S} (ha : Synced a a) (hf : good f) (h : sub' a f) : sub' a (r3 f) ∧ good (r3 f) := by
  rcases r3_cases f with e | ⟨hs, e⟩
  · rw [e]; exact ⟨h, hf⟩
  · rw [e]
    have g := ha.good.2.2
    have g1 := h.2.2.2.1
    have g2 := h.2.2.2.2
    have hs' : a.smin.toInt < 0 ↔ a.smax.toInt < 0 := by omega
    obtain ⟨k1, k2⟩ := fix_r3 ha hs'
    have s1 := toInt_cond f.smin
    have s2 := toInt_cond f.smax
    have s3 := toInt_cond a.smin
    have s4 := toInt_cond a.smax
    have b1 := f.smin.isLt
    have b2 := f.smax.isLt
    have b3 := a.smin.isLt
    have b4 := a.smax.isLt
    have hsub : sub' a ⟨f.t, uMax f.umin f.smin, uMin f.umax f.smax, f.smin, f.smax⟩ := by
      refine ⟨h.1, ?_, ?_, g1, g2⟩
      · show (uMax _ _).toNat ≤ _
        rw [uMax_n]
        have := h.2.1
        split at s1 <;> split at s3 <;> split at s2 <;> split at s4 <;> omega
      · show _ ≤ (uMin _ _).toNat
        rw [uMin_n]
        have := h.2.2.1
        split at s1 <;> split at s3 <;> split at s2 <;> split at s4 <;> omega
    exact ⟨hsub, sub_good ha.good hf.1 hsub⟩
theorem tryR_keep {f n : S} {k : Out} (hn : good n) : tryR f n k = .again n ∨ tryR f n k = k := by
  unfold tryR
  rw [(none_iff n).2 hn]
  simp only [cond_false]
  cases decide (n = f)
  · exact .inl rfl
  · exact .inr rfl
theorem pass_keep {a f : S} (ha : Synced a a) (hf : good f) (h : sub' a f) : (∃ g, pass f = .again g ∧ sub' a g) ∨ pass f = .done := by
  unfold pass
  rcases tryR_keep (f := f) (n := r0 f) (k := tryR f (r1 f) (tryR f (r2 f) (tryR f (r3 f) .done))) (keep0 ha hf h).2 with e | e
  · exact .inl ⟨_, e, (keep0 ha hf h).1⟩
  · rw [e]
    rcases tryR_keep (f := f) (n := r1 f) (k := tryR f (r2 f) (tryR f (r3 f) .done)) (keep1 ha hf h).2 with e | e
    · exact .inl ⟨_, e, (keep1 ha hf h).1⟩
    · rw [e]
      rcases tryR_keep (f := f) (n := r2 f) (k := tryR f (r3 f) .done) (keep2 ha hf h).2 with e | e
      · exact .inl ⟨_, e, (keep2 ha hf h).1⟩
      · rw [e]
        rcases tryR_keep (f := f) (n := r3 f) (k := .done) (keep3 ha hf h).2 with e | e
        · exact .inl ⟨_, e, (keep3 ha hf h).1⟩
        · exact .inr e
theorem F0_keep {a : S} (ha : Synced a a) : ∀ (n : Nat) (f : S), good f → mu f < n → sub' a f → ∃ t, F0 f = (t, true) ∧ sub' a t
  | 0, _, _, h, _ => by omega
  | n + 1, f, hf, hn, h => by
    rcases pass_keep ha hf h with ⟨g, e, hg⟩ | e
    · rcases pass_cases hf with ⟨e', _⟩ | ⟨g', e', hg', hsub, hne, _⟩ | ⟨e', _⟩
      · rw [e] at e'; cases e'
      · rw [e] at e'
        obtain rfl : g = g' := by injection e'
        have hlt := mu_lt hg' hf hsub hne
        rw [← F0_again hf e hg' hlt]
        exact F0_keep ha n g hg' (by omega) hg
      · rw [e] at e'; cases e'
    · exact ⟨f, by unfold F0; simp only [syncF, e], h⟩
/-- What is within something stays within what that comes to. -/
theorem keep_sync {a f : S} (ha : isS a) (hw : wf f.t) (h : sub' a f) : ∃ t, m_Sync f = (t, true) ∧ sub' a t ∧ Synced f t := by
  have hf := sub_good ha.good hw h
  obtain ⟨t, e, ht⟩ := F0_keep ha.fix (mu f + 1) f hf (by omega) h
  have e2 : m_Sync f = F0 f := by unfold m_Sync; rw [(none_iff f).2 hf]; rfl
  rcases sync_cases f with ⟨e3, _⟩ | ⟨t', e3, ht'⟩
  · rw [e2, e] at e3; cases e3
  · rw [e2, e] at e3
    obtain rfl : t = t' := by injection e3
    exact ⟨t, e2.trans e, ht, ht'⟩
end Go.Proofs.YtmhiiahfjoijgaaGreat
