/-
  The greatest number of a tnum up to another number: what the program's search finds.
-/
import Derived.Test.YtmhiiahfjoijgaaGreatL7M3
namespace Go.Proofs.YtmhiiahfjoijgaaGreat
open Go.RowKit
set_option linter.unusedVariables false
set_option linter.unusedSimpArgs false
theorem st_atMost {t : T} {n h s0 s1 : BitVec 64} {i : Nat} (hs : BitVec.slt s0 0#64 = false) (e : s0.toNat = i) (hi : i < 64) :
    st_scalar_atMost_L0 t n h (s0, s1) = bif !t.m.getLsbD i then
        (bif (!t.v.getLsbD i && n.getLsbD i) then .inr (false, ((n &&& ~~~(((1#64 <<< i) <<< 1) - 1#64)) ||| (h &&& ((1#64 <<< i) - 1#64)), true))
        else bif (!n.getLsbD i && t.v.getLsbD i) then
          (bif BitVec.slt s1 0#64 then .inr (false, (0#64, false))
          else .inr (false, ((n &&& ~~~(((1#64 <<< s1.toNat) <<< 1) - 1#64)) ||| (h &&& ((1#64 <<< s1.toNat) - 1#64)), true)))
        else .inl (s0 - 1#64, s1))
      else bif !n.getLsbD i then .inl (s0 - 1#64, s1) else .inl (s0 - 1#64, s0) := by
  unfold st_scalar_atMost_L0
  subst e
  dsimp only
  rw [hs, and_zero_iff _ _ hi, and_zero_iff _ _ hi, and_lt_iff _ _ _ hi, and_lt_iff _ _ _ hi]
  rfl
def Jm (t : T) (n : BitVec 64) (s : BitVec 64 × BitVec 64) : Prop :=
  (∀ x, has t x → x.toNat ≤ n.toNat → x.toNat / 2 ^ (s.1.toInt + 1).toNat = n.toNat / 2 ^ (s.1.toInt + 1).toNat ∨ (0 ≤ s.2.toInt ∧ x.toNat ≤ R (hi t).toNat n.toNat s.2.toNat)) ∧
  (0 ≤ s.2.toInt → s.2.toNat < 64 ∧ s.1.toInt < (s.2.toNat : Int) ∧ n.toNat.testBit s.2.toNat = true)
def Pm (t : T) (n : BitVec 64) (r : Bool × (BitVec 64 × Bool)) : Prop :=
  r.1 = false → (r.2.2 = true → r.2.1.toNat ≤ n.toNat ∧ ∀ x, has t x → x.toNat ≤ n.toNat → x.toNat ≤ r.2.1.toNat) ∧ (r.2.2 = false → ∀ x, has t x → ¬ x.toNat ≤ n.toNat)
theorem slt0 {s : BitVec 64} : BitVec.slt s 0#64 = decide (s.toInt < 0) := by rw [slt_iff]; simp
theorem ge0_toNat {s : BitVec 64} (h : 0 ≤ s.toInt) : s.toInt = (s.toNat : Int) ∧ s.toNat < 9223372036854775808 := by
  have := toInt_cond s
  have := s.isLt
  split at * <;> omega
/-- What is known at a bit. -/
structure AtBit (t : T) (n : BitVec 64) (s0 s1 : BitVec 64) (i : Nat) : Prop where
  e : s0.toNat = i
  i0 : s0.toInt = (i : Int)
  lt : i < 64
  one : (s0.toInt + 1).toNat = i + 1
  nx : (s0 - 1#64).toInt + 1 = (i : Int)
theorem atBit {t : T} {n s0 s1 : BitVec 64} (h0 : ¬ s0.toInt < 0) (h63 : s0.toInt ≤ 63) : AtBit t n s0 s1 s0.toNat := by
  obtain ⟨h1, h2⟩ := ge0_toNat (s := s0) (by omega)
  have h3 := (down1 (s := s0) (by rw [slt0]; simp; omega)).1
  exact ⟨rfl, h1, by omega, by omega, by omega⟩
theorem lp_atMost_spec (t : T) (hw : wf t) (n : BitVec 64) : ∀ s, inv_scalar_atMost_L0 t n (hi t) s → (Jm t n s → Pm t n (lp_scalar_atMost_L0 t n (hi t) s)) := by
  have key := lp_ind (z := (false, (0#64, false))) (dec_scalar_atMost_L0 t n (hi t)) (fun s r => Jm t n s → Pm t n r) ?_ ?_
  · exact key
  · rintro ⟨s0, s1⟩ ⟨s0', s1'⟩ r hI hI' e hP hJ
    apply hP
    obtain ⟨hI1, hI2⟩ : (-1 : Int) ≤ s0.toInt ∧ s0.toInt ≤ 63 := hI
    by_cases h0 : s0.toInt < 0
    · exfalso
      unfold st_scalar_atMost_L0 at e
      dsimp only at e
      rw [show BitVec.slt s0 0#64 = true from by rw [slt0]; exact decide_eq_true h0] at e
      cases e
    · have B := atBit (t := t) (n := n) (s1 := s1) h0 hI2
      generalize s0.toNat = i at B
      rw [st_atMost (by rw [slt0]; exact decide_eq_false h0) B.e B.lt] at e
      obtain ⟨hJ1, hJ2⟩ := hJ
      dsimp only at hJ1 hJ2
      simp only [B.one] at hJ1
      have en : n.getLsbD i = n.toNat.testBit i := rfl
      have nx2 : ((s0 - 1#64).toInt + 1).toNat = i := by have := B.nx; omega
      have hx : ∀ x, has t x → x.toNat % 2 ^ i ≤ (hi t).toNat % 2 ^ i := fun x h => le_mod (le_hi h) i
      cases hm : t.m.getLsbD i <;> rw [hm] at e
      · -- the bit is known
        have hxv : ∀ x, has t x → x.toNat.testBit i = t.v.getLsbD i := fun x h => has_bit h i B.lt hm
        cases hv : t.v.getLsbD i <;> cases hn : n.getLsbD i <;> rw [hv, hn] at e <;> first | (cases e; done) | skip
        · obtain ⟨rfl, rfl⟩ : s0 - 1#64 = s0' ∧ s1 = s1' := by simpa using e
          refine ⟨fun x h1 h2 => ?_, fun h => ?_⟩
          · show x.toNat / 2 ^ ((s0 - 1#64).toInt + 1).toNat = _ ∨ _
            rw [nx2]
            rcases hJ1 x h1 h2 with k | k
            · exact .inl (same_low k (by rw [hxv x h1, hv, ← en, hn]))
            · exact .inr k
          · have h : 0 ≤ s1.toInt := h
            obtain ⟨k1, k2, k3⟩ := hJ2 h
            have := B.nx
            have := B.i0
            exact ⟨k1, by show (s0 - 1#64).toInt < (s1.toNat : Int); omega, k3⟩
        · exfalso
          cases hs : s1.slt 0#64 <;> rw [hs] at e <;> cases e
        · obtain ⟨rfl, rfl⟩ : s0 - 1#64 = s0' ∧ s1 = s1' := by simpa using e
          refine ⟨fun x h1 h2 => ?_, fun h => ?_⟩
          · show x.toNat / 2 ^ ((s0 - 1#64).toInt + 1).toNat = _ ∨ _
            rw [nx2]
            rcases hJ1 x h1 h2 with k | k
            · exact .inl (same_low k (by rw [hxv x h1, hv, ← en, hn]))
            · exact .inr k
          · have h : 0 ≤ s1.toInt := h
            obtain ⟨k1, k2, k3⟩ := hJ2 h
            have := B.nx
            have := B.i0
            exact ⟨k1, by show (s0 - 1#64).toInt < (s1.toNat : Int); omega, k3⟩
      · -- the bit is not known
        cases hn : n.getLsbD i <;> rw [hn] at e
        · obtain ⟨rfl, rfl⟩ : s0 - 1#64 = s0' ∧ s1 = s1' := by simpa using e
          refine ⟨fun x h1 h2 => ?_, fun h => ?_⟩
          · show x.toNat / 2 ^ ((s0 - 1#64).toInt + 1).toNat = _ ∨ _
            rw [nx2]
            rcases hJ1 x h1 h2 with k | k
            · refine .inl (same_low k ?_)
              rw [← en, hn]
              cases hb : x.toNat.testBit i
              · rfl
              · exact (above_no k hb (by rw [← en, hn]) h2).elim
            · exact .inr k
          · have h : 0 ≤ s1.toInt := h
            obtain ⟨k1, k2, k3⟩ := hJ2 h
            have := B.nx
            have := B.i0
            exact ⟨k1, by show (s0 - 1#64).toInt < (s1.toNat : Int); omega, k3⟩
        · obtain ⟨rfl, rfl⟩ : s0 - 1#64 = s0' ∧ s0 = s1' := by simpa using e
          refine ⟨fun x h1 h2 => ?_, fun h => ⟨by rw [B.e]; exact B.lt, ?_, by rw [B.e, ← en, hn]⟩⟩
          · show x.toNat / 2 ^ ((s0 - 1#64).toInt + 1).toNat = _ ∨ (0 ≤ s0.toInt ∧ x.toNat ≤ R _ _ s0.toNat)
            rw [nx2, B.e]
            rcases hJ1 x h1 h2 with k | ⟨k1, k2⟩
            · cases hb : x.toNat.testBit i
              · exact .inr ⟨by rw [B.i0]; omega, le_R k hb (hx x h1)⟩
              · exact .inl (same_low k (by rw [hb, ← en, hn]))
            · obtain ⟨_, k4, k5⟩ := hJ2 k1
              have := B.i0
              exact .inr ⟨by omega, Nat.le_trans k2 (R_mono k5 (by omega))⟩
          · have := B.nx
            have := B.i0
            show (s0 - 1#64).toInt < (s0.toNat : Int)
            rw [B.e]; omega
  · rintro ⟨s0, s1⟩ r hI e hJ
    obtain ⟨hI1, hI2⟩ : (-1 : Int) ≤ s0.toInt ∧ s0.toInt ≤ 63 := hI
    by_cases h0 : s0.toInt < 0
    · unfold st_scalar_atMost_L0 at e
      dsimp only at e
      rw [show BitVec.slt s0 0#64 = true from by rw [slt0]; exact decide_eq_true h0] at e
      obtain rfl : (true, (0#64, false)) = r := by simpa using e
      intro k; cases k
    · have B := atBit (t := t) (n := n) (s1 := s1) h0 hI2
      generalize s0.toNat = i at B
      rw [st_atMost (by rw [slt0]; exact decide_eq_false h0) B.e B.lt] at e
      obtain ⟨hJ1, hJ2⟩ := hJ
      dsimp only at hJ1 hJ2
      simp only [B.one] at hJ1
      have en : n.getLsbD i = n.toNat.testBit i := rfl
      have hx : ∀ x, has t x → x.toNat % 2 ^ i ≤ (hi t).toNat % 2 ^ i := fun x h => le_mod (le_hi h) i
      cases hm : t.m.getLsbD i <;> rw [hm] at e
      · have hxv : ∀ x, has t x → x.toNat.testBit i = t.v.getLsbD i := fun x h => has_bit h i B.lt hm
        cases hv : t.v.getLsbD i <;> cases hn : n.getLsbD i <;> rw [hv, hn] at e <;> first | (cases e; done) | skip
        · obtain rfl : (false, ((n &&& ~~~(((1#64 <<< i) <<< 1) - 1#64)) ||| (hi t &&& ((1#64 <<< i) - 1#64)), true)) = r := by simpa using e
          intro _
          refine ⟨fun _ => ?_, fun k => absurd (show true = false from k) (by decide)⟩
          dsimp only
          rw [R_word n (hi t) i B.lt]
          refine ⟨(R_le (by rw [← en, hn])).2, fun x h1 h2 => ?_⟩
          rcases hJ1 x h1 h2 with k | ⟨k1, k2⟩
          · exact le_R k (by rw [hxv x h1, hv]) (hx x h1)
          · obtain ⟨_, k4, k5⟩ := hJ2 k1
            have := B.i0
            exact Nat.le_trans k2 (R_mono k5 (by omega))
        · cases hs : s1.slt 0#64 <;> rw [hs] at e
          · obtain rfl : (false, ((n &&& ~~~(((1#64 <<< s1.toNat) <<< 1) - 1#64)) ||| (hi t &&& ((1#64 <<< s1.toNat) - 1#64)), true)) = r := by simpa using e
            rw [slt0, decide_eq_false_iff_not] at hs
            obtain ⟨k1, k2, k3⟩ := hJ2 (by omega)
            intro _
            refine ⟨fun _ => ?_, fun k => absurd (show true = false from k) (by decide)⟩
            dsimp only
            rw [R_word n (hi t) s1.toNat k1]
            refine ⟨(R_le k3).2, fun x h1 h2 => ?_⟩
            rcases hJ1 x h1 h2 with k | ⟨_, k⟩
            · exact (above_no k (by rw [hxv x h1, hv]) (by rw [← en, hn]) h2).elim
            · exact k
          · obtain rfl : (false, (0#64, false)) = r := by simpa using e
            rw [slt0, decide_eq_true_eq] at hs
            intro _
            refine ⟨fun k => absurd (show false = true from k) (by decide), fun _ x h1 h2 => ?_⟩
            rcases hJ1 x h1 h2 with k | ⟨k, _⟩
            · exact above_no k (by rw [hxv x h1, hv]) (by rw [← en, hn]) h2
            · omega
      · cases hn : n.getLsbD i <;> rw [hn] at e <;> cases e
theorem most_eq {t : T} (hw : wf t) : m_tnum_Most t = hi t := by
  unfold m_tnum_Most; rw [kn_eq, kn_wf hw]; rfl
/-- The greatest number up to n, or none. -/
theorem atMost_spec (t : T) (hw : wf t) (n : BitVec 64) :
    ((m_scalar_atMost t n).2 = true → (m_scalar_atMost t n).1.toNat ≤ n.toNat ∧ ∀ x, has t x → x.toNat ≤ n.toNat → x.toNat ≤ (m_scalar_atMost t n).1.toNat) ∧ ((m_scalar_atMost t n).2 = false → ∀ x, has t x → ¬ x.toNat ≤ n.toNat) := by
  have hj : Jm t n (63#64, 18446744073709551615#64) := by
    refine ⟨fun x h1 h2 => .inl ?_, fun k => absurd k (by decide)⟩
    show x.toNat / 2 ^ ((63#64 : BitVec 64).toInt + 1).toNat = n.toNat / 2 ^ ((63#64 : BitVec 64).toInt + 1).toNat
    rw [show ((63#64 : BitVec 64).toInt + 1).toNat = 64 from by decide, Nat.div_eq_of_lt x.isLt, Nat.div_eq_of_lt n.isLt]
  have h := lp_atMost_spec t hw n (63#64, 18446744073709551615#64) (show (-1 : Int) ≤ BitVec.toInt 63#64 ∧ BitVec.toInt 63#64 ≤ 63 from by decide) hj
  unfold m_scalar_atMost
  rw [most_eq hw]
  generalize lp_scalar_atMost_L0 t n (hi t) (63#64, 18446744073709551615#64) = r at *
  cases hr : r.1
  · rw [cond_false]
    exact h hr
  · rw [cond_true]
    exact ⟨fun _ => ⟨Nat.le_refl _, fun x _ h => h⟩, fun k => absurd (show true = false from k) (by decide)⟩
end Go.Proofs.YtmhiiahfjoijgaaGreat
