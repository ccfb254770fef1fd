/-
  Shifts of scalars keep all numbers.
-/
import Derived.Test.YtmhiiahfjoijgaaGreatL7M9
namespace Go.Proofs.YtmhiiahfjoijgaaGreat
open Go.RowKit
set_option linter.unusedVariables false
set_option linter.unusedSimpArgs false
theorem hull_left {a b : S} {z : BitVec 64} (h : hs a z) : hs (m_scalar_hull a b) z := by
  unfold m_scalar_hull
  refine mk_hs ?_ ?_ ?_ ?_ ?_
  · rw [join_eq, kn_wf h.1.1]; exact inn_has (wf_pjoin _ _) (inn_pjoin _ _) h.1
  · rw [uMin_n]; have := h.2.1; omega
  · rw [uMax_n]; have := h.2.2.1; omega
  · rw [sMin_i]; have := h.2.2.2.1; omega
  · rw [sMax_i]; have := h.2.2.2.2; omega
theorem hull_right {a b : S} {z : BitVec 64} (h : hs b z) : hs (m_scalar_hull a b) z := by
  unfold m_scalar_hull
  refine mk_hs ?_ ?_ ?_ ?_ ?_
  · rw [join_eq, kn_wf h.1.1, pjoin_comm]; exact inn_has (wf_pjoin _ _) (inn_pjoin _ _) h.1
  · rw [uMin_n]; have := h.2.1; omega
  · rw [uMax_n]; have := h.2.2.1; omega
  · rw [sMin_i]; have := h.2.2.2.1; omega
  · rw [sMax_i]; have := h.2.2.2.2; omega
/-- One round of a shift by all numbers that may be. -/
def stG (F : S → BitVec 64 → S) (x0 : OO) (x1 : S) (ra1 : T) : (BitVec 64) × (Bool) × (S) → ((BitVec 64) × (Bool) × (S)) ⊕ ((S) × (Bool))
  | (s0, s1, s2) =>
    (bif BitVec.slt s0 x0.w then
      (bif m_tnum_Has ra1 s0 then
        (bif BitVec.ult (x0.w - 1#64) x0.b.umax then
          (bif s1 then
            (.inl ((s0 + 1#64), false, (F x1 s0)))
            else (.inl ((s0 + 1#64), false, (m_scalar_hull s2 (F x1 s0)))))
          else (bif BitVec.ult s0 x0.b.umin then
            (.inl ((s0 + 1#64), s1, s2))
            else (bif BitVec.ult x0.b.umax s0 then
              (.inl ((s0 + 1#64), s1, s2))
              else (bif s1 then
                (.inl ((s0 + 1#64), false, (F x1 s0)))
                else (.inl ((s0 + 1#64), false, (m_scalar_hull s2 (F x1 s0))))))))
        else (.inl ((s0 + 1#64), s1, s2)))
      else (.inr ((s2, s1))))
def JG (n0 z : BitVec 64) (s : (BitVec 64) × (Bool) × (S)) : Prop := s.1.toNat ≤ n0.toNat ∨ (s.2.1 = false ∧ hs s.2.2 z)
theorem lpG {F : S → BitVec 64 → S} {x0 : OO} {x1 : S} {ra1 : T} {μ : (BitVec 64) × (Bool) × (S) → Nat} {zr : S × Bool} (hf : Falls (stG F x0 x1 ra1) μ (fun s => (0 : Int) ≤ s.1.toInt)) {n0 z : BitVec 64}
    (hz : hs (F x1 n0) z) (hn : BitVec.slt n0 x0.w = true) (hb : m_tnum_Has ra1 n0 = true) (hc : BitVec.ult (x0.w - 1#64) x0.b.umax = false → BitVec.ult n0 x0.b.umin = false ∧ BitVec.ult x0.b.umax n0 = false) (hp : (0 : Int) ≤ n0.toInt) :
    ∀ s, (0 : Int) ≤ s.1.toInt → JG n0 z s → (lp (stG F x0 x1 ra1) zr μ s).2 = false ∧ hs (lp (stG F x0 x1 ra1) zr μ s).1 z := by
  have nn0 := ge0_toNat hp
  have key := lp_ind (z := zr) hf (fun s r => JG n0 z s → r.2 = false ∧ hs r.1 z) ?_ ?_
  · exact key
  · rintro ⟨s0, s1, s2⟩ ⟨t0, t1, t2⟩ r hI hI' e hP hJ
    apply hP
    have hI : (0 : Int) ≤ s0.toInt := hI
    unfold stG at e
    dsimp only at e
    cases c1 : BitVec.slt s0 x0.w <;> rw [c1] at e
    · cases e
    · rw [cond_true] at e
      have up := up2 hI c1
      have ns0 := ge0_toNat hI
      have nt0 := ge0_toNat (s := s0 + 1#64) (by omega)
      by_cases h0 : s0 = n0
      · subst h0
        rw [hb, cond_true] at e
        have right : ∀ u, hs u z → (Sum.inl (s0 + 1#64, false, u) : ((BitVec 64) × (Bool) × (S)) ⊕ ((S) × (Bool))) = .inl (t0, t1, t2) → JG s0 z (t0, t1, t2) := fun u hu k => by
          obtain ⟨rfl, rfl, rfl⟩ : s0 + 1#64 = t0 ∧ false = t1 ∧ u = t2 := by simpa using k
          exact .inr ⟨rfl, hu⟩
        cases c2 : BitVec.ult (x0.w - 1#64) x0.b.umax <;> rw [c2] at e
        · obtain ⟨k1, k2⟩ := hc c2
          rw [cond_false, k1, cond_false, k2, cond_false] at e
          cases s1
          · exact right _ (hull_right hz) e
          · exact right _ hz e
        · rw [cond_true] at e
          cases s1
          · exact right _ (hull_right hz) e
          · exact right _ hz e
      · have hne : ¬ s0.toNat = n0.toNat := fun k => h0 (BitVec.eq_of_toNat_eq k)
        rcases hJ with hJ | ⟨k1, k2⟩
        · -- not yet
          have hJ : s0.toNat ≤ n0.toNat := hJ
          have left : t0 = s0 + 1#64 → JG n0 z (t0, t1, t2) := fun k => .inl (by show t0.toNat ≤ _; rw [k]; omega)
          apply left
          revert e
          cases m_tnum_Has ra1 s0 <;> cases BitVec.ult (x0.w - 1#64) x0.b.umax <;> cases BitVec.ult s0 x0.b.umin <;> cases BitVec.ult x0.b.umax s0 <;> cases s1 <;> intro e <;> simp only [cond_true, cond_false, Sum.inl.injEq, Prod.mk.injEq] at e <;> exact e.1.symm
        · have k1 : s1 = false := k1
          have k2 : hs s2 z := k2
          subst k1
          have right : t1 = false → (t2 = s2 ∨ t2 = m_scalar_hull s2 (F x1 s0)) → JG n0 z (t0, t1, t2) := fun a b => .inr ⟨a, by
            rcases b with b | b
            · show hs t2 z; rw [b]; exact k2
            · show hs t2 z; rw [b]; exact hull_left k2⟩
          revert e
          cases m_tnum_Has ra1 s0 <;> cases BitVec.ult (x0.w - 1#64) x0.b.umax <;> cases BitVec.ult s0 x0.b.umin <;> cases BitVec.ult x0.b.umax s0 <;> intro e <;> simp only [cond_true, cond_false, Sum.inl.injEq, Prod.mk.injEq] at e <;> first
            | exact right e.2.1.symm (.inl e.2.2.symm)
            | exact right e.2.1.symm (.inr e.2.2.symm)
  · rintro ⟨s0, s1, s2⟩ r hI e hJ
    have hI : (0 : Int) ≤ s0.toInt := hI
    unfold stG at e
    dsimp only at e
    cases c1 : BitVec.slt s0 x0.w <;> rw [c1] at e
    · obtain rfl : (s2, s1) = r := by simpa using e
      rcases hJ with hJ | ⟨k1, k2⟩
      · exfalso
        have hJ : s0.toNat ≤ n0.toNat := hJ
        rw [slt_iff, decide_eq_false_iff_not] at c1
        rw [slt_iff, decide_eq_true_eq] at hn
        have := ge0_toNat hI
        omega
      · exact ⟨k1, k2⟩
    · exfalso
      revert e
      cases m_tnum_Has ra1 s0 <;> cases BitVec.ult (x0.w - 1#64) x0.b.umax <;> cases BitVec.ult s0 x0.b.umin <;> cases BitVec.ult x0.b.umax s0 <;> cases s1 <;> intro e <;> cases e
/-! ### By one number -/
section
variable {a b : S} {n x y : BitVec 64}
theorem n63 (h : n.toNat < 64) : (n &&& 63#64).toNat = n.toNat := by
  rw [and_mod n 6 63#64 (by decide)]; exact Nat.mod_eq_of_lt h
theorem by_left (hx : hs a x) (hn : n.toNat < 64) : hs (m_scalar_shiftLeft a n) (x <<< n.toNat) := by
  have t : has (m_tnum_Lsh a.t n) (x <<< n.toNat) := by
    unfold m_tnum_Lsh
    rw [kn_eq, kn_wf hx.1.1, n63 hn]; exact shl_has hx.1 _
  unfold m_scalar_shiftLeft
  cases c : BitVec.ult (18446744073709551615#64 >>> n.toNat) a.umax
  · rw [cond_false]
    rw [ult_iff, decide_eq_false_iff_not, BitVec.toNat_ushiftRight, Nat.shiftRight_eq_div_pow] at c
    have hp := Nat.two_pow_pos n.toNat
    have k0 : a.umax.toNat * 2 ^ n.toNat ≤ 18446744073709551615 := by
      have : a.umax.toNat ≤ 18446744073709551615 / 2 ^ n.toNat := by
        have e : (18446744073709551615#64).toNat = 18446744073709551615 := by decide
        rw [e] at c; omega
      exact (Nat.le_div_iff_mul_le hp).1 this
    have sh : ∀ u : BitVec 64, u.toNat ≤ a.umax.toNat → (u <<< n.toNat).toNat = u.toNat * 2 ^ n.toNat := fun u hu => by
      rw [BitVec.toNat_shiftLeft, Nat.shiftLeft_eq]
      have := Nat.mul_le_mul_right (2 ^ n.toNat) hu
      exact Nat.mod_eq_of_lt (by omega)
    have h1 := hx.2.1
    have h2 := hx.2.2.1
    refine mk_hs t ?_ ?_ (s0' _) (sM _)
    · rw [sh _ (by omega), sh _ h2]; exact Nat.mul_le_mul_right _ h1
    · rw [sh _ h2, sh _ (Nat.le_refl _)]; exact Nat.mul_le_mul_right _ h2
  · rw [cond_true]; exact ofBits_hs t
theorem by_right (hx : hs a x) (hn : n.toNat < 64) : hs (m_scalar_shiftRight a n) (x >>> n.toNat) := by
  have t : has (m_tnum_Rsh a.t n) (x >>> n.toNat) := by
    unfold m_tnum_Rsh
    rw [kn_eq, kn_wf hx.1.1, n63 hn]; exact shr_has hx.1 _
  unfold m_scalar_shiftRight
  have sh : ∀ u : BitVec 64, (u >>> n.toNat).toNat = u.toNat / 2 ^ n.toNat := fun u => by rw [BitVec.toNat_ushiftRight, Nat.shiftRight_eq_div_pow]
  refine mk_hs t ?_ ?_ (s0' _) (sM _)
  · rw [sh, sh]; exact Nat.div_le_div_right hx.2.1
  · rw [sh, sh]; exact Nat.div_le_div_right hx.2.2.1
theorem by_signed (hx : hs a x) (hn : n.toNat < 64) : hs (m_scalar_shiftSigned a n) (x.sshiftRight n.toNat) := by
  have t : has (m_tnum_Arsh a.t n true) (x.sshiftRight n.toNat) := by
    unfold m_tnum_Arsh
    rw [cond_true, kn_eq, kn_wf hx.1.1, n63 hn]; exact sar_has hx.1 _
  unfold m_scalar_shiftSigned
  have sh : ∀ u : BitVec 64, (u.sshiftRight n.toNat).toInt = u.toInt / 2 ^ n.toNat := fun u => by rw [BitVec.toInt_sshiftRight, Int.shiftRight_eq_div_pow]; simp
  have hp : (0 : Int) < 2 ^ n.toNat := Int.pow_pos (by decide)
  refine mk_hs t (u0 _) (uM _) ?_ ?_
  · rw [sh, sh]; exact Int.ediv_le_ediv hp hx.2.2.2.1
  · rw [sh, sh]; exact Int.ediv_le_ediv hp hx.2.2.2.2
end
end Go.Proofs.YtmhiiahfjoijgaaGreat
