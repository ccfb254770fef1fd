/-
  Operations and branches on constants.
-/
import Derived.Test.YtmhiiahfjoijgaaGreatL7P3
namespace Go.Proofs.YtmhiiahfjoijgaaGreat
open Go.RowKit
set_option linter.unusedVariables false
set_option linter.unusedSimpArgs false
theorem cst_br {op : BitVec 64} {w s : Bool} {x y : BitVec 64} (h : (m_alu_Cmp op w x y).2 = true) : m_scalar_Branch op w s (K x) (K y) = if (m_alu_Cmp op w x y).1 = s then (K x, K y, true) else (zS, zS, false) := by
  obtain ⟨q, hq, e⟩ := branch_any (isS_K x) (isS_K y) (taken := s) h
  rw [e]
  unfold pack
  cases hq2 : q.2
  · rw [cond_f']
    rw [if_neg fun k => by
      have := (hq.keep x y (hs_K.2 rfl) (hs_K.2 rfl) k).1
      rw [hq2] at this; cases this]
  · rw [cond_t', if_pos (hq.con hq2 x y rfl rfl)]
    obtain ⟨i1, i2, s1, s2⟩ := hq.isa hq2
    rw [sub_K i1.good s1, sub_K i2.good s2]
theorem cst_may {op : BitVec 64} {w s v : Bool} {x y : BitVec 64} (h : (m_alu_Cmp op w x y).2 = true) (hv : (m_alu_Cmp op w x y).1 = v) : (m_scalar_Branch op w s (K x) (K y)).2.2 = decide (v = s) := by
  rw [cst_br h, hv]
  by_cases e : v = s
  · rw [if_pos e, decide_eq_true e]
  · rw [if_neg e, decide_eq_false e]
theorem cst_b1 {op : BitVec 64} {w s : Bool} {x y : BitVec 64} (h : (m_alu_Cmp op w x y).2 = true) (hv : (m_alu_Cmp op w x y).1 = s) : decide ((m_scalar_Branch op w s (K x) (K y)).1 = K x) = true := by
  rw [cst_br h, if_pos hv]; exact decide_eq_true rfl
theorem cst_b2 {op : BitVec 64} {w s : Bool} {x y : BitVec 64} (h : (m_alu_Cmp op w x y).2 = true) (hv : (m_alu_Cmp op w x y).1 = s) : decide ((m_scalar_Branch op w s (K x) (K y)).2.1 = K y) = true := by
  rw [cst_br h, if_pos hv]; exact decide_eq_true rfl
theorem cst_dec {op : BitVec 64} {w : Bool} {x y : BitVec 64} (h : (m_alu_Cmp op w x y).2 = true) : m_scalar_Decided op w (K x) (K y) = (true, (m_alu_Cmp op w x y).1) := by
  unfold m_scalar_Decided
  rw [cmp_same h 0#64 0#64, cond_t', cst_may h rfl, cst_may h rfl]
  cases (m_alu_Cmp op w x y).1
  · rw [decide_eq_false (by decide), cond_f']
  · rw [decide_eq_true rfl, cond_t', decide_eq_false (by decide), cond_f']
theorem cst_d1 {op : BitVec 64} {w : Bool} {x y : BitVec 64} (h : (m_alu_Cmp op w x y).2 = true) : (m_scalar_Decided op w (K x) (K y)).1 = true := by rw [cst_dec h]
theorem cst_d2 {op : BitVec 64} {w v : Bool} {x y : BitVec 64} (h : (m_alu_Cmp op w x y).2 = true) (hv : (m_alu_Cmp op w x y).1 = v) : (m_scalar_Decided op w (K x) (K y)).2 = v := by rw [cst_dec h]; exact hv
theorem dec_no {op : BitVec 64} {w : Bool} {x y : BitVec 64} {a b : S} (h : (m_alu_Cmp op w x y).2 = false) : m_scalar_Decided op w a b = (false, false) := by
  unfold m_scalar_Decided
  cases e : (m_alu_Cmp op w 0#64 0#64).2
  · rw [cond_f']
  · have := cmp_same e x y
    rw [h] at this; cases this
theorem cst_dn1 {op : BitVec 64} {w : Bool} {x y : BitVec 64} {a b : S} (h : (m_alu_Cmp op w x y).2 = false) : (m_scalar_Decided op w a b).1 = false := by rw [dec_no h]
theorem cst_dn2 {op : BitVec 64} {w : Bool} {x y : BitVec 64} {a b : S} (h : (m_alu_Cmp op w x y).2 = false) : (m_scalar_Decided op w a b).2 = false := by rw [dec_no h]
/-! ### Operations -/
theorem alu11 {w : Bool} {x y : BitVec 64} : m_alu_Do 11#64 w x y = ((bif w then y else lo y), true) := by
  unfold m_alu_Do
  simp only [BitVec.reduceBEq, BitVec.reduceSLT, cond_t', cond_f']
  cases w
  · rw [cond_f', cond_f']
    show ((y.setWidth 32).setWidth 64, true) = _
    rw [sw_lo]
  · rfl
theorem dod11 {a b : S} {w : Bool} (ha : isS a) (hb : isS b) : m_scalar_Do 11#64 w a b = bif w then b else m_scalar_low b := by
  unfold m_scalar_Do
  rw [known_of hb]
  simp only [BitVec.reduceBEq, BitVec.reduceSLT, cond_t', cond_f']
theorem do_codes {op : BitVec 64} {w : Bool} {x y : BitVec 64} (h : (m_alu_Do op w x y).2 = true) : op = 0#64 ∨ op = 1#64 ∨ op = 2#64 ∨ op = 3#64 ∨ op = 4#64 ∨ op = 5#64 ∨ op = 6#64 ∨ op = 7#64 ∨ op = 8#64 ∨ op = 9#64 ∨ op = 10#64 ∨ op = 11#64 ∨ op = 12#64 := by
  unfold m_alu_Do at h
  cases h0 : BitVec.slt op 0#64 <;> rw [h0] at h <;> simp only [cond_t', cond_f'] at h
  · cases h1 : BitVec.slt op 13#64 <;> rw [h1] at h <;> simp only [cond_t', cond_f'] at h
    · cases h
    · cases c0 : op == 0#64 <;> rw [c0] at h <;> simp only [cond_t', cond_f'] at h
      rotate_left 1
      · have := eq_of_beq c0; subst this; simp
      cases c1 : op == 1#64 <;> rw [c1] at h <;> simp only [cond_t', cond_f'] at h
      rotate_left 1
      · have := eq_of_beq c1; subst this; simp
      cases c2 : op == 2#64 <;> rw [c2] at h <;> simp only [cond_t', cond_f'] at h
      rotate_left 1
      · have := eq_of_beq c2; subst this; simp
      cases c3 : op == 3#64 <;> rw [c3] at h <;> simp only [cond_t', cond_f'] at h
      rotate_left 1
      · have := eq_of_beq c3; subst this; simp
      cases c4 : op == 4#64 <;> rw [c4] at h <;> simp only [cond_t', cond_f'] at h
      rotate_left 1
      · have := eq_of_beq c4; subst this; simp
      cases c5 : op == 5#64 <;> rw [c5] at h <;> simp only [cond_t', cond_f'] at h
      rotate_left 1
      · have := eq_of_beq c5; subst this; simp
      cases c6 : op == 6#64 <;> rw [c6] at h <;> simp only [cond_t', cond_f'] at h
      rotate_left 1
      · have := eq_of_beq c6; subst this; simp
      cases c7 : op == 7#64 <;> rw [c7] at h <;> simp only [cond_t', cond_f'] at h
      rotate_left 1
      · have := eq_of_beq c7; subst this; simp
      cases c8 : op == 8#64 <;> rw [c8] at h <;> simp only [cond_t', cond_f'] at h
      rotate_left 1
      · have := eq_of_beq c8; subst this; simp
      cases c9 : op == 9#64 <;> rw [c9] at h <;> simp only [cond_t', cond_f'] at h
      rotate_left 1
      · have := eq_of_beq c9; subst this; simp
      cases c10 : op == 10#64 <;> rw [c10] at h <;> simp only [cond_t', cond_f'] at h
      rotate_left 1
      · have := eq_of_beq c10; subst this; simp
      cases c11 : op == 11#64 <;> rw [c11] at h <;> simp only [cond_t', cond_f'] at h
      rotate_left 1
      · have := eq_of_beq c11; subst this; simp
      cases c12 : op == 12#64 <;> rw [c12] at h <;> simp only [cond_t', cond_f'] at h
      rotate_left 1
      · have := eq_of_beq c12; subst this; simp
      cases w <;> simp only [cond_t', cond_f'] at h <;> cases h
  · cases h
theorem small13 {k : Nat} (h : k < 13) : k = 0 ∨ k = 1 ∨ k = 2 ∨ k = 3 ∨ k = 4 ∨ k = 5 ∨ k = 6 ∨ k = 7 ∨ k = 8 ∨ k = 9 ∨ k = 10 ∨ k = 11 ∨ k = 12 := by omega
theorem do_none {op : BitVec 64} {w : Bool} {x y : BitVec 64} {a b : S} (h : (m_alu_Do op w x y).2 = false) (ha : isS a) (hb : isS b) : m_scalar_Do op w a b = U := by
  unfold m_scalar_Do
  cases h0 : BitVec.slt op 0#64
  · cases h1 : BitVec.slt op 13#64
    · rw [cond_f', cond_f']
    · exfalso
      have hk : ∀ k, k < 13 → (op == BitVec.ofNat 64 k) = false := fun k hk => by
        cases e : op == BitVec.ofNat 64 k
        · rfl
        · exfalso
          have := eq_of_beq e
          subst this
          rcases small13 hk with rfl | rfl | rfl | rfl | rfl | rfl | rfl | rfl | rfl | rfl | rfl | rfl | rfl
          · rw [show m_alu_Do (BitVec.ofNat 64 0) w x y = m_alu_Do 0#64 w x y from rfl, alu0] at h; cases h
          · rw [show m_alu_Do (BitVec.ofNat 64 1) w x y = m_alu_Do 1#64 w x y from rfl, alu1] at h; cases h
          · rw [show m_alu_Do (BitVec.ofNat 64 2) w x y = m_alu_Do 2#64 w x y from rfl, alu2] at h; cases h
          · rw [show m_alu_Do (BitVec.ofNat 64 3) w x y = m_alu_Do 3#64 w x y from rfl, alu3] at h; cases h
          · rw [show m_alu_Do (BitVec.ofNat 64 4) w x y = m_alu_Do 4#64 w x y from rfl, alu4] at h; cases h
          · rw [show m_alu_Do (BitVec.ofNat 64 5) w x y = m_alu_Do 5#64 w x y from rfl, alu5] at h; cases h
          · rw [show m_alu_Do (BitVec.ofNat 64 6) w x y = m_alu_Do 6#64 w x y from rfl, alu6] at h; cases h
          · rw [show m_alu_Do (BitVec.ofNat 64 7) w x y = m_alu_Do 7#64 w x y from rfl, alu7] at h; cases h
          · rw [show m_alu_Do (BitVec.ofNat 64 8) w x y = m_alu_Do 8#64 w x y from rfl, alu8] at h; cases h
          · rw [show m_alu_Do (BitVec.ofNat 64 9) w x y = m_alu_Do 9#64 w x y from rfl, alu9] at h; cases h
          · rw [show m_alu_Do (BitVec.ofNat 64 10) w x y = m_alu_Do 10#64 w x y from rfl, alu10] at h; cases h
          · rw [show m_alu_Do (BitVec.ofNat 64 11) w x y = m_alu_Do 11#64 w x y from rfl, alu11] at h; cases h
          · rw [show m_alu_Do (BitVec.ofNat 64 12) w x y = m_alu_Do 12#64 w x y from rfl, alu12] at h; cases h
      exact out_of 13 (by decide) op h0 h1 hk
  · rw [cond_t']
theorem K_umin (n : BitVec 64) : (K n).umin = n := rfl
theorem cst_do {op : BitVec 64} {w : Bool} {x y : BitVec 64} (h : (m_alu_Do op w x y).2 = true) : m_scalar_Do op w (K x) (K y) = K (m_alu_Do op w x y).1 := by
  have i1 := isS_K x
  have i2 := isS_K y
  rcases do_codes h with rfl | rfl | rfl | rfl | rfl | rfl | rfl | rfl | rfl | rfl | rfl | rfl | rfl
  · rw [dod0 i1 i2, isConst_K, isConst_K, cond_t', cond_t', K_umin, K_umin]
  · rw [dod1 i1 i2, isConst_K, isConst_K, cond_t', cond_t', K_umin, K_umin]
  · rw [dod2 i1 i2, isConst_K, isConst_K, cond_t', cond_t', K_umin, K_umin]
  · rw [dod3 i1 i2, isConst_K, isConst_K, cond_t', cond_t', K_umin, K_umin]
  · rw [dod4 i1 i2, isConst_K, isConst_K, cond_t', cond_t', K_umin, K_umin]
  · rw [dod5 i1 i2, isConst_K, isConst_K, cond_t', cond_t', K_umin, K_umin]
  · rw [dod6 i1 i2, isConst_K, isConst_K, cond_t', cond_t', K_umin, K_umin]
  · rw [dod7 i1 i2, isConst_K, isConst_K, cond_t', cond_t', K_umin, K_umin]
  · rw [dod8 i1 i2, isConst_K, isConst_K, cond_t', cond_t', K_umin, K_umin]
  · rw [dod9 i1 i2, isConst_K, isConst_K, cond_t', cond_t', K_umin, K_umin]
  · rw [dod10 i1 i2, isConst_K, isConst_K, cond_t', cond_t', K_umin, K_umin]
  · rw [dod11 i1 i2, alu11]
    cases w
    · rw [cond_f', cond_f', low_K]
    · rw [cond_t', cond_t']
  · rw [dod12 i1 i2, isConst_K, isConst_K, cond_t', cond_t', K_umin, K_umin]
theorem cst_dos {op : BitVec 64} {w : Bool} {x y : BitVec 64} (h : (m_alu_Do op w x y).2 = true) : decide (m_scalar_Do op w (K x) (K y) = K (m_alu_Do op w x y).1) = true := decide_eq_true (cst_do h)
/-- Every operation keeps all numbers, and answers a scalar. -/
theorem does_has {op : BitVec 64} {w : Bool} {a b : S} {x y : BitVec 64} (ha : isS a) (hb : isS b) (hx : hs a x) (hy : hs b y) : isS (m_scalar_Do op w a b) ∧ ((m_alu_Do op w x y).2 = true → hs (m_scalar_Do op w a b) (m_alu_Do op w x y).1) ∧ ((m_alu_Do op w x y).2 = false → m_scalar_Do op w a b = U) := by
  cases h : (m_alu_Do op w x y).2
  · have e := do_none h ha hb
    rw [e]; exact ⟨isS_U, fun k => (by cases k), fun _ => rfl⟩
  · have key : hs (m_scalar_Do op w a b) (m_alu_Do op w x y).1 ∧ isS (m_scalar_Do op w a b) := by
      rcases do_codes h with rfl | rfl | rfl | rfl | rfl | rfl | rfl | rfl | rfl | rfl | rfl | rfl | rfl
      · exact dos0 ha hb hx hy
      · exact dos1 ha hb hx hy
      · exact dos2 ha hb hx hy
      · exact dos3 ha hb hx hy
      · exact dos4 ha hb hx hy
      · exact dos5 ha hb hx hy
      · exact dos6 ha hb hx hy
      · exact dos7 ha hb hx hy
      · exact dos8 ha hb hx hy
      · exact dos9 ha hb hx hy
      · exact dos10 ha hb hx hy
      · rw [dod11 ha hb, alu11]
        cases w
        · rw [cond_f', cond_f']; exact ⟨(low_has hb hy).1, settle_low hb⟩
        · rw [cond_t', cond_t']; exact ⟨hy, hb⟩
      · exact dos12 ha hb hx hy
    exact ⟨key.2, fun _ => key.1, fun k => (by cases k)⟩
end Go.Proofs.YtmhiiahfjoijgaaGreat
