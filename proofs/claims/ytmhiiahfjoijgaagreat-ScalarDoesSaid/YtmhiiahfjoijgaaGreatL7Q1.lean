/-
  Operations on scalars, all of them; meetings, joins; scalars of four numbers.
-/
import Derived.Test.YtmhiiahfjoijgaaGreatL7MF
import Derived.Test.YtmhiiahfjoijgaaGreatL7M7
import Derived.Test.YtmhiiahfjoijgaaGreatL7O
namespace Go.Proofs.YtmhiiahfjoijgaaGreat
open Go.RowKit
set_option linter.unusedVariables false
set_option linter.unusedSimpArgs false
theorem inc_n {x : BitVec 64} (h : x.toNat < 18446744073709551615) : (x + 1#64).toNat = x.toNat + 1 := by
  have c := add_n x 1#64
  rw [show (1#64 : BitVec 64).toNat = 1 from rfl] at c
  omega
theorem dec_n {x : BitVec 64} (h : 0 < x.toNat) : (x - 1#64).toNat = x.toNat - 1 := by
  have c := sub_n x 1#64
  have := x.isLt
  rw [show (1#64 : BitVec 64).toNat = 1 from rfl] at c
  omega
theorem lim (x : BitVec 64) : -9223372036854775808 ≤ x.toInt ∧ x.toInt ≤ 9223372036854775807 := by
  have := toInt_cond x; have := x.isLt; split at * <;> omega
theorem inc_i {x : BitVec 64} (h : x.toInt < 9223372036854775807) : (x + 1#64).toInt = x.toInt + 1 := by
  have c1 := toInt_cond x; have c2 := toInt_cond (x + 1#64); have c3 := add_n x 1#64
  have := x.isLt
  rw [show (1#64 : BitVec 64).toNat = 1 from rfl] at c3
  split at c1 <;> split at c2 <;> omega
theorem dec_i {x : BitVec 64} (h : -9223372036854775808 < x.toInt) : (x - 1#64).toInt = x.toInt - 1 := by
  have c1 := toInt_cond x; have c2 := toInt_cond (x - 1#64); have c3 := sub_n x 1#64
  have := x.isLt
  rw [show (1#64 : BitVec 64).toNat = 1 from rfl] at c3
  split at c1 <;> split at c2 <;> omega
theorem sub_ends {a : S} {t : T} {u1 u2 s1 s2 : BitVec 64} (ht : inn t a.t) (h1 : a.umin.toNat ≤ u1.toNat) (h2 : u2.toNat ≤ a.umax.toNat) (h3 : a.smin.toInt ≤ s1.toInt) (h4 : s2.toInt ≤ a.smax.toInt) : sub' (⟨t, u1, u2, s1, s2⟩ : S) a := ⟨ht, h1, h2, h3, h4⟩
/-- Two scalars met. -/
theorem meet_any {a b : S} (ha : isS a) (hb : isS b) : ((m_scalar_Meet a b).2 = false ∧ (m_scalar_Meet a b).1 = zS ∧ ∀ x, hs a x → ¬ hs b x) ∨
    ((m_scalar_Meet a b).2 = true ∧ isS (m_scalar_Meet a b).1 ∧ sub' (m_scalar_Meet a b).1 a ∧ sub' (m_scalar_Meet a b).1 b ∧ ∀ x, hs a x → hs b x → hs (m_scalar_Meet a b).1 x) := by
  unfold m_scalar_Meet
  rw [known_of ha, known_of hb, meet_eq, kn_wf ha.wf, kn_wf hb.wf]
  by_cases hp : apart a.t b.t
  · rw [if_pos hp]
    exact .inl ⟨rfl, rfl, fun x hx hy => (meet_has hx.1 hy.1).1 hp⟩
  · rw [if_neg hp]
    dsimp only
    rw [cond_t']
    have hk : ∀ x, hs a x → hs b x → hs (⟨pmeet a.t b.t, uMax a.umin b.umin, uMin a.umax b.umax, sMax a.smin b.smin, sMin a.smax b.smax⟩ : S) x := fun x hx hy =>
      mk_hs (meet_has hx.1 hy.1).2 (by rw [uMax_n]; have := hx.2.1; have := hy.2.1; omega) (by rw [uMin_n]; have := hx.2.2.1; have := hy.2.2.1; omega)
        (by rw [sMax_i]; have := hx.2.2.2.1; have := hy.2.2.2.1; omega) (by rw [sMin_i]; have := hx.2.2.2.2; have := hy.2.2.2.2; omega)
    have s1 : sub' (⟨pmeet a.t b.t, uMax a.umin b.umin, uMin a.umax b.umax, sMax a.smin b.smin, sMin a.smax b.smax⟩ : S) a :=
      sub_ends (pmeet_inn ha.wf hb.wf hp) (by rw [uMax_n]; omega) (by rw [uMin_n]; omega) (by rw [sMax_i]; omega) (by rw [sMin_i]; omega)
    have s2 : sub' (⟨pmeet a.t b.t, uMax a.umin b.umin, uMin a.umax b.umax, sMax a.smin b.smin, sMin a.smax b.smax⟩ : S) b :=
      sub_ends (by rw [pmeet_comm]; exact pmeet_inn hb.wf ha.wf (fun k => hp ((apart_comm _ _).1 k))) (by rw [uMax_n]; omega) (by rw [uMin_n]; omega) (by rw [sMax_i]; omega) (by rw [sMin_i]; omega)
    generalize (⟨pmeet a.t b.t, uMax a.umin b.umin, uMin a.umax b.umax, sMax a.smin b.smin, sMin a.smax b.smax⟩ : S) = f at *
    rcases sync_cases f with ⟨e, k⟩ | ⟨t, e, k⟩
    · rw [e]; exact .inl ⟨rfl, rfl, fun x hx hy => k x (hk x hx hy)⟩
    · rw [e]; exact .inr ⟨rfl, k.isS, k.sub.trans s1, k.sub.trans s2, fun x hx hy => (k.keep x).1 (hk x hx hy)⟩
theorem sw_lo (x : BitVec 64) : (x.setWidth 32).setWidth 64 = lo x := BitVec.eq_of_toNat_eq (by rw [lo_n, up_n, sw_n])
theorem settle_low {s : S} (h : isS s) : isS (m_scalar_low s) := by
  unfold m_scalar_low m_scalar_lowest_32
  cases BitVec.ult 4294967295#64 s.umax
  · exact h
  · cases (s.umin >>> 32) == (s.umax >>> 32)
    · exact settle_is _
    · exact settle_is _
/-! ### Operations -/
theorem alu11 {w : Bool} {x y : BitVec 64} : m_alu_Do 11#64 w x y = ((bif w then y else lo y), true) := by
  unfold m_alu_Do
  simp only [BitVec.reduceBEq, BitVec.reduceSLT, cond_t', cond_f']
  cases w
  · rw [cond_f', cond_f']
    show ((y.setWidth 32).setWidth 64, true) = _
    rw [sw_lo]
  · rfl
theorem dod11 {a b : S} {w : Bool} (ha : isS a) (hb : isS b) : m_scalar_Do 11#64 w a b = bif w then b else m_scalar_low b := by
  unfold m_scalar_Do
  rw [known_of hb]
  simp only [BitVec.reduceBEq, BitVec.reduceSLT, cond_t', cond_f']
theorem do_codes {op : BitVec 64} {w : Bool} {x y : BitVec 64} (h : (m_alu_Do op w x y).2 = true) : op = 0#64 ∨ op = 1#64 ∨ op = 2#64 ∨ op = 3#64 ∨ op = 4#64 ∨ op = 5#64 ∨ op = 6#64 ∨ op = 7#64 ∨ op = 8#64 ∨ op = 9#64 ∨ op = 10#64 ∨ op = 11#64 ∨ op = 12#64 := by
  unfold m_alu_Do at h
  cases h0 : BitVec.slt op 0#64 <;> rw [h0] at h <;> simp only [cond_t', cond_f'] at h
  · cases h1 : BitVec.slt op 13#64 <;> rw [h1] at h <;> simp only [cond_t', cond_f'] at h
    · cases h
    · cases c0 : op == 0#64 <;> rw [c0] at h <;> simp only [cond_t', cond_f'] at h
      rotate_left 1
      · have := eq_of_beq c0; subst this; simp
      cases c1 : op == 1#64 <;> rw [c1] at h <;> simp only [cond_t', cond_f'] at h
      rotate_left 1
      · have := eq_of_beq c1; subst this; simp
      cases c2 : op == 2#64 <;> rw [c2] at h <;> simp only [cond_t', cond_f'] at h
      rotate_left 1
      · have := eq_of_beq c2; subst this; simp
      cases c3 : op == 3#64 <;> rw [c3] at h <;> simp only [cond_t', cond_f'] at h
      rotate_left 1
      · have := eq_of_beq c3; subst this; simp
      cases c4 : op == 4#64 <;> rw [c4] at h <;> simp only [cond_t', cond_f'] at h
      rotate_left 1
      · have := eq_of_beq c4; subst this; simp
      cases c5 : op == 5#64 <;> rw [c5] at h <;> simp only [cond_t', cond_f'] at h
      rotate_left 1
      · have := eq_of_beq c5; subst this; simp
      cases c6 : op == 6#64 <;> rw [c6] at h <;> simp only [cond_t', cond_f'] at h
      rotate_left 1
      · have := eq_of_beq c6; subst this; simp
      cases c7 : op == 7#64 <;> rw [c7] at h <;> simp only [cond_t', cond_f'] at h
      rotate_left 1
      · have := eq_of_beq c7; subst this; simp
      cases c8 : op == 8#64 <;> rw [c8] at h <;> simp only [cond_t', cond_f'] at h
      rotate_left 1
      · have := eq_of_beq c8; subst this; simp
      cases c9 : op == 9#64 <;> rw [c9] at h <;> simp only [cond_t', cond_f'] at h
      rotate_left 1
      · have := eq_of_beq c9; subst this; simp
      cases c10 : op == 10#64 <;> rw [c10] at h <;> simp only [cond_t', cond_f'] at h
      rotate_left 1
      · have := eq_of_beq c10; subst this; simp
      cases c11 : op == 11#64 <;> rw [c11] at h <;> simp only [cond_t', cond_f'] at h
      rotate_left 1
      · have := eq_of_beq c11; subst this; simp
      cases c12 : op == 12#64 <;> rw [c12] at h <;> simp only [cond_t', cond_f'] at h
      rotate_left 1
      · have := eq_of_beq c12; subst this; simp
      cases w <;> simp only [cond_t', cond_f'] at h <;> cases h
  · cases h
theorem small13 {k : Nat} (h : k < 13) : k = 0 ∨ k = 1 ∨ k = 2 ∨ k = 3 ∨ k = 4 ∨ k = 5 ∨ k = 6 ∨ k = 7 ∨ k = 8 ∨ k = 9 ∨ k = 10 ∨ k = 11 ∨ k = 12 := by omega
theorem do_none {op : BitVec 64} {w : Bool} {x y : BitVec 64} {a b : S} (h : (m_alu_Do op w x y).2 = false) (ha : isS a) (hb : isS b) : m_scalar_Do op w a b = U := by
  unfold m_scalar_Do
  cases h0 : BitVec.slt op 0#64
  · cases h1 : BitVec.slt op 13#64
    · rw [cond_f', cond_f']
    · exfalso
      have hk : ∀ k, k < 13 → (op == BitVec.ofNat 64 k) = false := fun k hk => by
        cases e : op == BitVec.ofNat 64 k
        · rfl
        · exfalso
          have := eq_of_beq e
          subst this
          rcases small13 hk with rfl | rfl | rfl | rfl | rfl | rfl | rfl | rfl | rfl | rfl | rfl | rfl | rfl
          · rw [show m_alu_Do (BitVec.ofNat 64 0) w x y = m_alu_Do 0#64 w x y from rfl, alu0] at h; cases h
          · rw [show m_alu_Do (BitVec.ofNat 64 1) w x y = m_alu_Do 1#64 w x y from rfl, alu1] at h; cases h
          · rw [show m_alu_Do (BitVec.ofNat 64 2) w x y = m_alu_Do 2#64 w x y from rfl, alu2] at h; cases h
          · rw [show m_alu_Do (BitVec.ofNat 64 3) w x y = m_alu_Do 3#64 w x y from rfl, alu3] at h; cases h
          · rw [show m_alu_Do (BitVec.ofNat 64 4) w x y = m_alu_Do 4#64 w x y from rfl, alu4] at h; cases h
          · rw [show m_alu_Do (BitVec.ofNat 64 5) w x y = m_alu_Do 5#64 w x y from rfl, alu5] at h; cases h
          · rw [show m_alu_Do (BitVec.ofNat 64 6) w x y = m_alu_Do 6#64 w x y from rfl, alu6] at h; cases h
          · rw [show m_alu_Do (BitVec.ofNat 64 7) w x y = m_alu_Do 7#64 w x y from rfl, alu7] at h; cases h
          · rw [show m_alu_Do (BitVec.ofNat 64 8) w x y = m_alu_Do 8#64 w x y from rfl, alu8] at h; cases h
          · rw [show m_alu_Do (BitVec.ofNat 64 9) w x y = m_alu_Do 9#64 w x y from rfl, alu9] at h; cases h
          · rw [show m_alu_Do (BitVec.ofNat 64 10) w x y = m_alu_Do 10#64 w x y from rfl, alu10] at h; cases h
          · rw [show m_alu_Do (BitVec.ofNat 64 11) w x y = m_alu_Do 11#64 w x y from rfl, alu11] at h; cases h
          · rw [show m_alu_Do (BitVec.ofNat 64 12) w x y = m_alu_Do 12#64 w x y from rfl, alu12] at h; cases h
      exact out_of 13 (by decide) op h0 h1 hk
  · rw [cond_t']
theorem K_umin (n : BitVec 64) : (K n).umin = n := rfl
theorem cst_do {op : BitVec 64} {w : Bool} {x y : BitVec 64} (h : (m_alu_Do op w x y).2 = true) : m_scalar_Do op w (K x) (K y) = K (m_alu_Do op w x y).1 := by
  have i1 := isS_K x
  have i2 := isS_K y
  rcases do_codes h with rfl | rfl | rfl | rfl | rfl | rfl | rfl | rfl | rfl | rfl | rfl | rfl | rfl
  · rw [dod0 i1 i2, isConst_K, isConst_K, cond_t', cond_t', K_umin, K_umin]
  · rw [dod1 i1 i2, isConst_K, isConst_K, cond_t', cond_t', K_umin, K_umin]
  · rw [dod2 i1 i2, isConst_K, isConst_K, cond_t', cond_t', K_umin, K_umin]
  · rw [dod3 i1 i2, isConst_K, isConst_K, cond_t', cond_t', K_umin, K_umin]
  · rw [dod4 i1 i2, isConst_K, isConst_K, cond_t', cond_t', K_umin, K_umin]
  · rw [dod5 i1 i2, isConst_K, isConst_K, cond_t', cond_t', K_umin, K_umin]
  · rw [dod6 i1 i2, isConst_K, isConst_K, cond_t', cond_t', K_umin, K_umin]
  · rw [dod7 i1 i2, isConst_K, isConst_K, cond_t', cond_t', K_umin, K_umin]
  · rw [dod8 i1 i2, isConst_K, isConst_K, cond_t', cond_t', K_umin, K_umin]
  · rw [dod9 i1 i2, isConst_K, isConst_K, cond_t', cond_t', K_umin, K_umin]
  · rw [dod10 i1 i2, isConst_K, isConst_K, cond_t', cond_t', K_umin, K_umin]
  · rw [dod11 i1 i2, alu11]
    cases w
    · rw [cond_f', cond_f', low_K]
    · rw [cond_t', cond_t']
  · rw [dod12 i1 i2, isConst_K, isConst_K, cond_t', cond_t', K_umin, K_umin]
theorem cst_dos {op : BitVec 64} {w : Bool} {x y : BitVec 64} (h : (m_alu_Do op w x y).2 = true) : decide (m_scalar_Do op w (K x) (K y) = K (m_alu_Do op w x y).1) = true := decide_eq_true (cst_do h)
/-- Every operation keeps all numbers, and answers a scalar. -/
theorem does_has {op : BitVec 64} {w : Bool} {a b : S} {x y : BitVec 64} (ha : isS a) (hb : isS b) (hx : hs a x) (hy : hs b y) : isS (m_scalar_Do op w a b) ∧ ((m_alu_Do op w x y).2 = true → hs (m_scalar_Do op w a b) (m_alu_Do op w x y).1) ∧ ((m_alu_Do op w x y).2 = false → m_scalar_Do op w a b = U) := by
  cases h : (m_alu_Do op w x y).2
  · have e := do_none h ha hb
    rw [e]; exact ⟨isS_U, fun k => (by cases k), fun _ => rfl⟩
  · have key : hs (m_scalar_Do op w a b) (m_alu_Do op w x y).1 ∧ isS (m_scalar_Do op w a b) := by
      rcases do_codes h with rfl | rfl | rfl | rfl | rfl | rfl | rfl | rfl | rfl | rfl | rfl | rfl | rfl
      · exact dos0 ha hb hx hy
      · exact dos1 ha hb hx hy
      · exact dos2 ha hb hx hy
      · exact dos3 ha hb hx hy
      · exact dos4 ha hb hx hy
      · exact dos5 ha hb hx hy
      · exact dos6 ha hb hx hy
      · exact dos7 ha hb hx hy
      · exact dos8 ha hb hx hy
      · exact dos9 ha hb hx hy
      · exact dos10 ha hb hx hy
      · rw [dod11 ha hb, alu11]
        cases w
        · rw [cond_f', cond_f']; exact ⟨(low_has hb hy).1, settle_low hb⟩
        · rw [cond_t', cond_t']; exact ⟨hy, hb⟩
      · exact dos12 ha hb hx hy
    exact ⟨key.2, fun _ => key.1, fun k => (by cases k)⟩
theorem made_is (a b c d : BitVec 64) : isS (m_barbicanlaw7_made_4 a b c d) := (made_has a b c d).1
theorem made_sel (a b c d : BitVec 64) (n : Nat) : hs (m_barbicanlaw7_made_4 a b c d) (sel4 a b c d n) := by
  obtain ⟨_, h1, h2, h3, h4⟩ := made_has a b c d
  unfold sel4
  split <;> assumption
/-- The number that a law takes out of four. -/
def e4 (l : A4) (i : BitVec 64) : BitVec 64 := sel4 l.a l.b l.c l.d ((((i.srem 4#64) + 4#64).srem 4#64)).toNat
theorem made_e4 (l : A4) (i : BitVec 64) : hs (m_barbicanlaw7_made_4 l.a l.b l.c l.d) (e4 l i) := made_sel _ _ _ _ _
section
variable {op : BitVec 64} {w s v : Bool} {a b : S} {x y : BitVec 64}
/-! ### Meetings, joins -/
theorem mt_has (ha : isS a) (hb : isS b) (h1 : m_scalar_Has a y = true) (hy : hs b y) : (m_scalar_Meet a b).2 = true ∧ m_scalar_Is (m_scalar_Meet a b).1 = true ∧ m_scalar_Has (m_scalar_Meet a b).1 y = true := by
  have hx := (has_iff _ _).1 h1
  rcases meet_any ha hb with ⟨_, _, k⟩ | ⟨e, i, _, _, k⟩
  · exact absurd hy (k y hx)
  · exact ⟨e, (is_iff _).2 i, (has_iff _ _).2 (k y hx hy)⟩
theorem mt_is (ha : isS a) (hb : isS b) (h : (m_scalar_Meet a b).2 = true) : m_scalar_Is (m_scalar_Meet a b).1 = true := by
  rcases meet_any ha hb with ⟨e, _, _⟩ | ⟨_, i, _⟩
  · rw [e] at h; cases h
  · exact (is_iff _).2 i
theorem jn_all (ha : isS a) (hb : isS b) (hx : hs a x) (hy : hs b y) : m_scalar_Is (m_scalar_Join a b) = true ∧ m_scalar_Has (m_scalar_Join a b) x = true ∧ m_scalar_Has (m_scalar_Join a b) y = true ∧ m_scalar_In a (m_scalar_Join a b) = true ∧ m_scalar_In b (m_scalar_Join a b) = true :=
  have j := join_is ha hb
  ⟨(is_iff _).2 j, (has_iff _ _).2 (hs_sub j (join_left ha hb) hx), (has_iff _ _).2 (hs_sub j (join_right ha hb) hy), (in_iff ha j).2 (join_left ha hb), (in_iff hb j).2 (join_right ha hb)⟩
/-! ### Operations -/
theorem ds_is (ha : isS a) (hb : isS b) (hx : hs a x) (hy : hs b y) : m_scalar_Is (m_scalar_Do op w a b) = true := (is_iff _).2 (does_has (op := op) (w := w) ha hb hx hy).1
theorem ds_has (ha : isS a) (hb : isS b) (hx : hs a x) (hy : hs b y) (h : (m_alu_Do op w x y).2 = true) : m_scalar_Has (m_scalar_Do op w a b) (m_alu_Do op w x y).1 = true := (has_iff _ _).2 ((does_has ha hb hx hy).2.1 h)
theorem ds_no (ha : isS a) (hb : isS b) (hx : hs a x) (hy : hs b y) (h : (m_alu_Do op w x y).2 = false) : decide (m_scalar_Do op w a b = m_scalar_Unknown) = true := decide_eq_true ((does_has ha hb hx hy).2.2 h)
theorem mk_is (ha : isS a) : m_scalar_Is a = true := (is_iff _).2 ha
theorem mk_has (hx : hs a x) : m_scalar_Has a x = true := (has_iff _ _).2 hx
end
end Go.Proofs.YtmhiiahfjoijgaaGreat
