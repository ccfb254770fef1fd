/-
  Operations on scalars: how tight their ends are.
-/
import Derived.Test.YtmhiiahfjoijgaaGreatL7Q1
namespace Go.Proofs.YtmhiiahfjoijgaaGreat
open Go.RowKit
set_option linter.unusedVariables false
set_option linter.unusedSimpArgs false
theorem mul_lo {x y : BitVec 64} (h : x.toNat * y.toNat < 18446744073709551616) : ((m_math_bits_Mul64 x y).1 == 0#64) = true := by
  rw [beq_iff_eq]
  apply BitVec.eq_of_toNat_eq
  unfold m_math_bits_Mul64
  dsimp only
  have sh : ∀ u : BitVec 64, (u >>> 32).toNat = u.toNat / 4294967296 := fun u => by rw [BitVec.toNat_ushiftRight, Nat.shiftRight_eq_div_pow]
  have an : ∀ u : BitVec 64, (u &&& 4294967295#64).toNat = u.toNat % 4294967296 := fun u => and_mod u 32 _ (by decide)
  have mu : ∀ u v : BitVec 64, (u * v).toNat = u.toNat * v.toNat % 18446744073709551616 := fun u v => BitVec.toNat_mul ..
  simp only [add_n, sh, an, mu]
  have hx := x.isLt
  have hy := y.isLt
  have ex := Nat.div_add_mod x.toNat 4294967296
  have ey := Nat.div_add_mod y.toNat 4294967296
  have a1 : x.toNat / 4294967296 ≤ 4294967295 := by omega
  have a2 : x.toNat % 4294967296 ≤ 4294967295 := by omega
  have a3 : y.toNat / 4294967296 ≤ 4294967295 := by omega
  have a4 : y.toNat % 4294967296 ≤ 4294967295 := by omega
  generalize x.toNat / 4294967296 = x1 at *
  generalize x.toNat % 4294967296 = x0 at *
  generalize y.toNat / 4294967296 = y1 at *
  generalize y.toNat % 4294967296 = y0 at *
  have p11 : x1 * y1 ≤ 4294967295 * 4294967295 := Nat.mul_le_mul a1 a3
  have p10 : x1 * y0 ≤ 4294967295 * 4294967295 := Nat.mul_le_mul a1 a4
  have p01 : x0 * y1 ≤ 4294967295 * 4294967295 := Nat.mul_le_mul a2 a3
  have p00 : x0 * y0 ≤ 4294967295 * 4294967295 := Nat.mul_le_mul a2 a4
  rw [← ex, ← ey] at h
  have exp : (4294967296 * x1 + x0) * (4294967296 * y1 + y0) = 18446744073709551616 * (x1 * y1) + 4294967296 * (x1 * y0 + x0 * y1) + x0 * y0 := by
    simp only [Nat.add_mul, Nat.mul_add]
    have q1 : 4294967296 * x1 * (4294967296 * y1) = 18446744073709551616 * (x1 * y1) := by
      rw [Nat.mul_assoc, Nat.mul_left_comm x1, ← Nat.mul_assoc]
    have q2 : 4294967296 * x1 * y0 = 4294967296 * (x1 * y0) := Nat.mul_assoc ..
    have q3 : x0 * (4294967296 * y1) = 4294967296 * (x0 * y1) := Nat.mul_left_comm ..
    omega
  rw [exp] at h
  generalize x1 * y1 = A at *
  generalize x1 * y0 = B at *
  generalize x0 * y1 = C at *
  generalize x0 * y0 = D at *
  have z : (0#64).toNat = 0 := rfl
  rw [z]
  clear ex ey exp hx hy
  omega
theorem settle_ends {t : T} {u1 u2 s1 s2 z : BitVec 64} (h : hs (⟨t, u1, u2, s1, s2⟩ : S) z) : u1.toNat ≤ (m_scalar_settle ⟨t, u1, u2, s1, s2⟩).umin.toNat ∧ (m_scalar_settle ⟨t, u1, u2, s1, s2⟩).umax.toNat ≤ u2.toNat :=
  ⟨(settle_has h).sub.2.1, (settle_has h).sub.2.2.1⟩
section
variable {a b : S} {w : BitVec 64} {x y : BitVec 64}
theorem add_ends (hx : hs a x) (hy : hs b y) (c1 : (addc a.umin b.umin == addc a.umax b.umax) = true) : (a.umin + b.umin).toNat ≤ (m_scalar_operands_add ⟨a, b, w⟩).umin.toNat ∧ (m_scalar_operands_add ⟨a, b, w⟩).umax.toNat ≤ (a.umax + b.umax).toNat := by
  have t := tadd_has hx.1 hy.1
  have hu := add_u hx hy c1
  have hsg := add_s hx hy
  unfold m_scalar_operands_add
  dsimp only [m_scalar_ofBits]
  rw [c1, cond_t']
  cases c2 : (m_scalar_addSigned a.smin b.smin).2 <;> cases c3 : (m_scalar_addSigned a.smax b.smax).2 <;> simp only [cond_t', cond_f'] <;> refine settle_ends (z := x + y) (mk_hs t ?_ ?_ ?_ ?_) <;> first
    | exact s0' _
    | exact sM _
    | exact hu.1
    | exact hu.2
    | exact (hsg c2 c3).1
    | exact (hsg c2 c3).2
theorem sub_ends2 (hx : hs a x) (hy : hs b y) (c1 : (subc a.umin b.umax == subc a.umax b.umin) = true) : (a.umin - b.umax).toNat ≤ (m_scalar_operands_sub ⟨a, b, w⟩).umin.toNat ∧ (m_scalar_operands_sub ⟨a, b, w⟩).umax.toNat ≤ (a.umax - b.umin).toNat := by
  have t := tsub_has hx.1 hy.1
  have hu := sub_u hx hy c1
  have hsg := sub_s hx hy
  unfold m_scalar_operands_sub
  dsimp only [m_scalar_ofBits]
  rw [c1, cond_t']
  cases c2 : (m_scalar_subSigned a.smin b.smax).2 <;> cases c3 : (m_scalar_subSigned a.smax b.smin).2 <;> simp only [cond_t', cond_f'] <;> refine settle_ends (z := x - y) (mk_hs t ?_ ?_ ?_ ?_) <;> first
    | exact s0' _
    | exact sM _
    | exact hu.1
    | exact hu.2
    | exact (hsg c2 c3).1
    | exact (hsg c2 c3).2
theorem mul_ends2 (hx : hs a x) (hy : hs b y) (h : a.umax.toNat * b.umax.toNat < 18446744073709551616) : (m_scalar_operands_mul ⟨a, b, w⟩).umax.toNat ≤ a.umax.toNat * b.umax.toNat := by
  have c := mul_lo h
  have t : has (m_tnum_Mul a.t b.t) (x * y) := by rw [mul_eq' _ _ hx.1.1 hy.1.1]; exact pmul_has hx.1 hy.1
  obtain ⟨h1, h2⟩ := mul_ends hx hy c
  unfold m_scalar_operands_mul
  dsimp only
  rw [c, cond_t']
  have e : (m_math_bits_Mul64 a.umax b.umax).2 = a.umax * b.umax := rfl
  have k := (settle_ends (z := x * y) (u1 := a.umin * b.umin) (u2 := (m_math_bits_Mul64 a.umax b.umax).2) (mk_hs t h1 (by rw [e]; exact h2) (s0' _) (sM _))).2
  refine Nat.le_trans k ?_
  rw [e, BitVec.toNat_mul]
  exact Nat.mod_le _ _
/-- The exact ends of what has a number. -/
theorem ex_all (ha : isS a) (hx : hs a x) : isS (m_scalar_exact a) ∧ hs (m_scalar_exact a) x ∧ sub' (m_scalar_exact a) a := ⟨(exact_spec ha).1, (exact_spec ha).2.1 x hx, (exact_spec ha).2.2 x hx⟩
theorem do_split {op : OO → S} {D K0 : S} (hD : D = bif m_scalar_isConst a then (bif m_scalar_isConst b then K0 else opw op true a b) else opw op true a b) {Pr : S → Prop} (h1 : a.umin = a.umax → b.umin = b.umax → Pr K0) (h2 : Pr (op ⟨m_scalar_exact a, m_scalar_exact b, 64#64⟩)) : Pr D := by
  have e : opw op true a b = op ⟨m_scalar_exact a, m_scalar_exact b, 64#64⟩ := by unfold opw; rw [cond_t']
  rw [e] at hD
  cases ca : m_scalar_isConst a
  · rw [ca, cond_f'] at hD; rw [hD]; exact h2
  · cases cb : m_scalar_isConst b
    · rw [ca, cb, cond_t', cond_f'] at hD; rw [hD]; exact h2
    · rw [ca, cb, cond_t', cond_t'] at hD; rw [hD]; exact h1 (eq_of_beq ca) (eq_of_beq cb)
theorem maxsub (u : BitVec 64) : (18446744073709551615#64 - u).toNat = 18446744073709551615 - u.toNat := by
  have c := sub_n 18446744073709551615#64 u
  have := u.isLt
  rw [show (18446744073709551615#64 : BitVec 64).toNat = 18446744073709551615 from by decide] at c
  omega
theorem t_add (ha : isS a) (hb : isS b) (hx : hs a x) (hy : hs b y) (h : BitVec.ult (18446744073709551615#64 - b.umax) a.umax = false) : BitVec.ult (m_scalar_Do 0#64 true a b).umin (a.umin + b.umin) = false ∧ BitVec.ult (a.umax + b.umax) (m_scalar_Do 0#64 true a b).umax = false := by
  rw [ult_iff, decide_eq_false_iff_not, maxsub] at h
  have b1 := a.umax.isLt
  have b2 := b.umax.isLt
  have s1 := hx.2.1; have s2 := hx.2.2.1; have s3 := hy.2.1; have s4 := hy.2.2.1
  refine do_split (Pr := fun D => BitVec.ult D.umin (a.umin + b.umin) = false ∧ BitVec.ult (a.umax + b.umax) D.umax = false) (dod0 ha hb) ?_ ?_
  · intro e1 e2
    rw [alu0, cond_t', ← e1, ← e2, ult_iff, ult_iff, decide_eq_false_iff_not, decide_eq_false_iff_not]
    exact ⟨Nat.lt_irrefl _, Nat.lt_irrefl _⟩
  · obtain ⟨_, xa, ea⟩ := ex_all ha hx
    obtain ⟨_, xb, eb⟩ := ex_all hb hy
    generalize m_scalar_exact a = a' at *
    generalize m_scalar_exact b = b' at *
    have q1 := ea.2.1; have q2 := ea.2.2.1; have q3 := eb.2.1; have q4 := eb.2.2.1
    have z1 := xa.2.1; have z2 := xa.2.2.1; have z3 := xb.2.1; have z4 := xb.2.2.1
    have c : ∀ u v : BitVec 64, u.toNat ≤ a.umax.toNat → v.toNat ≤ b.umax.toNat → addc u v = 0#64 ∧ (u + v).toNat = u.toNat + v.toNat := fun u v h1 h2 => by
      constructor
      · unfold addc; rw [decide_eq_false (by omega)]; rfl
      · rw [add_n]; omega
    have k := add_ends (w := 64#64) xa xb (by rw [(c _ _ (by omega) (by omega)).1, (c _ _ (by omega) (by omega)).1]; rfl)
    rw [(c a'.umin b'.umin (by omega) (by omega)).2, (c a'.umax b'.umax (by omega) (by omega)).2] at k
    rw [ult_iff, ult_iff, decide_eq_false_iff_not, decide_eq_false_iff_not, (c _ _ (by omega) (by omega)).2, (c _ _ (Nat.le_refl _) (Nat.le_refl _)).2]
    omega
theorem t_sub (ha : isS a) (hb : isS b) (hx : hs a x) (hy : hs b y) (h : BitVec.ult a.umin b.umax = false) : BitVec.ult (m_scalar_Do 1#64 true a b).umin (a.umin - b.umax) = false ∧ BitVec.ult (a.umax - b.umin) (m_scalar_Do 1#64 true a b).umax = false := by
  rw [ult_iff, decide_eq_false_iff_not] at h
  have b1 := a.umax.isLt
  have b2 := b.umax.isLt
  have s1 := hx.2.1; have s2 := hx.2.2.1; have s3 := hy.2.1; have s4 := hy.2.2.1
  refine do_split (Pr := fun D => BitVec.ult D.umin (a.umin - b.umax) = false ∧ BitVec.ult (a.umax - b.umin) D.umax = false) (dod1 ha hb) ?_ ?_
  · intro e1 e2
    rw [alu1, cond_t', ← e1, ← e2, ult_iff, ult_iff, decide_eq_false_iff_not, decide_eq_false_iff_not]
    exact ⟨Nat.lt_irrefl _, Nat.lt_irrefl _⟩
  · obtain ⟨_, xa, ea⟩ := ex_all ha hx
    obtain ⟨_, xb, eb⟩ := ex_all hb hy
    generalize m_scalar_exact a = a' at *
    generalize m_scalar_exact b = b' at *
    have q1 := ea.2.1; have q2 := ea.2.2.1; have q3 := eb.2.1; have q4 := eb.2.2.1
    have z1 := xa.2.1; have z2 := xa.2.2.1; have z3 := xb.2.1; have z4 := xb.2.2.1
    have c : ∀ u v : BitVec 64, a.umin.toNat ≤ u.toNat → v.toNat ≤ b.umax.toNat → subc u v = 0#64 ∧ (u - v).toNat = u.toNat - v.toNat := fun u v h1 h2 => by
      have := u.isLt
      constructor
      · unfold subc; rw [ult_iff, decide_eq_false (by omega)]; rfl
      · rw [sub_n]; omega
    have k := sub_ends2 (w := 64#64) xa xb (by rw [(c _ _ (by omega) (by omega)).1, (c _ _ (by omega) (by omega)).1]; rfl)
    rw [(c a'.umin b'.umax (by omega) (by omega)).2, (c a'.umax b'.umin (by omega) (by omega)).2] at k
    rw [ult_iff, ult_iff, decide_eq_false_iff_not, decide_eq_false_iff_not, (c _ _ (by omega) (by omega)).2, (c _ _ (by omega) (by omega)).2]
    omega
theorem t_and (ha : isS a) (hb : isS b) (hx : hs a x) (hy : hs b y) : BitVec.ult (uMin a.umax b.umax) (m_scalar_Do 5#64 true a b).umax = false := by
  refine do_split (Pr := fun D => BitVec.ult (uMin a.umax b.umax) D.umax = false) (dod5 ha hb) ?_ ?_
  · intro e1 e2
    rw [alu5, cond_t', ult_iff, decide_eq_false_iff_not, uMin_n, ← e1, ← e2]
    show ¬ _ < (a.umin &&& b.umin).toNat
    rw [BitVec.toNat_and]
    have h1 : a.umin.toNat &&& b.umin.toNat ≤ a.umin.toNat := Nat.and_le_left
    have h2 : a.umin.toNat &&& b.umin.toNat ≤ b.umin.toNat := Nat.and_le_right
    omega
  · obtain ⟨_, xa, ea⟩ := ex_all ha hx
    obtain ⟨_, xb, eb⟩ := ex_all hb hy
    have k := (op_and (w := 64#64) xa xb).2.2
    have q2 := ea.2.2.1; have q4 := eb.2.2.1
    rw [ult_iff, decide_eq_false_iff_not, uMin_n]
    omega
theorem t_mod {k : BitVec 64} (ha : isS a) (hx : hs a x) (hk : BitVec.ult 0#64 k = true) : BitVec.ult (m_scalar_Do 9#64 true a (K k)).umax k = true := by
  rw [ult_iff, decide_eq_true_eq] at hk
  have hk : 0 < k.toNat := hk
  refine do_split (Pr := fun D => BitVec.ult D.umax k = true) (dod9 ha (isS_K k)) ?_ ?_
  · intro e1 e2
    rw [alu9, cond_t', ult_iff, decide_eq_true_eq]
    show (re a.umin k).toNat < _
    rw [re_n, if_neg (by omega)]
    exact Nat.mod_lt _ hk
  · obtain ⟨ia, xa, ea⟩ := ex_all ha hx
    rw [exact_K]
    generalize m_scalar_exact a = a' at *
    unfold m_scalar_operands_mod
    dsimp only
    have e1 : (K k).umax = k := rfl
    have e2 : (K k).umin = k := rfl
    have z : (k == 0#64) = false := by
      rw [beq_eq_false_iff_ne]; intro h; rw [h] at hk; exact absurd hk (by decide)
    rw [e1, e2, z, isConst_K, cond_f', cond_f', cond_t']
    have d1 := dec_n hk
    cases c : BitVec.ult a'.umax k
    · rw [cond_f']
      rw [ult_iff, decide_eq_false_iff_not] at c
      cases c2 : (k &&& (k - 1#64)) == 0#64
      · rw [cond_f', ult_iff, decide_eq_true_eq]
        have := (between_le (l := 0#64) (m := uMin a'.umax (k - 1#64)) (u0 _)).sub.2.2.1
        have e : (btw 0#64 (uMin a'.umax (k - 1#64))).umax = uMin a'.umax (k - 1#64) := rfl
        rw [e, uMin_n] at this
        omega
      · rw [cond_t', ult_iff, decide_eq_true_eq]
        have := (op_and (a := a') (b := K (k - 1#64)) (w := 64#64) xa (hs_K.2 rfl)).2.2
        have e : (K (k - 1#64)).umax = k - 1#64 := rfl
        rw [e] at this
        have e' : (m_scalar_operands_and ⟨a', m_scalar_Const (k - 1#64), 64#64⟩).umax.toNat ≤ min a'.umax.toNat (k - 1#64).toNat := this
        omega
    · rw [cond_t']; exact c
theorem mi {p q r s : BitVec 64} {t : S} (e : m_barbicanlaw7_made_4 p q r s = t) : isS t := e ▸ made_is p q r s
theorem ms {p q r s : BitVec 64} {t : S} (e : m_barbicanlaw7_made_4 p q r s = t) (n : Nat) : hs t (sel4 p q r s n) := e ▸ made_sel p q r s n
theorem nz_of {k : BitVec 64} (h : BitVec.ult 0#64 k = true) : (k == 0#64) = false := by
  rw [ult_iff, decide_eq_true_eq] at h
  rw [beq_eq_false_iff_ne]; intro e; rw [e] at h; exact absurd h (by decide)
theorem z_of {k : BitVec 64} (h : BitVec.ult 0#64 k = false) : (k == 0#64) = true := by
  rw [ult_iff, decide_eq_false_iff_not] at h
  rw [beq_iff_eq]; exact BitVec.eq_of_toNat_eq (by rw [show (0#64 : BitVec 64).toNat = 0 from rfl] at h ⊢; omega)
theorem t_mul {k : BitVec 64} (ha : isS a) (hx : hs a x) (h : BitVec.ult (18446744073709551615#64 / k) a.umax = false) (hk : (k == 0#64) = false) : BitVec.ult (a.umax * k) (m_scalar_Do 2#64 true a (K k)).umax = false := by
  have hk0 : 0 < k.toNat := by
    rcases Nat.eq_zero_or_pos k.toNat with e | e
    · have : k = 0#64 := BitVec.eq_of_toNat_eq e
      rw [this] at hk; cases hk
    · exact e
  rw [ult_iff, decide_eq_false_iff_not, BitVec.toNat_udiv, show (18446744073709551615#64 : BitVec 64).toNat = 18446744073709551615 from by decide] at h
  have hp : a.umax.toNat * k.toNat ≤ 18446744073709551615 := (Nat.le_div_iff_mul_le hk0).1 (by omega)
  have em : (a.umax * k).toNat = a.umax.toNat * k.toNat := by rw [BitVec.toNat_mul]; exact Nat.mod_eq_of_lt (by omega)
  refine do_split (Pr := fun D => BitVec.ult (a.umax * k) D.umax = false) (dod2 ha (isS_K k)) ?_ ?_
  · intro e1 e2
    rw [alu2, cond_t', ult_iff, decide_eq_false_iff_not, ← e1]
    exact Nat.lt_irrefl _
  · obtain ⟨ia, xa, ea⟩ := ex_all ha hx
    rw [exact_K]
    generalize m_scalar_exact a = a' at *
    have q2 := ea.2.2.1
    have e1 : (K k).umax = k := rfl
    have hm : a'.umax.toNat * k.toNat ≤ a.umax.toNat * k.toNat := Nat.mul_le_mul_right _ q2
    have := mul_ends2 (w := 64#64) (a := a') (b := K k) xa (hs_K.2 rfl) (by rw [e1]; omega)
    rw [e1] at this
    rw [ult_iff, decide_eq_false_iff_not, em]
    omega
/-! ### Shifts by one number -/
def JK (F : S → BitVec 64 → S) (x1 : S) (n0 : BitVec 64) (s : (BitVec 64) × (Bool) × (S)) : Prop := (s.1.toNat ≤ n0.toNat ∧ s.2.1 = true) ∨ (n0.toNat < s.1.toNat ∧ s.2.1 = false ∧ s.2.2 = F x1 n0)
theorem lpK {F : S → BitVec 64 → S} {x0 : OO} {x1 : S} {ra1 : T} {μ : (BitVec 64) × (Bool) × (S) → Nat} {zr : S × Bool} (hf : Falls (stG F x0 x1 ra1) μ (fun s => (0 : Int) ≤ s.1.toInt)) {n0 : BitVec 64}
    (hn : BitVec.slt n0 x0.w = true) (hb : m_tnum_Has ra1 n0 = true) (hc : BitVec.ult (x0.w - 1#64) x0.b.umax = false) (h1 : x0.b.umin = n0) (h2 : x0.b.umax = n0) (hp : (0 : Int) ≤ n0.toInt) :
    ∀ s, (0 : Int) ≤ s.1.toInt → JK F x1 n0 s → lp (stG F x0 x1 ra1) zr μ s = (F x1 n0, false) := by
  have nn0 := ge0_toNat hp
  have key := lp_ind (z := zr) hf (fun s r => JK F x1 n0 s → r = (F x1 n0, false)) ?_ ?_
  · exact key
  · rintro ⟨s0, s1, s2⟩ ⟨t0, t1, t2⟩ r hI hI' e hP hJ
    apply hP
    have hI : (0 : Int) ≤ s0.toInt := hI
    unfold stG at e
    dsimp only at e
    cases c1 : BitVec.slt s0 x0.w <;> rw [c1] at e
    · rw [cond_f'] at e; cases e
    · rw [cond_t', hc, cond_f', h1, h2] at e
      have up := up2 hI c1
      have ns0 := ge0_toNat hI
      have nt0 := ge0_toNat (s := s0 + 1#64) (by omega)
      by_cases h0 : s0 = n0
      · subst h0
        have k0 : BitVec.ult s0 s0 = false := by rw [ult_iff, decide_eq_false_iff_not]; omega
        rw [hb, cond_t', k0, cond_f', cond_f'] at e
        rcases hJ with ⟨_, k⟩ | ⟨k, _⟩
        · have k : s1 = true := k
          subst k
          rw [cond_t'] at e
          obtain ⟨rfl, rfl, rfl⟩ : s0 + 1#64 = t0 ∧ false = t1 ∧ F x1 s0 = t2 := by simpa using e
          exact .inr ⟨by show s0.toNat < (s0 + 1#64).toNat; omega, rfl, rfl⟩
        · exact absurd k (Nat.lt_irrefl _)
      · have hne : ¬ s0.toNat = n0.toNat := fun k => h0 (BitVec.eq_of_toNat_eq k)
        have skip : (Sum.inl (s0 + 1#64, s1, s2) : ((BitVec 64) × (Bool) × (S)) ⊕ ((S) × (Bool))) = .inl (t0, t1, t2) := by
          rw [← e]
          cases m_tnum_Has ra1 s0
          · rw [cond_f']
          · rw [cond_t']
            rcases Nat.lt_or_ge s0.toNat n0.toNat with k | k
            · rw [show BitVec.ult s0 n0 = true from by rw [ult_iff]; exact decide_eq_true k, cond_t']
            · rw [show BitVec.ult s0 n0 = false from by rw [ult_iff]; exact decide_eq_false (by omega), cond_f', show BitVec.ult n0 s0 = true from by rw [ult_iff]; exact decide_eq_true (by omega), cond_t']
        obtain ⟨rfl, rfl, rfl⟩ : s0 + 1#64 = t0 ∧ s1 = t1 ∧ s2 = t2 := by simpa using skip
        rcases hJ with ⟨k, k'⟩ | ⟨k, k', k''⟩
        · have k : s0.toNat ≤ n0.toNat := k
          exact .inl ⟨by show (s0 + 1#64).toNat ≤ _; omega, k'⟩
        · have k : n0.toNat < s0.toNat := k
          exact .inr ⟨by show _ < (s0 + 1#64).toNat; omega, k', k''⟩
  · rintro ⟨s0, s1, s2⟩ r hI e hJ
    have hI : (0 : Int) ≤ s0.toInt := hI
    unfold stG at e
    dsimp only at e
    cases c1 : BitVec.slt s0 x0.w <;> rw [c1] at e
    · rw [cond_f'] at e
      obtain rfl : (s2, s1) = r := by simpa using e
      rcases hJ with ⟨k, _⟩ | ⟨_, k1, k2⟩
      · exfalso
        have k : s0.toNat ≤ n0.toNat := k
        rw [slt_iff, decide_eq_false_iff_not] at c1
        rw [slt_iff, decide_eq_true_eq] at hn
        have := ge0_toNat hI
        omega
      · have k1 : s1 = false := k1
        have k2 : s2 = F x1 n0 := k2
        rw [k1, k2]
    · exfalso
      revert e
      cases m_tnum_Has ra1 s0 <;> cases BitVec.ult (x0.w - 1#64) x0.b.umax <;> cases BitVec.ult s0 x0.b.umin <;> cases BitVec.ult x0.b.umax s0 <;> cases s1 <;> simp only [cond_t', cond_f'] <;> intro e <;> cases e
theorem lp_one {F : S → BitVec 64 → S} {a c : S} {n : BitVec 64} {μ : (BitVec 64) × (Bool) × (S) → Nat} {zr : S × Bool} (hn : n.toNat < 64)
    (hf : Falls (stG F ⟨a, K n, 64#64⟩ c (m_tnum_And (K n).t (m_tnum_Const (64#64 - 1#64)))) μ (fun s => (0 : Int) ≤ s.1.toInt)) :
    lp (stG F ⟨a, K n, 64#64⟩ c (m_tnum_And (K n).t (m_tnum_Const (64#64 - 1#64)))) zr μ (0#64, true, zS) = (F c n, false) := by
  have nt := toInt_cond n
  have hpos : n.toInt = (n.toNat : Int) := by split at nt <;> omega
  have e63 : n &&& (64#64 - 1#64) = n := BitVec.eq_of_toNat_eq (by rw [and_mod n 6 _ (by decide)]; exact Nat.mod_eq_of_lt hn)
  refine lpK hf (n0 := n) ?_ ?_ ?_ rfl rfl (by omega) (0#64, true, zS) (by show (0 : Int) ≤ (0#64).toInt; decide) (.inl ⟨by show (0#64).toNat ≤ _; exact Nat.zero_le _, rfl⟩)
  · rw [slt_iff, decide_eq_true_eq]; show n.toInt < (64#64).toInt; rw [show (64#64 : BitVec 64).toInt = 64 from by decide]; omega
  · have := tand_has (hs_K.2 rfl : hs (K n) n).1 (tconst_has (64#64 - 1#64))
    rw [e63] at this
    exact (thas_iff _ _).2 this
  · rw [ult_iff, decide_eq_false_iff_not]; show ¬ (64#64 - 1#64 : BitVec 64).toNat < n.toNat; rw [show (64#64 - 1#64 : BitVec 64).toNat = 63 from by decide]; omega
theorem rsh_one {n : BitVec 64} (hn : n.toNat < 64) : m_scalar_operands_rsh ⟨a, K n, 64#64⟩ = m_scalar_settle (m_scalar_shiftRight a n) := by
  unfold m_scalar_operands_rsh m_scalar_operands_shift_135 lp_scalar_operands_shift_135_L0
  have hf := dec_scalar_operands_shift_135_L0 ⟨a, K n, 64#64⟩ a (m_tnum_Const (64#64 - 1#64)) (m_tnum_And (K n).t (m_tnum_Const (64#64 - 1#64))) rfl
  rw [st135_eq] at hf ⊢
  have k := lp_one (a := a) (c := a) (zr := ((⟨(⟨0#64, 0#64⟩ : T), 0#64, 0#64, 0#64, 0#64⟩ : S), false)) hn hf
  dsimp only at k ⊢
  rw [k, cond_f']
theorem lsh_one {n : BitVec 64} (hn : n.toNat < 64) : m_scalar_operands_lsh ⟨a, K n, 64#64⟩ = m_scalar_settle (m_scalar_shiftLeft a n) := by
  unfold m_scalar_operands_lsh m_scalar_operands_shift_134 lp_scalar_operands_shift_134_L0
  have hf := dec_scalar_operands_shift_134_L0 ⟨a, K n, 64#64⟩ a (m_tnum_Const (64#64 - 1#64)) (m_tnum_And (K n).t (m_tnum_Const (64#64 - 1#64))) rfl
  rw [st134_eq] at hf ⊢
  have k := lp_one (a := a) (c := a) (zr := ((⟨(⟨0#64, 0#64⟩ : T), 0#64, 0#64, 0#64, 0#64⟩ : S), false)) hn hf
  dsimp only at k ⊢
  rw [k, cond_f']
theorem by_lt (v : BitVec 8) : ((v % 64#8).setWidth 64).toNat < 64 := by
  rw [BitVec.toNat_setWidth, BitVec.toNat_umod, show (64#8 : BitVec 8).toNat = 64 from by decide]; omega
theorem mod64 {n : BitVec 64} (hn : n.toNat < 64) : (n % 64#64).toNat = n.toNat := by
  rw [BitVec.toNat_umod, show (64#64 : BitVec 64).toNat = 64 from by decide]; exact Nat.mod_eq_of_lt hn
theorem t_rsh {n : BitVec 64} (hn : n.toNat < 64) (ha : isS a) (hx : hs a x) : BitVec.ult (a.umax >>> n.toNat) (m_scalar_Do 7#64 true a (K n)).umax = false := by
  refine do_split (Pr := fun D => BitVec.ult (a.umax >>> n.toNat) D.umax = false) (dod7 ha (isS_K n)) ?_ ?_
  · intro e1 e2
    rw [alu7, cond_t', K_umin, mod64 hn, ult_iff, decide_eq_false_iff_not, ← e1]
    exact Nat.lt_irrefl _
  · obtain ⟨ia, xa, ea⟩ := ex_all ha hx
    rw [exact_K, rsh_one hn]
    generalize m_scalar_exact a = a' at *
    have k := (settle_has (by_right xa hn)).sub.2.2.1
    have e : (m_scalar_shiftRight a' n).umax = a'.umax >>> n.toNat := rfl
    have q := ea.2.2.1
    rw [e, BitVec.toNat_ushiftRight, Nat.shiftRight_eq_div_pow] at k
    rw [ult_iff, decide_eq_false_iff_not, BitVec.toNat_ushiftRight, Nat.shiftRight_eq_div_pow]
    have := Nat.div_le_div_right (c := 2 ^ n.toNat) q
    omega
theorem t_lsh {n : BitVec 64} (hn : n.toNat < 64) (ha : isS a) (hx : hs a x) (h : BitVec.ult (18446744073709551615#64 >>> n.toNat) a.umax = false) : BitVec.ult (a.umax <<< n.toNat) (m_scalar_Do 6#64 true a (K n)).umax = false := by
  refine do_split (Pr := fun D => BitVec.ult (a.umax <<< n.toNat) D.umax = false) (dod6 ha (isS_K n)) ?_ ?_
  · intro e1 e2
    rw [alu6, cond_t', K_umin, mod64 hn, ult_iff, decide_eq_false_iff_not, ← e1]
    exact Nat.lt_irrefl _
  · obtain ⟨ia, xa, ea⟩ := ex_all ha hx
    rw [exact_K, lsh_one hn]
    generalize m_scalar_exact a = a' at *
    have q := ea.2.2.1
    rw [ult_iff, decide_eq_false_iff_not] at h
    have k := (settle_has (by_left xa hn)).sub.2.2.1
    have e : (m_scalar_shiftLeft a' n).umax = a'.umax <<< n.toNat := by
      unfold m_scalar_shiftLeft
      rw [show BitVec.ult (18446744073709551615#64 >>> n.toNat) a'.umax = false from by rw [ult_iff]; exact decide_eq_false (by omega), cond_f']
    rw [BitVec.toNat_ushiftRight, Nat.shiftRight_eq_div_pow, show (18446744073709551615#64 : BitVec 64).toNat = 18446744073709551615 from by decide] at h
    have hp := Nat.two_pow_pos n.toNat
    have k0 : a.umax.toNat * 2 ^ n.toNat ≤ 18446744073709551615 := (Nat.le_div_iff_mul_le hp).1 (by omega)
    have k1 := Nat.mul_le_mul_right (2 ^ n.toNat) q
    have sh : ∀ u : BitVec 64, u.toNat * 2 ^ n.toNat ≤ 18446744073709551615 → (u <<< n.toNat).toNat = u.toNat * 2 ^ n.toNat := fun u hu => by
      rw [BitVec.toNat_shiftLeft, Nat.shiftLeft_eq]; exact Nat.mod_eq_of_lt (by omega)
    rw [e, sh _ (by omega)] at k
    rw [ult_iff, decide_eq_false_iff_not, sh _ k0]
    omega
end
end Go.Proofs.YtmhiiahfjoijgaaGreat
