/-
  Branches on scalars: unlike sides, bits in both, the lowest 32 bits.
-/
import Derived.Test.YtmhiiahfjoijgaaGreatL7P1
namespace Go.Proofs.YtmhiiahfjoijgaaGreat
open Go.RowKit
set_option linter.unusedVariables false
set_option linter.unusedSimpArgs false
theorem nconst {s : S} (hi : isS s) (hc : m_scalar_isConst s = false) : s.umin.toNat < s.umax.toNat ∧ s.smin.toInt < s.smax.toInt := by
  have g := hi.good.2.1
  have g2 := hi.good.2.2
  have hne : ¬ s.umin = s.umax := by rw [isConst_iff] at hc; simpa using hc
  have hn : ¬ s.umin.toNat = s.umax.toNat := fun k => hne (BitVec.eq_of_toNat_eq k)
  refine ⟨by omega, ?_⟩
  rcases Int.lt_or_le s.smin.toInt s.smax.toInt with k | k
  · exact k
  · have e : s.smin.toInt = s.smax.toInt := by omega
    have e' : s.smin = s.smax := BitVec.eq_of_toInt_eq e
    have := fix_r3 hi.fix (by rw [e])
    rw [e'] at this
    omega
theorem const_of_s {t : S} (h : isS t) (e : t.smin = t.smax) : t.umin = t.umax := by
  have := fix_r3 h.fix (by rw [e])
  have g := h.good.2.1
  rw [e] at this
  exact BitVec.eq_of_toNat_eq (by omega)
theorem except_eq (s : S) (n : BitVec 64) : m_scalar_except s n = ⟨s.t, if s.umin = n then s.umin + 1#64 else s.umin, if s.umax = n then s.umax - 1#64 else s.umax, if s.smin = n then s.smin + 1#64 else s.smin, if s.smax = n then s.smax - 1#64 else s.smax⟩ := by
  unfold m_scalar_except
  have h : ∀ x : BitVec 64, (x == n) = decide (x = n) := fun x => by rw [Bool.eq_iff_iff]; simp
  rw [h, h, h, h]
  by_cases h1 : s.umin = n <;> by_cases h2 : s.umax = n <;> by_cases h3 : s.smin = n <;> by_cases h4 : s.smax = n <;>
    simp only [h1, h2, h3, h4, decide_true, decide_false, cond_t', cond_f', if_pos, if_neg, not_false_eq_true] <;> (try rw [if_neg (by assumption)]) <;> (try rw [if_neg (by assumption)]) <;> (try rw [if_neg (by assumption)]) <;> rfl
theorem except_sub {s : S} (n : BitVec 64) (hi : isS s) (hc : m_scalar_isConst s = false) : sub' (m_scalar_except s n) s := by
  obtain ⟨h1, h2⟩ := nconst hi hc
  have b1 := s.umax.isLt
  have l1 := lim s.smax
  have l2 := lim s.smin
  rw [except_eq]
  refine sub_ends (inn_refl _) ?_ ?_ ?_ ?_
  · split
    · rw [inc_n (by omega)]; omega
    · exact Nat.le_refl _
  · split
    · rw [dec_n (by omega)]; omega
    · exact Nat.le_refl _
  · split
    · rw [inc_i (by omega)]; omega
    · exact Int.le_refl _
  · split
    · rw [dec_i (by omega)]; omega
    · exact Int.le_refl _
theorem except_keep {s : S} {n y : BitVec 64} (hi : isS s) (hc : m_scalar_isConst s = false) (hy : hs s y) (hne : y ≠ n) : hs (m_scalar_except s n) y := by
  obtain ⟨h1, h2⟩ := nconst hi hc
  have b1 := s.umax.isLt
  have l1 := lim s.smax
  have l2 := lim s.smin
  have n1 : ¬ y.toNat = n.toNat := fun k => hne (BitVec.eq_of_toNat_eq k)
  have n2 : ¬ y.toInt = n.toInt := fun k => hne (BitVec.eq_of_toInt_eq k)
  have q1 := hy.2.1; have q2 := hy.2.2.1; have q3 := hy.2.2.2.1; have q4 := hy.2.2.2.2
  rw [except_eq]
  refine mk_hs hy.1 ?_ ?_ ?_ ?_
  · split
    · rename_i e; rw [inc_n (by omega)]; rw [← e] at n1; omega
    · exact q1
  · split
    · rename_i e; rw [dec_n (by omega)]; rw [← e] at n1; omega
    · exact q2
  · split
    · rename_i e; rw [inc_i (by omega)]; rw [← e] at n2; omega
    · exact q3
  · split
    · rename_i e; rw [dec_i (by omega)]; rw [← e] at n2; omega
    · exact q4
theorem unlike_rl {a b : S} (ha : isS a) (hb : isS b) : Rl (fun x y => x ≠ y) a b (m_scalar_relation_unlike ⟨a, b⟩) := by
  unfold m_scalar_relation_unlike
  dsimp only
  cases ca : m_scalar_isConst a <;> cases cb : m_scalar_isConst b
  · rw [cond_f', cond_f']
    refine synced_rl ha hb (.refl _) (.refl _) (fun x y hx hy r => ⟨hx, hy⟩) (fun x y ea eb hx hy => ?_)
    rw [ea, isConst_K] at ca; cases ca
  · rw [cond_f', cond_t']
    have e := const_of hb (eq_of_beq cb)
    refine synced_rl ha hb (except_sub _ ha ca) (.refl _) (fun x y hx hy r => ⟨except_keep ha ca hx ?_, hy⟩) (fun x y ea eb hx hy => ?_)
    · rw [e] at hy; rw [← hs_K.1 hy]; exact r
    · rw [ea, isConst_K] at ca; cases ca
  · rw [cond_t', cond_f']
    have e := const_of ha (eq_of_beq ca)
    refine synced_rl ha hb (.refl _) (except_sub _ hb cb) (fun x y hx hy r => ⟨hx, except_keep hb cb hy ?_⟩) (fun x y ea eb hx hy => ?_)
    · rw [e] at hx; rw [← hs_K.1 hx]; exact fun k => r k.symm
    · rw [eb, isConst_K] at cb; cases cb
  · rw [cond_t', cond_t']
    have e1 := const_of ha (eq_of_beq ca)
    have e2 := const_of hb (eq_of_beq cb)
    refine ⟨fun x y hx hy r => ⟨?_, hx, hy⟩, fun _ => ⟨ha, hb, .refl _, .refl _⟩, fun k x y ea eb => ?_⟩
    · rw [e1] at hx; rw [e2] at hy
      rw [← hs_K.1 hx, ← hs_K.1 hy]
      show (!(x == y)) = true
      have r : x ≠ y := r
      simpa using r
    · have k : (!(a.umin == b.umin)) = true := k
      rw [ea, eb] at k
      have k : (!(x == y)) = true := k
      show x ≠ y
      simpa using k
theorem withBits_rl {a b : S} (ha : isS a) (hb : isS b) {R : BitVec 64 → BitVec 64 → Prop} {t1 t2 : T} (w1 : wf t1) (w2 : wf t2)
    (hk : ∀ x y, hs a x → hs b y → R x y → has t1 x ∧ has t2 y) (hc : ∀ x y, a = K x → b = K y → has t1 x → has t2 y → R x y) :
    Rl R a b (m_scalar_relation_withBits ⟨a, b⟩ t1 t2) := by
  unfold m_scalar_relation_withBits
  dsimp only
  rw [meet_eq, meet_eq, kn_wf ha.wf, kn_wf hb.wf, kn_wf w1, kn_wf w2]
  by_cases p1 : apart a.t t1
  · have hn : ∀ x y, hs a x → hs b y → ¬ R x y := fun x y hx hy r => (meet_has hx.1 (hk x y hx hy r).1).1 p1
    rw [if_pos p1]
    dsimp only
    rw [cond_f']
    by_cases p2 : apart b.t t2
    · rw [if_pos p2]; exact .no hn _
    · rw [if_neg p2]; exact .no hn _
  · rw [if_neg p1]
    by_cases p2 : apart b.t t2
    · have hn : ∀ x y, hs a x → hs b y → ¬ R x y := fun x y hx hy r => (meet_has hy.1 (hk x y hx hy r).2).1 p2
      rw [if_pos p2]; exact .no hn _
    · rw [if_neg p2]
      dsimp only
      rw [cond_t', cond_t']
      refine synced_rl ha hb (sub_ends (pmeet_inn ha.wf w1 p1) (Nat.le_refl _) (Nat.le_refl _) (Int.le_refl _) (Int.le_refl _)) (sub_ends (pmeet_inn hb.wf w2 p2) (Nat.le_refl _) (Nat.le_refl _) (Int.le_refl _) (Int.le_refl _)) ?_ ?_
      · intro x y hx hy r
        obtain ⟨k1, k2⟩ := hk x y hx hy r
        exact ⟨mk_hs (meet_has hx.1 k1).2 hx.2.1 hx.2.2.1 hx.2.2.2.1 hx.2.2.2.2, mk_hs (meet_has hy.1 k2).2 hy.2.1 hy.2.2.1 hy.2.2.2.1 hy.2.2.2.2⟩
      · intro x y ea eb hx hy
        have i1 : inn (pmeet a.t t1) t1 := by rw [pmeet_comm]; exact pmeet_inn w1 ha.wf (fun k => p1 ((apart_comm _ _).1 k))
        have i2 : inn (pmeet b.t t2) t2 := by rw [pmeet_comm]; exact pmeet_inn w2 hb.wf (fun k => p2 ((apart_comm _ _).1 k))
        exact hc x y ea eb (inn_has w1 i1 hx.1) (inn_has w2 i2 hy.1)
theorem apart_rl {a b : S} (ha : isS a) (hb : isS b) : Rl (fun x y => x &&& y = 0#64) a b (m_scalar_relation_apart ⟨a, b⟩) := by
  unfold m_scalar_relation_apart
  dsimp only
  refine withBits_rl ha hb (BitVec.zero_and) (BitVec.zero_and) ?_ ?_
  · intro x y hx hy r
    have r : x &&& y = 0#64 := r
    have rb : ∀ i, (x.getLsbD i && y.getLsbD i) = false := fun i => by rw [← BitVec.getLsbD_and, r]; simp
    refine ⟨has_of BitVec.zero_and fun i hi hm => ?_, has_of BitVec.zero_and fun i hi hm => ?_⟩
    · have hm : (~~~b.t.v).getLsbD i = false := hm
      have : b.t.v.getLsbD i = true := by rw [BitVec.getLsbD_not] at hm; simpa [hi] using hm
      have := le_lo hy.1 i this
      have q := rb i
      rw [this, Bool.and_true] at q
      rw [q]; show _ = (0#64).getLsbD i; simp
    · have hm : (~~~a.t.v).getLsbD i = false := hm
      have : a.t.v.getLsbD i = true := by rw [BitVec.getLsbD_not] at hm; simpa [hi] using hm
      have := le_lo hx.1 i this
      have q := rb i
      rw [this, Bool.true_and] at q
      rw [q]; show _ = (0#64).getLsbD i; simp
  · intro x y ea eb hx hy
    have h := hx.2
    have e : b.t.v = y := by rw [eb]; rfl
    rw [e] at h
    have h : x &&& ~~~~~~y = 0#64 := h
    rw [BitVec.not_not] at h
    exact h
theorem and_le {a b : S} {x y : BitVec 64} (hx : hs a x) (hy : hs b y) : le (x &&& y) (hi a.t &&& hi b.t) := fun i h => by
  rw [BitVec.getLsbD_and, Bool.and_eq_true] at h
  rw [BitVec.getLsbD_and, le_hi hx.1 i h.1, le_hi hy.1 i h.2]; rfl
theorem meeting_rl {a b : S} (ha : isS a) (hb : isS b) : Rl (fun x y => x &&& y ≠ 0#64) a b (m_scalar_relation_meeting ⟨a, b⟩) := by
  unfold m_scalar_relation_meeting
  dsimp only
  rw [most_eq ha.wf, most_eq hb.wf]
  have hle : ∀ x y, hs a x → hs b y → le (x &&& y) (hi a.t &&& hi b.t) := fun x y => and_le
  have hK : ∀ x y, a = K x → b = K y → hi a.t &&& hi b.t = x &&& y := fun x y ea eb => by
    rw [ea, eb]; show (x ||| 0#64) &&& (y ||| 0#64) = _; rw [BitVec.or_zero, BitVec.or_zero]
  generalize hi a.t &&& hi b.t = bit at *
  cases h0 : bit == 0#64
  · have h0 : ¬ bit = 0#64 := by simpa using h0
    rw [cond_f']
    cases h1 : (bit &&& (bit - 1#64)) == 0#64
    · rw [cond_f']
      exact ⟨fun x y hx hy r => ⟨rfl, hx, hy⟩, fun _ => ⟨ha, hb, .refl _, .refl _⟩, fun _ x y ea eb => by rw [← hK x y ea eb]; exact h0⟩
    · rw [cond_t']
      have h1 : bit &&& (bit - 1#64) = 0#64 := eq_of_beq h1
      have hpos : 0 < bit.toNat := by
        rcases Nat.eq_zero_or_pos bit.toNat with k | k
        · exact absurd (BitVec.eq_of_toNat_eq k) h0
        · exact k
      obtain ⟨k, hk⟩ : ∃ k, bit.toNat = 2 ^ k := pow_of_and (by omega) (by
        have := congrArg BitVec.toNat h1
        rw [BitVec.toNat_and, dec_n hpos] at this
        exact this)
      have hb1 : ∀ j, bit.getLsbD j = decide (j = k) := fun j => by
        show bit.toNat.testBit j = _
        rw [hk, Nat.testBit_two_pow]
        by_cases e : j = k
        · simp [e]
        · simp [e, Ne.symm e]
      have w : wf (⟨bit, ~~~bit⟩ : T) := by
        apply bit_ext; intro i hi'
        show (bit &&& ~~~bit).getLsbD i = (0#64).getLsbD i
        simp [hi']
      refine withBits_rl ha hb w w ?_ ?_
      · intro x y hx hy r
        have r : x &&& y ≠ 0#64 := r
        have : ∃ i, (x &&& y).getLsbD i = true := by
          rcases Classical.em (∃ i, (x &&& y).getLsbD i = true) with q | q
          · exact q
          · exact absurd (bit_ext fun i _ => by
              have : ¬ (x &&& y).getLsbD i = true := fun z => q ⟨i, z⟩
              simpa using this) r
        obtain ⟨i, hi'⟩ := this
        have hbi := hle x y hx hy i hi'
        rw [hb1] at hbi
        have hik : i = k := by simpa using hbi
        subst hik
        rw [BitVec.getLsbD_and, Bool.and_eq_true] at hi'
        refine ⟨has_of w fun j hj hm => ?_, has_of w fun j hj hm => ?_⟩
        all_goals
          have hm : (~~~bit).getLsbD j = false := hm
          have hm : bit.getLsbD j = true := by rw [BitVec.getLsbD_not] at hm; simpa [hj] using hm
          have hji : j = i := by rw [hb1] at hm; simpa using hm
          subst hji
          show _ = bit.getLsbD j
          rw [hm]
        · exact hi'.1
        · exact hi'.2
      · intro x y ea eb hx hy
        rw [← hK x y ea eb]; exact h0
  · rw [cond_t']
    have h0 : bit = 0#64 := eq_of_beq h0
    refine .no (fun x y hx hy r => r (bit_ext fun i _ => ?_)) _
    have := hle x y hx hy i
    rw [h0] at this
    have z : (0#64 : BitVec 64).getLsbD i = false := by simp
    rw [z] at this ⊢
    cases h : (x &&& y).getLsbD i
    · rfl
    · exact absurd (this h) (by decide)
/-- What is known of the lowest 32 bits, put to all that is known. -/
theorem withLow_any {a b : S} (ha : isS a) (hb : isS b) : ((m_scalar_withLow a b).2 = true → isS (m_scalar_withLow a b).1 ∧ sub' (m_scalar_withLow a b).1 a) ∧
    ∀ x, hs a x → hs b (lo x) → (m_scalar_withLow a b).2 = true ∧ hs (m_scalar_withLow a b).1 x := by
  unfold m_scalar_withLow
  rw [ult_iff]
  have mx : (4294967295#64).toNat = 4294967295 := by decide
  by_cases hu : (4294967295#64).toNat < a.umax.toNat
  · rw [decide_eq_true hu, cond_t']
    rw [meet_eq, kn_wf ha.wf]
    have hh : ∀ x, hs b (lo x) → has (kn ⟨b.t.v, b.t.m ||| 18446744069414584320#64⟩) x := fun x hx => by
      have hv : ∀ i, 32 ≤ i → b.t.v.getLsbD i = false := fun i h32 => by
        cases hb' : b.t.v.getLsbD i
        · rfl
        · have := le_lo hx.1 i hb'
          have h2 : (lo x).getLsbD i = false := by
            show (lo x).toNat.testBit i = false
            rw [lo_n, show (4294967296 : Nat) = 2 ^ 32 from rfl, Nat.testBit_mod_two_pow]
            simp; omega
          rw [h2] at this; cases this
      have hm : ∀ i, i < 64 → (18446744069414584320#64 : BitVec 64).getLsbD i = decide (32 ≤ i) := by decide
      have w : wf (⟨b.t.v, b.t.m ||| 18446744069414584320#64⟩ : T) := by
        apply bit_ext; intro i hi'
        show (b.t.v &&& (b.t.m ||| 18446744069414584320#64)).getLsbD i = (0#64).getLsbD i
        rw [BitVec.getLsbD_and, BitVec.getLsbD_or, hm i hi']
        have := wf_bit hb.wf i
        by_cases h32 : 32 ≤ i
        · rw [hv i h32]; simp
        · simp only [h32, decide_false, Bool.or_false, this]; simp
      rw [kn_wf w]
      refine has_of w fun i hi' hmi => ?_
      have hmi : (b.t.m ||| 18446744069414584320#64).getLsbD i = false := hmi
      rw [BitVec.getLsbD_or, hm i hi', Bool.or_eq_false_iff] at hmi
      have h32 : i < 32 := by have := hmi.2; simp at this; omega
      have := has_bit hx.1 i hi' hmi.1
      rw [show (⟨b.t.v, b.t.m ||| 18446744069414584320#64⟩ : T).v = b.t.v from rfl, ← this]
      show _ = (lo x).toNat.testBit i
      rw [lo_n, show (4294967296 : Nat) = 2 ^ 32 from rfl, Nat.testBit_mod_two_pow]
      simp [h32]; rfl
    by_cases hp : apart a.t (kn ⟨b.t.v, b.t.m ||| 18446744069414584320#64⟩)
    · rw [if_pos hp]
      refine ⟨fun k => absurd (show false = true from k) (by decide), fun x hx hl => absurd hp (meet_has hx.1 (hh x hl)).1⟩
    · rw [if_neg hp]
      dsimp only
      rw [cond_t']
      have hs1 : sub' (⟨pmeet a.t (kn ⟨b.t.v, b.t.m ||| 18446744069414584320#64⟩), a.umin, a.umax, a.smin, a.smax⟩ : S) a := sub_ends (pmeet_inn ha.wf (wf_kn _) hp) (Nat.le_refl _) (Nat.le_refl _) (Int.le_refl _) (Int.le_refl _)
      rcases sync_sub hs1 ha.wf with ⟨e, k⟩ | ⟨e, i1, s1, k1⟩
      · refine ⟨fun z => ?_, fun x hx hl => absurd (mk_hs (meet_has hx.1 (hh x hl)).2 hx.2.1 hx.2.2.1 hx.2.2.2.1 hx.2.2.2.2) (k x)⟩
        rw [e] at z; cases z
      · exact ⟨fun _ => ⟨i1, s1⟩, fun x hx hl => ⟨e, (k1 x).1 (mk_hs (meet_has hx.1 (hh x hl)).2 hx.2.1 hx.2.2.1 hx.2.2.2.1 hx.2.2.2.2)⟩⟩
  · rw [decide_eq_false hu, cond_f']
    have hlo : ∀ x, hs a x → lo x = x := fun x hx => BitVec.eq_of_toNat_eq (by
      rw [lo_n]; have := hx.2.2.1; rw [mx] at hu; exact Nat.mod_eq_of_lt (by omega))
    rcases meet_any ha hb with ⟨e, _, k⟩ | ⟨e, i, s1, s2, k⟩
    · refine ⟨fun z => ?_, fun x hx hl => absurd (hlo x hx ▸ hl) (k x hx)⟩
      rw [e] at z; cases z
    · exact ⟨fun _ => ⟨i, s1⟩, fun x hx hl => ⟨e, k x hx (hlo x hx ▸ hl)⟩⟩
theorem settle_low {s : S} (h : isS s) : isS (m_scalar_low s) := by
  unfold m_scalar_low m_scalar_lowest_32
  cases BitVec.ult 4294967295#64 s.umax
  · exact h
  · cases (s.umin >>> 32) == (s.umax >>> 32)
    · exact settle_is _
    · exact settle_is _
/-- A rule on the lowest 32 bits, put to all that is known. -/
def narrow (a b : S) (q : SS × Bool) : SS × Bool :=
  bif q.2 then (bif (m_scalar_withLow a (m_scalar_low q.1.a)).2 then (⟨(m_scalar_withLow a (m_scalar_low q.1.a)).1, (m_scalar_withLow b (m_scalar_low q.1.b)).1⟩, (m_scalar_withLow b (m_scalar_low q.1.b)).2) else (⟨(m_scalar_withLow a (m_scalar_low q.1.a)).1, (m_scalar_withLow b (m_scalar_low q.1.b)).1⟩, false)) else (⟨zS, zS⟩, false)
theorem narrow_rl {R : BitVec 64 → BitVec 64 → Prop} {a b : S} {f : S → S} {g : BitVec 64 → BitVec 64} {q : SS × Bool} (ha : isS a) (hb : isS b)
    (hf : ∀ s x, isS s → hs s x → hs (f s) (g x)) (hK : ∀ x, f (K x) = K (g x)) (hg : ∀ x, lo (g x) = lo x) (hq : Rl R (f a) (f b) q) :
    Rl (fun x y => R (g x) (g y)) a b (narrow a b q) := by
  unfold narrow
  cases e : q.2
  · rw [cond_f']
    refine .no (fun x y hx hy r => ?_) _
    have := (hq.keep _ _ (hf a x ha hx) (hf b y hb hy) r).1
    rw [e] at this; cases this
  · rw [cond_t']
    obtain ⟨i1, i2, _, _⟩ := hq.isa e
    have l1 : isS (m_scalar_low q.1.a) := settle_low i1
    have l2 : isS (m_scalar_low q.1.b) := settle_low i2
    have A := withLow_any ha l1
    have B := withLow_any hb l2
    have hk : ∀ x y, hs a x → hs b y → R (g x) (g y) → hs (m_scalar_low q.1.a) (lo x) ∧ hs (m_scalar_low q.1.b) (lo y) := fun x y hx hy r => by
      obtain ⟨_, k1, k2⟩ := hq.keep _ _ (hf a x ha hx) (hf b y hb hy) r
      exact ⟨by have := (low_has i1 k1).1; rw [show g x &&& 4294967295#64 = lo x from hg x] at this; exact this, by have := (low_has i2 k2).1; rw [show g y &&& 4294967295#64 = lo y from hg y] at this; exact this⟩
    cases e1 : (m_scalar_withLow a (m_scalar_low q.1.a)).2
    · rw [cond_f']
      refine .no (fun x y hx hy r => ?_) _
      have := (A.2 x hx (hk x y hx hy r).1).1
      rw [e1] at this; cases this
    · rw [cond_t']
      refine ⟨fun x y hx hy r => ⟨(B.2 y hy (hk x y hx hy r).2).1, (A.2 x hx (hk x y hx hy r).1).2, (B.2 y hy (hk x y hx hy r).2).2⟩, fun k => ⟨(A.1 e1).1, (B.1 k).1, (A.1 e1).2, (B.1 k).2⟩, fun _ x y ea eb => ?_⟩
      exact hq.con e _ _ (by rw [ea]; exact hK x) (by rw [eb]; exact hK y)
theorem ext_is (s : S) : isS (m_scalar_extend s) := by
  unfold m_scalar_extend
  cases (s.umin >>> 31) == (s.umax >>> 31)
  · exact settle_is _
  · exact settle_is _
theorem ext_K (n : BitVec 64) : m_scalar_extend (K n) = K (sx n) := by
  obtain ⟨h1, h2⟩ := ext_has (hs_K.2 rfl : hs (K n) n)
  have tt : has (m_tnum_Arsh (m_tnum_Lsh (K n).t 32#64) 32#64 true) (sx n) := by
    have hx : hs (K n) n := hs_K.2 rfl
    rw [← sx_eq]
    have h1 : has (m_tnum_Lsh (K n).t 32#64) (n <<< 32) := by
      unfold m_tnum_Lsh
      rw [kn_eq, kn_wf hx.1.1]; exact shl_has hx.1 32
    unfold m_tnum_Arsh
    rw [cond_t', kn_eq, kn_wf h1.1]
    exact sar_has h1 32
  have key : (m_scalar_extend (K n)).smin = (m_scalar_extend (K n)).smax := by
    have e : m_scalar_extend (K n) = m_scalar_settle (⟨m_tnum_Arsh (m_tnum_Lsh (K n).t 32#64) 32#64 true, 0#64, 18446744073709551615#64, sx n, sx n⟩ : S) := by
      unfold m_scalar_extend
      show (bif (n >>> 31) == (n >>> 31) then _ else _) = _
      rw [beq_self_eq_true]; rfl
    have hs1 : hs (⟨m_tnum_Arsh (m_tnum_Lsh (K n).t 32#64) 32#64 true, 0#64, 18446744073709551615#64, sx n, sx n⟩ : S) (sx n) := mk_hs tt (u0 _) (uM _) (Int.le_refl _) (Int.le_refl _)
    have sb := (settle_has hs1).sub
    rw [← e] at sb
    have g := h2.good.2.2
    have a1 : (sx n).toInt ≤ _ := sb.2.2.2.1
    have a2 : _ ≤ (sx n).toInt := sb.2.2.2.2
    exact BitVec.eq_of_toInt_eq (by omega)
  have := const_of h2 (const_of_s h2 key)
  rw [this] at h1 ⊢
  rw [← hs_K.1 h1]
end Go.Proofs.YtmhiiahfjoijgaaGreat
