/-
  Branches on scalars: what each rule keeps.
-/
import Derived.Test.YtmhiiahfjoijgaaGreatL7MF
import Derived.Test.YtmhiiahfjoijgaaGreatL7D
namespace Go.Proofs.YtmhiiahfjoijgaaGreat
open Go.RowKit
set_option linter.unusedVariables false
set_option linter.unusedSimpArgs false
theorem inc_n {x : BitVec 64} (h : x.toNat < 18446744073709551615) : (x + 1#64).toNat = x.toNat + 1 := by
  have c := add_n x 1#64
  rw [show (1#64 : BitVec 64).toNat = 1 from rfl] at c
  omega
theorem dec_n {x : BitVec 64} (h : 0 < x.toNat) : (x - 1#64).toNat = x.toNat - 1 := by
  have c := sub_n x 1#64
  have := x.isLt
  rw [show (1#64 : BitVec 64).toNat = 1 from rfl] at c
  omega
theorem lim (x : BitVec 64) : -9223372036854775808 ≤ x.toInt ∧ x.toInt ≤ 9223372036854775807 := by
  have := toInt_cond x; have := x.isLt; split at * <;> omega
theorem inc_i {x : BitVec 64} (h : x.toInt < 9223372036854775807) : (x + 1#64).toInt = x.toInt + 1 := by
  have c1 := toInt_cond x; have c2 := toInt_cond (x + 1#64); have c3 := add_n x 1#64
  have := x.isLt
  rw [show (1#64 : BitVec 64).toNat = 1 from rfl] at c3
  split at c1 <;> split at c2 <;> omega
theorem dec_i {x : BitVec 64} (h : -9223372036854775808 < x.toInt) : (x - 1#64).toInt = x.toInt - 1 := by
  have c1 := toInt_cond x; have c2 := toInt_cond (x - 1#64); have c3 := sub_n x 1#64
  have := x.isLt
  rw [show (1#64 : BitVec 64).toNat = 1 from rfl] at c3
  split at c1 <;> split at c2 <;> omega
/-- What a rule makes of two sides: no pair is lost, both stay within, of constants it tells. -/
structure Rl (R : BitVec 64 → BitVec 64 → Prop) (a b : S) (q : SS × Bool) : Prop where
  keep : ∀ x y, hs a x → hs b y → R x y → q.2 = true ∧ hs q.1.a x ∧ hs q.1.b y
  isa : q.2 = true → isS q.1.a ∧ isS q.1.b ∧ sub' q.1.a a ∧ sub' q.1.b b
  con : q.2 = true → ∀ x y, a = K x → b = K y → R x y
theorem Rl.no {R : BitVec 64 → BitVec 64 → Prop} {a b : S} (h : ∀ x y, hs a x → hs b y → ¬ R x y) (p : SS) : Rl R a b (p, false) :=
  ⟨fun x y hx hy r => absurd r (h x y hx hy), fun k => absurd (show false = true from k) (by decide), fun k => absurd (show false = true from k) (by decide)⟩
theorem Rl.flip {R : BitVec 64 → BitVec 64 → Prop} {a b : S} {q : SS × Bool} (h : Rl R b a q) : Rl (fun x y => R y x) a b (⟨q.1.b, q.1.a⟩, q.2) :=
  ⟨fun x y hx hy r => ⟨(h.keep y x hy hx r).1, (h.keep y x hy hx r).2.2, (h.keep y x hy hx r).2.1⟩,
   fun k => ⟨(h.isa k).2.1, (h.isa k).1, (h.isa k).2.2.2, (h.isa k).2.2.1⟩, fun k x y e f => h.con k y x f e⟩
theorem Rl.iff {R R' : BitVec 64 → BitVec 64 → Prop} {a b : S} {q : SS × Bool} (h : Rl R a b q) (e : ∀ x y, R x y ↔ R' x y) : Rl R' a b q :=
  ⟨fun x y hx hy r => h.keep x y hx hy ((e x y).2 r), h.isa, fun k x y p q => (e x y).1 (h.con k x y p q)⟩
theorem sync_sub {f a : S} (h : sub' f a) (hw : wf a.t) : ((m_Sync f).2 = false ∧ ∀ x, ¬ hs f x) ∨ ((m_Sync f).2 = true ∧ isS (m_Sync f).1 ∧ sub' (m_Sync f).1 a ∧ ∀ x, hs f x ↔ hs (m_Sync f).1 x) := by
  rcases sync_cases f with ⟨e, k⟩ | ⟨t, e, k⟩
  · rw [e]; exact .inl ⟨rfl, k⟩
  · rw [e]; exact .inr ⟨rfl, k.isS, k.sub.trans h, k.keep⟩
theorem synced_eq (f g : S) : m_scalar_relation_synced ⟨f, g⟩ = (⟨(m_Sync f).1, (m_Sync g).1⟩, (m_Sync f).2 && (m_Sync g).2) := by
  unfold m_scalar_relation_synced
  dsimp only
  cases (m_Sync f).2 <;> rfl
theorem synced_rl {R : BitVec 64 → BitVec 64 → Prop} {a b f g : S} (ha : isS a) (hb : isS b) (hf : sub' f a) (hg : sub' g b)
    (hk : ∀ x y, hs a x → hs b y → R x y → hs f x ∧ hs g y) (hc : ∀ x y, a = K x → b = K y → hs f x → hs g y → R x y) :
    Rl R a b (m_scalar_relation_synced ⟨f, g⟩) := by
  rw [synced_eq]
  rcases sync_sub hf ha.wf with ⟨e, k⟩ | ⟨e, i1, s1, k1⟩
  · rw [e, Bool.false_and]
    exact .no (fun x y hx hy r => k x (hk x y hx hy r).1) _
  · rcases sync_sub hg hb.wf with ⟨e', k⟩ | ⟨e', i2, s2, k2⟩
    · rw [e', Bool.and_false]
      exact .no (fun x y hx hy r => k y (hk x y hx hy r).2) _
    · rw [e, e']
      refine ⟨fun x y hx hy r => ⟨rfl, (k1 x).1 (hk x y hx hy r).1, (k2 y).1 (hk x y hx hy r).2⟩, fun _ => ⟨i1, i2, s1, s2⟩, fun _ x y ea eb => ?_⟩
      have h1 : (m_Sync f).1 = K x := sub_K i1.good (ea ▸ s1)
      have h2 : (m_Sync g).1 = K y := sub_K i2.good (eb ▸ s2)
      exact hc x y ea eb ((k1 x).2 (by rw [h1]; exact hs_K.2 rfl)) ((k2 y).2 (by rw [h2]; exact hs_K.2 rfl))
theorem sub_ends {a : S} {t : T} {u1 u2 s1 s2 : BitVec 64} (ht : inn t a.t) (h1 : a.umin.toNat ≤ u1.toNat) (h2 : u2.toNat ≤ a.umax.toNat) (h3 : a.smin.toInt ≤ s1.toInt) (h4 : s2.toInt ≤ a.smax.toInt) : sub' (⟨t, u1, u2, s1, s2⟩ : S) a := ⟨ht, h1, h2, h3, h4⟩
theorem above_rl {a b : S} (ha : isS a) (hb : isS b) : Rl (fun x y => y.toNat < x.toNat) a b (m_scalar_relation_above ⟨a, b⟩) := by
  unfold m_scalar_relation_above
  dsimp only
  have mx : (18446744073709551615#64).toNat = 18446744073709551615 := by decide
  cases h1 : b.umin == 18446744073709551615#64
  · cases h2 : a.umax == 0#64
    · rw [cond_f', cond_f']
      have n1 : b.umin.toNat < 18446744073709551615 := by
        have := b.umin.isLt
        have h1 : ¬ b.umin = 18446744073709551615#64 := by simpa using h1
        rw [BitVec.toNat_eq, mx] at h1; omega
      have n2 : 0 < a.umax.toNat := by
        have h2 : ¬ a.umax = 0#64 := by simpa using h2
        rw [BitVec.toNat_eq] at h2; simp at h2; omega
      have e1 : (b.umin + 1#64).toNat = b.umin.toNat + 1 := inc_n n1
      have e2 : (a.umax - 1#64).toNat = a.umax.toNat - 1 := dec_n n2
      refine synced_rl ha hb (sub_ends (inn_refl _) (by rw [uMax_n]; omega) (Nat.le_refl _) (Int.le_refl _) (Int.le_refl _)) (sub_ends (inn_refl _) (Nat.le_refl _) (by rw [uMin_n]; omega) (Int.le_refl _) (Int.le_refl _)) ?_ ?_
      · intro x y hx hy r
        have q1 := hx.2.1; have q2 := hx.2.2.1; have q3 := hy.2.1; have q4 := hy.2.2.1
        exact ⟨mk_hs hx.1 (by rw [uMax_n, e1]; omega) q2 hx.2.2.2.1 hx.2.2.2.2, mk_hs hy.1 q3 (by rw [uMin_n, e2]; omega) hy.2.2.2.1 hy.2.2.2.2⟩
      · intro x y ea eb hx hy
        have q := hx.2.1
        dsimp only at q
        rw [uMax_n, e1, eb] at q
        have : (K y).umin.toNat = y.toNat := rfl
        show y.toNat < x.toNat
        omega
    · rw [cond_f', cond_t']
      refine .no (fun x y hx hy r => ?_) _
      have e : a.umax = 0#64 := eq_of_beq h2
      have := hx.2.2.1
      rw [e] at this
      have z : (0#64 : BitVec 64).toNat = 0 := rfl
      have : y.toNat < x.toNat := r
      omega
  · rw [cond_t']
    refine .no (fun x y hx hy r => ?_) _
    have e : b.umin = _ := eq_of_beq h1
    have := hy.2.1
    rw [e, mx] at this
    have := x.isLt
    have : y.toNat < x.toNat := r
    omega
theorem notBelow_rl {a b : S} (ha : isS a) (hb : isS b) : Rl (fun x y => y.toNat ≤ x.toNat) a b (m_scalar_relation_notBelow ⟨a, b⟩) := by
  unfold m_scalar_relation_notBelow
  dsimp only
  refine synced_rl ha hb (sub_ends (inn_refl _) (by rw [uMax_n]; omega) (Nat.le_refl _) (Int.le_refl _) (Int.le_refl _)) (sub_ends (inn_refl _) (Nat.le_refl _) (by rw [uMin_n]; omega) (Int.le_refl _) (Int.le_refl _)) ?_ ?_
  · intro x y hx hy r
    have q1 := hx.2.1; have q2 := hx.2.2.1; have q3 := hy.2.1; have q4 := hy.2.2.1
    have r : y.toNat ≤ x.toNat := r
    exact ⟨mk_hs hx.1 (by rw [uMax_n]; omega) q2 hx.2.2.2.1 hx.2.2.2.2, mk_hs hy.1 q3 (by rw [uMin_n]; omega) hy.2.2.2.1 hy.2.2.2.2⟩
  · intro x y ea eb hx hy
    have q := hx.2.1
    dsimp only at q
    rw [uMax_n, eb] at q
    have : (K y).umin.toNat = y.toNat := rfl
    show y.toNat ≤ x.toNat
    omega
theorem aboveSigned_rl {a b : S} (ha : isS a) (hb : isS b) : Rl (fun x y => y.toInt < x.toInt) a b (m_scalar_relation_aboveSigned ⟨a, b⟩) := by
  unfold m_scalar_relation_aboveSigned
  dsimp only
  have mx : (9223372036854775807#64).toInt = 9223372036854775807 := by decide
  have mn : (9223372036854775808#64).toInt = -9223372036854775808 := by decide
  cases h1 : b.smin == 9223372036854775807#64
  · cases h2 : a.smax == 9223372036854775808#64
    · rw [cond_f', cond_f']
      have n1 : b.smin.toInt < 9223372036854775807 := by
        have := lim b.smin
        have h1 : ¬ b.smin = 9223372036854775807#64 := by simpa using h1
        rw [← BitVec.toInt_inj, mx] at h1; omega
      have n2 : -9223372036854775808 < a.smax.toInt := by
        have := lim a.smax
        have h2 : ¬ a.smax = 9223372036854775808#64 := by simpa using h2
        rw [← BitVec.toInt_inj, mn] at h2; omega
      have e1 := inc_i n1
      have e2 := dec_i n2
      refine synced_rl ha hb (sub_ends (inn_refl _) (Nat.le_refl _) (Nat.le_refl _) (by rw [sMax_i]; omega) (Int.le_refl _)) (sub_ends (inn_refl _) (Nat.le_refl _) (Nat.le_refl _) (Int.le_refl _) (by rw [sMin_i]; omega)) ?_ ?_
      · intro x y hx hy r
        have q1 := hx.2.2.2.1; have q2 := hx.2.2.2.2; have q3 := hy.2.2.2.1; have q4 := hy.2.2.2.2
        have r : y.toInt < x.toInt := r
        exact ⟨mk_hs hx.1 hx.2.1 hx.2.2.1 (by rw [sMax_i, e1]; omega) q2, mk_hs hy.1 hy.2.1 hy.2.2.1 q3 (by rw [sMin_i, e2]; omega)⟩
      · intro x y ea eb hx hy
        have q := hx.2.2.2.1
        dsimp only at q
        rw [sMax_i, e1, eb] at q
        have : (K y).smin.toInt = y.toInt := rfl
        show y.toInt < x.toInt
        omega
    · rw [cond_f', cond_t']
      refine .no (fun x y hx hy r => ?_) _
      have e : a.smax = _ := eq_of_beq h2
      have := hx.2.2.2.2
      rw [e, mn] at this
      have := lim y
      have : y.toInt < x.toInt := r
      omega
  · rw [cond_t']
    refine .no (fun x y hx hy r => ?_) _
    have e : b.smin = _ := eq_of_beq h1
    have := hy.2.2.2.1
    rw [e, mx] at this
    have := lim x
    have : y.toInt < x.toInt := r
    omega
theorem notBelowSigned_rl {a b : S} (ha : isS a) (hb : isS b) : Rl (fun x y => y.toInt ≤ x.toInt) a b (m_scalar_relation_notBelowSigned ⟨a, b⟩) := by
  unfold m_scalar_relation_notBelowSigned
  dsimp only
  refine synced_rl ha hb (sub_ends (inn_refl _) (Nat.le_refl _) (Nat.le_refl _) (by rw [sMax_i]; omega) (Int.le_refl _)) (sub_ends (inn_refl _) (Nat.le_refl _) (Nat.le_refl _) (Int.le_refl _) (by rw [sMin_i]; omega)) ?_ ?_
  · intro x y hx hy r
    have q1 := hx.2.2.2.1; have q2 := hx.2.2.2.2; have q3 := hy.2.2.2.1; have q4 := hy.2.2.2.2
    have r : y.toInt ≤ x.toInt := r
    exact ⟨mk_hs hx.1 hx.2.1 hx.2.2.1 (by rw [sMax_i]; omega) q2, mk_hs hy.1 hy.2.1 hy.2.2.1 q3 (by rw [sMin_i]; omega)⟩
  · intro x y ea eb hx hy
    have q := hx.2.2.2.1
    dsimp only at q
    rw [sMax_i, eb] at q
    have : (K y).smin.toInt = y.toInt := rfl
    show y.toInt ≤ x.toInt
    omega
/-- Two scalars met. -/
theorem meet_any {a b : S} (ha : isS a) (hb : isS b) : ((m_scalar_Meet a b).2 = false ∧ (m_scalar_Meet a b).1 = zS ∧ ∀ x, hs a x → ¬ hs b x) ∨
    ((m_scalar_Meet a b).2 = true ∧ isS (m_scalar_Meet a b).1 ∧ sub' (m_scalar_Meet a b).1 a ∧ sub' (m_scalar_Meet a b).1 b ∧ ∀ x, hs a x → hs b x → hs (m_scalar_Meet a b).1 x) := by
  unfold m_scalar_Meet
  rw [known_of ha, known_of hb, meet_eq, kn_wf ha.wf, kn_wf hb.wf]
  by_cases hp : apart a.t b.t
  · rw [if_pos hp]
    exact .inl ⟨rfl, rfl, fun x hx hy => (meet_has hx.1 hy.1).1 hp⟩
  · rw [if_neg hp]
    dsimp only
    rw [cond_t']
    have hk : ∀ x, hs a x → hs b x → hs (⟨pmeet a.t b.t, uMax a.umin b.umin, uMin a.umax b.umax, sMax a.smin b.smin, sMin a.smax b.smax⟩ : S) x := fun x hx hy =>
      mk_hs (meet_has hx.1 hy.1).2 (by rw [uMax_n]; have := hx.2.1; have := hy.2.1; omega) (by rw [uMin_n]; have := hx.2.2.1; have := hy.2.2.1; omega)
        (by rw [sMax_i]; have := hx.2.2.2.1; have := hy.2.2.2.1; omega) (by rw [sMin_i]; have := hx.2.2.2.2; have := hy.2.2.2.2; omega)
    have s1 : sub' (⟨pmeet a.t b.t, uMax a.umin b.umin, uMin a.umax b.umax, sMax a.smin b.smin, sMin a.smax b.smax⟩ : S) a :=
      sub_ends (pmeet_inn ha.wf hb.wf hp) (by rw [uMax_n]; omega) (by rw [uMin_n]; omega) (by rw [sMax_i]; omega) (by rw [sMin_i]; omega)
    have s2 : sub' (⟨pmeet a.t b.t, uMax a.umin b.umin, uMin a.umax b.umax, sMax a.smin b.smin, sMin a.smax b.smax⟩ : S) b :=
      sub_ends (by rw [pmeet_comm]; exact pmeet_inn hb.wf ha.wf (fun k => hp ((apart_comm _ _).1 k))) (by rw [uMax_n]; omega) (by rw [uMin_n]; omega) (by rw [sMax_i]; omega) (by rw [sMin_i]; omega)
    generalize (⟨pmeet a.t b.t, uMax a.umin b.umin, uMin a.umax b.umax, sMax a.smin b.smin, sMin a.smax b.smax⟩ : S) = f at *
    rcases sync_cases f with ⟨e, k⟩ | ⟨t, e, k⟩
    · rw [e]; exact .inl ⟨rfl, rfl, fun x hx hy => k x (hk x hx hy)⟩
    · rw [e]; exact .inr ⟨rfl, k.isS, k.sub.trans s1, k.sub.trans s2, fun x hx hy => (k.keep x).1 (hk x hx hy)⟩
theorem equal_rl {a b : S} (ha : isS a) (hb : isS b) : Rl (fun x y => x = y) a b (m_scalar_relation_equal ⟨a, b⟩) := by
  unfold m_scalar_relation_equal
  dsimp only
  rcases meet_any ha hb with ⟨e, _, k⟩ | ⟨e, i, s1, s2, k⟩
  · rw [e]
    refine .no (fun x y hx hy r => ?_) _
    subst r; exact k x hx hy
  · refine ⟨fun x y hx hy r => ?_, fun _ => ⟨i, i, s1, s2⟩, fun _ x y ea eb => ?_⟩
    · subst r; exact ⟨e, k x hx hy, k x hx hy⟩
    · subst ea; subst eb
      have h1 := sub_K i.good s1
      have h2 := sub_K i.good s2
      have h3 : K x = K y := h1.symm.trans h2
      exact congrArg S.umin h3
end Go.Proofs.YtmhiiahfjoijgaaGreat
