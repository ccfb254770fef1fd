/-
  Scalars: being one, having a number, constants, ranges, joins.
-/
import Derived.Test.YtmhiiahfjoijgaaGreatL7M1
namespace Go.Proofs.YtmhiiahfjoijgaaGreat
open Go.RowKit
set_option linter.unusedVariables false
set_option linter.unusedSimpArgs false
theorem is_iff (s : S) : m_scalar_Is s = true ↔ isS s := by
  unfold m_scalar_Is isS
  rcases sync_cases s with ⟨e, _⟩ | ⟨t, e, _⟩ <;> rw [e] <;> simp
theorem known_of {s : S} (h : isS s) : m_scalar_known s = s := by
  unfold m_scalar_known
  rw [(is_iff s).2 h]; rfl
theorem known_is (s : S) : isS (m_scalar_known s) := by
  unfold m_scalar_known
  cases h : m_scalar_Is s
  · exact isS_U
  · exact (is_iff s).1 h
theorem thas_iff (t : T) (x : BitVec 64) : m_tnum_Has t x = true ↔ has t x := by
  unfold m_tnum_Has m_tnum_Is has
  cases h : (t.v &&& t.m == 0#64)
  · have : ¬ t.v &&& t.m = 0#64 := by simpa using h
    simp [this]
  · have : t.v &&& t.m = 0#64 := by simpa using h
    simp [this]
theorem has_iff (s : S) (x : BitVec 64) : m_scalar_Has s x = true ↔ hs s x := by
  unfold m_scalar_Has hs
  have h1 := thas_iff s.t x
  simp only [ult_iff, slt_iff]
  cases h : m_tnum_Has s.t x
  · rw [h] at h1
    simp only [cond_false]
    constructor
    · intro k; cases k
    · intro k; exact absurd (h1.2 k.1) (by decide)
  · rw [h] at h1
    have h1 := h1.1 rfl
    simp only [cond_true]
    simp only [Bool.cond_eq_ite, decide_eq_true_eq]
    split
    · simp; intro _; omega
    · split
      · simp; intro _ _; omega
      · split
        · simp; intro _ _ _; omega
        · simp only [Bool.not_eq_true', decide_eq_false_iff_not]
          constructor
          · intro k; exact ⟨h1, by omega, by omega, by omega, by omega⟩
          · intro k; omega
theorem join_eq (a b : T) : m_tnum_Join a b = pjoin (kn a) (kn b) := by
  unfold m_tnum_Join m_tnum_of_142 m_tnum_pair_join m_tnum_without
  rw [kn_eq, kn_eq]
  rfl
theorem tin_iff {a b : T} (ha : wf a) (hb : wf b) : m_tnum_In a b = true ↔ inn a b := by
  unfold m_tnum_In
  rw [join_eq, kn_eq, kn_wf ha, kn_wf hb, join_inn ha hb, decide_eq_true_eq]
theorem in_iff {a b : S} (ha : isS a) (hb : isS b) : m_scalar_In a b = true ↔ sub' a b := by
  unfold m_scalar_In sub'
  rw [known_of ha, known_of hb]
  have h1 := tin_iff ha.good.1 hb.good.1
  simp only [ult_iff, slt_iff]
  cases h : m_tnum_In a.t b.t
  · rw [h] at h1
    simp only [cond_false]
    constructor
    · intro k; cases k
    · intro k; exact absurd (h1.2 k.1) (by decide)
  · rw [h] at h1
    have h1 := h1.1 rfl
    simp only [cond_true]
    simp only [Bool.cond_eq_ite, decide_eq_true_eq]
    split
    · simp; intro _; omega
    · split
      · simp; intro _ _; omega
      · split
        · simp; intro _ _ _; omega
        · simp only [Bool.not_eq_true', decide_eq_false_iff_not]
          constructor
          · intro k; exact ⟨h1, by omega, by omega, by omega, by omega⟩
          · intro k; omega
theorem S.ext' {a b : S} (h1 : a.t = b.t) (h2 : a.umin = b.umin) (h3 : a.umax = b.umax) (h4 : a.smin = b.smin) (h5 : a.smax = b.smax) : a = b := by
  cases a; cases b; simp only at h1 h2 h3 h4 h5; subst h1 h2 h3 h4 h5; rfl
theorem sub_antisymm {a b : S} (ha : good a) (hb : good b) (h : sub' a b) (k : sub' b a) : a = b := by
  refine S.ext' (inn_eq ha.1 hb.1 h.1 ?_) ?_ ?_ ?_ ?_
  · apply bit_ext
    intro i hi
    cases h1 : a.t.m.getLsbD i <;> cases h2 : b.t.m.getLsbD i <;> first | rfl | skip
    · rw [(k.1 i hi h1).1] at h2; cases h2
    · rw [(h.1 i hi h2).1] at h1; cases h1
  · exact BitVec.eq_of_toNat_eq (by have := h.2.1; have := k.2.1; omega)
  · exact BitVec.eq_of_toNat_eq (by have := h.2.2.1; have := k.2.2.1; omega)
  · exact BitVec.eq_of_toInt_eq (by have := h.2.2.2.1; have := k.2.2.2.1; omega)
  · exact BitVec.eq_of_toInt_eq (by have := h.2.2.2.2; have := k.2.2.2.2; omega)
/-! ### Constants -/
abbrev K (n : BitVec 64) : S := m_scalar_Const n
theorem good_K (n : BitVec 64) : good (K n) := ⟨BitVec.and_zero, Nat.le_refl _, Int.le_refl _⟩
theorem hs_K {n x : BitVec 64} : hs (K n) x ↔ x = n := by
  constructor
  · intro h
    exact BitVec.eq_of_toNat_eq (Nat.le_antisymm h.2.2.1 h.2.1)
  · rintro rfl
    refine ⟨⟨BitVec.and_zero, ?_⟩, Nat.le_refl _, Nat.le_refl _, Int.le_refl _, Int.le_refl _⟩
    show x &&& ~~~0#64 = x
    rw [show ~~~0#64 = BitVec.allOnes 64 from by decide, BitVec.and_allOnes]
theorem sub_K {t : S} {n : BitVec 64} (hg : good t) (h : sub' t (K n)) : t = K n := by
  have h1 : n.toNat ≤ t.umin.toNat := h.2.1
  have h2 : t.umax.toNat ≤ n.toNat := h.2.2.1
  have h3 : n.toInt ≤ t.smin.toInt := h.2.2.2.1
  have h4 : t.smax.toInt ≤ n.toInt := h.2.2.2.2
  have g2 := hg.2.1
  have g3 := hg.2.2
  refine S.ext' ?_ (BitVec.eq_of_toNat_eq (show _ = n.toNat by omega)) (BitVec.eq_of_toNat_eq (show _ = n.toNat by omega)) (BitVec.eq_of_toInt_eq (show _ = n.toInt by omega)) (BitVec.eq_of_toInt_eq (show _ = n.toInt by omega))
  refine T.ext' ?_ ?_
  · apply bit_ext
    intro i hi
    exact (h.1 i hi (by show (0#64).getLsbD i = false; simp)).2
  · apply bit_ext
    intro i hi
    rw [(h.1 i hi (by show (0#64).getLsbD i = false; simp)).1]
    show false = (0#64).getLsbD i
    simp
theorem isS_K (n : BitVec 64) : isS (K n) := by
  rcases sync_cases (K n) with ⟨_, h⟩ | ⟨t, e, h⟩
  · exact absurd (hs_K.2 rfl) (h n)
  · have : t = K n := sub_K h.good h.sub
    rw [this] at e; exact e
/-! ### Ranges -/
def btw (l m : BitVec 64) : S := ⟨U.t, l, m, U.smin, U.smax⟩
theorem btw_hs {l m x : BitVec 64} : hs (btw l m) x ↔ l.toNat ≤ x.toNat ∧ x.toNat ≤ m.toNat := by
  have h := hs_U x
  exact ⟨fun k => ⟨k.2.1, k.2.2.1⟩, fun k => ⟨h.1, k.1, k.2, h.2.2.2⟩⟩
theorem between_le {l m : BitVec 64} (h : l.toNat ≤ m.toNat) : Synced (btw l m) (m_scalar_Between l m) :=
  settle_has (s := btw l m) (x := l) (btw_hs.2 ⟨Nat.le_refl _, h⟩)
theorem between_is (l m : BitVec 64) : isS (m_scalar_Between l m) := settle_is _
theorem between_gt {l m : BitVec 64} (h : m.toNat < l.toNat) : m_scalar_Between l m = U := by
  rcases settle_cases (btw l m) with ⟨_, e, _⟩ | ⟨e, k⟩
  · exact e
  · have hn : m_Sync (btw l m) = (zS, false) := by
      unfold m_Sync
      have : none' (btw l m) = true := by
        cases hh : none' (btw l m)
        · have := ((none_iff _).1 hh).2.1
          have e1 : (btw l m).umin = l := rfl
          have e2 : (btw l m).umax = m := rfl
          rw [e1, e2] at this
          omega
        · rfl
      rw [this]; rfl
    rw [hn] at e
    exact absurd (congrArg Prod.snd e) (by simp)
theorem between_has {l m x : BitVec 64} (h : l.toNat ≤ m.toNat) : hs (m_scalar_Between l m) x ↔ l.toNat ≤ x.toNat ∧ x.toNat ≤ m.toNat :=
  ((between_le h).keep x).symm.trans btw_hs
/-! ### Joins -/
theorem wf_pjoin (a b : T) : wf (pjoin a b) := wf_wo _ _
theorem hull_eq (a b : S) (ha : good a) (hb : good b) : m_scalar_hull a b = ⟨pjoin a.t b.t, uMin a.umin b.umin, uMax a.umax b.umax, sMin a.smin b.smin, sMax a.smax b.smax⟩ := by
  unfold m_scalar_hull
  rw [join_eq, kn_wf ha.1, kn_wf hb.1]
theorem uMin_comm (a b : BitVec 64) : uMin a b = uMin b a := BitVec.eq_of_toNat_eq (by rw [uMin_n, uMin_n]; omega)
theorem uMax_comm (a b : BitVec 64) : uMax a b = uMax b a := BitVec.eq_of_toNat_eq (by rw [uMax_n, uMax_n]; omega)
theorem sMin_comm (a b : BitVec 64) : sMin a b = sMin b a := BitVec.eq_of_toInt_eq (by rw [sMin_i, sMin_i]; omega)
theorem sMax_comm (a b : BitVec 64) : sMax a b = sMax b a := BitVec.eq_of_toInt_eq (by rw [sMax_i, sMax_i]; omega)
theorem hull_comm (a b : S) (ha : good a) (hb : good b) : m_scalar_hull a b = m_scalar_hull b a := by
  rw [hull_eq a b ha hb, hull_eq b a hb ha, pjoin_comm, uMin_comm, uMax_comm, sMin_comm, sMax_comm]
theorem sub_hull (a b : S) (ha : good a) (hb : good b) : sub' a (m_scalar_hull a b) := by
  rw [hull_eq a b ha hb]
  refine ⟨inn_pjoin _ _, ?_, ?_, ?_, ?_⟩
  · show (uMin _ _).toNat ≤ _; rw [uMin_n]; omega
  · show _ ≤ (uMax _ _).toNat; rw [uMax_n]; omega
  · show (sMin _ _).toInt ≤ _; rw [sMin_i]; omega
  · show _ ≤ (sMax _ _).toInt; rw [sMax_i]; omega
theorem wf_hull (a b : S) (ha : good a) (hb : good b) : wf (m_scalar_hull a b).t := by
  rw [hull_eq a b ha hb]; exact wf_pjoin _ _
theorem join_def {a b : S} (ha : isS a) (hb : isS b) : m_scalar_Join a b = m_scalar_settle (m_scalar_hull a b) := by
  unfold m_scalar_Join
  rw [known_of ha, known_of hb]
theorem join_synced {a b : S} (ha : isS a) (hb : isS b) : Synced (m_scalar_hull a b) (m_scalar_Join a b) ∧ sub' a (m_scalar_Join a b) := by
  rw [join_def ha hb]
  obtain ⟨t, e, h1, h2⟩ := keep_sync ha (wf_hull a b ha.good hb.good) (sub_hull a b ha.good hb.good)
  rcases settle_cases (m_scalar_hull a b) with ⟨e', _⟩ | ⟨e', _⟩
  · rw [e] at e'; cases e'
  · rw [e] at e'
    obtain rfl : t = m_scalar_settle (m_scalar_hull a b) := by injection e'
    exact ⟨h2, h1⟩
theorem join_is {a b : S} (ha : isS a) (hb : isS b) : isS (m_scalar_Join a b) := (join_synced ha hb).1.isS
theorem join_comm {a b : S} (ha : isS a) (hb : isS b) : m_scalar_Join a b = m_scalar_Join b a := by
  rw [join_def ha hb, join_def hb ha, hull_comm a b ha.good hb.good]
theorem join_left {a b : S} (ha : isS a) (hb : isS b) : sub' a (m_scalar_Join a b) := (join_synced ha hb).2
theorem join_right {a b : S} (ha : isS a) (hb : isS b) : sub' b (m_scalar_Join a b) := by rw [join_comm ha hb]; exact join_left hb ha
/-- The join is the least of those that have both. -/
theorem hull_sub {a b c : S} (ha : good a) (hb : good b) (hc : good c) (h : sub' a c) (k : sub' b c) : sub' (m_scalar_hull a b) c := by
  rw [hull_eq a b ha hb]
  refine ⟨?_, ?_, ?_, ?_, ?_⟩
  · have := pjoin_inn h.1 k.1
    rw [pjoin_self hc.1] at this
    exact this
  · show _ ≤ (uMin _ _).toNat; rw [uMin_n]; have := h.2.1; have := k.2.1; omega
  · show (uMax _ _).toNat ≤ _; rw [uMax_n]; have := h.2.2.1; have := k.2.2.1; omega
  · show _ ≤ (sMin _ _).toInt; rw [sMin_i]; have := h.2.2.2.1; have := k.2.2.2.1; omega
  · show (sMax _ _).toInt ≤ _; rw [sMax_i]; have := h.2.2.2.2; have := k.2.2.2.2; omega
theorem join_least {a b c : S} (ha : isS a) (hb : isS b) (hc : isS c) (h : sub' a c) (k : sub' b c) : sub' (m_scalar_Join a b) c :=
  (join_synced ha hb).1.sub.trans (hull_sub ha.good hb.good hc.good h k)
theorem join_in {a b : S} (ha : isS a) (hb : isS b) (h : sub' a b) : m_scalar_Join a b = b :=
  sub_antisymm (join_is ha hb).good hb.good (join_least ha hb hb h (.refl b)) (join_right ha hb)
theorem join_self {a : S} (ha : isS a) : m_scalar_Join a a = a := join_in ha ha (.refl a)
theorem isS.wf {a : S} (h : isS a) : wf a.t := h.good.1
theorem hs_sub {a b : S} (hb : isS b) (h : sub' a b) {x : BitVec 64} (hx : hs a x) : hs b x := sub_hs hb.wf h hx
end Go.Proofs.YtmhiiahfjoijgaaGreat
