/-
  By a comparison of its two ends a number is brought into any range, and nowhere else: whatever the input, the law answers true.
-/
import Derived.Test.YtmhiiahfjoijgaaGreatL7O
import Derived.Test.YtmhiiahfjoijgaaGreatL7M2
import Derived.Test.YtmhiiahfjoijgaaGreatL7_ScalarClosed
namespace Go.Proofs.YtmhiiahfjoijgaaGreat.scalarClosed
open Go.ChangeShapes Go.WideShapes Go.ChangeAt Go.RowKit Go.Joins
set_option linter.unusedVariables false
set_option linter.unusedSimpArgs false
theorem uMax_of {a b : BitVec 64} (h : a.toNat ≤ b.toNat) : uMax a b = b := BitVec.eq_of_toNat_eq (by rw [uMax_n]; omega)
theorem uMax_of' {a b : BitVec 64} (h : b.toNat ≤ a.toNat) : uMax a b = a := BitVec.eq_of_toNat_eq (by rw [uMax_n]; omega)
theorem uMin_of {a b : BitVec 64} (h : a.toNat ≤ b.toNat) : uMin a b = a := BitVec.eq_of_toNat_eq (by rw [uMin_n]; omega)
theorem uM' (z : BitVec 64) : z.toNat ≤ (m_scalar_Unknown).umax.toNat := (hs_U z).2.2.1
theorem sync_has {s : S} {x : BitVec 64} (h : hs s x) : ∃ t, m_Sync s = (t, true) ∧ Synced s t := by
  rcases sync_cases s with ⟨_, k⟩ | k
  · exact absurd h (k x)
  · exact k
theorem notBelow_eq (a b s : S) (e : m_Sync ⟨a.t, uMax a.umin b.umin, a.umax, a.smin, a.smax⟩ = (s, true)) (c : S) (e2 : m_Sync ⟨b.t, b.umin, uMin b.umax a.umax, b.smin, b.smax⟩ = (c, true)) : m_scalar_relation_notBelow (⟨a, b⟩ : SS) = (⟨s, c⟩, true) := by
  unfold m_scalar_relation_notBelow m_scalar_relation_synced
  simp only [e, e2, cond_true]
theorem branch_jge (a b : S) (ha : isS a) (hb : isS b) (s c : S) (e : m_scalar_relation_notBelow (⟨a, b⟩ : SS) = (⟨s, c⟩, true)) : m_scalar_Branch 3#64 true true a b = (s, c, true) := by
  have h1 : m_scalar_relation_holds (⟨a, b⟩ : SS) 3#64 = (⟨s, c⟩, true) := by
    unfold m_scalar_relation_holds
    simp only [BitVec.reduceBEq, cond_true, cond_false, e]
  unfold m_scalar_Branch
  rw [known_of ha, known_of hb]
  simp only [h1, cond_true, show (m_alu_Cmp 3#64 true 0#64 0#64).2 = true from by decide]
theorem branch_jle (a b : S) (ha : isS a) (hb : isS b) (s c : S) (e : m_scalar_relation_notBelow (⟨b, a⟩ : SS) = (⟨s, c⟩, true)) : m_scalar_Branch 11#64 true true a b = (c, s, true) := by
  have h1 : m_scalar_relation_holds (⟨a, b⟩ : SS) 11#64 = (⟨c, s⟩, true) := by
    unfold m_scalar_relation_holds m_scalar_relation_turned_112
    simp only [BitVec.reduceBEq, cond_true, cond_false, e]
  unfold m_scalar_Branch
  rw [known_of ha, known_of hb]
  simp only [h1, cond_true, show (m_alu_Cmp 11#64 true 0#64 0#64).2 = true from by decide]
theorem first_g (a : S) (ha : isS a) (x0 : BitVec 64) (h1 : uMax a.umin x0 = x0) (h2 : uMin x0 a.umax = x0) (h3 : (⟨a.t, x0, a.umax, a.smin, a.smax⟩ : S) = btw x0 18446744073709551615#64) :
    ∃ s, m_scalar_Branch 3#64 true true a (m_scalar_Const x0) = (s, K x0, true) ∧ Synced (btw x0 18446744073709551615#64) s := by
  have hx := x0.isLt
  obtain ⟨s, e, hs'⟩ := sync_has (s := btw x0 18446744073709551615#64) (x := x0) (btw_hs.2 ⟨Nat.le_refl _, by show _ ≤ 18446744073709551615; omega⟩)
  refine ⟨s, branch_jge a (K x0) ha (isS_K x0) s (K x0) (notBelow_eq a (K x0) s ?_ (K x0) ?_), hs'⟩
  · show m_Sync ⟨a.t, uMax a.umin x0, a.umax, a.smin, a.smax⟩ = _
    rw [h1, h3]; exact e
  · show m_Sync ⟨(K x0).t, x0, uMin x0 a.umax, x0, x0⟩ = _
    rw [h2]; exact isS_K x0
theorem first (x0 : BitVec 64) : ∃ s, m_scalar_Branch 3#64 true true m_scalar_Unknown (m_scalar_Const x0) = (s, K x0, true) ∧ Synced (btw x0 18446744073709551615#64) s :=
  first_g m_scalar_Unknown isS_U x0 (uMax_of (Nat.zero_le _)) (uMin_of (uM' x0)) rfl
theorem second (x0 x1 : BitVec 64) (hle : x0.toNat ≤ x1.toNat) (s : S) (h : Synced (btw x0 18446744073709551615#64) s) :
    ∃ t, m_scalar_Branch 11#64 true true s (m_scalar_Const x1) = (t, K x1, true) ∧ isS t ∧ t.umin = x0 ∧ t.umax = x1 ∧ ∀ x, hs t x ↔ x0.toNat ≤ x.toNat ∧ x.toNat ≤ x1.toNat := by
  have m0 : ∀ x, hs s x ↔ x0.toNat ≤ x.toNat := fun x => by
    have := x.isLt
    rw [← h.keep x, btw_hs]
    show _ ∧ _ ≤ 18446744073709551615 ↔ _
    omega
  have u0 : s.umin = x0 := BitVec.eq_of_toNat_eq (Nat.le_antisymm ((m0 x0).2 (Nat.le_refl _)).2.1 h.sub.2.1)
  let b' : S := ⟨s.t, s.umin, uMin s.umax x1, s.smin, s.smax⟩
  have mb : ∀ x, hs b' x ↔ x0.toNat ≤ x.toNat ∧ x.toNat ≤ x1.toNat := fun x => by
    rw [← m0 x]
    show (has s.t x ∧ _ ∧ x.toNat ≤ (uMin s.umax x1).toNat ∧ _) ↔ _
    rw [uMin_n]
    constructor
    · rintro ⟨k1, k2, k3, k4⟩; exact ⟨⟨k1, k2, by omega, k4⟩, by omega⟩
    · rintro ⟨⟨k1, k2, k3, k4⟩, k5⟩; exact ⟨k1, k2, by omega, k4⟩
  obtain ⟨t, e, ht⟩ := sync_has ((mb x0).2 ⟨Nat.le_refl _, hle⟩)
  have mt : ∀ x, hs t x ↔ x0.toNat ≤ x.toNat ∧ x.toNat ≤ x1.toNat := fun x => (ht.keep x).symm.trans (mb x)
  refine ⟨t, branch_jle s (K x1) h.isS (isS_K x1) (K x1) t (notBelow_eq (K x1) s (K x1) ?_ t e), ht.isS, ?_, ?_, mt⟩
  · show m_Sync ⟨(K x1).t, uMax x1 s.umin, x1, x1, x1⟩ = _
    rw [uMax_of' (by rw [u0]; exact hle)]; exact isS_K x1
  · refine BitVec.eq_of_toNat_eq (Nat.le_antisymm ((mt x0).2 ⟨Nat.le_refl _, hle⟩).2.1 ?_)
    have := ht.sub.2.1
    rw [← u0]; exact this
  · refine BitVec.eq_of_toNat_eq (Nat.le_antisymm ?_ ((mt x1).2 ⟨hle, Nat.le_refl _⟩).2.2.1)
    have := ht.sub.2.2.1
    rw [show b'.umax = uMin s.umax x1 from rfl, uMin_n] at this
    omega
theorem law_true (x0 x1 x2 : BitVec 64) : m_barbicanlaw7_ScalarClosed x0 x1 x2 = true := by
  unfold m_barbicanlaw7_ScalarClosed
  rw [known_true, ult_iff x1 x0]
  by_cases hlt : x1.toNat < x0.toNat
  · rw [decide_eq_true hlt]; rfl
  · rw [decide_eq_false hlt]
    obtain ⟨s, e, h⟩ := first x0
    obtain ⟨t, e2, hi, u1, u2, mt⟩ := second x0 x1 (by omega) s h
    rw [e]
    simp only [cond_true, cond_false]
    rw [e2]
    have hb : m_scalar_Has t x2 = decide (x0.toNat ≤ x2.toNat ∧ x2.toNat ≤ x1.toNat) := by
      rw [Bool.eq_iff_iff, has_iff, decide_eq_true_eq]; exact mt x2
    simp only [cond_true, cond_false, u1, u2, beq_self_eq_true, hb, ult_iff]
    by_cases c1 : x2.toNat < x0.toNat <;> by_cases c2 : x1.toNat < x2.toNat <;> simp [c1, c2] <;> omega

set_option maxRecDepth 100000 in
theorem lifted (os : Os) (started : os.Started) (H : Type) (enc : TypeId × Value → H) :
    ReturnsInHanded {} Tryz.checked os 9 .any (Rows.scalarClosedSpec.pre6 enc Tryz.prog Tryz.f9 Rows.scalarClosedRow.domain false) (Rows.scalarClosedSpec.post enc Tryz.prog Tryz.f9 false true false false) := by
  refine returnsInHanded_of_change (C := Tryz.checked) own started (by kernel_rfl) Tryz.func9
    (ChangeSpec.witness6 (enc := enc) (C := Tryz.checked) false ⟨#[], #[.int .u64 0, .int .u64 0, .int .u64 0], []⟩ 8 (by kernel_rfl) (by kernel_rfl) (by kernel_rfl) (by kernel_rfl)) ?_
  intro W base args ds gs before hval0 hW hcnd _
  have hval : ∀ (j : Nat) t v, Tryz.f9.params[j]? = some t → args[j]? = some v → Value.okWide Tryz.prog W .any base t v := hval0
  have hW' := hW
  obtain ⟨p, q, hA0, hV, rfl, hfz, hnd⟩ := hW
  have hA : DataW.TrodAll enc Tryz.prog W 0 (fun _ => true) true Tryz.f9.params.toList args.toList ds p := hA0
  rw [Tryz.params9] at hA hval
  obtain ⟨v0, vs0, d0, ds0, p0, q0, hargs, rfl, rfl, h0, r0⟩ := trodAll_cons hA
  obtain ⟨v1, vs1, d1, ds1, p1, q1, rfl, rfl, rfl, h1, r1⟩ := trodAll_cons r0
  obtain ⟨v2, vs2, d2, ds2, p2, q2, rfl, rfl, rfl, h2, r2⟩ := trodAll_cons r1
  obtain ⟨rfl, rfl, rfl⟩ := trodAll_nil r2
  obtain rfl : args = #[v0, v1, v2] := by cases args; simp_all
  obtain ⟨rfl, rfl⟩ := trodVars_none hV
  obtain ⟨y0, rfl, rfl, rfl, w0⟩ := open_int Tryz.underlying22 (hval 0 22 v0 rfl rfl) h0
  obtain ⟨x0, rfl⟩ := open_u64 w0
  obtain ⟨y1, rfl, rfl, rfl, w1⟩ := open_int Tryz.underlying22 (hval 1 22 v1 rfl rfl) h1
  obtain ⟨x1, rfl⟩ := open_u64 w1
  obtain ⟨y2, rfl, rfl, rfl, w2⟩ := open_int Tryz.underlying22 (hval 2 22 v2 rfl rfl) h2
  obtain ⟨x2, rfl⟩ := open_u64 w2
  clear hA0 hval0
  simp only [List.append_nil] at hW'
  refine (Con.walk (ok_barbicanlaw7_ScalarClosed x0 x1 x2) (law_true x0 x1 x2) W).mono fun e W' ⟨he, hg⟩ => ?_
  subst he
  exact ⟨_, rfl, post_of_below (pa := []) (pv := []) hW' (fun _ _ _ => (trodAll_cons_mk (shut_bool Tryz.underlying4 _) trodAll_mk0)) (fun sp _ => (trodAll_cons_mk (shut_int Tryz.underlying22 w0) (trodAll_cons_mk (shut_int Tryz.underlying22 w1) (trodAll_cons_mk (shut_int Tryz.underlying22 w2) trodAll_mk0)))) (fun _ _ => rfl) rfl
    hg (ok_one (by kernel_rfl) rfl (okWide_bool_mk Tryz.underlying4 _))⟩

theorem over : Rows.scalarClosedRow.holds Tryz.pinned (OpenSpec.ofChange Rows.scalarClosedSpec) :=
  OpenClaim.holds_of_wide 9 Tryz.f9 rfl rfl rfl rfl rfl rfl rfl ⟨rfl, rfl, rfl, rfl, rfl⟩ rfl rfl rfl rfl rfl (by kernel_rfl) Tryz.func9 (by kernel_rfl)
    (of_decide_eq_true (by kernel_rfl)) (by unfold Func.isWrapper; first | (rw [if_pos (by decide +kernel)]; kernel_rfl) | (rw [if_neg (by decide +kernel)]; exact ⟨rfl, rfl⟩))
    (fun os started H enc _ => lifted os started H enc)

/-- The statement. -/
theorem proved : Rows.ScalarClosedSaid :=
  over
end Go.Proofs.YtmhiiahfjoijgaaGreat.scalarClosed
