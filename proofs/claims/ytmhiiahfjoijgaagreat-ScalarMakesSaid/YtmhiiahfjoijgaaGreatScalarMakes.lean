/-
  Constants, ranges, all numbers: they have what they must, and are scalars: whatever the input, the law answers true.
-/
import Derived.Test.YtmhiiahfjoijgaaGreatL7O
import Derived.Test.YtmhiiahfjoijgaaGreatL7M2
import Derived.Test.YtmhiiahfjoijgaaGreatL7_ScalarMakes
namespace Go.Proofs.YtmhiiahfjoijgaaGreat.scalarMakes
open Go.ChangeShapes Go.WideShapes Go.ChangeAt Go.RowKit Go.Joins
set_option linter.unusedVariables false
set_option linter.unusedSimpArgs false
theorem law_true (x0 x1 x2 x3 : BitVec 64) : m_barbicanlaw7_ScalarMakes x0 x1 x2 x3 = true := by
  unfold m_barbicanlaw7_ScalarMakes
  have h1 : m_scalar_Is (m_scalar_Const x0) = true := (is_iff _).2 (isS_K x0)
  have h2 : m_scalar_Is m_scalar_Unknown = true := (is_iff _).2 isS_U
  have h3 : m_scalar_Is (m_scalar_Between x1 x2) = true := (is_iff _).2 (between_is x1 x2)
  have hu : m_scalar_Has m_scalar_Unknown x3 = true := (has_iff _ _).2 (hs_U x3)
  have hk : m_scalar_Has (m_scalar_Const x0) x3 = (x3 == x0) := by
    rw [Bool.eq_iff_iff, has_iff, beq_iff_eq]; exact hs_K
  rw [known_true, h1, h2, h3, hu, hk]
  by_cases hlt : x2.toNat < x1.toNat
  · rw [between_gt hlt, show BitVec.ult x2 x1 = true from by rw [ult_iff]; exact decide_eq_true hlt]
    cases x3 == x0 <;> simp
  · have hb : m_scalar_Has (m_scalar_Between x1 x2) x3 = decide (x1.toNat ≤ x3.toNat ∧ x3.toNat ≤ x2.toNat) := by
      rw [Bool.eq_iff_iff, has_iff, decide_eq_true_eq]; exact between_has (by omega)
    rw [hb, show BitVec.ult x2 x1 = false from by rw [ult_iff]; exact decide_eq_false hlt, ult_iff, ult_iff]
    cases x3 == x0 <;> by_cases c1 : x3.toNat < x1.toNat <;> by_cases c2 : x2.toNat < x3.toNat <;> simp [c1, c2] <;> omega

set_option maxRecDepth 100000 in
theorem lifted (os : Os) (started : os.Started) (H : Type) (enc : TypeId × Value → H) :
    ReturnsInHanded {} Tryz.checked os 3 .any (Rows.scalarMakesSpec.pre6 enc Tryz.prog Tryz.f3 Rows.scalarMakesRow.domain false) (Rows.scalarMakesSpec.post enc Tryz.prog Tryz.f3 false true false false) := by
  refine returnsInHanded_of_change (C := Tryz.checked) own started (by kernel_rfl) Tryz.func3
    (ChangeSpec.witness6 (enc := enc) (C := Tryz.checked) false ⟨#[], #[.int .u64 0, .int .u64 0, .int .u64 0, .int .u64 0], []⟩ 8 (by kernel_rfl) (by kernel_rfl) (by kernel_rfl) (by kernel_rfl)) ?_
  intro W base args ds gs before hval0 hW hcnd _
  have hval : ∀ (j : Nat) t v, Tryz.f3.params[j]? = some t → args[j]? = some v → Value.okWide Tryz.prog W .any base t v := hval0
  have hW' := hW
  obtain ⟨p, q, hA0, hV, rfl, hfz, hnd⟩ := hW
  have hA : DataW.TrodAll enc Tryz.prog W 0 (fun _ => true) true Tryz.f3.params.toList args.toList ds p := hA0
  rw [Tryz.params3] at hA hval
  obtain ⟨v0, vs0, d0, ds0, p0, q0, hargs, rfl, rfl, h0, r0⟩ := trodAll_cons hA
  obtain ⟨v1, vs1, d1, ds1, p1, q1, rfl, rfl, rfl, h1, r1⟩ := trodAll_cons r0
  obtain ⟨v2, vs2, d2, ds2, p2, q2, rfl, rfl, rfl, h2, r2⟩ := trodAll_cons r1
  obtain ⟨v3, vs3, d3, ds3, p3, q3, rfl, rfl, rfl, h3, r3⟩ := trodAll_cons r2
  obtain ⟨rfl, rfl, rfl⟩ := trodAll_nil r3
  obtain rfl : args = #[v0, v1, v2, v3] := by cases args; simp_all
  obtain ⟨rfl, rfl⟩ := trodVars_none hV
  obtain ⟨y0, rfl, rfl, rfl, w0⟩ := open_int Tryz.underlying22 (hval 0 22 v0 rfl rfl) h0
  obtain ⟨x0, rfl⟩ := open_u64 w0
  obtain ⟨y1, rfl, rfl, rfl, w1⟩ := open_int Tryz.underlying22 (hval 1 22 v1 rfl rfl) h1
  obtain ⟨x1, rfl⟩ := open_u64 w1
  obtain ⟨y2, rfl, rfl, rfl, w2⟩ := open_int Tryz.underlying22 (hval 2 22 v2 rfl rfl) h2
  obtain ⟨x2, rfl⟩ := open_u64 w2
  obtain ⟨y3, rfl, rfl, rfl, w3⟩ := open_int Tryz.underlying22 (hval 3 22 v3 rfl rfl) h3
  obtain ⟨x3, rfl⟩ := open_u64 w3
  clear hA0 hval0
  simp only [List.append_nil] at hW'
  refine (Con.walk (ok_barbicanlaw7_ScalarMakes x0 x1 x2 x3) (law_true x0 x1 x2 x3) W).mono fun e W' ⟨he, hg⟩ => ?_
  subst he
  exact ⟨_, rfl, post_of_below (pa := []) (pv := []) hW' (fun _ _ _ => (trodAll_cons_mk (shut_bool Tryz.underlying4 _) trodAll_mk0)) (fun sp _ => (trodAll_cons_mk (shut_int Tryz.underlying22 w0) (trodAll_cons_mk (shut_int Tryz.underlying22 w1) (trodAll_cons_mk (shut_int Tryz.underlying22 w2) (trodAll_cons_mk (shut_int Tryz.underlying22 w3) trodAll_mk0))))) (fun _ _ => rfl) rfl
    hg (ok_one (by kernel_rfl) rfl (okWide_bool_mk Tryz.underlying4 _))⟩

theorem over : Rows.scalarMakesRow.holds Tryz.pinned (OpenSpec.ofChange Rows.scalarMakesSpec) :=
  OpenClaim.holds_of_wide 3 Tryz.f3 rfl rfl rfl rfl rfl rfl rfl ⟨rfl, rfl, rfl, rfl, rfl⟩ rfl rfl rfl rfl rfl (by kernel_rfl) Tryz.func3 (by kernel_rfl)
    (of_decide_eq_true (by kernel_rfl)) (by unfold Func.isWrapper; first | (rw [if_pos (by decide +kernel)]; kernel_rfl) | (rw [if_neg (by decide +kernel)]; exact ⟨rfl, rfl⟩))
    (fun os started H enc _ => lifted os started H enc)

/-- The statement. -/
theorem proved : Rows.ScalarMakesSaid :=
  over
end Go.Proofs.YtmhiiahfjoijgaaGreat.scalarMakes
