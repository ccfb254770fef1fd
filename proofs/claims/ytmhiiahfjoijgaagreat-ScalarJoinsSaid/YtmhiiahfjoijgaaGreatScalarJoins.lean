/-
  Joined in any order scalars have all of their numbers; one that is within another one adds nothing: whatever the input, the law answers true.
-/
import Derived.Test.YtmhiiahfjoijgaaGreatL7O
import Derived.Test.YtmhiiahfjoijgaaGreatL7M2
import Derived.Test.YtmhiiahfjoijgaaGreatL7_ScalarJoins
namespace Go.Proofs.YtmhiiahfjoijgaaGreat.scalarJoins
open Go.ChangeShapes Go.WideShapes Go.ChangeAt Go.RowKit Go.Joins
set_option linter.unusedVariables false
set_option linter.unusedSimpArgs false
theorem made_is (a b c d : BitVec 64) : isS (m_barbicanlaw7_made_4 a b c d) := join_is (join_is (join_is (isS_K a) (isS_K b)) (isS_K c)) (isS_K d)
theorem law_true (x0 x1 : A4) (x2 : BitVec 64) : m_barbicanlaw7_ScalarJoins x0 x1 x2 = true := by
  unfold m_barbicanlaw7_ScalarJoins
  have ha := made_is x0.a x0.b x0.c x0.d
  have hb := made_is x1.a x1.b x1.c x1.d
  generalize m_barbicanlaw7_made_4 x0.a x0.b x0.c x0.d = a at *
  generalize m_barbicanlaw7_made_4 x1.a x1.b x1.c x1.d = b at *
  rw [known_true, join_self ha, join_comm hb ha, (in_iff ha (join_is ha hb)).2 (join_left ha hb), (in_iff hb (join_is ha hb)).2 (join_right ha hb)]
  cases h : m_scalar_In a b
  · simp
  · rw [join_in ha hb ((in_iff ha hb).1 h)]; simp

set_option maxRecDepth 100000 in
theorem lifted (os : Os) (started : os.Started) (H : Type) (enc : TypeId × Value → H) :
    ReturnsInHanded {} Tryz.checked os 10 .any (Rows.scalarJoinsSpec.pre6 enc Tryz.prog Tryz.f10 Rows.scalarJoinsRow.domain false) (Rows.scalarJoinsSpec.post enc Tryz.prog Tryz.f10 false true false false) := by
  refine returnsInHanded_of_change (C := Tryz.checked) own started (by kernel_rfl) Tryz.func10
    (ChangeSpec.witness6 (enc := enc) (C := Tryz.checked) false ⟨#[], #[.agg #[.int .u64 0, .int .u64 0, .int .u64 0, .int .u64 0], .agg #[.int .u64 0, .int .u64 0, .int .u64 0, .int .u64 0], .int .u64 0], []⟩ 8 (by kernel_rfl) (by kernel_rfl) (by kernel_rfl) (by kernel_rfl)) ?_
  intro W base args ds gs before hval0 hW hcnd _
  have hval : ∀ (j : Nat) t v, Tryz.f10.params[j]? = some t → args[j]? = some v → Value.okWide Tryz.prog W .any base t v := hval0
  have hW' := hW
  obtain ⟨p, q, hA0, hV, rfl, hfz, hnd⟩ := hW
  have hA : DataW.TrodAll enc Tryz.prog W 0 (fun _ => true) true Tryz.f10.params.toList args.toList ds p := hA0
  rw [Tryz.params10] at hA hval
  obtain ⟨v0, vs0, d0, ds0, p0, q0, hargs, rfl, rfl, h0, r0⟩ := trodAll_cons hA
  obtain ⟨v1, vs1, d1, ds1, p1, q1, rfl, rfl, rfl, h1, r1⟩ := trodAll_cons r0
  obtain ⟨v2, vs2, d2, ds2, p2, q2, rfl, rfl, rfl, h2, r2⟩ := trodAll_cons r1
  obtain ⟨rfl, rfl, rfl⟩ := trodAll_nil r2
  obtain rfl : args = #[v0, v1, v2] := by cases args; simp_all
  obtain ⟨rfl, rfl⟩ := trodVars_none hV
  obtain ⟨x0, rfl, rfl, rfl⟩ := open_A4 (hval 0 34 v0 rfl rfl) h0
  obtain ⟨x1, rfl, rfl, rfl⟩ := open_A4 (hval 1 34 v1 rfl rfl) h1
  obtain ⟨y2, rfl, rfl, rfl, w2⟩ := open_int Tryz.underlying22 (hval 2 22 v2 rfl rfl) h2
  obtain ⟨x2, rfl⟩ := open_u64 w2
  clear hA0 hval0
  simp only [List.append_nil] at hW'
  refine (Con.walk (ok_barbicanlaw7_ScalarJoins x0 x1 x2) (law_true x0 x1 x2) W).mono fun e W' ⟨he, hg⟩ => ?_
  subst he
  exact ⟨_, rfl, post_of_below (pa := []) (pv := []) hW' (fun _ _ _ => (trodAll_cons_mk (shut_bool Tryz.underlying4 _) trodAll_mk0)) (fun sp _ => (trodAll_cons_mk (shut_A4 x0) (trodAll_cons_mk (shut_A4 x1) (trodAll_cons_mk (shut_int Tryz.underlying22 w2) trodAll_mk0)))) (fun _ _ => rfl) rfl
    hg (ok_one (by kernel_rfl) rfl (okWide_bool_mk Tryz.underlying4 _))⟩

theorem over : Rows.scalarJoinsRow.holds Tryz.pinned (OpenSpec.ofChange Rows.scalarJoinsSpec) :=
  OpenClaim.holds_of_wide 10 Tryz.f10 rfl rfl rfl rfl rfl rfl rfl ⟨rfl, rfl, rfl, rfl, rfl⟩ rfl rfl rfl rfl rfl (by kernel_rfl) Tryz.func10 (by kernel_rfl)
    (of_decide_eq_true (by kernel_rfl)) (by unfold Func.isWrapper; first | (rw [if_pos (by decide +kernel)]; kernel_rfl) | (rw [if_neg (by decide +kernel)]; exact ⟨rfl, rfl⟩))
    (fun os started H enc _ => lifted os started H enc)

/-- The statement. -/
theorem proved : Rows.ScalarJoinsSaid :=
  over
end Go.Proofs.YtmhiiahfjoijgaaGreat.scalarJoins
