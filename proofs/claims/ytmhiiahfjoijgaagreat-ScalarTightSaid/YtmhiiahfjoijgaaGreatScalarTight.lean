/-
  Sums and differences that do not go round have the ends that theirs make; And, Mod, shifts and products by constants are bounded: whatever the input, the law answers true.
-/
import Derived.Test.YtmhiiahfjoijgaaGreatL7O
import Derived.Test.YtmhiiahfjoijgaaGreatL7_ScalarTight
namespace Go.Proofs.YtmhiiahfjoijgaaGreat.scalarTight
open Go.ChangeShapes Go.WideShapes Go.ChangeAt Go.RowKit Go.Joins
set_option linter.unusedVariables false
set_option linter.unusedSimpArgs false
theorem law_true (x0 x1 : A4) (x2 : BitVec 64) (x3 : BitVec 8) : m_barbicanlaw7_ScalarTight x0 x1 x2 x3 = true := by
  unfold m_barbicanlaw7_ScalarTight
  have ha := made_is x0.a x0.b x0.c x0.d
  have hx := made_sel x0.a x0.b x0.c x0.d 0
  generalize m_barbicanlaw7_made_4 x0.a x0.b x0.c x0.d = a at *
  generalize m_barbicanlaw7_made_4 x1.a x1.b x1.c x1.d = b at *
  have key : BitVec.ult 0#64 x2 = true → BitVec.ult (18446744073709551615#64 / x2) a.umax = false → BitVec.ult (a.umax * x2) (m_scalar_Do (2#64) true a (m_scalar_Const x2)).umax = false := fun h1 h2 => t_mul ha hx h2 (nz_of h1)
  generalize BitVec.ult (a.umax * x2) (m_scalar_Do (2#64) true a (m_scalar_Const x2)).umax = r at *
  generalize BitVec.ult (18446744073709551615#64 - b.umax) a.umax = q1 at *
  generalize BitVec.ult a.umin b.umax = q2 at *
  generalize BitVec.ult (18446744073709551615#64 >>> (((x3 % 64#8).setWidth 64)).toNat) a.umax = q3 at *
  generalize BitVec.ult (18446744073709551615#64 / x2) a.umax = q4 at *
  generalize BitVec.ult 0#64 x2 = q5 at *
  cases q5
  · cases q1 <;> cases q2 <;> cases q3 <;> simp only [cond_t', cond_f']
  · cases q4
    · rw [key rfl rfl]
      cases q1 <;> cases q2 <;> cases q3 <;> simp only [cond_t', cond_f', Bool.not_false]
    · cases q1 <;> cases q2 <;> cases q3 <;> simp only [cond_t', cond_f']

set_option maxRecDepth 100000 in
theorem lifted (os : Os) (started : os.Started) (H : Type) (enc : TypeId × Value → H) :
    ReturnsInHanded {} Tryz.checked os 7 .any (Rows.scalarTightSpec.pre6 enc Tryz.prog Tryz.f7 Rows.scalarTightRow.domain false) (Rows.scalarTightSpec.post enc Tryz.prog Tryz.f7 false true false false) := by
  refine returnsInHanded_of_change (C := Tryz.checked) own started (by kernel_rfl) Tryz.func7
    (ChangeSpec.witness6 (enc := enc) (C := Tryz.checked) false ⟨#[], #[.agg #[.int .u64 0, .int .u64 0, .int .u64 0, .int .u64 0], .agg #[.int .u64 0, .int .u64 0, .int .u64 0, .int .u64 0], .int .u64 0, .int .u8 0], []⟩ 8 (by kernel_rfl) (by kernel_rfl) (by kernel_rfl) (by kernel_rfl)) ?_
  intro W base args ds gs before hval0 hW hcnd _
  have hval : ∀ (j : Nat) t v, Tryz.f7.params[j]? = some t → args[j]? = some v → Value.okWide Tryz.prog W .any base t v := hval0
  have hW' := hW
  obtain ⟨p, q, hA0, hV, rfl, hfz, hnd⟩ := hW
  have hA : DataW.TrodAll enc Tryz.prog W 0 (fun _ => true) true Tryz.f7.params.toList args.toList ds p := hA0
  rw [Tryz.params7] at hA hval
  obtain ⟨v0, vs0, d0, ds0, p0, q0, hargs, rfl, rfl, h0, r0⟩ := trodAll_cons hA
  obtain ⟨v1, vs1, d1, ds1, p1, q1, rfl, rfl, rfl, h1, r1⟩ := trodAll_cons r0
  obtain ⟨v2, vs2, d2, ds2, p2, q2, rfl, rfl, rfl, h2, r2⟩ := trodAll_cons r1
  obtain ⟨v3, vs3, d3, ds3, p3, q3, rfl, rfl, rfl, h3, r3⟩ := trodAll_cons r2
  obtain ⟨rfl, rfl, rfl⟩ := trodAll_nil r3
  obtain rfl : args = #[v0, v1, v2, v3] := by cases args; simp_all
  obtain ⟨rfl, rfl⟩ := trodVars_none hV
  obtain ⟨x0, rfl, rfl, rfl⟩ := open_A4 (hval 0 34 v0 rfl rfl) h0
  obtain ⟨x1, rfl, rfl, rfl⟩ := open_A4 (hval 1 34 v1 rfl rfl) h1
  obtain ⟨y2, rfl, rfl, rfl, w2⟩ := open_int Tryz.underlying22 (hval 2 22 v2 rfl rfl) h2
  obtain ⟨x2, rfl⟩ := open_u64 w2
  obtain ⟨y3, rfl, rfl, rfl, w3⟩ := open_int Tryz.underlying5 (hval 3 5 v3 rfl rfl) h3
  obtain ⟨x3, rfl⟩ := open_u8 w3
  clear hA0 hval0
  simp only [List.append_nil] at hW'
  refine (Con.walk (ok_barbicanlaw7_ScalarTight x0 x1 x2 x3) (law_true x0 x1 x2 x3) W).mono fun e W' ⟨he, hg⟩ => ?_
  subst he
  exact ⟨_, rfl, post_of_below (pa := []) (pv := []) hW' (fun _ _ _ => (trodAll_cons_mk (shut_bool Tryz.underlying4 _) trodAll_mk0)) (fun sp _ => (trodAll_cons_mk (shut_A4 x0) (trodAll_cons_mk (shut_A4 x1) (trodAll_cons_mk (shut_int Tryz.underlying22 w2) (trodAll_cons_mk (shut_int Tryz.underlying5 w3) trodAll_mk0))))) (fun _ _ => rfl) rfl
    hg (ok_one (by kernel_rfl) rfl (okWide_bool_mk Tryz.underlying4 _))⟩

theorem over : Rows.scalarTightRow.holds Tryz.pinned (OpenSpec.ofChange Rows.scalarTightSpec) :=
  OpenClaim.holds_of_wide 7 Tryz.f7 rfl rfl rfl rfl rfl rfl rfl ⟨rfl, rfl, rfl, rfl, rfl⟩ rfl rfl rfl rfl rfl (by kernel_rfl) Tryz.func7 (by kernel_rfl)
    (of_decide_eq_true (by kernel_rfl)) (by unfold Func.isWrapper; first | (rw [if_pos (by decide +kernel)]; kernel_rfl) | (rw [if_neg (by decide +kernel)]; exact ⟨rfl, rfl⟩))
    (fun os started H enc _ => lifted os started H enc)

/-- The statement. -/
theorem proved : Rows.ScalarTightSaid :=
  over
end Go.Proofs.YtmhiiahfjoijgaaGreat.scalarTight
