/-
  What is masked by a constant is at most it, whatever it was: whatever the input, the law answers true.
-/
import Derived.Test.YtmhiiahfjoijgaaGreatL7O
import Derived.Test.YtmhiiahfjoijgaaGreatL7M6
import Derived.Test.YtmhiiahfjoijgaaGreatL7M7
import Derived.Test.YtmhiiahfjoijgaaGreatL7_ScalarMasked
namespace Go.Proofs.YtmhiiahfjoijgaaGreat.scalarMasked
open Go.ChangeShapes Go.WideShapes Go.ChangeAt Go.RowKit Go.Joins
set_option linter.unusedVariables false
set_option linter.unusedSimpArgs false
theorem masked_g (a : S) (ha : isS a) (hc : m_scalar_isConst a = false) (hall : ∀ x, hs a x) (k : BitVec 64) : isS (m_scalar_Do 5#64 true a (m_scalar_Const k)) ∧ (∀ x, hs (m_scalar_Do 5#64 true a (m_scalar_Const k)) (x &&& k)) ∧ (m_scalar_Do 5#64 true a (m_scalar_Const k)).umax.toNat ≤ k.toNat := by
  have e : m_scalar_Do 5#64 true a (m_scalar_Const k) = m_scalar_operands_and ⟨m_scalar_exact a, K k, 64#64⟩ := by
    rw [do5 ha (isS_K k), hc]
    simp only [cond_false, cond_true, exact_K]
  rw [e]
  have h := fun x => op_and (w := 64#64) ((exact_spec ha).2.1 x (hall x)) ((hs_K (n := k)).2 rfl)
  refine ⟨(h 0#64).2.1, fun x => (h x).1, ?_⟩
  have := (h 0#64).2.2
  rw [show (K k).umax = k from rfl] at this
  omega
theorem notConst_U : m_scalar_isConst m_scalar_Unknown = false := by decide
theorem masked_u (k : BitVec 64) : isS (m_scalar_Do 5#64 true m_scalar_Unknown (m_scalar_Const k)) ∧ (∀ x, hs (m_scalar_Do 5#64 true m_scalar_Unknown (m_scalar_Const k)) (x &&& k)) ∧ (m_scalar_Do 5#64 true m_scalar_Unknown (m_scalar_Const k)).umax.toNat ≤ k.toNat :=
  masked_g m_scalar_Unknown isS_U notConst_U hs_U k
theorem masked_m (a : S) (ha : isS a) (x : BitVec 64) (hx : hs a x) (k : BitVec 64) (wide : Bool) : (m_scalar_Do 5#64 wide a (m_scalar_Const k)).umax.toNat ≤ k.toNat := by
  rw [do5 ha (isS_K k), isConst_K]
  have land : ∀ y z : BitVec 64, (y &&& z).toNat ≤ z.toNat := fun y z => by rw [BitVec.toNat_and]; exact Nat.and_le_right
  cases hc : m_scalar_isConst a
  · cases wide
    · simp only [cond_false, low_K, exact_K]
      have h1 := low_has ha hx
      have h2 := op_and (w := 32#64) ((exact_spec h1.2).2.1 _ h1.1) ((hs_K (n := k &&& 4294967295#64)).2 rfl)
      generalize m_scalar_operands_and ⟨m_scalar_exact (m_scalar_low a), K (k &&& 4294967295#64), 32#64⟩ = r at *
      have h3 : r.umax.toNat ≤ (k &&& 4294967295#64).toNat := by have := h2.2.2; rw [show (K (k &&& 4294967295#64)).umax = k &&& 4294967295#64 from rfl] at this; omega
      have h4 := and_mod k 32 4294967295#64 (by decide)
      have h5 : r.umax.toNat ≤ 4294967295 := by omega
      have h6 : m_scalar_low r = r := by
        unfold m_scalar_low m_scalar_lowest_32
        rw [show BitVec.ult 4294967295#64 r.umax = false from by rw [ult_iff]; exact decide_eq_false (by show ¬ 4294967295 < _; omega)]
        rfl
      rw [h6]
      have h7 : k.toNat % 2 ^ 32 ≤ k.toNat := Nat.mod_le _ _
      omega
    · simp only [cond_false, cond_true, exact_K]
      have := (op_and (w := 64#64) ((exact_spec ha).2.1 x hx) ((hs_K (n := k)).2 rfl)).2.2
      rw [show (K k).umax = k from rfl] at this
      omega
  · cases wide
    · simp only [cond_true]
      show ((a.umin.setWidth 32 &&& k.setWidth 32).setWidth 64).toNat ≤ k.toNat
      rw [BitVec.toNat_setWidth, BitVec.toNat_and, BitVec.toNat_setWidth, BitVec.toNat_setWidth]
      have h1 : a.umin.toNat % 2 ^ 32 &&& k.toNat % 2 ^ 32 ≤ k.toNat % 2 ^ 32 := Nat.and_le_right
      have h2 : k.toNat % 2 ^ 32 ≤ k.toNat := Nat.mod_le _ _
      exact Nat.le_trans (Nat.mod_le _ _) (Nat.le_trans h1 h2)
    · simp only [cond_true]
      exact land _ _
theorem law_true (x0 : A4) (x1 : BitVec 64) (x2 : Bool) : m_barbicanlaw7_ScalarMasked x0 x1 x2 = true := by
  unfold m_barbicanlaw7_ScalarMasked
  obtain ⟨ha, hx⟩ := made_has x0.a x0.b x0.c x0.d
  generalize m_barbicanlaw7_made_4 x0.a x0.b x0.c x0.d = a at *
  have h1 := masked_m a ha x0.a hx.1 x1 x2
  obtain ⟨u1, u2, u3⟩ := masked_u x1
  generalize m_scalar_Do 5#64 x2 a (m_scalar_Const x1) = m at *
  generalize m_scalar_Do 5#64 true m_scalar_Unknown (m_scalar_Const x1) = u at *
  have z0 : hs u 0#64 := by have := u2 0#64; rwa [BitVec.zero_and] at this
  have zk : hs u x1 := by have := u2 (BitVec.allOnes 64); rwa [BitVec.allOnes_and] at this
  have e1 : u.umin = 0#64 := BitVec.eq_of_toNat_eq (by have := z0.2.1; simp at this ⊢; omega)
  have e2 : u.umax = x1 := BitVec.eq_of_toNat_eq (by have := zk.2.2.1; omega)
  rw [known_true, show BitVec.ult x1 m.umax = false from by rw [ult_iff]; exact decide_eq_false (by omega), e1, e2, (has_iff u x1).2 zk, (has_iff u 0#64).2 z0]
  simp

set_option maxRecDepth 100000 in
theorem lifted (os : Os) (started : os.Started) (H : Type) (enc : TypeId × Value → H) :
    ReturnsInHanded {} Tryz.checked os 8 .any (Rows.scalarMaskedSpec.pre6 enc Tryz.prog Tryz.f8 Rows.scalarMaskedRow.domain false) (Rows.scalarMaskedSpec.post enc Tryz.prog Tryz.f8 false true false false) := by
  refine returnsInHanded_of_change (C := Tryz.checked) own started (by kernel_rfl) Tryz.func8
    (ChangeSpec.witness6 (enc := enc) (C := Tryz.checked) false ⟨#[], #[.agg #[.int .u64 0, .int .u64 0, .int .u64 0, .int .u64 0], .int .u64 0, .bool false], []⟩ 8 (by kernel_rfl) (by kernel_rfl) (by kernel_rfl) (by kernel_rfl)) ?_
  intro W base args ds gs before hval0 hW hcnd _
  have hval : ∀ (j : Nat) t v, Tryz.f8.params[j]? = some t → args[j]? = some v → Value.okWide Tryz.prog W .any base t v := hval0
  have hW' := hW
  obtain ⟨p, q, hA0, hV, rfl, hfz, hnd⟩ := hW
  have hA : DataW.TrodAll enc Tryz.prog W 0 (fun _ => true) true Tryz.f8.params.toList args.toList ds p := hA0
  rw [Tryz.params8] at hA hval
  obtain ⟨v0, vs0, d0, ds0, p0, q0, hargs, rfl, rfl, h0, r0⟩ := trodAll_cons hA
  obtain ⟨v1, vs1, d1, ds1, p1, q1, rfl, rfl, rfl, h1, r1⟩ := trodAll_cons r0
  obtain ⟨v2, vs2, d2, ds2, p2, q2, rfl, rfl, rfl, h2, r2⟩ := trodAll_cons r1
  obtain ⟨rfl, rfl, rfl⟩ := trodAll_nil r2
  obtain rfl : args = #[v0, v1, v2] := by cases args; simp_all
  obtain ⟨rfl, rfl⟩ := trodVars_none hV
  obtain ⟨x0, rfl, rfl, rfl⟩ := open_A4 (hval 0 34 v0 rfl rfl) h0
  obtain ⟨y1, rfl, rfl, rfl, w1⟩ := open_int Tryz.underlying22 (hval 1 22 v1 rfl rfl) h1
  obtain ⟨x1, rfl⟩ := open_u64 w1
  obtain ⟨x2, rfl, rfl, rfl⟩ := open_bool Tryz.underlying4 (hval 2 4 v2 rfl rfl) h2
  clear hA0 hval0
  simp only [List.append_nil] at hW'
  refine (Con.walk (ok_barbicanlaw7_ScalarMasked x0 x1 x2) (law_true x0 x1 x2) W).mono fun e W' ⟨he, hg⟩ => ?_
  subst he
  exact ⟨_, rfl, post_of_below (pa := []) (pv := []) hW' (fun _ _ _ => (trodAll_cons_mk (shut_bool Tryz.underlying4 _) trodAll_mk0)) (fun sp _ => (trodAll_cons_mk (shut_A4 x0) (trodAll_cons_mk (shut_int Tryz.underlying22 w1) (trodAll_cons_mk (shut_bool Tryz.underlying4 _) trodAll_mk0)))) (fun _ _ => rfl) rfl
    hg (ok_one (by kernel_rfl) rfl (okWide_bool_mk Tryz.underlying4 _))⟩

theorem over : Rows.scalarMaskedRow.holds Tryz.pinned (OpenSpec.ofChange Rows.scalarMaskedSpec) :=
  OpenClaim.holds_of_wide 8 Tryz.f8 rfl rfl rfl rfl rfl rfl rfl ⟨rfl, rfl, rfl, rfl, rfl⟩ rfl rfl rfl rfl rfl (by kernel_rfl) Tryz.func8 (by kernel_rfl)
    (of_decide_eq_true (by kernel_rfl)) (by unfold Func.isWrapper; first | (rw [if_pos (by decide +kernel)]; kernel_rfl) | (rw [if_neg (by decide +kernel)]; exact ⟨rfl, rfl⟩))
    (fun os started H enc _ => lifted os started H enc)

/-- The statement. -/
theorem proved : Rows.ScalarMaskedSaid :=
  over
end Go.Proofs.YtmhiiahfjoijgaaGreat.scalarMasked
