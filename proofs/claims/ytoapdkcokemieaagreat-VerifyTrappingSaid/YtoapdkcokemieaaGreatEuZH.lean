/-
  Calls told apart (2): a call that is run once is told. Nothing of the program stands here.
-/
import Derived.Test.YtoapdkcokemieaaGreatEuZG
namespace Go.Proofs.YtoapdkcokemieaaGreat.Ev
open Go.RowKit
noncomputable section
set_option linter.unusedVariables false
set_option linter.unusedSimpArgs false
set_option linter.unusedSectionVars false
variable [Fs] [En] [FsOk] [Hk]
theorem HR.renamed {F : Fr} {b : Bm} {H : Hp} {w : World} (hr : HR F b H w) {n0 n1 : Nat} {olds : List Nat} {r : List (Nat × AO)} (hlow : F.n0 ≤ n0) (hg : goodL n0 olds = true) (hn : n1 = n0 + olds.length) (hO : chkOs3 n0 olds H.t r = true) :
    HR F (renB n0 olds b) ⟨putO r, n1⟩ w := by
  refine ⟨hr.fo, ?_, ?_, ?_, ?_, ?_⟩
  · intro i hi
    have hi : n1 ≤ i := hi
    unfold renB oldN
    rw [if_neg (by omega)]
    have : olds[i - n0]? = none := List.getElem?_eq_none (by omega)
    rw [this]
  · show F.n0 ≤ n1
    omega
  · intro i hi
    have : renB n0 olds b i = b i := by
      unfold renB oldN
      rw [if_pos (by omega)]
    rw [this]
    exact hr.ag i hi
  · intro j o0 hj
    obtain ⟨i, p, h1, h2, h3⟩ := chkOs3_ok hO j o0 hj
    obtain ⟨x, ob, h4, h5, h6, h7⟩ := hr.live i p h2
    refine ⟨x, ob, ?_, h5, h3 b x ob h6, h7⟩
    unfold renB
    rw [h1]; exact h4
  · intro i j o p x y hi hj hx hy hxy
    obtain ⟨i0, p1, h1, h2, _⟩ := chkOs3_ok hO i o hi
    obtain ⟨j0, p2, h3, h4, _⟩ := chkOs3_ok hO j p hj
    have e1 : b i0 = some x := by unfold renB at hx; rw [h1] at hx; exact hx
    have e2 : b j0 = some y := by unfold renB at hy; rw [h3] at hy; exact hy
    have := hr.inj i0 j0 p1 p2 x y h2 h4 e1 e2 hxy
    subst this
    exact oldN_inj hg h1 h3
def kTold (t : Told) (olds : List Nat) (v : PV) (H : Hp) : Option Unit := match renV t.m olds 8 v with
  | some u => match eqP 8 u t.v && chkOs3 t.m olds H.t (t.q ++ t.r) with
    | true => some ()
    | false => none
  | none => none
section
variable {P : Program} [HkOk P]
theorem told_ok {draw : DrawT Unit} (hdraw : DrawOk P draw) {n : Nat} {t : Told} {olds : List Nat} (hc : callable P t.f = true) (hg : goodL t.m olds = true) (hn : t.n = olds.length)
    (h : evCall P draw n t.f t.args ⟨putO t.q, t.m⟩ (kTold t olds) (fun _ _ => none) = some ()) : FunRet P t.f t.args ⟨putO t.q, t.m⟩ t.v ⟨putO (t.q ++ t.r), t.m + t.n⟩ := by
  rcases evCall_ok hdraw n t.f t.args ⟨putO t.q, t.m⟩ _ _ _ hc h with ⟨v, H', h1, h2⟩ | ⟨v, H', h1, h2⟩
  · unfold kTold at h1
    split at h1
    · rename_i u hu
      split at h1
      · rename_i hb
        simp only [Bool.and_eq_true] at hb
        have he := eqP_ok 8 _ _ hb.1
        subst he
        intro F b w l hl hr R hR
        refine h2 F b w l hl hr R ?_
        intro b' v' w' hle hv hr' hk
        have h0 : F.n0 ≤ t.m := hr.low
        refine hR (renB t.m olds b') v' w' ?_ (renV_ok 8 _ _ _ hu hv) (hr'.renamed h0 hg (by omega) hb.2) hk
        intro i x hi
        have him : i < t.m := by
          apply Nat.lt_of_not_le
          intro hge
          rw [hr.nx i hge] at hi
          cases hi
        unfold renB oldN
        rw [if_pos him]
        exact hle i x hi
      · cases h1
    · cases h1
  · cases h1
/-- .. of which only the value matters, which names no block. -/
theorem told_val {draw : DrawT PV} (hdraw : DrawOk P draw) {n f : Nat} {args : List PV} {v u : PV} (hc : callable P f = true) (hu : renV 0 [] 8 v = some u) (h : evCall P draw n f args ⟨.lf, 0⟩ (fun v H => some v) (fun _ _ => none) = some v) : FunRet P f args ⟨.lf, 0⟩ u ⟨putO [], 0⟩ := by
  rcases evCall_ok hdraw n f args ⟨.lf, 0⟩ _ _ _ hc h with ⟨w0, H', h1, h2⟩ | ⟨w0, H', h1, h2⟩
  · simp only [Option.some.injEq] at h1; subst h1
    intro F b w l hl hr R hR
    refine h2 F b w l hl hr R ?_
    intro b' v' w' hle hv hr' hk
    have h0 : F.n0 ≤ 0 := hr.low
    refine hR (renB 0 [] b') v' w' ?_ (renV_ok 8 _ _ _ hu hv) (hr'.renamed h0 rfl rfl rfl) hk
    intro i x hi
    rw [hr.nx i (Nat.zero_le i)] at hi
    cases hi
  · cases h1
end
end
end Go.Proofs.YtoapdkcokemieaaGreat.Ev
