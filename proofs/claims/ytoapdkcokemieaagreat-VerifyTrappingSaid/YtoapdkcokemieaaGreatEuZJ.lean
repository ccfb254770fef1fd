/-
  Calls told apart (3): which blocks a told call has made is found by going through what it yields. Nothing of the program stands here.
-/
import Derived.Test.YtoapdkcokemieaaGreatEuZI
namespace Go.Proofs.YtoapdkcokemieaaGreat.Ev
open Go.RowKit
noncomputable section
set_option linter.unusedVariables false
set_option linter.unusedSimpArgs false
set_option linter.unusedSectionVars false
variable [Fs] [En] [FsOk] [Hk]
def cellsB (t : Tr AObj) (i : Nat) : List PV := match t.at i with
  | some (.row c n _ _ _) => match c.run 0 n with
    | some l => l
    | none => []
  | _ => []
def reachB : Nat → Tr AObj → Nat → List Nat → List Nat
  | 0, _, _, o => o
  | f + 1, t, k, o => match o[k]? with
    | none => o
    | some i => reachB f t (k + 1) ((cellsB t i).foldl (blks 8) o)
def firstN : Nat → Nat → List Nat
  | 0, _ => []
  | n + 1, k => k :: firstN n (k + 1)
def kToldA (t : Told) (v : PV) (H : Hp) : Option Unit := match (reachB 1000 H.t t.m (blks 8 (firstN t.m 0) v)).drop t.m with
  | olds => match goodL t.m olds && Nat.beq t.n olds.length with
    | true => kTold t olds v H
    | false => none
section
variable {P : Program} [HkOk P]
theorem told_okA {draw : DrawT Unit} (hdraw : DrawOk P draw) {n : Nat} {t : Told} (hc : callable P t.f = true)
    (h : evCall P draw n t.f t.args ⟨putO t.q, t.m⟩ (kToldA t) (fun _ _ => none) = some ()) : FunRet P t.f t.args ⟨putO t.q, t.m⟩ t.v ⟨putO (t.q ++ t.r), t.m + t.n⟩ := by
  rcases evCall_ok hdraw n t.f t.args ⟨putO t.q, t.m⟩ _ _ _ hc h with ⟨v, H', h1, h2⟩ | ⟨v, H', h1, h2⟩
  · unfold kToldA at h1
    simp only at h1
    generalize ((reachB 1000 H'.t t.m (blks 8 (firstN t.m 0) v)).drop t.m) = olds at h1
    split at h1
    · rename_i hgn
      simp only [Bool.and_eq_true] at hgn
      have hg := hgn.1
      have hn := Nat.eq_of_beq_eq_true hgn.2
      unfold kTold at h1
      split at h1
      · rename_i u hu
        split at h1
        · rename_i hb
          simp only [Bool.and_eq_true] at hb
          have he := eqP_ok 8 _ _ hb.1
          subst he
          intro F b w l hl hr R hR
          refine h2 F b w l hl hr R ?_
          intro b' v' w' hle hv hr' hk
          have h0 : F.n0 ≤ t.m := hr.low
          refine hR (renB t.m olds b') v' w' ?_ (renV_ok 8 _ _ _ hu hv) (hr'.renamed h0 hg (by omega) hb.2) hk
          intro i x hi
          have him : i < t.m := by
            apply Nat.lt_of_not_le
            intro hge
            rw [hr.nx i hge] at hi
            cases hi
          unfold renB oldN
          rw [if_pos him]
          exact hle i x hi
        · cases h1
      · cases h1
    · cases h1
  · cases h1
end
end
end Go.Proofs.YtoapdkcokemieaaGreat.Ev
