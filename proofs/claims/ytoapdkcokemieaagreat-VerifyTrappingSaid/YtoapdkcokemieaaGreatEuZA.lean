/-
  Regions that draw their order (8): the reckoning keeps what is known. Nothing of the program stands here.
-/
import Derived.Test.YtoapdkcokemieaaGreatEuZ
namespace Go.Proofs.YtoapdkcokemieaaGreat.Ev
open Go.RowKit
noncomputable section
set_option linter.unusedVariables false
set_option linter.unusedSimpArgs false
set_option linter.unusedSectionVars false
variable [Fs] [En] [FsOk]
section
variable {α : Type} {P : Program} {ops : Array Oper} {T0 : Tr PV} {n0 : Nat} {ms : List Nat}
theorem evPut_at {N : Nat} {dst : Option Tmp} {v : PV} {T : Tr PV} {k : Tr PV → Option α} {r : α} (h : evPut N dst v T k = some r) :
    ∃ T', k T' = some r ∧ ∀ t u, T'.at t = some u → (dst = some t ∧ v = u) ∨ (dst ≠ some t ∧ T.at t = some u) := by
  unfold evPut at h
  split at h
  · exact ⟨T, h, fun t u hu => .inr ⟨by simp, hu⟩⟩
  · rename_i d
    split at h
    · rw [nK_eq, Tr.setK_eq] at h
      refine ⟨_, h, fun t u hu => ?_⟩
      change (T.put d (some v)).at t = some u at hu
      rw [Tr.at_put] at hu
      by_cases hd : d = t
      · rw [if_pos hd] at hu; injection hu with hu; exact .inl ⟨by rw [hd], hu⟩
      · rw [if_neg hd] at hu; exact .inr ⟨by simpa using hd, hu⟩
    · cases h
theorem mkEnv_elim {l : List Oper} {i : Nat} {T1 : Tr PV} {ts : List Tmp} {k : Tr PV → Option α} {r : α} (h : mkEnv l ms i T0 T1 ts .lf k = some r) :
    ∃ E, k E = some r ∧ ∀ t v, E.at t = some v → (srcOf l ms i t = 1 ∧ T0.at t = some v) ∨ (srcOf l ms i t = 2 ∧ T1.at t = some v) := by
  obtain ⟨E, h1, h2⟩ := mkEnv_ok (ops := l) (ms := ms) (i := i) (T0 := T0) (T1 := T1) ts .lf k (fun t v ht => by rw [Tr.at_lf] at ht; cases ht)
  exact ⟨E, by rw [← h1]; exact h, h2⟩
theorem addM_elim {R : List Rc} {hl : Hl} {cs : List Nat} {i ac : Nat} {hc : Hp} {mv : List (Nat × AObj)} {k : Hp → Option α} {r : α} {j : Nat} (h : addM ms i ac n0 mv hc k = some r) (hl2 : hl[j]? = some (hc, ac))
    (h1 : ∀ j ob, (j, ob) ∈ mv → kdR R j = .m ob) (h2 : ∀ j ob, kdR R j = .m ob → (j, ob) ∈ mv) : ∃ A, k A = some r ∧ At ms n0 R hl i j A := by
  obtain ⟨A, h3, h4, h5⟩ := addM_HL (ms := ms) (i := i) (ac := ac) (n0 := n0) (kd := kdR R) (hs := hsL hl) (ab := abL hl) (J := j) (fun m => by unfold abL; rw [hl2]) (l := mv) (H := hc) (by unfold hsL; rw [hl2]) k h1 (fun j ob _ h => h2 j ob h)
  exact ⟨A, by rw [← h3]; exact h, h4, h5⟩
theorem go_ok {call : CallT α} (hcall : CallOk P call) (hlt : ∀ i k, clB ms i k = true → k < i) {N : Nat} {k : Tr PV → Hp → Nat → Hl → List Nat → List (Nat × AObj) → List Qr → Option (Nat × PV × Hp) → Option α} {r : α} :
    ∀ (l : List Oper) (R : List Rc) (T1 T : Tr PV) (hc : Hp) (ac : Nat) (hl : Hl) (cs : List Nat) (lc : Option Nat) (mv : List (Nat × AObj)) (qs : List Qr) (st : Option (Nat × PV × Hp)), (∀ j, l[j]? = ops[R.length + j]?) →
      G P ops T0 n0 ms R T1 T hc ac hl cs lc mv qs st → evDrawGo P call N n0 ops ms T0 k l R.length T1 T hc ac hl cs lc mv qs st = some r →
      ∃ R' T1' T' hc' ac' hl' cs' lc' mv' qs' st', R'.length = ops.size ∧ hl'[0]? = hl[0]? ∧ G P ops T0 n0 ms R' T1' T' hc' ac' hl' cs' lc' mv' qs' st' ∧ k T' hc' ac' hl' cs' mv' qs' st' = some r
  | [], R, T1, T, hc, ac, hl, cs, lc, mv, qs, st, hj, g, h => by
    refine ⟨R, T1, T, hc, ac, hl, cs, lc, mv, qs, st, ?_, rfl, g, h⟩
    have h1 := hj 0
    simp at h1
    have h1 : ops.size ≤ R.length := h1
    by_cases h2 : ops.size < R.length
    · obtain ⟨o, h3, _⟩ := g.rc ops.size R[ops.size] (List.getElem?_eq_getElem h2)
      simp at h3
    · omega
  | o :: l, R, T1, T, hc, ac, hl, cs, lc, mv, qs, st, hj, g, h => by
    have ho : ops[R.length]? = some o := by have := hj 0; simp at this; simpa using this.symm
    have hlen : ∀ rc : Rc, (R ++ [rc]).length = R.length + 1 := by intro rc; simp
    have hj' : ∀ rc : Rc, ∀ j, l[j]? = ops[(R ++ [rc]).length + j]? := by
      intro rc j
      have := hj (j + 1)
      simp at this
      rw [this, hlen, show R.length + (j + 1) = R.length + 1 + j from by omega]
    simp only [evDrawGo] at h
    split at h
    · -- never done
      rename_i hs
      have hst : ∃ x, st = some x ∧ clB ms R.length x.1 = true := by
        unfold stopped at hs
        cases st with
        | none => cases hs
        | some x => exact ⟨x, rfl, hs⟩
      obtain ⟨x, rfl, hx⟩ := hst
      refine go_ok hcall hlt l (R ++ [⟨.x, .tp [], .lf, true⟩]) _ _ _ _ _ _ _ _ _ _ (hj' _) ?_ (by rw [hlen]; exact h)
      refine g.push hlt ho (fun hk => absurd rfl hk) (fun j => by simp) (fun t v ht => .inr ht) (fun hn => by cases hn) (.inr ⟨id, rfl⟩) ⟨fun q hq => hq, fun hk => by cases hk⟩ (fun hn => by cases hn) ?_
      intro y hy
      injection hy with hy; subst hy
      exact .inl ⟨rfl, by simp, fun _ => hx⟩
    · rename_i hs
      obtain ⟨E, h, hE⟩ := mkEnv_elim h
      have hE' : ∀ t v, E.at t = some v → (srcOf ops.toList ms R.length t = 1 ∧ T0.at t = some v) ∨ (srcOf ops.toList ms R.length t = 2 ∧ ∃ (j : Nat) (r' : Rc), R[j]? = some r' ∧ dstOf ops j = some t ∧ r'.v = v) := by
        intro t v ht
        rcases hE t v ht with h1 | ⟨h1, h2⟩
        · exact .inl h1
        · exact .inr ⟨h1, g.t1 t v h2⟩
      have same : ∀ (k : K), k ≠ .p → k ≠ .x → ∀ x, st = some x → (st = some x ∧ k ≠ .p ∧ (k = .x → clB ms R.length x.1 = true)) := fun k h1 h2 x hx => ⟨hx, h1, fun h3 => absurd h3 h2⟩
      split at h
      · cases h
      · -- not wanted
        rename_i hw
        obtain ⟨T', h, hT⟩ := evPut_at h
        obtain ⟨T1', h, hT1⟩ := evPut_at h
        refine go_ok hcall hlt l (R ++ [⟨.q, .tp [], E, false⟩]) _ _ _ _ _ _ _ _ _ _ (hj' _) ?_ (by rw [hlen]; exact h)
        refine g.push hlt ho (fun _ => ⟨hE', hw, fun _ => ⟨rfl, rfl⟩, fun ob hk => (by cases hk), fun j hk => (by cases hk)⟩) (fun j => by simp) (fun t v ht => ?_) (fun hn => ⟨hn, fun t v ht => hT t v ht⟩) (.inr ⟨id, rfl⟩) ⟨fun q hq => hq, fun _ hk => by cases hk⟩ (fun _ => ⟨by simp, by simp⟩) (fun x hx => .inl (same .q (by simp) (by simp) x hx))
        rcases hT1 t v ht with h1 | h1
        · exact .inl h1
        · exact .inr h1.2
      · rename_i hw
        split at h
        · -- a block
          rename_i hm
          split at h
          · rename_i v e hv
            obtain ⟨ob, h, hob⟩ := efObjK_ok h
            have hM := mk_ok hm hv hob
            obtain ⟨T', h, hT⟩ := evPut_at h
            obtain ⟨T1', h, hT1⟩ := evPut_at h
            refine go_ok hcall hlt l (R ++ [⟨.m ob, v, E, true⟩]) _ _ _ _ _ _ _ _ _ _ (hj' _) ?_ (by rw [hlen]; exact h)
            refine g.push hlt ho (fun _ => ⟨hE', hw, fun hk => (by cases hk), fun ob' hk => (by injection hk with hk; subst hk; exact hM), fun j hk => (by cases hk)⟩) (fun j => by simp) (fun t v ht => ?_) (fun hn => ⟨hn, fun t v ht => hT t v ht⟩) (.inl ⟨ob, rfl, rfl⟩) ⟨fun q hq => hq, fun hk => by cases hk⟩ (fun _ => ⟨by simp, by simp⟩) (fun x hx => .inl (same (.m ob) (by simp) (by simp) x hx))
            rcases hT1 t v ht with h1 | h1
            · exact .inl h1
            · exact .inr h1.2
          · cases h
        · obtain ⟨A, h, hA⟩ := addM_elim (R := R) (cs := cs) h g.hl2 g.mv1 g.mv2
          split at h
          · -- it reads
            rename_i v hv
            rw [evKM_eq] at h
            simp only [evPutR_eq] at h
            obtain ⟨T', h, hT⟩ := evPut_at h
            obtain ⟨T1', h, hT1⟩ := evPut_at h
            refine go_ok hcall hlt l (R ++ [⟨.q, v, E, true⟩]) _ _ _ _ _ _ _ _ _ _ (hj' _) ?_ (by rw [hlen]; exact h)
            refine g.push hlt ho (fun _ => ⟨hE', hw, fun hk => (by cases hk), fun ob hk => (by cases hk), fun j hk => (by cases hk)⟩) (fun j => by simp) (fun t v ht => ?_) (fun hn => ⟨hn, fun t v ht => hT t v ht⟩) (.inr ⟨id, rfl⟩) ⟨fun q hq => List.mem_cons_of_mem _ hq, fun _ _ => by simp⟩ (fun _ => ⟨by simp, by simp⟩) (fun x hx => .inl (same .q (by simp) (by simp) x hx))
            rcases hT1 t v ht with h1 | h1
            · exact .inl h1
            · exact .inr h1.2
          · split at h
            · cases h
            · split at h
              · cases h
              · rename_i hlo
                have hlast : ∀ c, lc = some c → clB ms R.length c = true := by
                  intro c hc2
                  subst hc2
                  exact hlo
                rcases coreOp_ok hcall h with ⟨v, H', h, hV⟩ | ⟨v, H', h, hP⟩
                · simp only [evPutR_eq] at h
                  obtain ⟨T', h, hT⟩ := evPut_at h
                  obtain ⟨T1', h, hT1⟩ := evPut_at h
                  rw [fN_eq] at h
                  have g' := g.core hlt ho (r := ⟨.c cs.length, v, E, true⟩) hE' hw rfl rfl hlast hA hV rfl (T1' := T1') (T' := T') (fun t v ht => by
                    rcases hT1 t v ht with h1 | h1
                    · exact .inl h1
                    · exact .inr h1.2) (fun t v ht => hT t v ht)
                  obtain ⟨R', T1'', T'', hc', ac', hl', cs', lc', mv', qs', st', h1, h2, h3, h4⟩ := go_ok hcall hlt l (R ++ [⟨.c cs.length, v, E, true⟩]) _ _ _ _ _ _ _ _ _ _ (hj' _) g' (by rw [hlen]; exact h)
                  refine ⟨R', T1'', T'', hc', ac', hl', cs', lc', mv', qs', st', h1, ?_, h3, h4⟩
                  rw [h2, List.getElem?_append_left (by rw [g.hl1]; omega)]
                · refine go_ok hcall hlt l (R ++ [⟨.p, v, E, true⟩]) _ _ _ _ _ _ _ _ _ _ (hj' _) ?_ (by rw [hlen]; exact h)
                  refine g.push hlt ho (fun _ => ⟨hE', hw, fun hk => (by cases hk), fun ob hk => (by cases hk), fun j hk => (by cases hk)⟩) (fun j => by simp) (fun t v ht => .inr ht) (fun hn => by cases hn) (.inr ⟨id, rfl⟩) ⟨fun q hq => hq, fun hk => by cases hk⟩ (fun hn => by cases hn) ?_
                  intro x hx
                  injection hx with hx; subst hx
                  exact .inr ⟨rfl, rfl, rfl, fun j c hc2 hj2 => hlast c (g.lc j c hc2 hj2), A, hA, hP⟩
end
end
end Go.Proofs.YtoapdkcokemieaaGreat.Ev
