/-
  Regions that draw their order (9): the reckoning is right. Nothing of the program stands here.
-/
import Derived.Test.YtoapdkcokemieaaGreatEuZA
namespace Go.Proofs.YtoapdkcokemieaaGreat.Ev
open Go.RowKit
noncomputable section
set_option linter.unusedVariables false
set_option linter.unusedSimpArgs false
set_option linter.unusedSectionVars false
variable [Fs] [En] [FsOk]
theorem allI_intro {β : Type} {f : Nat → β → Bool} : ∀ {l : List β} {i : Nat}, (∀ (j : Nat) (x : β), l[j]? = some x → f (i + j) x = true) → allI f i l = true
  | [], i, h => rfl
  | y :: l, i, h => by
    simp only [allI]
    have h0 := h 0 y (by simp)
    rw [Nat.add_zero] at h0
    rw [h0]
    exact allI_intro (fun j x hj => by have := h (j + 1) x (by simpa using hj); rw [show i + (j + 1) = i + 1 + j from by omega] at this; exact this)
theorem erase_ok {ρ : Type} : ∀ (l : List Oper) (T : Tr PV) (k : Tr PV → ρ), ∃ T', erase l T k = k T' ∧ ∀ t v, T'.at t = some v → T.at t = some v ∧ ∀ o, o ∈ l → o.dst ≠ some t
  | [], T, k => ⟨T, rfl, fun t v h => ⟨h, fun o ho => by cases ho⟩⟩
  | o :: l, T, k => by
    unfold erase
    split
    · rename_i d hd
      rw [Tr.setK_eq]
      obtain ⟨T', h1, h2⟩ := erase_ok l (T.put d none) k
      refine ⟨T', h1, fun t v h => ?_⟩
      obtain ⟨h3, h4⟩ := h2 t v h
      rw [Tr.at_put] at h3
      by_cases hdt : d = t
      · rw [if_pos hdt] at h3; cases h3
      · rw [if_neg hdt] at h3
        refine ⟨h3, fun p hp => ?_⟩
        rcases List.mem_cons.1 hp with rfl | hp
        · rw [hd]; simpa using hdt
        · exact h4 p hp
    · rename_i hd
      obtain ⟨T', h1, h2⟩ := erase_ok l T k
      refine ⟨T', h1, fun t v h => ?_⟩
      obtain ⟨h3, h4⟩ := h2 t v h
      refine ⟨h3, fun p hp => ?_⟩
      rcases List.mem_cons.1 hp with rfl | hp
      · rw [hd]; simp
      · exact h4 p hp
section
variable {α : Type} {P : Program} {ops : Array Oper} {T0 : Tr PV} {n0 : Nat} {ms : List Nat}
theorem addM_out {ρ : Type} {R : List Rc} {hl : Hl} {i ac : Nat} {hc : Hp} {mv : List (Nat × AObj)} {k : Hp → ρ} {r : ρ} {j : Nat} (h : addM ms i ac n0 mv hc k = r) (hl2 : hl[j]? = some (hc, ac))
    (h1 : ∀ j ob, (j, ob) ∈ mv → kdR R j = .m ob) (h2 : ∀ j ob, kdR R j = .m ob → (j, ob) ∈ mv) : ∃ A, k A = r ∧ At ms n0 R hl i j A := by
  obtain ⟨A, h3, h4, h5⟩ := addM_HL (ms := ms) (i := i) (ac := ac) (n0 := n0) (kd := kdR R) (hs := hsL hl) (ab := abL hl) (J := j) (fun m => by unfold abL; rw [hl2]) (l := mv) (H := hc) (by unfold hsL; rw [hl2]) k h1 (fun j ob _ h => h2 j ob h)
  exact ⟨A, by rw [← h3]; exact h, h4, h5⟩
theorem QOk.empty {o : Oper} {E : Tr PV} {n : Nat} {v : PV} (h : QOk P o E ⟨.lf, n⟩ v) {A : Hp} (hA : A.n = n) : QOk P o E A v := by
  intro F b a w ht hr
  refine h F b a w ht ?_
  refine HRf.of ?_
  have := hr.toF.sub (h' := fun _ => none) (fun i o h => by cases h)
  rw [hA] at this
  have e : (fun _ => none : Nat → Option AObj) = (Tr.lf : Tr AObj).at := by funext i; rw [Tr.at_lf]
  rw [e] at this
  exact this
theorem rec_at {R : List Rc} {i : Nat} (hi : i < R.length) : ∃ r, R[i]? = some r ∧ kdR R i = r.k ∧ valR R i = r.v ∧ envR R i = r.E ∧ wR R i = r.w := by
  have h : R[i]? = some R[i] := List.getElem?_eq_getElem hi
  exact ⟨R[i], h, by simp [kdR, h], by simp [valR, h], by simp [envR, h], by simp [wR, h]⟩
theorem dr_of {N : Nat} (ht : textOk N ops.toList ms = true) {R : List Rc} {T1 T : Tr PV} {hc : Hp} {ac : Nat} {hl : Hl} {cs : List Nat} {lc : Option Nat} {mv : List (Nat × AObj)} {qs : List Qr} {st : Option (Nat × PV × Hp)} (g : G P ops T0 n0 ms R T1 T hc ac hl cs lc mv qs st)
    (hsz : R.length = ops.size) {H0 : Hp} (h0 : hl[0]? = some (H0, 0)) (hq : chkQ P ms cs n0 mv hl qs = true) (hm : chkM n0 mv hl = true) {vp : PV} {Hp' : Hp} (hv : ∀ x, st = some x → x.2.1 = vp ∧ x.2.2 = Hp') :
    Dr P ops T0 n0 (fun i j => clB ms i j = true) (valR R) (kdR R) (envR R) (wR R) cs (hsL hl) (abL hl) vp Hp' := by
  have at_op : ∀ i o, ops[i]? = some o → ∃ r, R[i]? = some r ∧ kdR R i = r.k ∧ valR R i = r.v ∧ envR R i = r.E ∧ wR R i = r.w ∧ (r.k ≠ .x → RcOk P ops T0 n0 ms R hl cs i o r) := by
    intro i o ho
    have hi : i < R.length := by rw [hsz]; exact (Array.getElem?_eq_some_iff.1 ho).1
    obtain ⟨r, h1, h2, h3, h4, h5⟩ := rec_at hi
    obtain ⟨o', h6, h7⟩ := g.rc i r h1
    rw [ho] at h6; injection h6 with h6; subst h6
    exact ⟨r, h1, h2, h3, h4, h5, h7⟩
  have op_at : ∀ i, i < ops.size → ops[i]? = some ops[i]! := by
    intro i hi
    simp [hi]
  refine ⟨text_c1 ht, text_c2 ht, ?_, ?_, ?_, ?_, ?_, ?_, ?_, g.cs2, ?_, ?_, text_c10 ht, ?_, ?_, ?_, ?_⟩
  · intro i hi hx t v hE
    obtain ⟨r, h1, h2, h3, h4, h5, h6⟩ := at_op i _ (op_at i hi)
    rw [h2] at hx
    rw [h4] at hE
    rcases (h6 hx).e t v hE with ⟨h7, h8⟩ | ⟨h7, j, r', h8, h9, h10⟩
    · refine .inr ⟨h8, fun j hj => ?_⟩
      unfold srcOf at h7
      rw [(text_dst ht j t hj).2] at h7
      simp only at h7
      split at h7
      · rename_i hb; exact .inl (Nat.eq_of_beq_eq_true hb)
      · split at h7
        · cases h7
        · split at h7
          · rename_i hb; exact .inr hb
          · cases h7
    · refine .inl ⟨j, h9, ?_, by simp [valR, h8, h10]⟩
      unfold srcOf at h7
      rw [(text_dst ht j t h9).2] at h7
      simp only at h7
      split at h7
      · cases h7
      · split at h7
        · rename_i hb; exact hb
        · split at h7 <;> cases h7
  · intro i o ho hx
    obtain ⟨r, h1, h2, h3, h4, h5, h6⟩ := at_op i o ho
    rw [h2] at hx
    rw [h4, h5]; exact (h6 hx).w
  · intro i hi hx hw
    obtain ⟨r, h1, h2, h3, h4, h5, h6⟩ := at_op i _ (op_at i hi)
    rw [h2] at hx
    rw [h2, h3]; rw [h5] at hw
    exact (h6 hx).nw hw
  · intro i o ho hk hw j hj hw1 hw2
    obtain ⟨r, h1, h2, h3, h4, h5, h6⟩ := at_op i o ho
    rw [h2] at hk; rw [h5] at hw
    have hmem := g.q i r o h1 ho hk hw
    obtain ⟨n, hn⟩ := List.getElem?_of_mem hmem
    have h7 := allI_ok hq n _ hn
    have hjl : j < hl.length := by rw [g.hl1]; omega
    have hx : hl[j]? = some hl[j] := List.getElem?_eq_getElem hjl
    have h8 := allI_ok h7 j _ hx
    rw [Nat.zero_add] at h8
    have hwin : winB ms cs i j = true := by
      refine allI_intro (fun k c hkc => ?_)
      rw [Nat.zero_add, Bool.and_eq_true]
      constructor
      · cases hb : clB ms i c with
        | false => rfl
        | true => simp; exact hw1 k c hkc hb
      · cases hb : clB ms c i with
        | false => rfl
        | true => simp; exact hw2 k c hkc hb
    simp only [hwin] at h8
    have hxx : hl[j]? = some (hl[j].1, hl[j].2) := hx
    rw [h3, h4]
    unfold qAt at h8
    split at h8
    · rename_i v hv'
      have := eqP_ok _ _ _ h8
      simp only at this
      subst this
      obtain ⟨A, _, hA⟩ := addM_out (R := R) (i := i) (ms := ms) (n0 := n0) (k := fun A => A) rfl hxx g.mv1 g.mv2
      refine ⟨A, hA.n, hA.t, (evQD_ok hv').empty ?_⟩
      rw [hA.n]; unfold hsL; rw [hx]
    · obtain ⟨A, h9, hA⟩ := addM_out (R := R) h8 hxx g.mv1 g.mv2
      split at h9
      · rename_i v hv'
        have := eqP_ok _ _ _ h9
        simp only at this
        subst this
        exact ⟨A, hA.n, hA.t, evQD_ok hv'⟩
      · cases h9
  · intro i o ob ho hk
    obtain ⟨r, h1, h2, h3, h4, h5, h6⟩ := at_op i o ho
    rw [h2] at hk
    rw [h3, h4]
    exact (h6 (by rw [hk]; simp)).m ob hk
  · intro i o j ho hk
    obtain ⟨r, h1, h2, h3, h4, h5, h6⟩ := at_op i o ho
    rw [h2] at hk
    rw [h3, h4]
    obtain ⟨h7, h8, A, h9, h10⟩ := (h6 (by rw [hk]; simp)).c j hk
    exact ⟨h7, A, h9.n, h9.t, h10⟩
  · intro j i hj
    obtain ⟨r, h1, h2⟩ := g.cs1 j i hj
    refine ⟨by simp [kdR, h1, h2], ?_⟩
    rw [← hsz]; exact (List.getElem?_eq_some_iff.1 h1).1
  · intro i o ho hk
    obtain ⟨r, h1, h2, h3, h4, h5, h6⟩ := at_op i o ho
    rw [h2] at hk
    cases hst : st with
    | none => exact absurd hk (g.st0 hst i r h1).1
    | some x =>
      obtain ⟨h7, h8, h9, o', r', A, h10, h11, h12, h13, h14⟩ := g.st1 x hst
      have hix := h7 i r h1 hk
      subst hix
      rw [h1] at h11; injection h11 with h11; subst h11
      rw [ho] at h10; injection h10 with h10; subst h10
      obtain ⟨e1, e2⟩ := hv x hst
      rw [e1, e2] at h14
      rw [h4]
      exact ⟨h9, A, h13.n, h13.t, h14⟩
  · intro i hi hk
    obtain ⟨r, h1, h2, _⟩ := rec_at (R := R) (i := i) (by omega)
    rw [h2] at hk
    cases hst : st with
    | none => exact absurd hk (g.st0 hst i r h1).2
    | some x =>
      obtain ⟨h7, h8, h9, o', r', A, h10, h11, h12, h13, h14⟩ := g.st1 x hst
      exact ⟨x.1, by simp [kdR, h11, h12], h8 i r h1 hk⟩
  · intro i
    unfold abL
    rw [h0]
    simp
  · intro j c i hj _
    obtain ⟨x, y, h1, h2, h3⟩ := g.ab j c hj
    unfold abL clB
    simp only [h1, h2, h3, Nat.testBit_or, Bool.or_eq_true]
  · intro i hi
    unfold kdR
    rw [List.getElem?_eq_none (by omega)]
  · intro j i hj hk hab
    obtain ⟨ob, hob⟩ := isM_m hk
    have hjl : j < hl.length := by rw [g.hl1]; omega
    have hx : hl[j]? = some hl[j] := List.getElem?_eq_getElem hjl
    have h7 := allI_ok hm j _ hx
    obtain ⟨n, hn⟩ := List.getElem?_of_mem (g.mv2 i ob hob)
    have h8 := allI_ok h7 n _ hn
    unfold abL at hab
    rw [hx] at hab
    unfold hsL
    rw [hx]
    simp only at hab ⊢
    have hab : Nat.testBit hl[j].2 i = false := by simpa using hab
    rw [hab, Bool.false_or] at h8
    split at h8
    · assumption
    · cases h8
/-! ### The start, and the whole -/
theorem G.start {n : Nat} (H : Hp) : G P ops T0 n0 ms [] .lf T0 ⟨H.t, n⟩ 0 [(⟨H.t, n⟩, 0)] [] none [] [] none := by
  refine ⟨fun i r h => ?_, fun t v h => ?_, fun _ t v h => .inr ⟨h, fun j hj => ?_⟩, rfl, rfl, fun j c h => ?_, fun j c h => ?_, fun j c c' h => ?_, fun j c h => ?_, fun j ob h => ?_, fun j ob h => ?_, fun i r o h => ?_, fun _ i r h => ?_, fun x h => ?_⟩
  · simp at h
  · rw [Tr.at_lf] at h; cases h
  · simp at hj
  · simp at h
  · simp at h
  · simp at h
  · simp at h
  · cases h
  · simp [kdR] at h
  · simp at h
  · simp at h
  · cases h
theorem evDraw_ok (hm : P.follows .mixedOrders = true) : DrawOk P (evDraw P (α := α)) := by
  intro call hcall N id ops T D H k r h
  unfold evDraw at h
  split at h
  · cases h
  · rename_i ht
    rw [fN_eq] at h
    generalize masks ops.toList [] = ms at ht h
    have hlt := text_lt ht
    have hN : ∀ i d, dstOf ops i = some d → d < N := fun i d hd => (text_dst ht i d hd).1
    obtain ⟨R, T1', T', hc, ac, hl, cs, lc, mv, qs, st, h1, h2, g, h⟩ := go_ok hcall hlt ops.toList [] .lf T ⟨H.t, H.n + ops.size⟩ 0 [(⟨H.t, H.n + ops.size⟩, 0)] [] none [] [] none (by intro j; simp) (G.start H) h
    have h0 : hl[0]? = some (⟨H.t, H.n + ops.size⟩, 0) := by rw [h2]; rfl
    split at h
    · cases h
    · rename_i hchk
      rw [Bool.and_eq_true] at hchk
      have hs0 : hsL hl 0 = ⟨H.t, H.n + ops.size⟩ := by unfold hsL; rw [h0]
      have hL : ∀ i, ¬ ((Array.replicate ops.size false).getD i false = true) := by
        intro i
        rw [Array.getD_eq_getD_getElem?, Array.getElem?_replicate]
        split <;> simp
      have inv0 : ∀ (F : Fr) (b : Bm) (a : Act) (w : World), AR P b N T D a → HR F b H w → Inv P ops T D H.n (fun i j => clB ms i j = true) (valR R) (kdR R) cs (hsL hl) (abL hl) N F (fun i => (Array.replicate ops.size false).getD i false = true) 0 b a { w with drawn := w.drawn + 1 } := by
        intro F b a w ha hr
        have hHL : HL (kdR R) (hsL hl) (abL hl) H.n (fun i => (Array.replicate ops.size false).getD i false = true) 0 = H.t.at := by
          funext idx
          unfold HL
          rw [if_neg (fun e => hL _ e.2.1), hs0]
        refine ⟨fun i h => absurd h (hL i), fun i h => absurd h (hL i), fun i h => absurd h (hL i), fun k c _ => ⟨fun h => absurd h (hL c), fun h => by omega⟩, Nat.zero_le _, ha.n, ha.d, fun t v _ ht => ha.t t v ht, fun i t h => absurd h (hL i), fun i t v _ _ ht => ha.t t v ht, ?_, fun i _ _ => hr.nx _ (Nat.le_add_right _ _), hr.low, ?_⟩
        · rw [hHL, hs0]
          exact ⟨hr.fo, fun i hi => hr.nx i (by simp only at hi; omega), Nat.le_trans hr.low (Nat.le_add_right _ _), hr.ag, hr.live, hr.inj⟩
        · intro i hi; rw [hs0]; simp only; omega
      have hleft : left ops.size (Array.replicate ops.size false) ≤ ops.size := by
        unfold left
        refine Nat.le_trans (List.length_filter_le _ _) ?_
        simp
      split at h
      · rename_i hst
        have dr := dr_of ht g h1 h0 hchk.1 hchk.2 (vp := .tp []) (Hp' := H) (fun x hx => by cases hx)
        obtain ⟨A, h, hA⟩ := addM_out (R := R) h g.hl2 g.mv1 g.mv2
        refine ⟨.normal, T', D, A, h, ?_⟩
        intro F b a w Q ha hr hQ
        refine wp_region_any hm (dr.any hN hm (F := F) (D := D) (w0 := w) (b0 := b) ?_ ?_ ops.size _ 0 b a _ (by simp) hleft b.le_rfl ⟨rfl, rfl, rfl, Nat.le_refl _, fun _ _ => rfl⟩ (inv0 F b a w ha hr))
        · intro L J b' a' w' hall hle hk iv
          have hJ : J = cs.length := by
            have := iv.jl
            by_cases hlt2 : J < cs.length
            · have hc2 : cs[J]? = some cs[J] := List.getElem?_eq_getElem hlt2
              have := (iv.jc J _ hc2).1 (hall _ (dr.c7' J _ hc2).2)
              omega
            · omega
          subst hJ
          refine hQ b' .normal a' w' hle .normal ⟨?_, iv.sz, iv.df⟩ ?_ hk
          · intro t v htv
            rcases g.t rfl t v htv with ⟨j, r', h3, h4, h5⟩ | ⟨h3, h4⟩
            · have hj : j < ops.size := by rw [← h1]; exact (List.getElem?_eq_some_iff.1 h3).1
              have := iv.t2 j t (hall j hj) h4
              simpa [valR, h3, h5] using this
            · refine iv.t1 t v (fun i hi => ?_) h3
              by_cases hi2 : i < ops.size
              · exact h4 i (by omega) hi
              · unfold dstOf at hi
                rw [Array.getElem?_eq_none (by omega)] at hi
                cases hi
          · refine HRf.of ?_
            have e : A.t.at = HL (kdR R) (hsL hl) (abL hl) H.n L cs.length := by
              funext idx
              rw [hA.t]
              have : (fun k => clB [2 ^ ops.size - 1] 0 k = true) = L := by
                funext k
                apply propext
                unfold clB
                simp only [List.getD_cons_zero, Nat.testBit_two_pow_sub_one, decide_eq_true_eq]
                exact ⟨fun h => hall k h, fun h => iv.lt k h⟩
              rw [this]
            rw [e, hA.n]
            exact iv.heap
        · intro L J b' a' w' i hk
          obtain ⟨r', h3, h4⟩ := kdR_some hk (by simp)
          exact absurd h4 (g.st0 rfl i r' h3).1
      · rename_i x
        have dr := dr_of ht g h1 h0 hchk.1 hchk.2 (vp := x.2.1) (Hp' := x.2.2) (fun y hy => by injection hy with hy; subst hy; exact ⟨rfl, rfl⟩)
        obtain ⟨T'', h3, h4⟩ := erase_ok ops.toList T (fun T => k (.panic x.2.1) T D x.2.2)
        rw [h3] at h
        refine ⟨.panic x.2.1, T'', D, x.2.2, h, ?_⟩
        intro F b a w Q ha hr hQ
        refine wp_region_any hm (dr.any hN hm (F := F) (D := D) (w0 := w) (b0 := b) ?_ ?_ ops.size _ 0 b a _ (by simp) hleft b.le_rfl ⟨rfl, rfl, rfl, Nat.le_refl _, fun _ _ => rfl⟩ (inv0 F b a w ha hr))
        · intro L J b' a' w' hall hle hk iv
          exfalso
          obtain ⟨_, _, _, o', r', A, h10, h11, h12, _⟩ := g.st1 x rfl
          exact (iv.nop x.1 (hall _ (Array.getElem?_eq_some_iff.1 h10).1)).1 (by simp [kdR, h11, h12])
        · intro L J b' a' w' i hki hle hk iv b'' v' w'' hle' hk' hv hr'
          refine hQ b'' _ a' w'' (hle.trans hle') (.panic _ _ hv) ⟨?_, iv.sz, iv.df.mono hle'⟩ hr' (hk.trans hk')
          intro t v htv
          obtain ⟨h5, h6⟩ := h4 t v htv
          obtain ⟨u, h7, h8⟩ := iv.t1 t v (fun i hi => by
            unfold dstOf at hi
            cases ho : ops[i]? with
            | none => rw [ho] at hi; cases hi
            | some o =>
              rw [ho] at hi
              simp at hi
              exact h6 o (by simpa using Array.mem_of_getElem? ho) hi) h5
          exact ⟨u, h7, h8.mono hle'⟩
end
end
end Go.Proofs.YtoapdkcokemieaaGreat.Ev
