/-
  The reckoning is right (4): functions, deferred calls, recover; all of it. Nothing of the program stands here.
-/
import Derived.Test.YtoapdkcokemieaaGreatEuQ
namespace Go.Proofs.YtoapdkcokemieaaGreat.Ev
open Go.RowKit
noncomputable section
set_option linter.unusedVariables false
set_option linter.unusedSimpArgs false
set_option linter.unusedSectionVars false
variable [Fs] [En] [FsOk] [Hk]
section
variable {α : Type} {P : Program} [HkOk P]
/-! ### Results -/
def resSem (tmps : Array Value) : ResultVar → Sem Value
  | .tmp t => pure (tmps.getD t undef)
  | .cell a t => do loadVar t (← asAddr (tmps.getD a undef))
theorem evRes_ok {F : Fr} {b : Bm} {H : Hp} {w : World} (hr : HR F b H w) {T : Tr PV} {tmps : Array Value} (ht : TR b T tmps) : ∀ (rs : List ResultVar) (l : List PV), evRes P H T rs = some l →
    ∃ l', (rs.mapM (resSem tmps)).run P w = .ok l' w ∧ VL b l l'
  | [], l, h => by simp [evRes] at h; subst h; exact ⟨[], by simp, .nil⟩
  | .tmp t :: rs, l, h => by
    simp only [evRes] at h
    split at h
    · rename_i v hv
      split at h
      · rename_i m hm
        simp at h; subst h
        obtain ⟨l', h1, h2⟩ := evRes_ok hr ht rs m hm
        exact ⟨_ :: l', by simp [List.mapM_cons, resSem, h1], .cons _ _ _ _ (ht.getD hv) h2⟩
      · cases h
    · cases h
  | .cell a t :: rs, l, h => by
    simp only [evRes] at h
    split at h
    · rename_i p hp
      split at h
      · rename_i v hv
        split at h
        · rename_i m hm
          simp at h; subst h
          obtain ⟨l', h1, h2⟩ := evRes_ok hr ht rs m hm
          have h3 := ht.getD hp
          obtain ⟨v', h4, h5⟩ := evLd_ok (P := P) hr h3 hv
          refine ⟨v' :: l', ?_, .cons _ _ _ _ h5 h2⟩
          have h6 : (resSem tmps (.cell a t)).run P w = .ok v' w := by
            generalize hu : tmps.getD a undef = u at h3 h4
            unfold resSem
            simp only
            rw [hu]
            cases h3 with
            | pt i off x hx => simpa [Instr.loadAt, Instr.sureAddr, asAddr] using h4
            | _ => simp [evLd] at hv
          simp [List.mapM_cons, h6, h1]
        · cases h
      · cases h
    · cases h
theorem one_ok {b : Bm} {l : List PV} {l' : List Value} (h : VL b l l') : V b (one l) (if hs : (⟨l'⟩ : Array Value).size = 1 then (⟨l'⟩ : Array Value)[0] else .tuple ⟨l'⟩) := by
  cases h with
  | nil => exact .tp _ _ .nil
  | cons v v' l l' h1 h2 =>
    cases h2 with
    | nil => simpa [one] using h1
    | cons v2 v2' l2 l2' h3 h4 =>
      have : ¬ ((⟨v' :: v2' :: l2'⟩ : Array Value).size = 1) := by simp
      rw [dif_neg this]
      exact .tp _ _ (.cons _ _ _ _ h1 (.cons _ _ _ _ h3 h4))
theorem results_ok {F : Fr} {b : Bm} {H : Hp} {w : World} (hr : HR F b H w) {T : Tr PV} {tmps : Array Value} (ht : TR b T tmps) {fn : Func} {l : List PV} (h : evRes P H T fn.results.toList = some l) :
    ∃ v', (results fn tmps).run P w = .ok v' w ∧ V b (one l) v' := by
  obtain ⟨l', h1, h2⟩ := evRes_ok (P := P) hr ht _ _ h
  refine ⟨_, ?_, one_ok h2⟩
  have e : results fn tmps = (do
      let vs ← fn.results.mapM (resSem tmps)
      pure (if h : vs.size = 1 then vs[0] else .tuple vs)) := by
    unfold results
    congr 1
  rw [e, Array.mapM_eq_mapM_toList]
  simp [h1]
/-! ### Ways out -/
def MR (b : Bm) : Option PV → FrameMode → Prop
  | none, m => m = .returning
  | some v, m => ∃ v', m = .panicking [{ v := v', recovered := false }] ∧ V b v v'
theorem MR.mono {b c : Bm} (h : b.le c) {u : Option PV} {m : FrameMode} (hm : MR b u m) : MR c u m := by
  cases u with
  | none => exact hm
  | some v => obtain ⟨v', h1, h2⟩ := hm; exact ⟨v', h1, h2.mono h⟩
def DefSpec (P : Program) (f : FuncId) (args : List PV) (H : Hp) (u : Option PV) (H' : Hp) (u' : Option PV) : Prop :=
  ∀ (F : Fr) (b : Bm) (w : World) (l : List Value) (m : FrameMode), VL b args l → HR F b H w → MR b u m → ∀ (R : Ending → FrameMode → World → Prop),
    (∀ b' m' v' w', b.le b' → MR b' u' (settle m') → HR F b' H' w' → Keep F w w' → R (.returned v') m' w') → CallsD P f ⟨l⟩ m w R
def DefOk (P : Program) (defer : DefT α) : Prop := ∀ (f : FuncId) (args : List PV) (H : Hp) (u : Option PV) (k : Hp → Option PV → Option α) (r : α), callable P f = true → defer f args H u k = some r →
  ∃ H' u', k H' u' = some r ∧ DefSpec P f args H u H' u'
theorem evLeave_ok {defer : DefT α} (hd : DefOk P defer) {fn : Func} {T : Tr PV} : ∀ (D : DL) (u : Option PV) (H : Hp) (k pk : PV → Hp → Option α) (r : α), evLeave P defer fn.results.toList T D u H k pk = some r →
    (∃ v H', k v H' = some r ∧ ∀ (F : Fr) (b : Bm) (w : World) (tmps : Array Value) (ds : List Deferred) (m : FrameMode), TR b T tmps → DR P b D ds → MR b u m → HR F b H w → ∀ (R : Ending → World → Prop),
      (∀ b' v' w', b.le b' → V b' v v' → HR F b' H' w' → Keep F w w' → R (.returned v') w') → Leaves P fn tmps R ds m w) ∨
    (∃ v H', pk v H' = some r ∧ ∀ (F : Fr) (b : Bm) (w : World) (tmps : Array Value) (ds : List Deferred) (m : FrameMode), TR b T tmps → DR P b D ds → MR b u m → HR F b H w → ∀ (R : Ending → World → Prop),
      (∀ b' v' w', b.le b' → V b' v v' → HR F b' H' w' → Keep F w w' → R (.panicked [{ v := v', recovered := false }]) w') → Leaves P fn tmps R ds m w)
  | [], none, H, k, pk, r, h => by
    simp only [evLeave] at h
    split at h
    · rename_i l hl
      rw [nK_eq] at h
      refine .inl ⟨_, _, h, ?_⟩
      intro F b w tmps ds m ht hds hm hr R hR
      cases hds
      obtain rfl : m = .returning := hm
      obtain ⟨v', h1, h2⟩ := results_ok (P := P) hr ht hl
      exact ⟨v', h1, hR b v' w b.le_rfl h2 hr (.rfl' F w)⟩
    · cases h
  | [], some v, H, k, pk, r, h => by
    simp only [evLeave] at h
    refine .inr ⟨_, _, h, ?_⟩
    intro F b w tmps ds m ht hds hm hr R hR
    cases hds
    obtain ⟨v', rfl, hv⟩ := hm
    exact hR b v' w b.le_rfl hv hr (.rfl' F w)
  | (f, args) :: D, u, H, k, pk, r, h => by
    simp only [evLeave] at h
    split at h
    case h_2 => cases h
    rename_i hc
    obtain ⟨H1, u1, h1, h2⟩ := hd f args H u _ r hc h
    have step : ∀ (F : Fr) (b : Bm) (w : World) (tmps : Array Value) (ds : List Deferred) (m : FrameMode), TR b T tmps → DR P b ((f, args) :: D) ds → MR b u m → HR F b H w → ∀ (R : Ending → World → Prop),
        (∀ (b' : Bm) (w' : World) (m' : FrameMode) (ds' : List Deferred), b.le b' → MR b' u1 m' → HR F b' H1 w' → Keep F w w' → TR b' T tmps → DR P b' D ds' → Leaves P fn tmps R ds' m' w') → Leaves P fn tmps R ds m w := by
      intro F b w tmps ds m ht hds hm hr R hnext
      cases hds with
      | cons _ _ cap as _ ds' hc' hargs hds' =>
        have hne : m ≠ .run := by
          cases u with
          | none => obtain rfl : m = .returning := hm; simp
          | some v => obtain ⟨v', rfl, _⟩ := hm; simp
        refine leaves_cons (f := f) (args := as ++ cap) hne (by simp only [invoke]; exact callable_ok hc' _) ?_
        have := h2 F b w (as ++ cap).toList m hargs hr hm
        refine this _ ?_
        intro b' m' v' w' hle hm' hr' hk
        exact hnext b' w' (settle m') ds' hle hm' hr' hk (ht.mono hle) (hds'.mono hle)
    rcases evLeave_ok hd D u1 H1 k pk r h1 with ⟨v, H', h3, h4⟩ | ⟨v, H', h3, h4⟩
    · refine .inl ⟨v, H', h3, ?_⟩
      intro F b w tmps ds m ht hds hm hr R hR
      refine step F b w tmps ds m ht hds hm hr R ?_
      intro b' w' m' ds' hle hm' hr' hk ht' hds'
      exact h4 F b' w' tmps ds' m' ht' hds' hm' hr' R (fun b2 v' w2 hle2 hv2 hr2 hk2 => hR b2 v' w2 (hle.trans hle2) hv2 hr2 (hk.trans hk2))
    · refine .inr ⟨v, H', h3, ?_⟩
      intro F b w tmps ds m ht hds hm hr R hR
      refine step F b w tmps ds m ht hds hm hr R ?_
      intro b' w' m' ds' hle hm' hr' hk ht' hds'
      exact h4 F b' w' tmps ds' m' ht' hds' hm' hr' R (fun b2 v' w2 hle2 hv2 hr2 hk2 => hR b2 v' w2 (hle.trans hle2) hv2 hr2 (hk.trans hk2))
/-! ### Calls -/
theorem enter_AR {b : Bm} {args : List PV} {l : List Value} (hl : VL b args l) {n : Nat} (hn : args.length ≤ n) : AR P b n (Tr.fill .lf 0 args) [] { tmps := (⟨l⟩ : Array Value) ++ Array.replicate (n - (⟨l⟩ : Array Value).size) undef, defers := [] } := by
  have hlen := hl.length
  refine ⟨?_, ?_, .nil⟩
  · intro d v hd
    rw [Tr.at_fill] at hd
    split at hd
    · simp only [Nat.sub_zero] at hd
      obtain ⟨v', h1, h2⟩ := hl.get hd
      refine ⟨v', ?_, h2⟩
      have := (List.getElem?_eq_some_iff.1 h1).1
      rw [Array.getElem?_append_left (by simpa using this)]
      simpa using h1
    · rw [Tr.at_lf] at hd; cases hd
  · simp; omega
theorem evFun_ok {code : CodeT α} (hcode : CodeOk P code) {defer : DefT α} (hd : DefOk P defer) : CallOk P (evFun P code defer) := by
  intro f args H k pk r hcal h
  unfold evFun at h
  split at h
  · rename_i t ht
    obtain ⟨t, olds⟩ := t
    obtain ⟨h1, h2, h3⟩ := findH_ok ht
    rw [tellK_eq] at h
    split at h
    · rename_i x hx
      obtain ⟨v, H'⟩ := x
      subst h2
      exact .inl ⟨v, H', h, tell_ok (HkOk.ok t h1) h3 hx⟩
    · cases h
  split at h
  · rename_i fn hf
    split at h
    · rename_i c hb
      split at h
      · rename_i hn
        simp only [Nat.ble_eq] at hn
        rw [Tr.fillK_eq] at h
        obtain ⟨e, T', D', H', h1, h2⟩ := hcode _ _ _ _ _ _ _ h
        have fin : ∀ (u : Option PV) (he : ∀ (b : Bm) (e' : Exit) (a' : Act) (w' : World) (R : Ending → World → Prop), ER b e e' → (∀ m, MR b u m → Leaves P fn a'.tmps R a'.defers m w') → bodyPostD P fn R e' a' w'),
            evLeave P defer fn.results.toList T' D' u H' k pk = some r → (∃ v H', k v H' = some r ∧ FunRet P f args H v H') ∨ ∃ v H', pk v H' = some r ∧ FunPan P f args H v H' := by
          intro u he h3
          rcases evLeave_ok hd D' u H' k pk r h3 with ⟨v, H2, h4, h5⟩ | ⟨v, H2, h4, h5⟩
          · refine .inl ⟨v, H2, h4, ?_⟩
            intro F b w l hl hr R hR
            refine calls_of_wp_defers hf hb ?_
            refine h2 F b _ w _ (enter_AR hl hn) hr ?_
            intro b' e' a' w' hle her ha' hr' hk
            refine he b' e' a' w' R her ?_
            intro m hm
            exact h5 F b' w' a'.tmps a'.defers m ha'.t ha'.d hm hr' R (fun b2 v' w2 hle2 hv2 hr2 hk2 => hR b2 v' w2 (hle.trans hle2) hv2 hr2 (hk.trans hk2))
          · refine .inr ⟨v, H2, h4, ?_⟩
            intro F b w l hl hr R hR
            refine calls_of_wp_defers hf hb ?_
            refine h2 F b _ w _ (enter_AR hl hn) hr ?_
            intro b' e' a' w' hle her ha' hr' hk
            refine he b' e' a' w' R her ?_
            intro m hm
            exact h5 F b' w' a'.tmps a'.defers m ha'.t ha'.d hm hr' R (fun b2 v' w2 hle2 hv2 hr2 hk2 => hR b2 v' w2 (hle.trans hle2) hv2 hr2 (hk.trans hk2))
        cases e with
        | normal => exact fin none (fun b e' a' w' R her hl => by cases her; exact hl _ rfl) h1
        | ret => exact fin none (fun b e' a' w' R her hl => by cases her; exact hl _ rfl) h1
        | panic v => exact fin (some v) (fun b e' a' w' R her hl => by
            cases her with
            | panic _ v' hv => exact hl _ ⟨v', rfl, hv⟩) h1
        | exit id => cases h1
        | goto l => cases h1
      · cases h
    · cases h
  · cases h
/-! ### Code of deferred functions -/
def MS (b : Bm) : Option PV → Bool → FrameMode → Prop
  | some v, _, m => ∃ v', m = .panicking [{ v := v', recovered := false }] ∧ V b v v'
  | none, false, m => m = .returning
  | none, true, m => ∃ v', m = .panicking [{ v := v', recovered := true }]
theorem MS.mono {b c : Bm} (h : b.le c) {u : Option PV} {x : Bool} {m : FrameMode} (hm : MS b u x m) : MS c u x m := by
  cases u with
  | none => cases x <;> exact hm
  | some v => obtain ⟨v', h1, h2⟩ := hm; exact ⟨v', h1, h2.mono h⟩
theorem MS.settle {b : Bm} {u : Option PV} {x : Bool} {m : FrameMode} (hm : MS b u x m) : MR b u (Go.settle m) := by
  cases u with
  | none =>
    cases x with
    | false => obtain rfl : m = .returning := hm; rfl
    | true => obtain ⟨v', rfl⟩ := hm; rfl
  | some v => obtain ⟨v', rfl, h2⟩ := hm; exact ⟨v', rfl, h2⟩
def GoesS (P : Program) (wp : (Exit → Act → List Frame → World → Prop) → Act → List Frame → World → Prop) (N : Nat) (T : Tr PV) (H : Hp) (u : Option PV) (x : Bool) (e : AE) (T' : Tr PV) (H' : Hp) (u' : Option PV) (x' : Bool) : Prop :=
  ∀ (F : Fr) (b : Bm) (a : Act) (w : World) (m : FrameMode) (c0 : Frame) (cs : List Frame) (Q : Exit → Act → List Frame → World → Prop), AR P b N T [] a → HR F b H w → MS b u x m →
    (∀ b' e' a' w' m', b.le b' → ER b' e e' → AR P b' N T' [] a' → HR F b' H' w' → Keep F w w' → MS b' u' x' m' → Q e' a' ({ c0 with mode := m' } :: cs) w') → wp Q a ({ c0 with mode := m } :: cs) w
theorem goesS_of {c : Code} {N : Nat} {T T' : Tr PV} {H H' : Hp} {e : AE} (h : Goes P (fun Q a w => c.wp P Q a w) N T [] H e T' [] H') (u : Option PV) (x : Bool) : GoesS P (fun Q a cs w => c.wpS P Q a cs w) N T H u x e T' H' u x := by
  intro F b a w m c0 cs Q ha hr hm hQ
  refine wpS_of_wp (h F b a w _ ha hr ?_)
  intro b' e' a' w' hle her ha' hr' hk
  exact hQ b' e' a' w' m hle her ha' hr' hk (hm.mono hle)
def CodeSOk (P : Program) (code : Nat → Code → Tr PV → Hp → Option PV → Bool → (AE → Tr PV → Hp → Option PV → Bool → Option α) → Option α) : Prop :=
  ∀ (N : Nat) (c : Code) (T : Tr PV) (H : Hp) (u : Option PV) (x : Bool) (k : AE → Tr PV → Hp → Option PV → Bool → Option α) (r : α), code N c T H u x k = some r →
    ∃ e T' H' u' x', k e T' H' u' x' = some r ∧ GoesS P (fun Q a cs w => c.wpS P Q a cs w) N T H u x e T' H' u' x'
theorem evDef_ok {codeS : CodeST α} (hcode : CodeSOk P codeS) : DefOk P (evDef P codeS) := by
  intro f args H u k r hcal h
  unfold evDef at h
  split at h
  · rename_i fn hf
    split at h
    · rename_i c hb
      split at h
      · rename_i hn
        simp only [Nat.ble_eq] at hn
        rw [Tr.fillK_eq] at h
        obtain ⟨e, T', H', u', x', h1, h2⟩ := hcode _ _ _ _ _ _ _ _ h
        have fin : (∀ e', (∀ b : Bm, ER b e e' → e' = .normal ∨ e' = .ret)) → (match evRes P H' T' fn.results.toList with
            | some _ => k H' u'
            | none => none) = some r → ∃ H' u', k H' u' = some r ∧ DefSpec P f args H u H' u' := by
          intro he h3
          split at h3
          · rename_i rl hrl
            refine ⟨H', u', h3, ?_⟩
            intro F b w l m hl hr hm R hR
            refine callsD_of_wpS hf hb ?_
            intro c0 cs hc0
            have hm0 : MS b u false m := by
              cases u with
              | none => exact hm
              | some v => exact hm
            have e0 : c0 = { c0 with mode := m } := by subst hc0; rfl
            rw [e0]
            refine h2 F b _ w m c0 cs _ (enter_AR hl hn) hr hm0 ?_
            intro b' e' a' w' m' hle her ha' hr' hk hm'
            obtain ⟨v', h4, h5⟩ := results_ok (P := P) hr' ha'.t hrl
            have hdef : a'.defers = [] := by
              have := ha'.d
              cases hdd : a'.defers with
              | nil => rfl
              | cons d ds => rw [hdd] at this; cases this
            have hRR := hR b' m' v' w' hle hm'.settle hr' hk
            rcases he e' b' her with rfl | rfl
            · exact ⟨hdef, m', rfl, v', h4, hRR⟩
            · exact ⟨hdef, m', rfl, v', h4, hRR⟩
          · cases h3
        cases e with
        | normal => exact fin (fun e' b her => by cases her; exact .inl rfl) h1
        | ret => exact fin (fun e' b her => by cases her; exact .inr rfl) h1
        | exit id => cases h1
        | goto l => cases h1
        | panic v => cases h1
      · cases h
    · cases h
  · cases h
theorem seqS_ok {wp1 wp2 wp : (Exit → Act → List Frame → World → Prop) → Act → List Frame → World → Prop} (hwp : ∀ (Q : Exit → Act → List Frame → World → Prop) (a : Act) (cs : List Frame) (w : World), wp1 (Exit.thenS (wp2 Q) Q) a cs w → wp Q a cs w) {N : Nat} {T : Tr PV} {H : Hp} {u : Option PV} {x : Bool} {e1 : AE} {T1 : Tr PV} {H1 : Hp} {u1 : Option PV} {x1 : Bool}
    (h1 : GoesS P wp1 N T H u x e1 T1 H1 u1 x1) {k : AE → Tr PV → Hp → Option PV → Bool → Option α} {r : α} {k2 : Option α} (hk : (match (generalizing := false) e1 with
      | .normal => k2
      | e => k e T1 H1 u1 x1) = some r) (h2 : e1 = .normal → k2 = some r → ∃ e T' H' u' x', k e T' H' u' x' = some r ∧ GoesS P wp2 N T1 H1 u1 x1 e T' H' u' x') :
    ∃ e T' H' u' x', k e T' H' u' x' = some r ∧ GoesS P wp N T H u x e T' H' u' x' := by
  have pass : e1 ≠ .normal → k e1 T1 H1 u1 x1 = some r → ∃ e T' H' u' x', k e T' H' u' x' = some r ∧ GoesS P wp N T H u x e T' H' u' x' := by
    intro hne hke
    refine ⟨e1, T1, H1, u1, x1, hke, ?_⟩
    intro F b a w m c0 cs Q ha hr hm hQ
    refine hwp Q a _ w (h1 F b a w m c0 cs _ ha hr hm ?_)
    intro b' e' a' w' m' hle her ha' hr' hkp hm'
    have := hQ b' e' a' w' m' hle her ha' hr' hkp hm'
    cases her with
    | normal => exact absurd rfl hne
    | _ => exact this
  cases e1 with
  | normal =>
    obtain ⟨e, T', H', u', x', h3, h4⟩ := h2 rfl hk
    refine ⟨e, T', H', u', x', h3, ?_⟩
    intro F b a w m c0 cs Q ha hr hm hQ
    refine hwp Q a _ w (h1 F b a w m c0 cs _ ha hr hm ?_)
    intro b' e' a' w' m' hle he ha' hr' hkp hm'
    cases he
    exact h4 F b' a' w' m' c0 cs Q ha' hr' hm' (fun b2 e2 a2 w2 m2 hle2 he2 ha2 hr2 hk2 hm2 => hQ b2 e2 a2 w2 m2 (hle.trans hle2) he2 ha2 hr2 (hkp.trans hk2) hm2)
  | exit id => exact pass (by simp) hk
  | goto l => exact pass (by simp) hk
  | ret => exact pass (by simp) hk
  | panic v => exact pass (by simp) hk
end
end
end Go.Proofs.YtoapdkcokemieaaGreat.Ev
