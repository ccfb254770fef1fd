/-
  The reckoning is right (1): operations, one behind the other. Nothing of the program stands here.
-/
import Derived.Test.YtoapdkcokemieaaGreatEuN
namespace Go.Proofs.YtoapdkcokemieaaGreat.Ev
open Go.RowKit
noncomputable section
set_option linter.unusedVariables false
set_option linter.unusedSimpArgs false
set_option linter.unusedSectionVars false
variable [Fs] [En] [FsOk]
section
variable {α : Type} {P : Program} {F : Fr} {b : Bm} {H : Hp} {w : World}
theorem callable_ok {f : FuncId} (h : callable P f = true) (args : Array Value) : (callFunc f args).run P w = .ok (.enter f args) w := by
  unfold callable at h
  split at h
  · rename_i fn hf
    simp only [Bool.and_eq_true, Bool.not_eq_true'] at h
    obtain ⟨h1, h2⟩ := h
    have h3 : ¬ fn.body = none := by cases hb : fn.body <;> simp [hb] at h2 ⊢
    have h4 : ¬ fn.name = "runtime.NumGoroutine" := by simpa using h1
    simp [callFunc, hf, h3, h4]
  · cases h
inductive DR (P : Program) (b : Bm) : DL → List Deferred → Prop where
  | nil : DR P b [] []
  | cons (f : FuncId) (l : List PV) (cap args : Array Value) (D : DL) (ds : List Deferred) : callable P f = true → VL b l (args ++ cap).toList → DR P b D ds → DR P b ((f, l) :: D) ({ target := .fn (.func f) cap, args } :: ds)
theorem DR.mono {b c : Bm} (h : b.le c) {D : DL} {ds : List Deferred} (hd : DR P b D ds) : DR P c D ds := by
  induction hd with
  | nil => exact .nil
  | cons f l cap args D ds h1 h2 h3 ih => exact .cons f l cap args D ds h1 (h2.mono h) ih
/-- What a state of code is. -/
structure AR (P : Program) (b : Bm) (N : Nat) (T : Tr PV) (D : DL) (a : Act) : Prop where
  t : TR b T a.tmps
  n : a.tmps.size = N
  d : DR P b D a.defers
theorem AR.mono {b c : Bm} (h : b.le c) {N : Nat} {T : Tr PV} {D : DL} {a : Act} (ha : AR P b N T D a) : AR P c N T D a := ⟨ha.t.mono h, ha.n, ha.d.mono h⟩
inductive ER (b : Bm) : AE → Exit → Prop where
  | normal : ER b .normal .normal
  | exit (id : Nat) : ER b (.exit id) (.exit id)
  | goto (l : Nat) : ER b (.goto l) (.goto l)
  | ret : ER b .ret .ret
  | panic (v : PV) (v' : Value) : V b v v' → ER b (.panic v) (.panic [{ v := v', recovered := false }])
theorem evPut_ok {N : Nat} {dst : Option Tmp} {v : PV} {T : Tr PV} {k : Tr PV → Option α} {r : α} (h : evPut N dst v T k = some r) :
    ∃ T', k T' = some r ∧ ∀ (b : Bm) (D : DL) (a : Act) (v' : Value), AR P b N T D a → V b v v' → AR P b N T' D (a.put dst v') := by
  unfold evPut at h
  split at h
  · exact ⟨T, h, fun b D a v' ha hv => ha⟩
  · rename_i d
    split at h
    · rename_i hd
      simp only [Nat.ble_eq] at hd
      rw [nK_eq, Tr.setK_eq] at h
      refine ⟨_, h, fun b D a v' ha hv => ⟨?_, ?_, ha.d⟩⟩
      · exact ha.t.put (by rw [ha.n]; omega) hv
      · simp [Act.put, ha.n]
    · cases h
theorem V_bool {v : PV} {v' : Value} (hv : V b v v') : (∃ c, v = .bl c ∧ v' = .bool c) ∨ ((∀ c, v ≠ .bl c) ∧ ∀ c, v' ≠ .bool c) := by
  cases hv <;> first
    | exact .inl ⟨_, rfl, rfl⟩
    | exact .inr ⟨by simp, by simp⟩
theorem evWant_ok {ops : Array Oper} {T : Tr PV} {o : Oper} {x : Bool} (h : evWant ops T o = some x) {tmps : Array Value} (ht : TR b T tmps) : Region.wanted o (yielded ops tmps) = x := by
  unfold evWant at h
  unfold Region.wanted
  split at h
  · rename_i hg; simp at h; subst h; simp [hg]
  · rename_i j want hg
    rw [hg]
    split at h
    · rename_i oj hj
      split at h
      · rename_i d hd
        split at h
        · rename_i c hc
          simp at h; subst h
          obtain ⟨v', h1, h2⟩ := ht d _ hc
          cases h2
          simp [yielded, hj, hd, h1]
        · rename_i v hnb hv
          simp at h; subst h
          obtain ⟨v', h1, h2⟩ := ht d _ hv
          rcases V_bool h2 with ⟨c, hc, _⟩ | ⟨_, hn⟩
          · subst hc; exact (hnb c rfl).elim
          · have : yielded ops tmps j = none := by
              unfold yielded
              simp only [hj, hd, Option.bind_some, h1]
              split
              · rename_i c heq; simp at heq; exact absurd heq (hn c)
              · rfl
            simp [this]
        · cases h
      · cases h
    · cases h
theorem evMeth_ok {t : TypeId} {v : PV} {v' : Value} {name : String} (hv : V b v v') {f : FuncId} {q : PV} (h : evMeth P t v name = some (f, q)) : q = v ∧ ∀ n, (method (n + 1) t v' name).run P w = .ok (f, v') w := by
  unfold evMeth at h
  split at h
  · rename_i i hi
    split at h
    · rename_i m hm
      split at h
      · rename_i hp
        split at h
        · rename_i g ptr hf
          have hpath : m.path = #[] := by apply Array.ext'; simpa using hp
          split at h
          · rename_i el hu
            split at h
            · simp at h
              obtain ⟨rfl, rfl⟩ := h
              refine ⟨rfl, fun n => ?_⟩
              simp [method, typeInfo, hi, hm, hpath, follow, hf, receiverAt, run_underlying hu, Place.get]
            · cases h
          · rename_i D hD hu
            split at h
            · cases h
            · simp at h
              obtain ⟨rfl, rfl⟩ := h
              refine ⟨rfl, fun n => ?_⟩
              cases D <;> first
                | exact absurd rfl (hD _)
                | simp [method, typeInfo, hi, hm, hpath, follow, hf, receiverAt, run_underlying hu, Place.get]
          · cases h
        · cases h
      · cases h
    · cases h
  · cases h
theorem run_callMethod {t : TypeId} {v : PV} {v' : Value} {name : String} (hv : V b v v') {f : FuncId} {q : PV} (h : evMeth P t v name = some (f, q)) (hc : callable P f = true) (args : Array Value) :
    (callMethod (.iface t v') name args).run P w = .ok (.enter f (#[v'] ++ args)) w := by
  obtain ⟨rfl, h1⟩ := evMeth_ok (P := P) (w := w) hv h
  have h2 : P.types.size + Made.depth = (P.types.size + 99) + 1 := rfl
  have h3 := h1 (P.types.size + 99)
  rw [← h2] at h3
  simp [callMethod, h3, callable_ok hc]
theorem cons_get0 (v : Value) (l : List Value) : (⟨v :: l⟩ : Array Value)[0]? = some v := by simp
theorem cons_rest (v : Value) (l : List Value) : (⟨v :: l⟩ : Array Value).extract 1 (⟨v :: l⟩ : Array Value).size = ⟨l⟩ := by
  apply Array.ext'; simp
theorem evTarget_ok {T : Tr PV} {a : Act} (ht : TR b T a.tmps) {c : Call} {f : FuncId} {args : List PV} (h : evTarget P T c = some (f, args)) (hc : callable P f = true) (ty : TypeId) :
    ∃ l', (do let d ← resolve a.eval c ty; invoke d.target d.args : Sem Next).run P w = .ok (.enter f ⟨l'⟩) w ∧ VL b args l' ∧
      (∀ fo, c.callee = .value fo → (∃ g x y, evO T fo = some (.fn (.func g) x y)) → ∃ cap as, (resolve a.eval c ty).run P w = .ok { target := .fn (.func f) cap, args := as } w ∧ l' = (as ++ cap).toList) := by
  unfold evTarget at h
  split at h
  · rename_i fo hfo
    split at h
    · rename_i g x cap hx
      split at h
      · rename_i l hl
        simp at h
        obtain ⟨rfl, rfl⟩ := h
        have h1 := evO_V (a := a) ht hx
        generalize hu : a.eval fo = u at h1
        cases h1 with
        | fn _ _ _ x' cap' hx' hcap' =>
          have h2 := evArgs_VL (a := a) ht hl
          refine ⟨x' ++ c.args.toList.map a.eval ++ cap', ?_, by rw [← List.append_assoc]; exact (hx'.app h2).app hcap', ?_⟩
          · have e1 : (⟨x'⟩ : Array Value) ++ c.args.map a.eval ++ ⟨cap'⟩ = ⟨x' ++ c.args.toList.map a.eval ++ cap'⟩ := by apply Array.ext'; simp
            simp only [resolve, hfo, hu, Deferred.ofValue, Sem.run_bind, Sem.run_pure, Result.andThen_ok, invoke, e1, callable_ok hc]
          · intro fo2 _ _
            refine ⟨⟨cap'⟩, ⟨x'⟩ ++ c.args.map a.eval, ?_, by simp⟩
            simp only [resolve, hfo, hu, Deferred.ofValue, Sem.run_bind, Sem.run_pure, Result.andThen_ok]
      · cases h
    · rename_i name t v x cap hx
      split at h
      · rename_i g q hm
        split at h
        · rename_i l hl
          simp at h
          obtain ⟨rfl, rfl⟩ := h
          have h1 := evO_V (a := a) ht hx
          generalize hu : a.eval fo = u at h1
          cases h1 with
          | fn _ _ _ x' cap' hx' hcap' =>
            cases hx' with
            | cons _ vi _ x2 hvi hx2 =>
              cases hvi with
              | ic _ _ v' hv' =>
                have h2 := evArgs_VL (a := a) ht hl
                obtain ⟨rfl, _⟩ := evMeth_ok (P := P) (w := w) hv' hm
                refine ⟨v' :: (x2 ++ c.args.toList.map a.eval), ?_, .cons _ _ _ _ hv' (hx2.app h2), ?_⟩
                · have e0 : (⟨Value.iface t v' :: x2⟩ : Array Value) ++ c.args.map a.eval = ⟨Value.iface t v' :: (x2 ++ c.args.toList.map a.eval)⟩ := by apply Array.ext'; simp
                  have e1 := cons_get0 (Value.iface t v') (x2 ++ c.args.toList.map a.eval)
                  have e2 := cons_rest (Value.iface t v') (x2 ++ c.args.toList.map a.eval)
                  have e3 : #[v'] ++ (⟨x2 ++ c.args.toList.map a.eval⟩ : Array Value) = ⟨v' :: (x2 ++ c.args.toList.map a.eval)⟩ := by apply Array.ext'; simp
                  simp only [resolve, hfo, hu, Deferred.ofValue, Sem.run_bind, Sem.run_pure, Result.andThen_ok, invoke, e0, e1, e2]
                  rw [run_callMethod hv' hm hc, e3]
                · intro fo2 hfo2 hex
                  rw [hfo] at hfo2
                  simp at hfo2; subst hfo2
                  obtain ⟨g2, y1, y2, hy⟩ := hex
                  rw [hx] at hy; simp at hy
        · cases h
      · cases h
    · cases h
  · rename_i ro name hro
    split at h
    · rename_i t v hx
      split at h
      · rename_i g q hm
        split at h
        · rename_i l hl
          simp at h
          obtain ⟨rfl, rfl⟩ := h
          have h1 := evO_V (a := a) ht hx
          generalize hu : a.eval ro = u at h1
          cases h1 with
          | ic _ _ v' hv' =>
            have h2 := evArgs_VL (a := a) ht hl
            obtain ⟨rfl, _⟩ := evMeth_ok (P := P) (w := w) hv' hm
            refine ⟨v' :: c.args.toList.map a.eval, ?_, .cons _ _ _ _ hv' h2, ?_⟩
            · have e0 : #[Value.iface t v'] ++ c.args.map a.eval = ⟨Value.iface t v' :: (c.args.toList.map a.eval)⟩ := by apply Array.ext'; simp
              have e1 := cons_get0 (Value.iface t v') (c.args.toList.map a.eval)
              have e2 := cons_rest (Value.iface t v') (c.args.toList.map a.eval)
              have e3 : #[v'] ++ (⟨c.args.toList.map a.eval⟩ : Array Value) = ⟨v' :: c.args.toList.map a.eval⟩ := by apply Array.ext'; simp
              simp only [resolve, hro, hu, Sem.run_bind, Sem.run_pure, Result.andThen_ok, invoke, e0, e1, e2]
              rw [run_callMethod hv' hm hc, e3]
            · intro fo hfo2
              rw [hro] at hfo2; cases hfo2
        · cases h
      · cases h
    · cases h
  · cases h
end
end
end Go.Proofs.YtoapdkcokemieaaGreat.Ev
