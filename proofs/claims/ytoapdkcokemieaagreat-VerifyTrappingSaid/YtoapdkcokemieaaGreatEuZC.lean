/-
  Runs in parts: what is reckoned, then what is told otherwise, then what is reckoned again. Nothing of the program stands here.
-/
import Derived.Test.YtoapdkcokemieaaGreatEuZB
namespace Go.Proofs.YtoapdkcokemieaaGreat.Ev
open Go.RowKit
noncomputable section
set_option linter.unusedVariables false
set_option linter.unusedSimpArgs false
set_option linter.unusedSectionVars false
variable [Fs] [En] [FsOk] [Hk]
section
variable {α : Type} {P : Program} [HkOk P]
/-- One code behind the other. -/
theorem Goes.chain {x y : Code} {N : Nat} {T T1 T2 : Tr PV} {D D1 D2 : DL} {H H1 H2 : Hp} {e : AE} (h1 : Goes P (fun Q a w => x.wp P Q a w) N T D H .normal T1 D1 H1) (h2 : Goes P (fun Q a w => y.wp P Q a w) N T1 D1 H1 e T2 D2 H2) :
    Goes P (fun Q a w => (Code.seq x y).wp P Q a w) N T D H e T2 D2 H2 := by
  intro F b a w Q ha hr hQ
  refine wp_seq (h1 F b a w _ ha hr ?_)
  intro b' e' a' w' hle her ha' hr' hk
  cases her
  exact h2 F b' a' w' Q ha' hr' (fun b2 e2 a2 w2 hle2 her2 ha2 hr2 hk2 => hQ b2 e2 a2 w2 (hle.trans hle2) her2 ha2 hr2 (hk.trans hk2))
/-- Code that is reckoned to its end. -/
theorem goes_of {draw : DrawT (Tr PV × Hp)} (hdraw : DrawOk P draw) {n N : Nat} {c : Code} {T : Tr PV} {H : Hp} {X : Tr PV × Hp} (h : evC P draw n false N c T [] H (fun e T D H => match e with
      | .normal => match D with
        | [] => some (T, H)
        | _ => none
      | _ => none) = some X) : Goes P (fun Q a w => c.wp P Q a w) N T [] H .normal X.1 [] X.2 := by
  obtain ⟨e, T', D', H', h1, h2⟩ := (evC_ok hdraw n).1 N c T [] H _ _ h
  cases e with
  | normal =>
    cases D' with
    | nil => simp at h1; subst h1; exact h2
    | cons d D' => cases h1
  | _ => cases h1
/-- .. and what it made is let go of. -/
theorem goes_bare {draw : DrawT (Tr PV × Nat)} (hdraw : DrawOk P draw) {n N : Nat} {c : Code} {T : Tr PV} {H : Hp} {X : Tr PV × Nat} (h : evC P draw n false N c T [] H (fun e T D H => match e with
      | .normal => match D with
        | [] => some (T, H.n)
        | _ => none
      | _ => none) = some X) : Goes P (fun Q a w => c.wp P Q a w) N T [] H .normal X.1 [] ⟨.lf, X.2⟩ := by
  obtain ⟨e, T', D', H', h1, h2⟩ := (evC_ok hdraw n).1 N c T [] H _ _ h
  cases e with
  | normal =>
    cases D' with
    | nil =>
      simp at h1; subst h1
      intro F b a w Q ha hr hQ
      refine h2 F b a w Q ha hr ?_
      intro b' e' a' w' hle her ha' hr' hk
      refine hQ b' e' a' w' hle her ha' (HRf.of ?_) hk
      have := hr'.toF.sub (h' := fun _ => none) (fun i o h => by cases h)
      have e : (fun _ => none : Nat → Option AObj) = (Tr.lf : Tr AObj).at := by funext i; rw [Tr.at_lf]
      rw [e] at this
      exact this
    | cons d D' => cases h1
  | _ => cases h1
/-- The rest of a function's code, to its way out. -/
theorem goes_ret {draw : DrawT (Tr PV × Hp)} (hdraw : DrawOk P draw) {n N : Nat} {c : Code} {T : Tr PV} {H : Hp} {X : Tr PV × Hp} (h : evC P draw n false N c T [] H (fun e T D H => match e with
      | .ret => match D with
        | [] => some (T, H)
        | _ => none
      | _ => none) = some X) : Goes P (fun Q a w => c.wp P Q a w) N T [] H .ret X.1 [] X.2 := by
  obtain ⟨e, T', D', H', h1, h2⟩ := (evC_ok hdraw n).1 N c T [] H _ _ h
  cases e with
  | ret =>
    cases D' with
    | nil => simp at h1; subst h1; exact h2
    | cons d D' => cases h1
  | _ => cases h1
/-- The rest of a function's code, whose result is true. -/
theorem goes_true {draw : DrawT Unit} (hdraw : DrawOk P draw) {n N t : Nat} {c : Code} {T : Tr PV} {H : Hp} (h : evC P draw n false N c T [] H (fun e T D H => match e with
      | .ret => match D with
        | [] => match T.at t with
          | some (.bl true) => some ()
          | _ => none
        | _ => none
      | _ => none) = some ()) : ∃ T' H', T'.at t = some (.bl true) ∧ Goes P (fun Q a w => c.wp P Q a w) N T [] H .ret T' [] H' := by
  obtain ⟨e, T', D', H', h1, h2⟩ := (evC_ok hdraw n).1 N c T [] H _ _ h
  cases e with
  | ret =>
    cases D' with
    | nil =>
      simp only at h1
      split at h1
      · rename_i ht; exact ⟨T', H', ht, h2⟩
      · cases h1
    | cons d D' => cases h1
  | _ => cases h1
/-- A call, its code told. -/
theorem calls_of_goes {f : FuncId} {fn : Func} {c : Code} (hf : P.funcs[f]? = some fn) (hb : fn.body = some c) {args : List PV} {l : List Value} (hl : ∀ b, VL b args l) (hn : args.length ≤ fn.ntmps) {t : Nat} (hres : fn.results.toList = [.tmp t]) {T' : Tr PV} {H' : Hp} {v : Bool} (ht : T'.at t = some (.bl v))
    (h : Goes P (fun Q a w => c.wp P Q a w) fn.ntmps (Tr.fill .lf 0 args) [] ⟨.lf, 0⟩ .ret T' [] H') : ∀ w, Calls P f ⟨l⟩ w fun e w' => e = .returned (.bool v) ∧ Below w.heap.size w w' := by
  intro w
  have he : evLeave P (α := PV) (fun _ _ _ _ _ => none) fn.results.toList T' [] none H' (fun v H => some v) (fun v H => none) = some (.bl v) := by
    rw [hres]
    simp only [evLeave, evRes, ht, one, nK_eq]
  have hd : DefOk P (α := PV) (fun _ _ _ _ _ => none) := by intro f args H u k r hc h; cases h
  rcases evLeave_ok hd [] none H' _ _ _ he with ⟨v', H2, h4, h5⟩ | ⟨v', H2, h4, h5⟩
  · simp at h4; subst h4
    refine calls_of_wp_defers hf hb ?_
    refine h ⟨fun k => k < w.heap.size, 0, fun _ => none⟩ (fun _ => none) _ w _ (enter_AR (hl _) hn) ⟨fun k hk => hk, fun _ _ => rfl, Nat.zero_le _, fun _ _ => rfl, fun i o hi => (by rw [Tr.at_lf] at hi; cases hi), fun i j o p x y hi => (by rw [Tr.at_lf] at hi; cases hi)⟩ ?_
    intro b' e' a' w' hle her ha' hr' hk
    cases her
    refine h5 _ b' w' a'.tmps a'.defers _ ha'.t ha'.d rfl hr' _ (fun b2 v2 w2 hle2 hv2 hr2 hk2 => ?_)
    cases hv2
    exact ⟨rfl, (hk.trans hk2).below⟩
  · cases h4
end
end
end Go.Proofs.YtoapdkcokemieaaGreat.Ev
