/-
  The reckoning is right (3): code, functions, deferred calls. Nothing of the program stands here.
-/
import Derived.Test.YtoapdkcokemieaaGreatEuP
import Derived.Scope
namespace Go.Proofs.YtoapdkcokemieaaGreat.Ev
open Go.RowKit
noncomputable section
set_option linter.unusedVariables false
set_option linter.unusedSimpArgs false
set_option linter.unusedSectionVars false
variable [Fs] [En] [FsOk]
section
variable {α : Type} {P : Program}
/-! ### Loops -/
def Lwp (P : Program) (c : Code) (Q : Exit → Act → World → Prop) (a : Act) (w : World) : Prop :=
  ∀ (b : Frame) (k : List Item) (cs : List Frame), ∃ e a' w', Q e a' w' ∧ Arrives P (lone (b.at a (.code c :: .inLoop c :: k)) cs w) b k cs e a' w'
theorem Lwp_of {c : Code} {Q : Exit → Act → World → Prop} {a : Act} {w : World} (h : c.wp P (Exit.then (Lwp P c Q) Q) a w) : Lwp P c Q a w := by
  intro b k cs
  obtain ⟨e, a₁, w₁, hq, harr⟩ := h b (.inLoop c :: k) cs
  cases e with
  | normal =>
    obtain ⟨e₂, a₂, w₂, hq₂, harr₂⟩ := hq b k cs
    exact ⟨e₂, a₂, w₂, hq₂, .of_steps (Steps.trans harr (.one step_inLoop)) harr₂⟩
  | exit id => exact ⟨_, a₁, w₁, hq, .pass (x := .inLoop c) rfl (fun _ _ => .inl (by simp)) harr⟩
  | goto l => exact ⟨_, a₁, w₁, hq, .pass (x := .inLoop c) rfl (fun _ _ => .inl (by simp)) harr⟩
  | ret => exact ⟨_, a₁, w₁, hq, .pass (x := .inLoop c) rfl (fun _ _ => .inl (by simp)) harr⟩
  | panic ch => exact ⟨_, a₁, w₁, hq, .pass (x := .inLoop c) rfl (fun _ _ => .inl (by simp)) harr⟩
  | outgrown => exact ⟨_, a₁, w₁, hq, .pass (x := .inLoop c) rfl (fun _ _ => .inl (by simp)) harr⟩
theorem wp_loop_of {c : Code} {Q : Exit → Act → World → Prop} {a : Act} {w : World} (h : Lwp P c Q a w) : (Code.loop c).wp P Q a w := by
  intro b k cs
  obtain ⟨e, a', w', hq, harr⟩ := h b k cs
  exact ⟨e, a', w', hq, .of_steps (.one step_loop) harr⟩
/-! ### Code -/
def CodeOk (P : Program) (code : CodeT α) : Prop := ∀ (N : Nat) (c : Code) (T : Tr PV) (D : DL) (H : Hp) (k : AE → Tr PV → DL → Hp → Option α) (r : α), code N c T D H k = some r →
  ∃ e T' D' H', k e T' D' H' = some r ∧ Goes P (fun Q a w => c.wp P Q a w) N T D H e T' D' H'
def LoopOk (P : Program) (code : CodeT α) : Prop := ∀ (N : Nat) (c : Code) (T : Tr PV) (D : DL) (H : Hp) (k : AE → Tr PV → DL → Hp → Option α) (r : α), code N c T D H k = some r →
  ∃ e T' D' H', k e T' D' H' = some r ∧ Goes P (fun Q a w => Lwp P c Q a w) N T D H e T' D' H'
def DrawOk (P : Program) (draw : DrawT α) : Prop := ∀ (call : CallT α), CallOk P call → ∀ (N id : Nat) (ops : Array Oper) (T : Tr PV) (D : DL) (H : Hp) (k : AE → Tr PV → DL → Hp → Option α) (r : α), draw call N ops T D H k = some r →
  ∃ e T' D' H', k e T' D' H' = some r ∧ Goes P (fun Q a w => (Code.region id ops true).wp P Q a w) N T D H e T' D' H'
theorem ER.mono {b c : Bm} (h : b.le c) {e : AE} {e' : Exit} (he : ER b e e') : ER c e e' := by
  cases he with
  | panic v v' hv => exact .panic v v' (hv.mono h)
  | normal => exact .normal
  | exit id => exact .exit id
  | goto l => exact .goto l
  | ret => exact .ret
theorem Goes.one {wp : (Exit → Act → World → Prop) → Act → World → Prop} {N : Nat} {T : Tr PV} {D : DL} {H : Hp} {e : AE} (hwp : ∀ (b : Bm) (Q : Exit → Act → World → Prop) (a : Act) (w : World), (∀ e', ER b e e' → Q e' a w) → wp Q a w) : Goes P wp N T D H e T D H := by
  intro F b a w Q ha hr hQ
  exact hwp b Q a w (fun e' he => hQ b e' a w b.le_rfl he ha hr (.rfl' F w))
/-- One piece of code behind another. -/
theorem seq_ok {α : Type} {wp1 wp2 wp : (Exit → Act → World → Prop) → Act → World → Prop} (hwp : ∀ (Q : Exit → Act → World → Prop) (a : Act) (w : World), wp1 (Exit.then (wp2 Q) Q) a w → wp Q a w) {N : Nat} {T : Tr PV} {D : DL} {H : Hp} {e1 : AE} {T1 : Tr PV} {D1 : DL} {H1 : Hp}
    (h1 : Goes P wp1 N T D H e1 T1 D1 H1) {k : AE → Tr PV → DL → Hp → Option α} {r : α} {k2 : Option α} (hk : (match (generalizing := false) e1 with
      | .normal => k2
      | e => k e T1 D1 H1) = some r) (h2 : e1 = .normal → k2 = some r → ∃ e T' D' H', k e T' D' H' = some r ∧ Goes P wp2 N T1 D1 H1 e T' D' H') :
    ∃ e T' D' H', k e T' D' H' = some r ∧ Goes P wp N T D H e T' D' H' := by
  cases e1 with
  | normal =>
    obtain ⟨e, T', D', H', h3, h4⟩ := h2 rfl hk
    refine ⟨e, T', D', H', h3, ?_⟩
    intro F b a w Q ha hr hQ
    refine hwp Q a w (h1 F b a w _ ha hr ?_)
    intro b' e' a' w' hle he ha' hr' hkp
    cases he
    exact h4 F b' a' w' Q ha' hr' (fun b2 e2 a2 w2 hle2 he2 ha2 hr2 hk2 => hQ b2 e2 a2 w2 (hle.trans hle2) he2 ha2 hr2 (hkp.trans hk2))
  | exit id =>
    refine ⟨_, _, _, _, hk, ?_⟩
    intro F b a w Q ha hr hQ
    refine hwp Q a w (h1 F b a w _ ha hr ?_)
    intro b' e' a' w' hle he ha' hr' hkp
    cases he
    exact hQ b' _ a' w' hle (.exit id) ha' hr' hkp
  | goto l =>
    refine ⟨_, _, _, _, hk, ?_⟩
    intro F b a w Q ha hr hQ
    refine hwp Q a w (h1 F b a w _ ha hr ?_)
    intro b' e' a' w' hle he ha' hr' hkp
    cases he
    exact hQ b' _ a' w' hle (.goto l) ha' hr' hkp
  | ret =>
    refine ⟨_, _, _, _, hk, ?_⟩
    intro F b a w Q ha hr hQ
    refine hwp Q a w (h1 F b a w _ ha hr ?_)
    intro b' e' a' w' hle he ha' hr' hkp
    cases he
    exact hQ b' _ a' w' hle .ret ha' hr' hkp
  | panic v =>
    refine ⟨_, _, _, _, hk, ?_⟩
    intro F b a w Q ha hr hQ
    refine hwp Q a w (h1 F b a w _ ha hr ?_)
    intro b' e' a' w' hle he ha' hr' hkp
    cases he with
    | panic _ v' hv => exact hQ b' _ a' w' hle (.panic v v' hv) ha' hr' hkp
theorem block_ok {α : Type} {id : Nat} {x : Code} {N : Nat} {T : Tr PV} {D : DL} {H : Hp} {e1 : AE} {T1 : Tr PV} {D1 : DL} {H1 : Hp} (h1 : Goes P (fun Q a w => x.wp P Q a w) N T D H e1 T1 D1 H1) {k : AE → Tr PV → DL → Hp → Option α} {r : α}
    (hk : (match (generalizing := false) e1 with
      | .exit j => match Nat.beq j id with
        | true => k .normal T1 D1 H1
        | false => k (.exit j) T1 D1 H1
      | e => k e T1 D1 H1) = some r) : ∃ e T' D' H', k e T' D' H' = some r ∧ Goes P (fun Q a w => (Code.block id x).wp P Q a w) N T D H e T' D' H' := by
  have pass : ∀ e, (∀ (b : Bm) (e' : Exit) (Q : Exit → Act → World → Prop) (a : Act) (w : World), ER b e1 e' → (∀ e'', ER b e e'' → Q e'' a w) → Exit.inBlock id Q e' a w) → k e T1 D1 H1 = some r →
      ∃ e T' D' H', k e T' D' H' = some r ∧ Goes P (fun Q a w => (Code.block id x).wp P Q a w) N T D H e T' D' H' := by
    intro e he hke
    refine ⟨e, _, _, _, hke, ?_⟩
    intro F b a w Q ha hr hQ
    refine wp_block (h1 F b a w _ ha hr ?_)
    intro b' e' a' w' hle her ha' hr' hkp
    exact he b' e' Q a' w' her (fun e'' he'' => hQ b' e'' a' w' hle he'' ha' hr' hkp)
  cases e1 with
  | exit j =>
    simp only at hk
    cases hj : Nat.beq j id with
    | true =>
      rw [hj] at hk
      have := Nat.eq_of_beq_eq_true hj
      subst this
      exact pass .normal (fun b e' Q a w he h => by cases he; simp only [Exit.inBlock, if_true]; exact h _ .normal) hk
    | false =>
      rw [hj] at hk
      have := Nat.ne_of_beq_eq_false hj
      exact pass (.exit j) (fun b e' Q a w he h => by cases he; simp only [Exit.inBlock, this, if_false]; exact h _ (.exit j)) hk
  | normal => exact pass .normal (fun b e' Q a w he h => by cases he; exact h _ .normal) hk
  | goto l => exact pass (.goto l) (fun b e' Q a w he h => by cases he; exact h _ (.goto l)) hk
  | ret => exact pass .ret (fun b e' Q a w he h => by cases he; exact h _ .ret) hk
  | panic v => exact pass (.panic v) (fun b e' Q a w he h => by
      cases he with
      | panic _ v' hv => exact h _ (.panic v v' hv)) hk
theorem scope_ok {α : Type} {x : Code} {N : Nat} {T : Tr PV} {D : DL} {H : Hp} {e1 : AE} {T1 : Tr PV} {D1 : DL} {H1 : Hp} (h1 : Goes P (fun Q a w => x.wp P Q a w) N T D H e1 T1 D1 H1) {k : AE → Tr PV → DL → Hp → Option α} {r : α}
    (hk : (match (generalizing := false) e1 with
      | .goto _ => none
      | e => k e T1 D1 H1) = some r) : ∃ e T' D' H', k e T' D' H' = some r ∧ Goes P (fun Q a w => (Code.scope x).wp P Q a w) N T D H e T' D' H' := by
  have pass : (∀ l, e1 ≠ .goto l) → k e1 T1 D1 H1 = some r → ∃ e T' D' H', k e T' D' H' = some r ∧ Goes P (fun Q a w => (Code.scope x).wp P Q a w) N T D H e T' D' H' := by
    intro hne hke
    refine ⟨e1, _, _, _, hke, ?_⟩
    intro F b a w Q ha hr hQ
    refine wp_scope_straight (h1 F b a w _ ha hr ?_)
    intro b' e' a' w' hle her ha' hr' hkp
    have := hQ b' e' a' w' hle her ha' hr' hkp
    cases her with
    | goto l => exact absurd rfl (hne l)
    | _ => exact this
  cases e1 with
  | goto l => cases hk
  | normal => exact pass (by simp) hk
  | exit id => exact pass (by simp) hk
  | ret => exact pass (by simp) hk
  | panic v => exact pass (by simp) hk
end
end
end Go.Proofs.YtoapdkcokemieaaGreat.Ev
