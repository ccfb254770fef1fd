/-
  The reckoning is right (5): recover, code of deferred functions, and all of it by induction. Nothing of the program stands here.
-/
import Derived.Test.YtoapdkcokemieaaGreatEuR
namespace Go.Proofs.YtoapdkcokemieaaGreat.Ev
open Go.RowKit
noncomputable section
set_option linter.unusedVariables false
set_option linter.unusedSimpArgs false
set_option linter.unusedSectionVars false
variable [Fs] [En] [FsOk] [Hk]
section
variable {α : Type} {P : Program} [HkOk P]
/-- What an operation of a deferred function does. -/
def OpOkS (P : Program) (o : Oper) (N : Nat) (T : Tr PV) (H : Hp) (u : Option PV) (x : Bool) (e : AE) (T' : Tr PV) (H' : Hp) (u' : Option PV) (x' : Bool) : Prop :=
  ∀ (F : Fr) (b : Bm) (a : Act) (w : World) (m : FrameMode) (c0 : Frame) (cs : List Frame) (ops : Array Oper) (rest : List Nat) (i : Nat) (Q : Exit → Act → List Frame → World → Prop), AR P b N T [] a → HR F b H w → MS b u x m →
    ops[i]? = some o → Region.wanted o (yielded ops a.tmps) = true →
    (e = .normal → ∀ b' a' w' m', b.le b' → AR P b' N T' [] a' → HR F b' H' w' → Keep F w w' → MS b' u' x' m' → wpOpsS P ops Q rest a' ({ c0 with mode := m' } :: cs) w') →
    (∀ v, e = .panic v → ∀ b' v' a' w' m', b.le b' → V b' v v' → AR P b' N T' [] a' → HR F b' H' w' → Keep F w w' → MS b' u' x' m' → Q (.panic [{ v := v', recovered := false }]) a' ({ c0 with mode := m' } :: cs) w') →
    wpOpsS P ops Q (i :: rest) a ({ c0 with mode := m } :: cs) w
theorem opS_plain {o : Oper} {N : Nat} {T T' : Tr PV} {D' : DL} {H H' : Hp} {e : AE} (h : OpOk P o N T [] H e T' D' H') (hD : D' = []) (u : Option PV) (x : Bool) : OpOkS P o N T H u x e T' H' u x := by
  subst hD
  intro F b a w m c0 cs ops rest i Q ha hr hm ho hw hn hp
  have h1 : o.wp P a w (fun a' w' => wpOpsS P ops Q rest a' ({ c0 with mode := m } :: cs) w') (fun e a' w' => Q e a' ({ c0 with mode := m } :: cs) w') := by
    refine h F b a w _ _ ha hr ?_ ?_
    · intro he b' a' w' hle ha' hr' hk
      exact hn he b' a' w' m hle ha' hr' hk (hm.mono hle)
    · intro v he b' v' a' w' hle hv ha' hr' hk
      exact hp v he b' v' a' w' m hle hv ha' hr' hk (hm.mono hle)
  unfold Oper.wp at h1
  simp only [wpOpsS, ho, hw, if_true]
  split
  · rename_i w' hrun
    rw [hrun] at h1
    exact h1.elim
  · rename_i hrun
    exact h1
theorem evOpS_ok {call : CallT α} (hcall : CallOk P call) {N : Nat} {o : Oper} {T : Tr PV} {H : Hp} {u : Option PV} {x : Bool} {k : AE → Tr PV → Hp → Option PV → Bool → Option α} {r : α} (h : evOpS P call N o T H u x k = some r) :
    ∃ e T' H' u' x', k e T' H' u' x' = some r ∧ (e = .normal ∨ ∃ v, e = .panic v) ∧ OpOkS P o N T H u x e T' H' u' x' := by
  have plain : evOp P call N o T [] H (fun e T D H => match D with
      | [] => k e T H u x
      | _ => none) = some r → ∃ e T' H' u' x', k e T' H' u' x' = some r ∧ (e = .normal ∨ ∃ v, e = .panic v) ∧ OpOkS P o N T H u x e T' H' u' x' := by
    intro h
    obtain ⟨e, T', D', H', h1, h2, h3⟩ := evOp_ok hcall h
    cases D' with
    | nil => exact ⟨e, T', H', u, x, h1, h2, opS_plain h3 rfl u x⟩
    | cons d D => cases h1
  unfold evOpS at h
  split at h
  · rename_i c hop
    split at h
    · rename_i hc
      have hrun : ∀ (a : Act) (w : World), (execOp a.eval o).run P w = .ok .recover w := by
        intro a w
        obtain ⟨dst, op, ty, pos, after, gd⟩ := o
        subst hop
        simp [execOp, resolve, hc, invoke, builtin]
      split at h
      · rename_i v
        obtain ⟨T', h1, h2⟩ := evPut_ok (P := P) h
        refine ⟨_, _, _, _, _, h1, .inl rfl, ?_⟩
        intro F b a w m c0 cs ops rest i Q ha hr hm ho hw hn hp
        obtain ⟨v', rfl, hv⟩ := hm
        simp only [wpOpsS, ho, hw, if_true, hrun, recoverD]
        exact hn rfl b _ w _ b.le_rfl (h2 b [] a v' ha hv) hr (.rfl' F w) ⟨v', rfl⟩
      · obtain ⟨T', h1, h2⟩ := evPut_ok (P := P) h
        refine ⟨_, _, _, _, _, h1, .inl rfl, ?_⟩
        intro F b a w m c0 cs ops rest i Q ha hr hm ho hw hn hp
        have hrec : recoverD ({ c0 with mode := m } :: cs) = none := by
          cases x with
          | false => obtain rfl : m = .returning := hm; rfl
          | true => obtain ⟨v', rfl⟩ := hm; rfl
        simp only [wpOpsS, ho, hw, if_true, hrun, hrec]
        exact hn rfl b _ w m b.le_rfl (h2 b [] a .nilIface ha .ni) hr (.rfl' F w) hm
    · exact plain h
  · exact plain h
theorem evOpsS_ok {call : CallT α} (hcall : CallOk P call) {N : Nat} {ops : Array Oper} : ∀ (l : List Oper) (i : Nat), (∀ j, l[j]? = ops[i + j]?) → ∀ {T : Tr PV} {H : Hp} {u : Option PV} {x : Bool} {k : AE → Tr PV → Hp → Option PV → Bool → Option α} {r : α}, evOpsS P call N ops l T H u x k = some r →
    ∃ e T' H' u' x', k e T' H' u' x' = some r ∧ GoesS P (fun Q a cs w => wpOpsS P ops Q (List.range' i l.length) a cs w) N T H u x e T' H' u' x'
  | [], i, hl, T, H, u, x, k, r, h => by
    simp only [evOpsS] at h
    refine ⟨_, _, _, _, _, h, ?_⟩
    intro F b a w m c0 cs Q ha hr hm hQ
    simp only [List.length_nil, List.range'_zero, wpOpsS]
    exact hQ b .normal a w m b.le_rfl .normal ha hr (.rfl' F w) hm
  | o :: l, i, hl, T, H, u, x, k, r, h => by
    have ho : ops[i]? = some o := by have := hl 0; simpa using this.symm
    have hl' : ∀ j, l[j]? = ops[i + 1 + j]? := by intro j; have := hl (j + 1); rw [show i + 1 + j = i + (j + 1) from by omega, ← this]; simp
    simp only [evOpsS] at h
    split at h
    · rename_i hw
      obtain ⟨e, T1, H1, u1, x1, h1, h2, h3⟩ := evOpS_ok hcall h
      rcases h2 with rfl | ⟨v, rfl⟩
      · simp only at h1
        obtain ⟨e2, T2, H2, u2, x2, h4, h5⟩ := evOpsS_ok hcall l (i + 1) hl' h1
        refine ⟨e2, T2, H2, u2, x2, h4, ?_⟩
        intro F b a w m c0 cs Q ha hr hm hQ
        simp only [List.length_cons, List.range'_succ]
        refine h3 F b a w m c0 cs ops _ i Q ha hr hm ho (evWant_ok hw ha.t) ?_ (fun v hv => by cases hv)
        intro _ b' a' w' m' hle ha' hr' hk hm'
        exact h5 F b' a' w' m' c0 cs Q ha' hr' hm' (fun b2 e' a2 w2 m2 hle2 her ha2 hr2 hk2 hm2 => hQ b2 e' a2 w2 m2 (hle.trans hle2) her ha2 hr2 (hk.trans hk2) hm2)
      · simp only at h1
        refine ⟨_, _, _, _, _, h1, ?_⟩
        intro F b a w m c0 cs Q ha hr hm hQ
        simp only [List.length_cons, List.range'_succ]
        refine h3 F b a w m c0 cs ops _ i Q ha hr hm ho (evWant_ok hw ha.t) (fun hn => by cases hn) ?_
        intro v2 hv2 b' v' a' w' m' hle hv' ha' hr' hk hm'
        simp at hv2; subst hv2
        exact hQ b' _ a' w' m' hle (.panic _ _ hv') ha' hr' hk hm'
    · rename_i hw
      obtain ⟨T1, h1, h2⟩ := evPut_ok (P := P) h
      obtain ⟨e2, T2, H2, u2, x2, h4, h5⟩ := evOpsS_ok hcall l (i + 1) hl' h1
      refine ⟨e2, T2, H2, u2, x2, h4, ?_⟩
      intro F b a w m c0 cs Q ha hr hm hQ
      have hwant := evWant_ok hw ha.t
      simp only [List.length_cons, List.range'_succ, wpOpsS, ho, hwant]
      exact h5 F b _ w m c0 cs Q (h2 b [] a undef ha (undef_V b)) hr hm hQ
    · cases h
theorem evCS_ok {call : CallT α} (hcall : CallOk P call) {code : CodeT α} (hcode : CodeOk P code) {N : Nat} : ∀ (c : Code) {T : Tr PV} {H : Hp} {u : Option PV} {x : Bool} {k : AE → Tr PV → Hp → Option PV → Bool → Option α} {r : α}, evCS P call code N c T H u x k = some r →
    ∃ e T' H' u' x', k e T' H' u' x' = some r ∧ GoesS P (fun Q a cs w => c.wpS P Q a cs w) N T H u x e T' H' u' x' := by
  have plain : ∀ (c : Code) {T : Tr PV} {H : Hp} {u : Option PV} {x : Bool} {k : AE → Tr PV → Hp → Option PV → Bool → Option α} {r : α}, code N c T [] H (fun e T D H => match D with
      | [] => k e T H u x
      | _ => none) = some r → ∃ e T' H' u' x', k e T' H' u' x' = some r ∧ GoesS P (fun Q a cs w => c.wpS P Q a cs w) N T H u x e T' H' u' x' := by
    intro c T H u x k r h
    obtain ⟨e, T', D', H', h1, h2⟩ := hcode _ _ _ _ _ _ _ h
    cases D' with
    | nil => exact ⟨e, T', H', u, x, h1, goesS_of h2 u x⟩
    | cons d D => cases h1
  intro c
  induction c with
  | seq y z ih1 ih2 =>
    intro T H u x k r h
    simp only [evCS] at h
    obtain ⟨e1, T1, H1, u1, x1, h1, h2⟩ := ih1 h
    exact seqS_ok (fun Q a cs w h => wpS_seq h) h2 h1 (fun he hk => ih2 hk)
  | cond c y z ih1 ih2 =>
    intro T H u x k r h
    simp only [evCS] at h
    split at h
    · rename_i hc
      obtain ⟨e, T', H', u', x', h1, h2⟩ := ih1 h
      refine ⟨e, T', H', u', x', h1, ?_⟩
      intro F b a w m c0 cs Q ha hr hm hQ
      have := evO_V (a := a) ha.t hc
      generalize hu : a.eval c = v at this
      cases this
      exact wpS_cond hu (h2 F b a w m c0 cs Q ha hr hm hQ)
    · rename_i hc
      obtain ⟨e, T', H', u', x', h1, h2⟩ := ih2 h
      refine ⟨e, T', H', u', x', h1, ?_⟩
      intro F b a w m c0 cs Q ha hr hm hQ
      have := evO_V (a := a) ha.t hc
      generalize hu : a.eval c = v at this
      cases this
      exact wpS_cond hu (h2 F b a w m c0 cs Q ha hr hm hQ)
    · cases h
  | region id ops draw =>
    intro T H u x k r h
    simp only [evCS] at h
    cases draw with
    | false =>
      simp only at h
      obtain ⟨e, T', H', u', x', h1, h2⟩ := evOpsS_ok hcall ops.toList 0 (by intro j; simp) h
      refine ⟨e, T', H', u', x', h1, ?_⟩
      intro F b a w m c0 cs Q ha hr hm hQ
      refine wpS_region ?_
      have := h2 F b a w m c0 cs Q ha hr hm hQ
      rw [List.range_eq_range']
      simpa using this
    | true => exact plain _ h
  | skip => intro T H u x k r h; exact plain _ h
  | block id c ih => intro T H u x k r h; exact plain _ h
  | loop c ih => intro T H u x k r h; exact plain _ h
  | rangeFunc f ps a b' ih1 ih2 => intro T H u x k r h; exact plain _ h
  | exit id => intro T H u x k r h; exact plain _ h
  | scope c ih => intro T H u x k r h; exact plain _ h
  | label l => intro T H u x k r h; exact plain _ h
  | goto l => intro T H u x k r h; exact plain _ h
  | ret => intro T H u x k r h; exact plain _ h
  | refuse y => intro T H u x k r h; exact plain _ h
theorem noDef : DefOk P (fun _ _ _ _ _ => none : DefT α) := by intro f args H u k r hc h; cases h
theorem evDefer_of {code : CodeT α} (hcode : CodeOk P code) : DefOk P (evDef P fun N c => evCS P (evFun P code fun _ _ _ _ _ => none) code N c) :=
  evDef_ok (fun N c T H u x k r h => evCS_ok (evFun_ok hcode noDef) hcode c h)
theorem evC_ok {draw : DrawT α} (hdraw : DrawOk P draw) : ∀ (n : Nat), CodeOk P (evC P draw n false) ∧ LoopOk P (evC P draw n true)
  | 0 => ⟨fun N c T D H k r h => (by simp [evC] at h), fun N c T D H k r h => (by simp [evC] at h)⟩
  | n + 1 => by
    obtain ⟨ih1, ih2⟩ := evC_ok hdraw n
    have hcall : CallOk P (evFun P (evC P draw n false) (evDef P fun N c => evCS P (evFun P (evC P draw n false) fun _ _ _ _ _ => none) (evC P draw n false) N c)) := evFun_ok ih1 (evDefer_of ih1)
    constructor
    · intro N c T D H k r h
      cases c <;> simp only [evC, reduceCtorEq] at h
      case skip => exact ⟨_, _, _, _, h, Goes.one (fun b Q a w hQ => wp_skip (hQ _ .normal))⟩
      case label l => exact ⟨_, _, _, _, h, Goes.one (fun b Q a w hQ => wp_label (hQ _ .normal))⟩
      case exit id => exact ⟨_, _, _, _, h, Goes.one (fun b Q a w hQ => wp_exit (hQ _ (.exit id)))⟩
      case ret => exact ⟨_, _, _, _, h, Goes.one (fun b Q a w hQ => wp_ret (hQ _ .ret))⟩
      case region id ops dr =>
        cases dr with
        | false => exact region_ok hcall h
        | true => exact hdraw _ hcall N id ops T D H k r h
      case seq x y =>
        obtain ⟨e1, T1, D1, H1, h1, h2⟩ := ih1 _ _ _ _ _ _ _ h
        exact seq_ok (fun Q a w h => wp_seq h) h2 h1 (fun he hk => ih1 _ _ _ _ _ _ _ hk)
      case cond c x y =>
        split at h
        · rename_i hc
          obtain ⟨e1, T1, D1, H1, h1, h2⟩ := ih1 _ _ _ _ _ _ _ h
          refine ⟨e1, T1, D1, H1, h1, ?_⟩
          intro F b a w Q ha hr hQ
          have := evO_V (a := a) ha.t hc
          generalize hu : a.eval c = v at this
          cases this
          exact wp_cond_true hu (h2 F b a w Q ha hr hQ)
        · rename_i hc
          obtain ⟨e1, T1, D1, H1, h1, h2⟩ := ih1 _ _ _ _ _ _ _ h
          refine ⟨e1, T1, D1, H1, h1, ?_⟩
          intro F b a w Q ha hr hQ
          have := evO_V (a := a) ha.t hc
          generalize hu : a.eval c = v at this
          cases this
          exact wp_cond_false hu (h2 F b a w Q ha hr hQ)
        · cases h
      case block id x =>
        obtain ⟨e1, T1, D1, H1, h1, h2⟩ := ih1 _ _ _ _ _ _ _ h
        exact block_ok h2 h1
      case loop x =>
        obtain ⟨e1, T1, D1, H1, h1, h2⟩ := ih2 _ _ _ _ _ _ _ h
        refine ⟨e1, T1, D1, H1, h1, ?_⟩
        intro F b a w Q ha hr hQ
        exact wp_loop_of (h2 F b a w Q ha hr hQ)
      case scope x =>
        obtain ⟨e1, T1, D1, H1, h1, h2⟩ := ih1 _ _ _ _ _ _ _ h
        exact scope_ok h2 h1
    · intro N c T D H k r h
      simp only [evC] at h
      obtain ⟨e1, T1, D1, H1, h1, h2⟩ := ih1 _ _ _ _ _ _ _ h
      exact seq_ok (wp2 := fun Q a w => Lwp P c Q a w) (fun Q a w h => Lwp_of h) h2 h1 (fun he hk => ih2 _ _ _ _ _ _ _ hk)
theorem evCall_ok {draw : DrawT α} (hdraw : DrawOk P draw) (n : Nat) : CallOk P (evCall P draw n) := by
  have h := (evC_ok (P := P) hdraw n).1
  exact evFun_ok h (evDefer_of h)
/-- **What is reckoned is so.** -/
theorem reckoned {draw : DrawT PV} (hdraw : DrawOk P draw) {n : Nat} {f : FuncId} {args : List PV} {l : List Value} (hl : ∀ b, VL b args l) {x : Bool} (hc : callable P f = true)
    (h : evCall P draw n f args ⟨.lf, 0⟩ (fun v H => some v) (fun v H => none) = some (.bl x)) : ∀ w, Calls P f ⟨l⟩ w fun e w' => e = .returned (.bool x) ∧ Below w.heap.size w w' := by
  intro w
  rcases evCall_ok hdraw n f args ⟨.lf, 0⟩ _ _ _ hc h with ⟨v, H', h1, h2⟩ | ⟨v, H', h1, h2⟩
  · simp at h1; subst h1
    refine h2 ⟨fun k => k < w.heap.size, 0, fun _ => none⟩ (fun _ => none) w l (hl _) ⟨fun k hk => hk, fun _ _ => rfl, Nat.zero_le _, fun _ _ => rfl, fun i o hi => (by rw [Tr.at_lf] at hi; cases hi), fun i j o p x y hi => (by rw [Tr.at_lf] at hi; cases hi)⟩ _ ?_
    intro b' v' w' hle hv hr hk
    cases hv
    exact ⟨rfl, hk.below⟩
  · cases h1
end
end
end Go.Proofs.YtoapdkcokemieaaGreat.Ev
