/-
  The reckoning is right (2): an operation; the operations of a region. Nothing of the program stands here.
-/
import Derived.Test.YtkjclmafddgoiaaGreatEzO
namespace Go.Proofs.YtkjclmafddgoiaaGreat.Ev
open Go.RowKit
noncomputable section
set_option linter.unusedVariables false
set_option linter.unusedSimpArgs false
set_option linter.unusedSectionVars false
variable [Fs] [En] [FsOk]
section
variable {α : Type} {P : Program}
/-- A call comes back with v; memory is then as H' says. -/
def FunRet (P : Program) (f : FuncId) (args : List PV) (H : Hp) (v : PV) (H' : Hp) : Prop := ∀ (F : Fr) (b : Bm) (w : World) (l : List Value), VL b args l → HR F b H w →
  ∀ (R : Ending → World → Prop), (∀ b' v' w', b.le b' → V b' v v' → HR F b' H' w' → Keep F w w' → R (.returned v') w') → Calls P f ⟨l⟩ w R
def FunPan (P : Program) (f : FuncId) (args : List PV) (H : Hp) (v : PV) (H' : Hp) : Prop := ∀ (F : Fr) (b : Bm) (w : World) (l : List Value), VL b args l → HR F b H w →
  ∀ (R : Ending → World → Prop), (∀ b' v' w', b.le b' → V b' v v' → HR F b' H' w' → Keep F w w' → R (.panicked [{ v := v', recovered := false }]) w') → Calls P f ⟨l⟩ w R
/-- Each call that is told is so. -/
class HkOk [Hk] (P : Program) : Prop where
  ok : ∀ t, t ∈ Hk.l → FunRet P t.f t.args ⟨.lf, 0⟩ t.v ⟨putO t.r, t.n⟩
theorem tell_ok {t : Told} (ht : FunRet P t.f t.args ⟨.lf, 0⟩ t.v ⟨putO t.r, t.n⟩) {args : List PV} (ha : plainA args t.args = true) {H H' : Hp} {v : PV} (h : tell t H = some (v, H')) : FunRet P t.f args H v H' := by
  unfold tell at h
  split at h
  · rename_i v1 hv1
    split at h
    · rename_i tr htr
      simp at h
      obtain ⟨rfl, rfl⟩ := h
      intro F b w l hl hr R hR
      refine ht ⟨fun k => k < w.heap.size, 0, fun _ => none⟩ (fun _ => none) w l (plainA_ok ha hl) ⟨fun k hk => hk, fun _ _ => rfl, Nat.zero_le _, fun _ _ => rfl, fun i o hi => (by rw [Tr.at_lf] at hi; cases hi), fun i j o p x y hi => (by rw [Tr.at_lf] at hi; cases hi)⟩ R ?_
      intro b1 v' w' hle hv hr1 hk
      let c : Bm := fun i => if i < H.n then b i else b1 (i - H.n)
      have hs : ∀ j, c (H.n + j) = b1 j := by
        intro j
        show (if H.n + j < H.n then b (H.n + j) else b1 (H.n + j - H.n)) = b1 j
        rw [if_neg (by omega), show H.n + j - H.n = j from by omega]
      have hlo : ∀ i, i < H.n → c i = b i := fun i hi => if_pos hi
      have hbc : b.le c := by
        intro i x hi
        have : i < H.n := by
          apply Nat.lt_of_not_le
          intro hge
          rw [hr.nx i hge] at hi; cases hi
        rw [hlo i this]; exact hi
      have hold : ∀ i o, H.t.at i = some o → i < H.n := by
        intro i o hi
        obtain ⟨x, ob, h1, _⟩ := hr.live i o hi
        apply Nat.lt_of_not_le
        intro hge
        rw [hr.nx i hge] at h1; cases h1
      have hnew : ∀ k, k < w.heap.size → w'.heap[k]? = w.heap[k]? := fun k hk2 => hk.block k hk2
      refine hR c v' w' hbc (renG_ok (fun i j h => by simp [up] at h; subst h; exact hs i) 8 _ _ _ hv1 hv) ?_ ⟨hk.os, hk.tape, hk.output, hk.size, fun k hF => hk.block k (hr.fo k hF)⟩
      refine ⟨fun k hF => Nat.lt_of_lt_of_le (hr.fo k hF) hk.size, ?_, ?_, ?_, ?_, ?_⟩
      · intro i hi
        have hi : H.n + t.n ≤ i := hi
        show (if i < H.n then b i else b1 (i - H.n)) = none
        rw [if_neg (by omega)]
        exact hr1.nx (i - H.n) (by show t.n ≤ i - H.n; omega)
      · have := hr.low
        show F.n0 ≤ H.n + t.n
        omega
      · intro i hi
        have := hr.low
        rw [hlo i (by omega)]; exact hr.ag i hi
      · intro i o hi
        rcases addS_ok htr i o hi with h1 | ⟨o1, h1, h2, h3⟩
        · obtain ⟨x, ob, h4, h5, h6, h7⟩ := hr.live i o h1
          refine ⟨x, ob, hbc i x h4, ?_, h6.mono hbc, h7⟩
          rw [hnew x.n (heap_lt h5)]; exact h5
        · obtain ⟨x, ob, h4, h5, h6, h7⟩ := hr1.live (i - H.n) o1 h2
          refine ⟨x, ob, ?_, h5, h3 b1 c x ob hs h6, fun hF => h7 (hr.fo x.n hF)⟩
          have := hs (i - H.n)
          rw [show H.n + (i - H.n) = i from by omega] at this
          rw [this]; exact h4
      · intro i j o p x y hi hj hx hy hxy
        have cls : ∀ i o x, tr.at i = some o → c i = some x → (H.t.at i = some o ∧ b i = some x ∧ x.n < w.heap.size) ∨ (H.n ≤ i ∧ ∃ o1, (putO t.r).at (i - H.n) = some o1 ∧ b1 (i - H.n) = some x ∧ ¬ x.n < w.heap.size) := by
          intro i o x hi hx
          rcases addS_ok htr i o hi with h1 | ⟨o1, h1, h2, h3⟩
          · have hlt := hold i o h1
            rw [hlo i hlt] at hx
            obtain ⟨x2, ob, h4, h5, _⟩ := hr.live i o h1
            rw [hx] at h4; simp at h4; subst h4
            exact .inl ⟨h1, hx, heap_lt h5⟩
          · have := hs (i - H.n)
            rw [show H.n + (i - H.n) = i from by omega] at this
            rw [this] at hx
            obtain ⟨x2, ob, h4, h5, h6, h7⟩ := hr1.live (i - H.n) o1 h2
            rw [hx] at h4; simp at h4; subst h4
            exact .inr ⟨h1, o1, h2, hx, h7⟩
        rcases cls i o x hi hx with ⟨h1, h2, h3⟩ | ⟨h1, o1, h2, h3, h4⟩
        · rcases cls j p y hj hy with ⟨h5, h6, h7⟩ | ⟨h5, p1, h6, h7, h8⟩
          · exact hr.inj i j o p x y h1 h5 h2 h6 hxy
          · rw [hxy] at h3; exact absurd h3 h8
        · rcases cls j p y hj hy with ⟨h5, h6, h7⟩ | ⟨h5, p1, h6, h7, h8⟩
          · rw [hxy] at h4; exact absurd h7 h4
          · have := hr1.inj (i - H.n) (j - H.n) o1 p1 x y h2 h6 h3 h7 hxy
            omega
    · cases h
  · cases h
def CallOk (P : Program) (call : CallT α) : Prop := ∀ (f : FuncId) (args : List PV) (H : Hp) (k pk : PV → Hp → Option α) (r : α), callable P f = true → call f args H k pk = some r →
  (∃ v H', k v H' = some r ∧ FunRet P f args H v H') ∨ ∃ v H', pk v H' = some r ∧ FunPan P f args H v H'
/-- What it means that an operation is done so. -/
def OpOk (P : Program) (o : Oper) (N : Nat) (T : Tr PV) (D : DL) (H : Hp) (e : AE) (T' : Tr PV) (D' : DL) (H' : Hp) : Prop :=
  ∀ (F : Fr) (b : Bm) (a : Act) (w : World) (next : Act → World → Prop) (Q : Exit → Act → World → Prop), AR P b N T D a → HR F b H w →
    (e = .normal → ∀ b' a' w', b.le b' → AR P b' N T' D' a' → HR F b' H' w' → Keep F w w' → next a' w') →
    (∀ v, e = .panic v → ∀ b' v' a' w', b.le b' → V b' v v' → AR P b' N T' D' a' → HR F b' H' w' → Keep F w w' → Q (.panic [{ v := v', recovered := false }]) a' w') → o.wp P a w next Q
theorem upon_of {o : Oper} {a : Act} {w w' : World} {next : Act → World → Prop} {Q : Exit → Act → World → Prop} {x : Next} {v' : Value} (h : (execOp a.eval o).run P w = .ok x w') (hx : x = .value v' ∨ x = .skip ∧ v' = undef) (hn : next (a.put o.dst v') w') : o.wp P a w next Q := by
  unfold Oper.wp
  rw [h]
  rcases hx with rfl | ⟨rfl, rfl⟩
  · exact hn
  · exact hn
theorem quiet_ok {o : Oper} {N : Nat} {T T' : Tr PV} {D : DL} {H : Hp} {v : PV} (hq : ∀ (F : Fr) (b : Bm) (w : World) (a : Act), HR F b H w → TR b T a.tmps → ∃ v', (execOp a.eval o).run P w = .ok (.value v') w ∧ V b v v')
    (hT : ∀ (b : Bm) (D : DL) (a : Act) (v' : Value), AR P b N T D a → V b v v' → AR P b N T' D (a.put o.dst v')) : OpOk P o N T D H .normal T' D H := by
  intro F b a w next Q ha hr hn hp
  obtain ⟨v', h1, h2⟩ := hq F b w a hr ha.t
  exact upon_of h1 (.inl rfl) (hn rfl b _ w b.le_rfl (hT b D a v' ha h2) hr (.rfl' F w))
theorem evOp_ok {call : CallT α} (hcall : CallOk P call) {N : Nat} {o : Oper} {T : Tr PV} {D : DL} {H : Hp} {k : AE → Tr PV → DL → Hp → Option α} {r : α} (h : evOp P call N o T D H k = some r) :
    ∃ e T' D' H', k e T' D' H' = some r ∧ (e = .normal ∨ ∃ v, e = .panic v) ∧ OpOk P o N T D H e T' D' H' := by
  have pl : (match evPl P T o with
      | some v => evPut N o.dst v T fun T => k .normal T D H
      | none => none) = some r → ∃ e T' D' H', k e T' D' H' = some r ∧ (e = .normal ∨ ∃ v, e = .panic v) ∧ OpOk P o N T D H e T' D' H' := by
    intro h
    split at h
    · rename_i v hv
      obtain ⟨T', h1, h2⟩ := evPut_ok (P := P) h
      exact ⟨_, _, _, _, h1, .inl rfl, quiet_ok (fun F b w a hr ht => evPl_ok ht hv) h2⟩
    · cases h
  unfold evOp at h
  split at h
  · rename_i v hv
    rw [evPutM_eq] at h
    obtain ⟨T', h1, h2⟩ := evPut_ok (P := P) h
    exact ⟨_, _, _, _, h1, .inl rfl, quiet_ok (fun F b w a hr ht => evQ1_ok hr ht hv) h2⟩
  · split at h
    · rename_i v ef hv
      rw [Ef.apK_eq] at h
      obtain ⟨T', h1, h2⟩ := evPut_ok (P := P) h
      refine ⟨_, _, _, _, h1, .inl rfl, ?_⟩
      intro F b a w next Q ha hr hn hp
      obtain ⟨x, v', b', w', h3, h4, h5, h6, h7, h8, h9⟩ := evA_ok hr hr.low (hr.nx H.n (Nat.le_refl _)) (show H.n < H.n + 1 by omega) (show H.n ≤ H.n + 1 by omega) ha.t hv
      exact upon_of h3 h4 (hn rfl b' _ w' h6 (h2 b' D a v' (ha.mono h6) h5) h8 h9)
    · split at h
      · rename_i c hop
        split at h
        · rename_i f args htg
          split at h
          · rename_i hc
            have run : ∀ (b : Bm) (a : Act) (w : World), TR b T a.tmps → ∃ l', (execOp a.eval o).run P w = .ok (.enter f ⟨l'⟩) w ∧ VL b args l' := by
              intro b a w ht
              obtain ⟨l', h1, h2, _⟩ := evTarget_ok (P := P) (w := w) ht htg hc o.type
              refine ⟨l', ?_, h2⟩
              obtain ⟨dst, op, ty, pos, after, gd⟩ := o
              subst hop
              exact h1
            rcases hcall f args H _ _ r hc h with ⟨v, H', h1, h2⟩ | ⟨v, H', h1, h2⟩
            · obtain ⟨T', h3, h4⟩ := evPut_ok (P := P) h1
              refine ⟨_, _, _, _, h3, .inl rfl, ?_⟩
              intro F b a w next Q ha hr hn hp
              obtain ⟨l', h5, h6⟩ := run b a w ha.t
              unfold Oper.wp
              rw [h5]
              refine h2 F b w l' h6 hr _ ?_
              intro b' v' w' hle hv' hr' hk
              exact hn rfl b' _ w' hle (h4 b' D a v' (ha.mono hle) hv') hr' hk
            · refine ⟨_, _, _, _, h1, .inr ⟨v, rfl⟩, ?_⟩
              intro F b a w next Q ha hr hn hp
              obtain ⟨l', h5, h6⟩ := run b a w ha.t
              unfold Oper.wp
              rw [h5]
              refine h2 F b w l' h6 hr _ ?_
              intro b' v' w' hle hv' hr' hk
              exact hp v rfl b' v' a w' hle hv' (ha.mono hle) hr' hk
          · exact pl h
        · exact pl h
      · rename_i x hop
        split at h
        · rename_i t v hx
          refine ⟨_, _, _, _, h, .inr ⟨_, rfl⟩, ?_⟩
          intro F b a w next Q ha hr hn hp
          have h1 := evO_V (a := a) ha.t hx
          generalize hu : a.eval x = u at h1
          cases h1 with
          | ic _ _ v' hv' =>
            unfold Oper.wp
            have : (execOp a.eval o).run P w = .halt (.panic (.iface t v')) w := by
              obtain ⟨dst, op, ty, pos, after, gd⟩ := o
              subst hop
              simp [execOp, hu, Instr.panic]
            rw [this]
            exact hp _ rfl b (.iface t v') a w b.le_rfl (.ic _ _ _ hv') ha hr (.rfl' F w)
        · cases h
      · rename_i c hop
        split at h
        · rename_i f args htg
          split at h
          · rename_i hc
            split at h
            · rename_i fo hfo
              split at h
              case h_2 => cases h
              rename_i g x y hg
              obtain ⟨T', h3, h4⟩ := evPut_ok (P := P) h
              refine ⟨_, _, _, _, h3, .inl rfl, ?_⟩
              intro F b a w next Q ha hr hn hp
              have hex : ∃ g x y, evO T fo = some (.fn (.func g) x y) := ⟨g, x, y, hg⟩
              obtain ⟨l', h5, h6, h7⟩ := evTarget_ok (P := P) (w := w) ha.t htg hc o.type
              obtain ⟨cap, as, h8, h9⟩ := h7 fo hfo hex
              have hrun : (execOp a.eval o).run P w = .ok (.defer { target := .fn (.func f) cap, args := as }) w := by
                obtain ⟨dst, op, ty, pos, after, gd⟩ := o
                subst hop
                simp [execOp, h8]
              unfold Oper.wp
              rw [hrun]
              have ha2 : AR P b N T ((f, args) :: D) { a with defers := { target := .fn (.func f) cap, args := as } :: a.defers } :=
                ⟨ha.t, ha.n, .cons f args cap as D a.defers hc (by rw [← h9]; exact h6) ha.d⟩
              exact hn rfl b _ w b.le_rfl (h4 b _ _ undef ha2 (undef_V b)) hr (.rfl' F w)
            · cases h
          · cases h
        · cases h
      · exact pl h
/-! ### The operations of a region -/
/-- What it means that code goes so. -/
def Goes (P : Program) (wp : (Exit → Act → World → Prop) → Act → World → Prop) (N : Nat) (T : Tr PV) (D : DL) (H : Hp) (e : AE) (T' : Tr PV) (D' : DL) (H' : Hp) : Prop :=
  ∀ (F : Fr) (b : Bm) (a : Act) (w : World) (Q : Exit → Act → World → Prop), AR P b N T D a → HR F b H w →
    (∀ b' e' a' w', b.le b' → ER b' e e' → AR P b' N T' D' a' → HR F b' H' w' → Keep F w w' → Q e' a' w') → wp Q a w
theorem evOps_ok {call : CallT α} (hcall : CallOk P call) {N : Nat} {ops : Array Oper} : ∀ (l : List Oper) (i : Nat), (∀ j, l[j]? = ops[i + j]?) → ∀ {T : Tr PV} {D : DL} {H : Hp} {k : AE → Tr PV → DL → Hp → Option α} {r : α}, evOps P call N ops l T D H k = some r →
    ∃ e T' D' H', k e T' D' H' = some r ∧ Goes P (fun Q a w => wpOps P ops Q (List.range' i l.length) a w) N T D H e T' D' H'
  | [], i, hl, T, D, H, k, r, h => by
    simp only [evOps] at h
    refine ⟨_, _, _, _, h, ?_⟩
    intro F b a w Q ha hr hQ
    simp only [List.length_nil, List.range'_zero, wpOps]
    exact hQ b .normal a w b.le_rfl .normal ha hr (.rfl' F w)
  | o :: l, i, hl, T, D, H, k, r, h => by
    have ho : ops[i]? = some o := by have := hl 0; simpa using this.symm
    have hl' : ∀ j, l[j]? = ops[i + 1 + j]? := by intro j; have := hl (j + 1); rw [show i + 1 + j = i + (j + 1) from by omega, ← this]; simp
    simp only [evOps] at h
    split at h
    · rename_i hw
      obtain ⟨e, T1, D1, H1, h1, h2, h3⟩ := evOp_ok hcall h
      rcases h2 with rfl | ⟨v, rfl⟩
      · simp only at h1
        obtain ⟨e2, T2, D2, H2, h4, h5⟩ := evOps_ok hcall l (i + 1) hl' h1
        refine ⟨e2, T2, D2, H2, h4, ?_⟩
        intro F b a w Q ha hr hQ
        have hwant := evWant_ok hw ha.t
        simp only [List.length_cons, List.range'_succ, wpOps, ho, hwant, if_true]
        left
        refine h3 F b a w _ Q ha hr ?_ (fun v hv => by cases hv)
        intro _ b' a' w' hle ha' hr' hk
        exact h5 F b' a' w' Q ha' hr' (fun b2 e' a2 w2 hle2 her ha2 hr2 hk2 => hQ b2 e' a2 w2 (hle.trans hle2) her ha2 hr2 (hk.trans hk2))
      · simp only at h1
        refine ⟨_, _, _, _, h1, ?_⟩
        intro F b a w Q ha hr hQ
        have hwant := evWant_ok hw ha.t
        simp only [List.length_cons, List.range'_succ, wpOps, ho, hwant, if_true]
        left
        refine h3 F b a w _ Q ha hr (fun hn => by cases hn) ?_
        intro v2 hv2 b' v' a' w' hle hv' ha' hr' hk
        simp at hv2; subst hv2
        exact hQ b' _ a' w' hle (.panic _ _ hv') ha' hr' hk
    · rename_i hw
      obtain ⟨T1, h1, h2⟩ := evPut_ok (P := P) h
      obtain ⟨e2, T2, D2, H2, h4, h5⟩ := evOps_ok hcall l (i + 1) hl' h1
      refine ⟨e2, T2, D2, H2, h4, ?_⟩
      intro F b a w Q ha hr hQ
      have hwant := evWant_ok hw ha.t
      simp only [List.length_cons, List.range'_succ, wpOps, ho, hwant]
      exact h5 F b _ w Q (h2 b D a undef ha (undef_V b)) hr hQ
    · cases h
theorem region_ok {call : CallT α} (hcall : CallOk P call) {N id : Nat} {ops : Array Oper} {T : Tr PV} {D : DL} {H : Hp} {k : AE → Tr PV → DL → Hp → Option α} {r : α} (h : evOps P call N ops ops.toList T D H k = some r) :
    ∃ e T' D' H', k e T' D' H' = some r ∧ Goes P (fun Q a w => (Code.region id ops false).wp P Q a w) N T D H e T' D' H' := by
  obtain ⟨e, T', D', H', h1, h2⟩ := evOps_ok hcall ops.toList 0 (by intro j; simp) h
  refine ⟨e, T', D', H', h1, ?_⟩
  intro F b a w Q ha hr hQ
  refine wp_region ?_
  have := h2 F b a w Q ha hr hQ
  rw [List.range_eq_range']
  simpa using this
end
end
end Go.Proofs.YtkjclmafddgoiaaGreat.Ev
