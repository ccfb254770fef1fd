/-
  Regions that draw their order (5): what is done in the text's order, and what is asked of it. Nothing of the program stands here.
-/
import Derived.Test.YtoapdkcokemieaaGreatEuW
namespace Go.Proofs.YtoapdkcokemieaaGreat.Ev
open Go.RowKit
noncomputable section
set_option linter.unusedVariables false
set_option linter.unusedSimpArgs false
set_option linter.unusedSectionVars false
variable [Fs] [En] [FsOk]
section
variable {α : Type} (P : Program)
def isMk : Op → Bool
  | .alloc _ => true
  | .box _ _ => true
  | .buildSlice .. => true
  | .makeSlice .. => true
  | .makeMap .. => true
  | _ => false
def isCall : Op → Bool
  | .call c => match c.callee with
    | .builtin _ => false
    | _ => true
  | .panic _ => true
  | .defer _ => true
  | _ => false
def evQD (H : Hp) (E : Tr PV) (o : Oper) : Option PV := match evQ1 P H E o.op with
  | some v => some v
  | none => match isCall o.op with
    | true => none
    | false => evPl P E o
def efObj : Ef → Option AObj
  | .row l T sz g => some (.row (Tr.fill .lf 0 l) l.length T sz g)
  | .obj o => some o
  | .rp v c T => some (.row (copyT v c) c T 0 false)
  | _ => none
def efObjK (e : Ef) (k : AObj → Option α) : Option α := match e with
  | .row l T sz g => nL (nK 6) l fun l => Tr.fillK l 0 .lf fun c => fN l.length fun len => fN sz fun sz => fB g fun g => k (.row c len T sz g)
  | .obj o => k o
  | .rp v c T => nK 6 v fun v => fN c fun c => k (.row (copyT v c) c T 0 false)
  | _ => none
/-- An operation that changes memory, or calls. -/
def coreOp (call : CallT α) (o : Oper) (E : Tr PV) (A : Hp) (k pk : PV → Hp → Option α) : Option α :=
  match evA P A A.n E o.op with
  | some (v, e) => e.apK A.n (A.n + 1) A fun H => nK 6 v fun v => k v H
  | none => match o.op with
    | .call c => match evTarget P E c with
      | some (f, args) => match callable P f with
        | true => call f args A k pk
        | false => none
      | none => none
    | .panic x => match evO E x with
      | some (.ic t v) => pk (.ic t v) A
      | _ => none
    | _ => none
end
section
variable {α : Type} {P : Program}
theorem evQD_ok {H : Hp} {E : Tr PV} {o : Oper} {v : PV} (h : evQD P H E o = some v) : QOk P o E H v := by
  intro F b a w ht hr
  unfold evQD at h
  split at h
  · rename_i v' hv
    simp at h; subst h
    exact evQ1_ok hr ht hv
  · split at h
    · cases h
    · exact evPl_ok ht h
theorem efObjK_ok {e : Ef} {k : AObj → Option α} {r : α} (h : efObjK e k = some r) : ∃ ob, k ob = some r ∧ ∀ m n H, e.ap m n H = ⟨H.t.put m (some ob), n⟩ := by
  unfold efObjK at h
  split at h
  · rename_i l T sz g
    rw [nL_eq (fun v k => nK_eq 6 v k), Tr.fillK_eq, fN_eq, fN_eq, fB_eq] at h
    exact ⟨_, h, fun m n H => rfl⟩
  · exact ⟨_, h, fun m n H => rfl⟩
  · rw [nK_eq, fN_eq] at h
    exact ⟨_, h, fun m n H => rfl⟩
  · cases h
theorem evA_mk {H H' : Hp} {m : Nat} {E : Tr PV} {op : Op} (h : isMk op = true) : evA P H m E op = evA P H' m E op := by
  cases op <;> first | rfl | (simp [isMk] at h)
theorem mk_ok {H0 : Hp} {m : Nat} {E : Tr PV} {o : Oper} (hm : isMk o.op = true) {v : PV} {e : Ef} (h : evA P H0 m E o.op = some (v, e)) {ob : AObj} (hob : ∀ m n H, e.ap m n H = ⟨H.t.put m (some ob), n⟩) : MOk P o E m v ob := by
  intro H F b a w next Q ht hr hlo hmn hnone hnext
  rw [evA_mk (H' := H) hm] at h
  obtain ⟨x, v', b', w', h1, h2, h3, h4, h5, h6, h7⟩ := evA_ok hr hlo hnone hmn (Nat.le_refl _) ht h
  rw [hob] at h6
  exact upon_of h1 h2 (hnext b' v' w' h4 h5 h3 h6 h7)
theorem coreOp_ok {call : CallT α} (hcall : CallOk P call) {o : Oper} {E : Tr PV} {A : Hp} {k pk : PV → Hp → Option α} {r : α} (h : coreOp P call o E A k pk = some r) :
    (∃ v H', k v H' = some r ∧ ValOk P o E A v H') ∨ ∃ v H', pk v H' = some r ∧ PanOk P o E A v H' := by
  unfold coreOp at h
  split at h
  · rename_i v e hv
    rw [Ef.apK_eq, nK_eq] at h
    refine .inl ⟨_, _, h, ?_⟩
    intro F b a w next Q ht hr hn
    obtain ⟨x, v', b', w', h3, h4, h5, h6, h7, h8, h9⟩ := evA_ok hr hr.low (hr.nx A.n (Nat.le_refl _)) (show A.n < A.n + 1 by omega) (show A.n ≤ A.n + 1 by omega) ht hv
    exact upon_of h3 h4 (hn b' v' w' h6 h5 h8 h9)
  · split at h
    · rename_i c hop
      split at h
      · rename_i f args htg
        split at h
        · rename_i hc
          have run : ∀ (b : Bm) (a : Act) (w : World), TR b E a.tmps → ∃ l', (execOp a.eval o).run P w = .ok (.enter f ⟨l'⟩) w ∧ VL b args l' := by
            intro b a w ht
            obtain ⟨l', h1, h2, _⟩ := evTarget_ok (P := P) (w := w) ht htg hc o.type
            refine ⟨l', ?_, h2⟩
            obtain ⟨dst, op, ty, pos, after, gd⟩ := o
            subst hop
            exact h1
          rcases hcall f args A k pk r hc h with ⟨v, H', h1, h2⟩ | ⟨v, H', h1, h2⟩
          · refine .inl ⟨v, H', h1, ?_⟩
            intro F b a w next Q ht hr hn
            obtain ⟨l', h5, h6⟩ := run b a w ht
            unfold Oper.wp
            rw [h5]
            exact h2 F b w l' h6 hr _ (fun b' v' w' hle hv' hr' hk => hn b' v' w' hle hv' hr' hk)
          · refine .inr ⟨v, H', h1, ?_⟩
            intro F b a w next Q ht hr hn
            obtain ⟨l', h5, h6⟩ := run b a w ht
            unfold Oper.wp
            rw [h5]
            exact h2 F b w l' h6 hr _ (fun b' v' w' hle hv' hr' hk => hn b' v' w' hle hv' hr' hk)
        · cases h
      · cases h
    · rename_i x hop
      split at h
      · rename_i t v hx
        refine .inr ⟨_, _, h, ?_⟩
        intro F b a w next Q ht hr hn
        have h1 := evO_V (a := a) ht hx
        generalize hu : a.eval x = u at h1
        cases h1 with
        | ic _ _ v' hv' =>
          unfold Oper.wp
          have : (execOp a.eval o).run P w = .halt (.panic (.iface t v')) w := by
            obtain ⟨dst, op, ty, pos, after, gd⟩ := o
            subst hop
            simp [execOp, hu, Instr.panic]
          rw [this]
          exact hn b (.iface t v') w b.le_rfl (.ic _ _ _ hv') hr (.rfl' F w)
      · cases h
    · cases h
end
/-! ### Blocks that were made in the region -/
def addM {ρ : Type} (ms : List Nat) (i ac n0 : Nat) : List (Nat × AObj) → Hp → (Hp → ρ) → ρ
  | [], H, k => k H
  | (j, ob) :: l, H, k => match clB ms i j && !(Nat.testBit ac j) with
    | true => Tr.setK (pth (n0 + j)) (some ob) H.t fun t => addM ms i ac n0 l ⟨t, H.n⟩ k
    | false => addM ms i ac n0 l H k
open Classical in
theorem addM_ok {ρ : Type} {ms : List Nat} {i ac n0 : Nat} {kd : Nat → K} {hs : Nat → Hp} {ab : Nat → Nat → Prop} {J : Nat} (hab : ∀ j, ab J j ↔ Nat.testBit ac j = true) : ∀ (l : List (Nat × AObj)) (H : Hp) (k : Hp → ρ), (∀ j ob, (j, ob) ∈ l → kd j = .m ob) →
    ∃ A : Hp, addM ms i ac n0 l H k = k A ∧ A.n = H.n ∧ ∀ idx, A.t.at idx = (if n0 ≤ idx ∧ clB ms i (idx - n0) = true ∧ ¬ ab J (idx - n0) ∧ (∃ ob, (idx - n0, ob) ∈ l) then (match kd (idx - n0) with
      | .m ob => some ob
      | _ => H.t.at idx) else H.t.at idx)
  | [], H, k, hk => ⟨H, rfl, rfl, fun idx => by simp⟩
  | (j, ob) :: l, H, k, hk => by
    have hk' : ∀ j ob, (j, ob) ∈ l → kd j = .m ob := fun j ob h => hk j ob (List.mem_cons_of_mem _ h)
    have hj := hk j ob (by simp)
    unfold addM
    split
    · rename_i hc
      simp only [Bool.and_eq_true, Bool.not_eq_true'] at hc
      rw [Tr.setK_eq]
      obtain ⟨A, h1, h2, h3⟩ := addM_ok (hs := hs) hab l ⟨H.t.put (n0 + j) (some ob), H.n⟩ k hk'
      refine ⟨A, h1, h2, fun idx => ?_⟩
      rw [h3]
      simp only [Tr.at_put]
      by_cases he : idx = n0 + j
      · subst he
        have e1 : n0 + j - n0 = j := by omega
        have hnab : ¬ ab J j := by rw [hab]; simp [hc.2]
        have hp : n0 ≤ n0 + j ∧ clB ms i j = true ∧ ¬ ab J j ∧ ∃ ob', (j, ob') ∈ (j, ob) :: l := ⟨by omega, hc.1, hnab, ob, by simp⟩
        rw [if_pos rfl]
        simp only [e1, hj]
        rw [if_pos hp, ite_self]
      · have e2 : ¬ (n0 + j = idx) := fun e => he e.symm
        simp only [if_neg e2]
        by_cases h0 : n0 ≤ idx
        · have e3 : idx - n0 ≠ j := by omega
          have : (∃ ob', (idx - n0, ob') ∈ (j, ob) :: l) ↔ ∃ ob', (idx - n0, ob') ∈ l := by
            constructor
            · rintro ⟨ob', h⟩
              rcases List.mem_cons.1 h with h | h
              · exact absurd (Prod.mk.inj h).1 e3
              · exact ⟨ob', h⟩
            · rintro ⟨ob', h⟩; exact ⟨ob', List.mem_cons_of_mem _ h⟩
          rw [this]
        · rw [if_neg (fun e => h0 e.1), if_neg (fun e => h0 e.1)]
    · rename_i hc
      obtain ⟨A, h1, h2, h3⟩ := addM_ok (hs := hs) hab l H k hk'
      refine ⟨A, h1, h2, fun idx => ?_⟩
      rw [h3]
      by_cases he : idx = n0 + j
      · subst he
        have e1 : n0 + j - n0 = j := by omega
        simp only [e1]
        have hno : ¬ (clB ms i j = true ∧ ¬ ab J j) := by
          rw [hab]
          rintro ⟨h4, h5⟩
          simp [h4, h5] at hc
        rw [if_neg (fun e => hno ⟨e.2.1, e.2.2.1⟩), if_neg (fun e => hno ⟨e.2.1, e.2.2.1⟩)]
      · by_cases h0 : n0 ≤ idx
        · have e3 : idx - n0 ≠ j := by omega
          have : (∃ ob', (idx - n0, ob') ∈ (j, ob) :: l) ↔ ∃ ob', (idx - n0, ob') ∈ l := by
            constructor
            · rintro ⟨ob', h⟩
              rcases List.mem_cons.1 h with h | h
              · exact absurd (Prod.mk.inj h).1 e3
              · exact ⟨ob', h⟩
            · rintro ⟨ob', h⟩; exact ⟨ob', List.mem_cons_of_mem _ h⟩
          rw [this]
        · rw [if_neg (fun e => h0 e.1), if_neg (fun e => h0 e.1)]
/-- The heap that operation i may look at. -/
theorem addM_HL {ρ : Type} {ms : List Nat} {i ac n0 : Nat} {kd : Nat → K} {hs : Nat → Hp} {ab : Nat → Nat → Prop} {J : Nat} (hab : ∀ j, ab J j ↔ Nat.testBit ac j = true) {l : List (Nat × AObj)} {H : Hp} (hH : hs J = H) (k : Hp → ρ) (h1 : ∀ j ob, (j, ob) ∈ l → kd j = .m ob)
    (h2 : ∀ j ob, clB ms i j = true → kd j = .m ob → (j, ob) ∈ l) : ∃ A : Hp, addM ms i ac n0 l H k = k A ∧ A.n = (hs J).n ∧ ∀ idx, A.t.at idx = HL kd hs ab n0 (fun j => clB ms i j = true) J idx := by
  obtain ⟨A, h3, h4, h5⟩ := addM_ok (hs := hs) (n0 := n0) (i := i) (ms := ms) hab l H k h1
  refine ⟨A, h3, by rw [hH, h4], fun idx => ?_⟩
  rw [h5]
  unfold HL
  rw [hH]
  by_cases hc : n0 ≤ idx ∧ clB ms i (idx - n0) = true ∧ ¬ ab J (idx - n0)
  · rw [if_pos hc]
    cases hk : kd (idx - n0) with
    | m ob => rw [if_pos ⟨hc.1, hc.2.1, hc.2.2, ob, h2 _ _ hc.2.1 hk⟩]
    | _ => split <;> rfl
  · rw [if_neg hc, if_neg (fun e => hc ⟨e.1, e.2.1, e.2.2.1⟩)]
end
end Go.Proofs.YtoapdkcokemieaaGreat.Ev
