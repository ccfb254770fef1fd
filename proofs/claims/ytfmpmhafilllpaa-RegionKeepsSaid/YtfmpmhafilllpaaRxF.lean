/-
  What a piece of code, a loop, a scope with jumps, a function does, told as a whole, out of its runs with letters. Nothing of the program stands here.
-/
import Derived.Test.YtfmpmhafilllpaaRxD
namespace Go.Proofs.Ytfmpmhafilllpaa
open Go.RowKit
set_option linter.unusedVariables false
set_option linter.unusedSimpArgs false
section
variable {P : Program}
/-! ### What is told by the script -/
def AllOk (P : Program) : List It → Prop
  | [] => True
  | .w v v' :: r => v = v' ∧ AllOk P r
  | .c f args v :: r => (∀ w, Calls' P f args w fun e w' => e = .returned v ∧ Below w.heap.size w w') ∧ AllOk P r
  | .ov q v :: r => (∀ w, q.sem.run P w = .ok (.value v) w) ∧ AllOk P r
  | .q f :: r => (∀ q v ob, f q = some (v, ob) → okL ob → ∀ w, q.sem.run P w = .ok (.value v) w) ∧ AllOk P r
  | .qb f _ :: r => (∀ q v g l, f q = some (v, g) → okL (g l) → ∀ w, q.sem.run P w = .ok (.value v) w) ∧ AllOk P r
  | .l acc :: r => AccOk (fun _ => True) acc ∧ AllOk P r
  | .x sp _ :: r => SpcOk P (fun _ => True) sp ∧ AllOk P r
  | .cx sp _ :: r => SpcOk P (fun _ => True) sp ∧ AllOk P r
  | .o :: r => AllOk P r
  | .a _ :: r => AllOk P r
  | .r _ _ _ :: r => AllOk P r
  | .cp :: r => AllOk P r
theorem AllOk.ok {X : Nat → Prop} {B : Nat} : ∀ {sc : List It}, AllOk P sc → ∀ it ∈ sc, ItOk P X B (fun _ => True) it
  | [], _, it, h => by cases h
  | x :: r, h, it, hm => by
    have key : ItOk P X B (fun _ => True) x ∧ AllOk P r := by
      cases x with
      | w v v' => exact h
      | c f args v => exact ⟨fun w _ => h.1 w, h.2⟩
      | ov q v => exact ⟨fun w _ => h.1 w, h.2⟩
      | q f => exact ⟨fun q v ob hf ho w _ => h.1 q v ob hf ho w, h.2⟩
      | qb f i => exact ⟨fun q v g l hf ho w _ => h.1 q v g l hf ho w, h.2⟩
      | l acc => exact h
      | x sp sel => exact ⟨h.1.x X B, h.2⟩
      | cx sp sel => exact ⟨h.1.x X B, h.2⟩
      | o => exact ⟨trivial, h⟩
      | a i => exact ⟨trivial, h⟩
      | r V A T => exact ⟨trivial, h⟩
      | cp => exact ⟨trivial, h⟩
    rcases List.mem_cons.1 hm with rfl | hm
    · exact key.1
    · exact AllOk.ok key.2 it hm
/-! ### Letters as lists -/
def lts (b : Lt) (n : Nat) : List L1 := (List.range n).map b
theorem lts_len (b : Lt) (n : Nat) : (lts b n).length = n := by simp [lts]
theorem lts_agree {b c : Lt} {n : Nat} (h : agree n c b) : lts c n = lts b n := map_congr_letters fun i hi => h i (List.mem_range.1 hi)
theorem lts_get (b : Lt) {n i : Nat} (h : i < n) : (lts b n)[i]? = some (b i) := by simp [lts, h]
/-- The letter of what is left in a frame and of no use. -/
def junk (t : List Value) : L1 := ⟨0, fun k => t.getD k undef⟩
def ofL (ls : List L1) : Lt := fun i => ls.getD i ⟨0, fun _ => undef⟩
theorem lts_ofL (ls : List L1) : lts (ofL ls) ls.length = ls := by
  apply List.ext_getElem?
  intro i
  by_cases h : i < ls.length
  · rw [lts_get _ h]; simp [ofL, h]
  · rw [List.getElem?_eq_none (by rw [lts_len]; omega), List.getElem?_eq_none (by omega)]
def eqL : List Nat → List Nat → Bool
  | [], [] => true
  | x :: l, y :: m => x == y && eqL l m
  | _, _ => false
theorem eqL_spec : ∀ {l m : List Nat}, eqL l m = true → l = m
  | [], [], _ => rfl
  | x :: l, y :: m, h => by
    simp only [eqL, Bool.and_eq_true, beq_iff_eq] at h
    rw [h.1, eqL_spec h.2]
  | [], _ :: _, h => by simp [eqL] at h
  | _ :: _, [], h => by simp [eqL] at h
def exB : Ex → Ex → Bool
  | .normal, .normal => true
  | .exit i, .exit j => i == j
  | .goto i, .goto j => i == j
  | .ret, .ret => true
  | _, _ => false
theorem exB_spec {e e' : Ex} (h : exB e e' = true) : e = e' := by
  cases e <;> cases e' <;> simp [exB] at h <;> first | rfl | rw [h]
/-- Some of the entries, and one that stands for no block. -/
def reLt (c : Lt) (sel : List Nat) (j : L1) : Lt := fun i => if i < sel.length then c (sel.getD i 0) else j
theorem reLt_lts (c : Lt) (sel : List Nat) (j : L1) : lts (reLt c sel j) (sel.length + 1) = sel.map c ++ [j] := by
  apply List.ext_getElem?
  intro i
  by_cases h : i < sel.length
  · rw [lts_get _ (by omega), List.getElem?_append_left (by simpa using h)]
    simp [reLt, h]
  · by_cases h1 : i = sel.length
    · subst h1
      rw [lts_get _ (by omega)]
      simp [reLt]
    · rw [List.getElem?_eq_none (by rw [lts_len]; omega), List.getElem?_eq_none (by simp; omega)]
theorem Sat.sel {X : Nat → Prop} {B : Nat} {c : Lt} {H l : List Obj} {w : World} {sel : List Nat} (h : Sat X B c H w) (hn : nodupB sel = true) (hp : pick H sel = some l) (j : L1) : Sat X B (reLt c sel j) (l ++ [unb]) w := by
  have hl := pick_len hp
  have key : ∀ (i : Nat) (o : Obj), (l ++ [unb])[i]? = some o → real o = true → ∃ k, sel[i]? = some k ∧ H[k]? = some o ∧ reLt c sel j i = c k := by
    intro i o ho hr
    by_cases hi : i < l.length
    · rw [List.getElem?_append_left hi] at ho
      have hs : i < sel.length := by omega
      have h1 := pick_get hp i sel[i] (List.getElem?_eq_getElem hs)
      refine ⟨sel[i], List.getElem?_eq_getElem hs, by rw [← h1]; exact ho, ?_⟩
      simp [reLt, hs]
    · rw [List.getElem?_append_right (by omega)] at ho
      have : o = unb := by
        cases hx : i - l.length with
        | zero => rw [hx] at ho; simpa using ho.symm
        | succ n => rw [hx] at ho; simp at ho
      subst this
      simp [real, unb] at hr
  refine ⟨fun i o hi hr => ?_, fun i o hi hr => ?_, fun i i' o p hi hr hi' hr' e => ?_, h.base⟩
  · obtain ⟨k, hk, ho, he⟩ := key i o hi hr
    rw [he]; exact h.holds k o ho hr
  · obtain ⟨k, hk, ho, he⟩ := key i o hi hr
    rw [he]; exact h.mine k o ho hr
  · obtain ⟨k, hk, ho, he⟩ := key i o hi hr
    obtain ⟨k', hk', ho', he'⟩ := key i' p hi' hr'
    rw [he, he'] at e
    have := h.inj k k' o p ho hr ho' hr' e
    subst this
    exact nodup_at (nodupB_spec hn) hk hk'
/-! ### Code -/
/-- From the state (fr, Hs) of n letters the code goes to the state (fr', Hs') of n' letters; the first k letters are the same. -/
def Goes1 (P : Program) (x : Code) (n : Nat) (fr : List L1 → List Value) (Hs : List L1 → List Obj) (e : Ex) (k : Nat) (fr' : List L1 → List Value) (Hs' : List L1 → List Obj) (n' : Nat) : Prop :=
  ∀ (X : Nat → Prop) (B : Nat) (b : Lt) (w : World), Sat X B b (Hs (lts b n)) w → ∀ (Q : Exit → Act → World → Prop) (d : List Deferred),
    (∀ b' w', agree k b' b → Sat X B b' (Hs' (lts b' n')) w' → Chg X B w w' → Q e.to ⟨(fr' (lts b' n')).toArray, d⟩ w') → x.wp P Q ⟨(fr (lts b n)).toArray, d⟩ w
def lftC (e : Ex) (k : Nat) (sel : List Nat) (r : Option (St × List Obj × Obl)) : Option (List Tok) :=
  match r with
  | some ((e', t', _), H', o) => match exB e' e && eqL (sel.take k) (List.range k) && nodupB sel with
    | true => match pick H' sel with
      | some l => some (.vs t' :: .hs (l ++ [unb]) :: o.map Prod.fst)
      | none => none
    | false => none
  | none => none
def rgtC (fr' : List L1 → List Value) (Hs' : List L1 → List Obj) (ls : List L1) (r : Option (St × List Obj × Obl)) : Option (List Tok) :=
  match r with
  | some ((_, t', _), _, o) => some (.vs (fr' (ls ++ [junk t'])) :: .hs (Hs' (ls ++ [junk t'])) :: o.map Prod.snd)
  | none => some []
theorem lft_rgtC {e : Ex} {k : Nat} {sel : List Nat} {r : Option (St × List Obj × Obl)} {fr' : List L1 → List Value} {Hs' : List L1 → List Obj} {ls : List L1} (h : lftC e k sel r = rgtC fr' Hs' ls r) :
    ∃ t' sc' H' o l, r = some ((e, t', sc'), H', o) ∧ okL o ∧ sel.take k = List.range k ∧ nodupB sel = true ∧ pick H' sel = some l ∧ t' = fr' (ls ++ [junk t']) ∧ l ++ [unb] = Hs' (ls ++ [junk t']) := by
  unfold lftC rgtC at h
  split at h
  · split at h
    · rename_i hc
      split at h
      · rename_i l hp
        simp only [Bool.and_eq_true] at hc
        simp only [Option.some.injEq, List.cons.injEq, Tok.vs.injEq, Tok.hs.injEq] at h
        refine ⟨_, _, _, _, l, by rw [exB_spec hc.1.1], ?_, eqL_spec hc.1.2, hc.2, hp, h.1, h.2.1⟩
        unfold okL; exact h.2.2
      · cases h
    · cases h
  · cases h
theorem goes_run {x : Code} {n : Nat} {fr : List L1 → List Value} {Hs : List L1 → List Obj} {e : Ex} {k : Nat} {fr' : List L1 → List Value} {Hs' : List L1 → List Obj} {n' : Nat} (sc : List It) (sel : List Nat) (hsc : AllOk P sc)
    (hH : ∀ b : Lt, (Hs (lts b n)).length = n) (hk : k ≤ n) (hn : n' = sel.length + 1)
    (hrun : ∀ b : Lt, lftC e k sel (symCode P b 100000 false x sc (fr (lts b n)) (Hs (lts b n))) = rgtC fr' Hs' (sel.map b) (symCode P b 100000 false x sc (fr (lts b n)) (Hs (lts b n)))) :
    Goes1 P x n fr Hs e k fr' Hs' n' := by
  intro X B b w hs Q d K
  subst hn
  have hl := hH b
  have hran : Ran (Hs (lts b n)).length b (fun c => symCode P c 100000 false x sc (fr (lts b n)) (Hs (lts b n))) := fun c hc => by
    rw [hl] at hc
    obtain ⟨t', sc', H', o, l, h1, h2, _⟩ := lft_rgtC (hrun c)
    rw [lts_agree hc] at h1
    exact ⟨_, H', o, h1, h2⟩
  refine (symCode_sound (S := fun _ => True) (fun _ _ _ _ => trivial) 100000).1 x Q sc _ _ w b hs trivial hsc.ok hran (fun c' e1 t1 sc1 H1 ob w' ag hr hob hs' _ hch _ => ?_)
  rw [hl] at ag
  obtain ⟨t', sc', H', o, l, h1, h2, h3, h4, h5, h6, h7⟩ := lft_rgtC (hrun c')
  rw [lts_agree ag] at h1
  have := hr.symm.trans h1
  simp only [Option.some.injEq, Prod.mk.injEq] at this
  obtain ⟨⟨rfl, rfl, rfl⟩, rfl, rfl⟩ := this
  have hsel := hs'.sel h4 h5 (junk t1)
  have hK := K (reLt c' sel (junk t1)) w' ?_ (by rw [reLt_lts, ← h7]; exact hsel) hch
  · rw [reLt_lts, ← h6] at hK
    exact hK
  · intro i hi
    have hks : k ≤ sel.length := by
      have := congrArg List.length h3
      simp at this
      omega
    have h8 : sel[i]? = some i := by
      have := congrArg (fun l => l[i]?) h3
      simpa [hi] using this
    have h9 : i < sel.length := by omega
    have h10 : sel.getD i 0 = i := by simp [List.getD, h8]
    have : reLt c' sel (junk t1) i = c' i := by unfold reLt; rw [if_pos h9, h10]
    rw [this]
    exact ag i (by omega)
/-- A loop: the measure μ falls from round to round; what comes out is told by F. -/
theorem goes_loop {σ τ : Type} {x : Code} {n k nf : Nat} {fr : σ → List L1 → List Value} {Hs : σ → List L1 → List Obj} {ex : τ → Ex} {vf : τ → List L1 → List Value} {Hf : τ → List L1 → List Obj} (μ : σ → Nat) (I : σ → Prop) (F : σ → τ)
    (step : ∀ s, I s → (∃ s', I s' ∧ μ s' < μ s ∧ F s' = F s ∧ Goes1 P x n (fr s) (Hs s) .normal k (fr s') (Hs s') n) ∨ (ex (F s) ≠ .normal ∧ Goes1 P x n (fr s) (Hs s) (ex (F s)) k (vf (F s)) (Hf (F s)) nf)) :
    ∀ s, I s → Goes1 P (.loop x) n (fr s) (Hs s) (ex (F s)) k (vf (F s)) (Hf (F s)) nf := by
  have key : ∀ N s, μ s < N → I s → ∀ (X : Nat → Prop) (B : Nat) (b : Lt) (w : World), Sat X B b (Hs s (lts b n)) w → ∀ (Q : Exit → Act → World → Prop) (d : List Deferred),
      (∀ b' w', agree k b' b → Sat X B b' (Hf (F s) (lts b' nf)) w' → Chg X B w w' → Q (ex (F s)).to ⟨(vf (F s) (lts b' nf)).toArray, d⟩ w') → Code.rounds P x Q N ⟨(fr s (lts b n)).toArray, d⟩ w := by
    intro N
    induction N with
    | zero => intro s h; omega
    | succ N ih =>
      intro s hμ hI X B b w hs Q d K
      show x.wp P (Exit.then (Code.rounds P x Q N) Q) _ _
      rcases step s hI with ⟨s', hI', hlt, hF, hg⟩ | ⟨hne, hg⟩
      · refine hg X B b w hs _ d fun b' w' ag hs' hch => ?_
        show Code.rounds P x Q N _ _
        refine ih s' (by omega) hI' X B b' w' hs' Q d fun b'' w'' ag' hs'' hch' => ?_
        rw [hF] at hs'' ⊢
        exact K b'' w'' (ag'.trans ag) hs'' (hch.trans hch')
      · refine hg X B b w hs _ d fun b' w' ag hs' hch => ?_
        have := K b' w' ag hs' hch
        cases he : ex (F s) with
        | normal => exact absurd he hne
        | exit id => rw [he] at this; exact this
        | goto l => rw [he] at this; exact this
        | ret => rw [he] at this; exact this
  intro s hI X B b w hs Q d K
  exact wp_loop_rounds (μ s + 1) (key (μ s + 1) s (by omega) hI X B b w hs Q d K)
theorem least {p : Nat → Prop} (h : ∃ m, p m) : ∃ m, p m ∧ ∀ m', p m' → m ≤ m' := by
  obtain ⟨m, hm⟩ := h
  induction m using Nat.strongRecOn with
  | _ m ih =>
    by_cases h : ∃ m', m' < m ∧ p m'
    · obtain ⟨m', h1, h2⟩ := h
      exact ih m' h1 h2
    · refine ⟨m, hm, fun m' hm' => ?_⟩
      apply Classical.byContradiction
      intro hlt
      exact h ⟨m', by omega, hm'⟩
/-- A scope in which the run jumps back to one label. -/
theorem goes_scope {σ τ : Type} {c rest : Code} {n0 n k nf : Nat} {fr0 : List L1 → List Value} {H0 : List L1 → List Obj} {fr : σ → List L1 → List Value} {Hs : σ → List L1 → List Obj} {ex : τ → Ex} {vf : τ → List L1 → List Value} {Hf : τ → List L1 → List Obj}
    (l : Nat) (hf : findLabel c l = some rest) (μ : σ → Nat) (I : σ → Prop) (F : σ → τ) (r : τ) (hex : ∀ r, ∀ l', ex r ≠ .goto l')
    (first : (∃ s, I s ∧ F s = r ∧ Goes1 P c n0 fr0 H0 (.goto l) k (fr s) (Hs s) n) ∨ Goes1 P c n0 fr0 H0 (ex r) k (vf r) (Hf r) nf)
    (pass : ∀ s, I s → (∃ s', I s' ∧ μ s' < μ s ∧ F s' = F s ∧ Goes1 P rest n (fr s) (Hs s) (.goto l) k (fr s') (Hs s') n) ∨ Goes1 P rest n (fr s) (Hs s) (ex (F s)) k (vf (F s)) (Hf (F s)) nf) :
    Goes1 P (.scope c) n0 fr0 H0 (ex r) k (vf r) (Hf r) nf := by
  intro X B b w hs Q d K
  let J : Nat → Act → World → Prop := fun m a w' => ∃ s b', I s ∧ F s = r ∧ μ s = m ∧ agree k b' b ∧ a = ⟨(fr s (lts b' n)).toArray, d⟩ ∧ Sat X B b' (Hs s (lts b' n)) w' ∧ Chg X B w w'
  have hM : ∀ a w', ∃ m, (∃ m', J m' a w') → J m a w' ∧ ∀ m', J m' a w' → m ≤ m' := by
    intro a w'
    by_cases h : ∃ m', J m' a w'
    · obtain ⟨m, h1, h2⟩ := least h
      exact ⟨m, fun _ => ⟨h1, h2⟩⟩
    · exact ⟨0, fun h' => absurd h' h⟩
  have fin : ∀ (J' : Act → World → Prop) (e : Ex) a w', (∀ l', e ≠ .goto l') → Q e.to a w' → Exit.jump l J' Q e.to a w' := by
    intro J' e a w' hne h
    cases e with
    | normal => exact h
    | exit id => exact h
    | goto l' => exact absurd rfl (hne l')
    | ret => exact h
  refine wp_scope_jumps l (fun a w' => ∃ m, J m a w') (fun a w' => Classical.choose (hM a w')) hf ?_ ?_
  · rcases first with ⟨s, hI, hF, hg⟩ | hg
    · refine hg X B b w hs _ d fun b' w' ag hs' hch => ?_
      exact ⟨rfl, μ s, s, b', hI, hF, rfl, ag, rfl, hs', hch⟩
    · exact hg X B b w hs _ d fun b' w' ag hs' hch => fin _ _ _ _ (hex r) (K b' w' ag hs' hch)
  · intro a w1 hJ
    obtain ⟨⟨s, b1, hI, hF, hm, ag1, rfl, hs1, hch1⟩, hmin⟩ := Classical.choose_spec (hM a w1) hJ
    rcases pass s hI with ⟨s', hI', hlt, hF', hg⟩ | hg
    · refine hg X B b1 w1 hs1 _ d fun b' w' ag hs' hch => ?_
      have hJ' : J (μ s') ⟨(fr s' (lts b' n)).toArray, d⟩ w' := ⟨s', b', hI', hF'.trans hF, rfl, ag.trans ag1, rfl, hs', hch1.trans hch⟩
      have h2 := (Classical.choose_spec (hM _ w') ⟨_, hJ'⟩).2 _ hJ'
      refine ⟨rfl, ⟨_, hJ'⟩, ?_⟩
      show Classical.choose (hM ⟨(fr s' (lts b' n)).toArray, d⟩ w') < _
      omega
    · refine hg X B b1 w1 hs1 _ d fun b' w' ag hs' hch => fin _ _ _ _ (hex _) ?_
      rw [hF] at hs' ⊢
      exact K b' w' (ag.trans ag1) hs' (hch1.trans hch)
/-- A piece of code, as the script tells it. -/
theorem spc_of_goes {S : World → Prop} {x : Code} {k0 : Nat} {fr : List L1 → List Value} {Hs : List L1 → List Obj} {e : Ex} {k : Nat} {fr' : List L1 → List Value} {Hs' : List L1 → List Obj} {n' : Nat} (hg : Goes1 P x (k0 + 1) fr Hs e k fr' Hs' n')
    (t0 : List L1 → List Value) (pre : List L1 → List Obj) (h0 : ∀ ls, (pre ls).length = k0) (h1 : ∀ ls, ls.length = k0 → fr (ls ++ [junk (t0 ls)]) = t0 ls) (h2 : ∀ ls, ls.length = k0 → Hs (ls ++ [junk (t0 ls)]) = pre ls ++ [unb])
    (hk : k ≤ k0) (hk' : k ≤ n') (h3 : ∀ ls, (Hs' ls).length = n') :
    SpcOk P S ⟨fun ls => .code x (t0 ls), pre, n' - k, e, fun ls => fr' (ls.take k ++ ls.drop k0), fun ls => (Hs' (ls.take k ++ ls.drop k0)).take k ++ List.replicate (k0 - k) unb, fun ls => (Hs' (ls.take k ++ ls.drop k0)).drop k⟩ := by
  intro ls w hlen hsl _
  have hpl : (pre ls).length = k0 := h0 ls
  have hl : ls.length = k0 := hlen.symm.trans hpl
  show ∀ (Q : Exit → Act → World → Prop) (d : List Deferred), _ → _
  intro Q d K
  have el : lts (ofL (ls ++ [junk (t0 ls)])) (k0 + 1) = ls ++ [junk (t0 ls)] := by
    have := lts_ofL (ls ++ [junk (t0 ls)])
    simpa [hl] using this
  have hb : ∀ (i : Nat) l, ls[i]? = some l → ofL (ls ++ [junk (t0 ls)]) i = l := fun i l hi => by
    have := (List.getElem?_eq_some_iff.1 hi).1
    simp [ofL, List.getElem?_append_left this, hi]
  have hsat : Sat (touched ls (pre ls)) w.heap.size (ofL (ls ++ [junk (t0 ls)])) (pre ls ++ [unb]) w := by
    have key : ∀ (i : Nat) (o : Obj), (pre ls ++ [unb])[i]? = some o → real o = true → ∃ l, (pre ls)[i]? = some o ∧ ls[i]? = some l ∧ ofL (ls ++ [junk (t0 ls)]) i = l := by
      intro i o ho hr
      by_cases hi : i < (pre ls).length
      · rw [List.getElem?_append_left hi] at ho
        have : i < ls.length := by omega
        exact ⟨ls[i], ho, List.getElem?_eq_getElem this, hb i _ (List.getElem?_eq_getElem this)⟩
      · rw [List.getElem?_append_right (by omega)] at ho
        have : o = unb := by
          cases hx : i - (pre ls).length with
          | zero => rw [hx] at ho; simpa using ho.symm
          | succ n => rw [hx] at ho; simp at ho
        subst this
        simp [real, unb] at hr
    refine ⟨fun i o hi hr => ?_, fun i o hi hr => ?_, fun i j o p hi hr hj hr' e => ?_, Nat.le_refl _⟩
    · obtain ⟨l, h4, h5, h6⟩ := key i o hi hr
      rw [h6]; exact hsl.holds i o l h4 hr h5
    · obtain ⟨l, h4, h5, h6⟩ := key i o hi hr
      exact .inl ⟨i, o, l, h4, hr, h5, by rw [h6]⟩
    · obtain ⟨l, h4, h5, h6⟩ := key i o hi hr
      obtain ⟨l', h4', h5', h6'⟩ := key j p hj hr'
      rw [h6, h6'] at e
      exact hsl.inj i j o p l l' h4 hr h4' hr' h5 h5' e
  have := hg (touched ls (pre ls)) w.heap.size (ofL (ls ++ [junk (t0 ls)])) w (by rw [el, h2 ls hl]; exact hsat) Q d fun b' w' ag hs' hch => ?_
  · rw [el, h1 ls hl] at this
    exact this
  · refine K _ w' ⟨(lts b' n').drop k, by simp [lts_len], ?_, ?_, ?_, hch⟩
    all_goals
      have e1 : (lts b' n').take k = ls.take k := by
        apply List.ext_getElem?
        intro i
        by_cases hi : i < k
        · rw [List.getElem?_take_of_lt hi, List.getElem?_take_of_lt hi, lts_get _ (by omega), ag i hi]
          have : i < ls.length := by omega
          rw [List.getElem?_eq_getElem this, hb i _ (List.getElem?_eq_getElem this)]
        · rw [List.getElem?_eq_none (by simp [lts_len]; omega), List.getElem?_eq_none (by simp; omega)]
      have e2 : (ls ++ (lts b' n').drop k).take k ++ (ls ++ (lts b' n').drop k).drop k0 = lts b' n' := by
        rw [List.take_append_of_le_length (by omega), ← hl, List.drop_left, ← e1]
        exact List.take_append_drop ..
    · show fr' (lts b' n') = fr' _
      rw [e2]
    · show SatL _ (_ ++ _) w'
      simp only [e2]
      have key : ∀ (j : Nat) (o : Obj), (((Hs' (lts b' n')).take k ++ List.replicate (k0 - k) unb) ++ (Hs' (lts b' n')).drop k)[j]? = some o → real o = true → ∀ l, (ls ++ (lts b' n').drop k)[j]? = some l →
          ∃ i, (Hs' (lts b' n'))[i]? = some o ∧ b' i = l ∧ ((j < k ∧ i = j) ∨ (k0 ≤ j ∧ i = j - k0 + k)) := by
        intro j o hj hr l hjl
        have hT : ((Hs' (lts b' n')).take k).length = k := by simp [h3]; omega
        by_cases h4 : j < k
        · rw [List.getElem?_append_left (by simp [hT]; omega), List.getElem?_append_left (by omega), List.getElem?_take_of_lt h4] at hj
          rw [List.getElem?_append_left (by omega)] at hjl
          exact ⟨j, hj, by rw [ag j h4]; exact hb j l hjl, .inl ⟨h4, rfl⟩⟩
        · by_cases h5 : j < k0
          · rw [List.getElem?_append_left (by simp [hT]; omega), List.getElem?_append_right (by omega), List.getElem?_replicate] at hj
            split at hj
            · simp at hj; subst hj; simp [real, unb] at hr
            · cases hj
          · rw [List.getElem?_append_right (by simp [hT]; omega), List.getElem?_drop] at hj
            rw [List.getElem?_append_right (by omega), List.getElem?_drop] at hjl
            have h6 : k + (j - ((Hs' (lts b' n')).take k ++ List.replicate (k0 - k) unb).length) = j - k0 + k := by simp [hT]; omega
            rw [h6] at hj
            have h7 : k + (j - ls.length) = j - k0 + k := by omega
            rw [h7] at hjl
            have h8 := (List.getElem?_eq_some_iff.1 hj).1
            rw [h3] at h8
            rw [lts_get _ h8] at hjl
            exact ⟨_, hj, by simpa using hjl, .inr ⟨by omega, rfl⟩⟩
      refine ⟨fun j o l hj hr hjl => ?_, fun i j o p l l' hi hr hj hr' hil hjl e => ?_⟩
      · obtain ⟨i, h4, h5, _⟩ := key j o hj hr l hjl
        rw [← h5]; exact hs'.holds i o h4 hr
      · obtain ⟨i1, h4, h5, h6⟩ := key i o hi hr l hil
        obtain ⟨i2, h4', h5', h6'⟩ := key j p hj hr' l' hjl
        rw [← h5, ← h5'] at e
        have := hs'.inj i1 i2 o p h4 hr h4' hr' e
        omega
    · intro j o l hj hr hjl
      simp only [e2] at hj
      rw [List.getElem?_drop] at hj
      rw [List.getElem?_drop] at hjl
      have h8 := (List.getElem?_eq_some_iff.1 hj).1
      rw [h3] at h8
      rw [lts_get _ h8] at hjl
      simp at hjl
      rw [← hjl]
      rcases hs'.mine _ o hj hr with h9 | h9
      · exact .inr h9
      · exact .inl h9
/-! ### Functions -/
def lftF (n : Nat) (sel : List Nat) (r : Option (Value × List Obj × Obl)) : Option (List Tok) :=
  match r with
  | some (v, H', o) => match nodupB (List.range n ++ sel) with
    | true => match pick H' (List.range n ++ sel) with
      | some l => some (.v v :: .n n :: .hs l :: o.map Prod.fst)
      | none => none
    | false => none
  | none => none
def rgtF (V : Value) (post new : List Obj) (r : Option (Value × List Obj × Obl)) : Option (List Tok) :=
  match r with
  | some (_, _, o) => some (.v V :: .n post.length :: .hs (post ++ new) :: o.map Prod.snd)
  | none => some []
theorem lft_rgtF {n : Nat} {sel : List Nat} {r : Option (Value × List Obj × Obl)} {V : Value} {post new : List Obj} (h : lftF n sel r = rgtF V post new r) :
    ∃ H' o, r = some (V, H', o) ∧ okL o ∧ nodupB (List.range n ++ sel) = true ∧ pick H' (List.range n ++ sel) = some (post ++ new) ∧ post.length = n := by
  unfold lftF rgtF at h
  split at h
  · split at h
    · rename_i hc
      split at h
      · rename_i l hp
        simp only [Option.some.injEq, List.cons.injEq, Tok.v.injEq, Tok.n.injEq, Tok.hs.injEq] at h
        obtain ⟨rfl, h1, h2, h3⟩ := h
        exact ⟨_, _, rfl, by unfold okL; exact h3, hc, by rw [hp, h2], h1.symm⟩
      · cases h
    · cases h
  · cases h
theorem fn_spec {S : World → Prop} {f : FuncId} {fn : Func} (hf : P.funcs[f]? = some fn) (hF : ∀ xs w, (callFunc f xs).run P w = .ok (.enter f xs) w) (n : Nat) (args : List L1 → List Value) (pre : List L1 → List Obj) (h0 : ∀ ls, (pre ls).length = n)
    (V : List L1 → Value) (post new : List L1 → List Obj) (sel : List Nat) (sc : List It) (ra : List Nat) (hsc : AllOk P sc)
    (hrun : ∀ b, lftF n sel (symFn P b fn (args (lts b n)) sc (ra.map Acc.blk) (pre (lts b n))) = rgtF (V (lts b n ++ sel.map b)) (post (lts b n ++ sel.map b)) (new (lts b n ++ sel.map b)) (symFn P b fn (args (lts b n)) sc (ra.map Acc.blk) (pre (lts b n)))) :
    SpcOk P S ⟨fun ls => .call f (args ls).toArray, pre, sel.length, .normal, fun ls => [V ls], post, new⟩ := by
  intro ls w hlen hsl _
  have hpl : (pre ls).length = n := h0 ls
  have hl : ls.length = n := hlen.symm.trans hpl
  have el : lts (ofL ls) n = ls := by rw [← hl]; exact lts_ofL ls
  have hb : ∀ (i : Nat) l, ls[i]? = some l → ofL ls i = l := fun i l hi => by simp [ofL, hi]
  have hsat : Sat (touched ls (pre ls)) w.heap.size (ofL ls) (pre ls) w := by
    have key : ∀ (i : Nat) (o : Obj), (pre ls)[i]? = some o → ∃ l, ls[i]? = some l ∧ ofL ls i = l := by
      intro i o ho
      have := (List.getElem?_eq_some_iff.1 ho).1
      have : i < ls.length := by omega
      exact ⟨ls[i], List.getElem?_eq_getElem this, hb i _ (List.getElem?_eq_getElem this)⟩
    refine ⟨fun i o hi hr => ?_, fun i o hi hr => ?_, fun i j o p hi hr hj hr' e => ?_, Nat.le_refl _⟩
    · obtain ⟨l, h5, h6⟩ := key i o hi
      rw [h6]; exact hsl.holds i o l hi hr h5
    · obtain ⟨l, h5, h6⟩ := key i o hi
      exact .inl ⟨i, o, l, hi, hr, h5, by rw [h6]⟩
    · obtain ⟨l, h5, h6⟩ := key i o hi
      obtain ⟨l', h5', h6'⟩ := key j p hj
      rw [h6, h6'] at e
      exact hsl.inj i j o p l l' hi hr hj hr' h5 h5' e
  refine ⟨hF _ w, ?_⟩
  have hran : Ran (pre ls).length (ofL ls) (fun b => symFn P b fn (args ls) sc (ra.map Acc.blk) (pre ls)) := fun c hc => by
    rw [h0 ls] at hc
    obtain ⟨H', o, h1, h2, _⟩ := lft_rgtF (hrun c)
    rw [lts_agree hc, el] at h1
    exact ⟨_, H', o, h1, h2⟩
  refine (fn_wp (S := fun _ => True) hf (args ls) sc (ra.map Acc.blk) (pre ls) (ofL ls) w hsat trivial (fun _ _ _ _ => trivial) hsc.ok (fun x hx => by
    obtain ⟨i, _, rfl⟩ := List.mem_map.1 hx; trivial) hran).mono fun e w' ⟨c, V', H, o, ag, h1, h2, h3, h4, h5⟩ => ?_
  rw [h0 ls] at ag
  obtain ⟨H', o', h6, h7, h8, h9, h10⟩ := lft_rgtF (hrun c)
  rw [lts_agree ag, el] at h6 h9 h10
  have := h6.symm.trans h1
  simp only [Option.some.injEq, Prod.mk.injEq] at this
  obtain ⟨rfl, rfl, rfl⟩ := this
  have hsel := h4.sel h8 h9 ⟨0, fun _ => undef⟩
  have full : (List.range n ++ sel).map c = ls ++ sel.map c := by
    rw [List.map_append]
    have : (List.range n).map c = lts c n := rfl
    rw [this, lts_agree ag, el]
  have lk : ∀ (j : Nat) l, (ls ++ sel.map c)[j]? = some l → reLt c (List.range n ++ sel) ⟨0, fun _ => undef⟩ j = l := fun j l hj => by
    rw [← full, List.getElem?_map] at hj
    cases hx : (List.range n ++ sel)[j]? with
    | none => rw [hx] at hj; cases hj
    | some k =>
      rw [hx] at hj
      have hlt := (List.getElem?_eq_some_iff.1 hx).1
      have h11 : (List.range n ++ sel).getD j 0 = k := by simp [List.getD, hx]
      unfold reLt
      rw [if_pos hlt, h11]
      simpa using hj
  have up : ∀ (j : Nat) o, (post (ls ++ sel.map c) ++ new (ls ++ sel.map c))[j]? = some o → (post (ls ++ sel.map c) ++ new (ls ++ sel.map c) ++ [unb])[j]? = some o := fun j o hj => by
    rw [List.getElem?_append_left (List.getElem?_eq_some_iff.1 hj).1]; exact hj
  refine ⟨_, h3, sel.map c, by simp, rfl, ⟨fun j o l hj hr hjl => ?_, fun i j o p l l' hi hr hj hr' hil hjl e => ?_⟩, fun j o l hj hr hjl => ?_, h5⟩
  · rw [← lk j l hjl]; exact hsel.holds j o (up j o hj) hr
  · rw [← lk i l hil, ← lk j l' hjl] at e
    exact hsel.inj i j o p (up i o hi) hr (up j p hj) hr' e
  · have h11 : (ls ++ sel.map c)[n + j]? = some l := by rw [List.getElem?_append_right (by omega)]; simpa [hl] using hjl
    have h12 : (post (ls ++ sel.map c) ++ new (ls ++ sel.map c))[n + j]? = some o := by rw [List.getElem?_append_right (by omega)]; simpa [h10] using hj
    rw [← lk _ l h11]
    rcases hsel.mine _ o (up _ o h12) hr with h13 | h13
    · exact .inr h13
    · exact .inl h13
end
end Go.Proofs.Ytfmpmhafilllpaa
