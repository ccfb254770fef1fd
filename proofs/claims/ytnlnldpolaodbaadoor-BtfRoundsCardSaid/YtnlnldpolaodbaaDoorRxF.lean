/-
  What a piece of code, a loop, a scope with jumps, a function does, told as a whole, out of its runs with letters. Nothing of the program stands here.
-/
import Derived.Test.YtnlnldpolaodbaaDoorRxD
namespace Go.Proofs.YtnlnldpolaodbaaDoor
open Go.RowKit
set_option linter.unusedVariables false
set_option linter.unusedSimpArgs false
section
variable {P : Program}
/-! ### What is told by the script -/
def lts (b : Lt) (n : Nat) : List L1 := (List.range n).map b
theorem lts_len (b : Lt) (n : Nat) : (lts b n).length = n := by simp [lts]
theorem lts_agree {b c : Lt} {n : Nat} (h : agree n c b) : lts c n = lts b n := map_congr_letters fun i hi => h i (List.mem_range.1 hi)
theorem lts_get (b : Lt) {n i : Nat} (h : i < n) : (lts b n)[i]? = some (b i) := by simp [lts, h]
/-- The letter of what is left in a frame and of no use. -/
def junk (t : List Value) : L1 := ⟨0, fun k => t.getD k undef⟩
def ofL (ls : List L1) : Lt := fun i => ls.getD i ⟨0, fun _ => undef⟩
theorem lts_ofL (ls : List L1) : lts (ofL ls) ls.length = ls := by
  apply List.ext_getElem?
  intro i
  by_cases h : i < ls.length
  · rw [lts_get _ h]; simp [ofL, h]
  · rw [List.getElem?_eq_none (by rw [lts_len]; omega), List.getElem?_eq_none (by omega)]
def eqL : List Nat → List Nat → Bool
  | [], [] => true
  | x :: l, y :: m => x == y && eqL l m
  | _, _ => false
theorem eqL_spec : ∀ {l m : List Nat}, eqL l m = true → l = m
  | [], [], _ => rfl
  | x :: l, y :: m, h => by
    simp only [eqL, Bool.and_eq_true, beq_iff_eq] at h
    rw [h.1, eqL_spec h.2]
  | [], _ :: _, h => by simp [eqL] at h
  | _ :: _, [], h => by simp [eqL] at h
def exB : Ex → Ex → Bool
  | .normal, .normal => true
  | .exit i, .exit j => i == j
  | .goto i, .goto j => i == j
  | .ret, .ret => true
  | _, _ => false
theorem exB_spec {e e' : Ex} (h : exB e e' = true) : e = e' := by
  cases e <;> cases e' <;> simp [exB] at h <;> first | rfl | rw [h]
/-- Some of the entries, and one that stands for no block. -/
def reLt (c : Lt) (sel : List Nat) (j : L1) : Lt := fun i => if i < sel.length then c (sel.getD i 0) else j
theorem reLt_lts (c : Lt) (sel : List Nat) (j : L1) : lts (reLt c sel j) (sel.length + 1) = sel.map c ++ [j] := by
  apply List.ext_getElem?
  intro i
  by_cases h : i < sel.length
  · rw [lts_get _ (by omega), List.getElem?_append_left (by simpa using h)]
    simp [reLt, h]
  · by_cases h1 : i = sel.length
    · subst h1
      rw [lts_get _ (by omega)]
      simp [reLt]
    · rw [List.getElem?_eq_none (by rw [lts_len]; omega), List.getElem?_eq_none (by simp; omega)]
theorem Sat.sel {X : Nat → Prop} {B : Nat} {c : Lt} {H l : List Obj} {w : World} {sel : List Nat} (h : Sat X B c H w) (hn : nodupB sel = true) (hp : pick H sel = some l) (j : L1) : Sat X B (reLt c sel j) (l ++ [unb]) w := by
  have hl := pick_len hp
  have key : ∀ (i m : Nat) (o : Obj) (x : Nat) (p : Obj), (l ++ [unb])[i]? = some o → own o (reLt c sel j i) m = some (x, p) → ∃ k, sel[i]? = some k ∧ H[k]? = some o ∧ own o (c k) m = some (x, p) := by
    intro i m o x p ho hr
    by_cases hi : i < l.length
    · rw [List.getElem?_append_left hi] at ho
      have hs : i < sel.length := by omega
      have h1 := pick_get hp i sel[i] (List.getElem?_eq_getElem hs)
      refine ⟨sel[i], List.getElem?_eq_getElem hs, by rw [← h1]; exact ho, ?_⟩
      have e : reLt c sel j i = c sel[i] := by simp [reLt, hs]
      rw [← e]; exact hr
    · rw [List.getElem?_append_right (by omega)] at ho
      have : o = unb := by
        cases hx : i - l.length with
        | zero => rw [hx] at ho; simpa using ho.symm
        | succ n => rw [hx] at ho; simp at ho
      subst this
      simp [own, unb] at hr
  refine ⟨fun i m o x p hi hr => ?_, fun i m o x p hi hr => ?_, fun i i' m m' o o' x p p' hi hr hi' hr' => ?_, h.base⟩
  · obtain ⟨k, hk, ho, he⟩ := key i m o x p hi hr
    exact h.hold_ k m o x p ho he
  · obtain ⟨k, hk, ho, he⟩ := key i m o x p hi hr
    exact h.mine_ k m o x p ho he
  · obtain ⟨k, hk, ho, he⟩ := key i m o x p hi hr
    obtain ⟨k', hk', ho', he'⟩ := key i' m' o' x p' hi' hr'
    obtain ⟨rfl, hm⟩ := h.inj_ k k' m m' o o' x p p' ho he ho' he'
    exact ⟨nodup_at (nodupB_spec hn) hk hk', hm⟩
/-! ### Code -/
/-- From the state (fr, Hs) of n letters the code goes to the state (fr', Hs') of n' letters; the first k letters are the same. -/
def Goes1 (P : Program) (x : Code) (n : Nat) (fr : List L1 → List Value) (Hs : List L1 → List Obj) (e : Ex) (k : Nat) (fr' : List L1 → List Value) (Hs' : List L1 → List Obj) (n' : Nat) : Prop :=
  ∀ (X : Nat → Prop) (B : Nat) (b : Lt) (w : World), Sat X B b (Hs (lts b n)) w → ∀ (Q : Exit → Act → World → Prop) (d : List Deferred),
    (∀ b' w', agree k b' b → Sat X B b' (Hs' (lts b' n')) w' → Chg X B w w' → Q e.to ⟨(fr' (lts b' n')).toArray, d⟩ w') → x.wp P Q ⟨(fr (lts b n)).toArray, d⟩ w
def lftC (e : Ex) (k : Nat) (sel : List Nat) (r : Option (St × List Obj × Obl)) : Option (List Tok) :=
  match r with
  | some ((e', t', _), H', o) => match exB e' e && eqL (sel.take k) (List.range k) && nodupB sel with
    | true => match pick H' sel with
      | some l => some (.vs t' :: .hs (l ++ [unb]) :: o.map Prod.fst)
      | none => none
    | false => none
  | none => none
def rgtC (fr' : List L1 → List Value) (Hs' : List L1 → List Obj) (ls : List L1) (r : Option (St × List Obj × Obl)) : Option (List Tok) :=
  match r with
  | some ((_, t', _), _, o) => some (.vs (fr' (ls ++ [junk t'])) :: .hs (Hs' (ls ++ [junk t'])) :: o.map Prod.snd)
  | none => some []
theorem lft_rgtC {e : Ex} {k : Nat} {sel : List Nat} {r : Option (St × List Obj × Obl)} {fr' : List L1 → List Value} {Hs' : List L1 → List Obj} {ls : List L1} (h : lftC e k sel r = rgtC fr' Hs' ls r) :
    ∃ t' sc' H' o l, r = some ((e, t', sc'), H', o) ∧ okL o ∧ sel.take k = List.range k ∧ nodupB sel = true ∧ pick H' sel = some l ∧ t' = fr' (ls ++ [junk t']) ∧ l ++ [unb] = Hs' (ls ++ [junk t']) := by
  unfold lftC rgtC at h
  split at h
  · split at h
    · rename_i hc
      split at h
      · rename_i l hp
        simp only [Bool.and_eq_true] at hc
        simp only [Option.some.injEq, List.cons.injEq, Tok.vs.injEq, Tok.hs.injEq] at h
        refine ⟨_, _, _, _, l, by rw [exB_spec hc.1.1], ?_, eqL_spec hc.1.2, hc.2, hp, h.1, h.2.1⟩
        unfold okL; exact h.2.2
      · cases h
    · cases h
  · cases h
/-- A loop: the measure μ falls from round to round; what comes out is told by F. -/
theorem goes_loop {σ τ : Type} {x : Code} {n k nf : Nat} {fr : σ → List L1 → List Value} {Hs : σ → List L1 → List Obj} {ex : τ → Ex} {vf : τ → List L1 → List Value} {Hf : τ → List L1 → List Obj} (μ : σ → Nat) (I : σ → Prop) (F : σ → τ)
    (step : ∀ s, I s → (∃ s', I s' ∧ μ s' < μ s ∧ F s' = F s ∧ Goes1 P x n (fr s) (Hs s) .normal k (fr s') (Hs s') n) ∨ (ex (F s) ≠ .normal ∧ Goes1 P x n (fr s) (Hs s) (ex (F s)) k (vf (F s)) (Hf (F s)) nf)) :
    ∀ s, I s → Goes1 P (.loop x) n (fr s) (Hs s) (ex (F s)) k (vf (F s)) (Hf (F s)) nf := by
  have key : ∀ N s, μ s < N → I s → ∀ (X : Nat → Prop) (B : Nat) (b : Lt) (w : World), Sat X B b (Hs s (lts b n)) w → ∀ (Q : Exit → Act → World → Prop) (d : List Deferred),
      (∀ b' w', agree k b' b → Sat X B b' (Hf (F s) (lts b' nf)) w' → Chg X B w w' → Q (ex (F s)).to ⟨(vf (F s) (lts b' nf)).toArray, d⟩ w') → Code.rounds P x Q N ⟨(fr s (lts b n)).toArray, d⟩ w := by
    intro N
    induction N with
    | zero => intro s h; omega
    | succ N ih =>
      intro s hμ hI X B b w hs Q d K
      show x.wp P (Exit.then (Code.rounds P x Q N) Q) _ _
      rcases step s hI with ⟨s', hI', hlt, hF, hg⟩ | ⟨hne, hg⟩
      · refine hg X B b w hs _ d fun b' w' ag hs' hch => ?_
        show Code.rounds P x Q N _ _
        refine ih s' (by omega) hI' X B b' w' hs' Q d fun b'' w'' ag' hs'' hch' => ?_
        rw [hF] at hs'' ⊢
        exact K b'' w'' (ag'.trans ag) hs'' (hch.trans hch')
      · refine hg X B b w hs _ d fun b' w' ag hs' hch => ?_
        have := K b' w' ag hs' hch
        cases he : ex (F s) with
        | normal => exact absurd he hne
        | exit id => rw [he] at this; exact this
        | goto l => rw [he] at this; exact this
        | ret => rw [he] at this; exact this
  intro s hI X B b w hs Q d K
  exact wp_loop_rounds (μ s + 1) (key (μ s + 1) s (by omega) hI X B b w hs Q d K)
theorem least {p : Nat → Prop} (h : ∃ m, p m) : ∃ m, p m ∧ ∀ m', p m' → m ≤ m' := by
  obtain ⟨m, hm⟩ := h
  induction m using Nat.strongRecOn with
  | _ m ih =>
    by_cases h : ∃ m', m' < m ∧ p m'
    · obtain ⟨m', h1, h2⟩ := h
      exact ih m' h1 h2
    · refine ⟨m, hm, fun m' hm' => ?_⟩
      apply Classical.byContradiction
      intro hlt
      exact h ⟨m', by omega, hm'⟩
/-- A scope in which the run jumps back to one label. -/
theorem goes_scope {σ τ : Type} {c rest : Code} {n0 n k nf : Nat} {fr0 : List L1 → List Value} {H0 : List L1 → List Obj} {fr : σ → List L1 → List Value} {Hs : σ → List L1 → List Obj} {ex : τ → Ex} {vf : τ → List L1 → List Value} {Hf : τ → List L1 → List Obj}
    (l : Nat) (hf : findLabel c l = some rest) (μ : σ → Nat) (I : σ → Prop) (F : σ → τ) (r : τ) (hex : ∀ r, ∀ l', ex r ≠ .goto l')
    (first : (∃ s, I s ∧ F s = r ∧ Goes1 P c n0 fr0 H0 (.goto l) k (fr s) (Hs s) n) ∨ Goes1 P c n0 fr0 H0 (ex r) k (vf r) (Hf r) nf)
    (pass : ∀ s, I s → (∃ s', I s' ∧ μ s' < μ s ∧ F s' = F s ∧ Goes1 P rest n (fr s) (Hs s) (.goto l) k (fr s') (Hs s') n) ∨ Goes1 P rest n (fr s) (Hs s) (ex (F s)) k (vf (F s)) (Hf (F s)) nf) :
    Goes1 P (.scope c) n0 fr0 H0 (ex r) k (vf r) (Hf r) nf := by
  intro X B b w hs Q d K
  let J : Nat → Act → World → Prop := fun m a w' => ∃ s b', I s ∧ F s = r ∧ μ s = m ∧ agree k b' b ∧ a = ⟨(fr s (lts b' n)).toArray, d⟩ ∧ Sat X B b' (Hs s (lts b' n)) w' ∧ Chg X B w w'
  have hM : ∀ a w', ∃ m, (∃ m', J m' a w') → J m a w' ∧ ∀ m', J m' a w' → m ≤ m' := by
    intro a w'
    by_cases h : ∃ m', J m' a w'
    · obtain ⟨m, h1, h2⟩ := least h
      exact ⟨m, fun _ => ⟨h1, h2⟩⟩
    · exact ⟨0, fun h' => absurd h' h⟩
  have fin : ∀ (J' : Act → World → Prop) (e : Ex) a w', (∀ l', e ≠ .goto l') → Q e.to a w' → Exit.jump l J' Q e.to a w' := by
    intro J' e a w' hne h
    cases e with
    | normal => exact h
    | exit id => exact h
    | goto l' => exact absurd rfl (hne l')
    | ret => exact h
  refine wp_scope_jumps l (fun a w' => ∃ m, J m a w') (fun a w' => Classical.choose (hM a w')) hf ?_ ?_
  · rcases first with ⟨s, hI, hF, hg⟩ | hg
    · refine hg X B b w hs _ d fun b' w' ag hs' hch => ?_
      exact ⟨rfl, μ s, s, b', hI, hF, rfl, ag, rfl, hs', hch⟩
    · exact hg X B b w hs _ d fun b' w' ag hs' hch => fin _ _ _ _ (hex r) (K b' w' ag hs' hch)
  · intro a w1 hJ
    obtain ⟨⟨s, b1, hI, hF, hm, ag1, rfl, hs1, hch1⟩, hmin⟩ := Classical.choose_spec (hM a w1) hJ
    rcases pass s hI with ⟨s', hI', hlt, hF', hg⟩ | hg
    · refine hg X B b1 w1 hs1 _ d fun b' w' ag hs' hch => ?_
      have hJ' : J (μ s') ⟨(fr s' (lts b' n)).toArray, d⟩ w' := ⟨s', b', hI', hF'.trans hF, rfl, ag.trans ag1, rfl, hs', hch1.trans hch⟩
      have h2 := (Classical.choose_spec (hM _ w') ⟨_, hJ'⟩).2 _ hJ'
      refine ⟨rfl, ⟨_, hJ'⟩, ?_⟩
      show Classical.choose (hM ⟨(fr s' (lts b' n)).toArray, d⟩ w') < _
      omega
    · refine hg X B b1 w1 hs1 _ d fun b' w' ag hs' hch => fin _ _ _ _ (hex _) ?_
      rw [hF] at hs' ⊢
      exact K b' w' (ag.trans ag1) hs' (hch1.trans hch)
def lftF (n : Nat) (sel : List Nat) (r : Option (Value × List Obj × Obl)) : Option (List Tok) :=
  match r with
  | some (v, H', o) => match nodupB (List.range n ++ sel) with
    | true => match pick H' (List.range n ++ sel) with
      | some l => some (.v v :: .n n :: .hs l :: o.map Prod.fst)
      | none => none
    | false => none
  | none => none
def rgtF (V : Value) (post new : List Obj) (r : Option (Value × List Obj × Obl)) : Option (List Tok) :=
  match r with
  | some (_, _, o) => some (.v V :: .n post.length :: .hs (post ++ new) :: o.map Prod.snd)
  | none => some []
theorem lft_rgtF {n : Nat} {sel : List Nat} {r : Option (Value × List Obj × Obl)} {V : Value} {post new : List Obj} (h : lftF n sel r = rgtF V post new r) :
    ∃ H' o, r = some (V, H', o) ∧ okL o ∧ nodupB (List.range n ++ sel) = true ∧ pick H' (List.range n ++ sel) = some (post ++ new) ∧ post.length = n := by
  unfold lftF rgtF at h
  split at h
  · split at h
    · rename_i hc
      split at h
      · rename_i l hp
        simp only [Option.some.injEq, List.cons.injEq, Tok.v.injEq, Tok.n.injEq, Tok.hs.injEq] at h
        obtain ⟨rfl, h1, h2, h3⟩ := h
        exact ⟨_, _, rfl, by unfold okL; exact h3, hc, by rw [hp, h2], h1.symm⟩
      · cases h
    · cases h
  · cases h
end
end Go.Proofs.YtnlnldpolaodbaaDoor
