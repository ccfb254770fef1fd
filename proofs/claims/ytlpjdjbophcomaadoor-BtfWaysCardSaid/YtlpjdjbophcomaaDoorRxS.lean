/-
  Regions that draw their order, second part: whatever order is drawn, the end is that of the run with letters. Nothing of the program stands here.
-/
import Derived.Test.YtlpjdjbophcomaaDoorRxR
namespace Go.Proofs.YtlpjdjbophcomaaDoor
open Go.RowKit
set_option linter.unusedVariables false
set_option linter.unusedSimpArgs false
section
variable {P : Program}
theorem symV_dep {b c : Lt} {ops : Array Oper} {H : List Obj} : ∀ (V : List Nat) (sc : List It) (t : List Value) (r : List Value × List It × List (Value × Option Nat)) (ob : Obl), symV P b ops H V sc t = some (r, ob) → ∃ ob', symV P c ops H V sc t = some (r, ob')
  | [], sc, t, r, ob, h => by simp only [symV] at h ⊢; exact ⟨ob, h⟩
  | i :: V, sc, t, r, ob, h => by
    simp only [symV] at h ⊢
    split at h
    · cases h
    · split at h
      · split at h
        · rename_i h1
          simp at h
          obtain ⟨rfl, rfl⟩ := h
          obtain ⟨o2, h3⟩ := symV_dep (c := c) V _ _ _ _ h1
          exact ⟨o2, by rw [h3]⟩
        · cases h
      · split at h
        · cases h
        · split at h
          · rename_i h1
            split at h
            · rename_i h2
              simp at h
              obtain ⟨rfl, rfl⟩ := h
              have key : ∀ {it : It} {o : Oper} {ρ : Operand → Value} {v : Value} {k : Option Nat} {ob : Obl}, roOp P b it o ρ H = some (v, k, ob) → ∃ ob', roOp P c it o ρ H = some (v, k, ob') := by
                intro it o ρ v k ob h
                have key2 : ∀ {β : Type} (u : Sem β) H acc x o1, roRun P b H u acc = some (x, o1) → ∃ o2, roRun P c H u acc = some (x, o2) := fun u H acc x o1 h => roRun_dep _ _ _ _ h
                cases it with
                | o =>
                  simp only [roOp] at h ⊢
                  split at h
                  · rename_i h1; simp at h; obtain ⟨rfl, rfl, rfl⟩ := h; obtain ⟨o2, h2⟩ := key2 _ _ _ _ _ h1; exact ⟨o2, by simp only [h2]⟩
                  · rename_i h1; simp at h; obtain ⟨rfl, rfl, rfl⟩ := h; obtain ⟨o2, h2⟩ := key2 _ _ _ _ _ h1; exact ⟨o2, by simp only [h2]⟩
                  · cases h
                | a i =>
                  simp only [roOp] at h ⊢
                  split at h
                  · rename_i h1; simp at h; obtain ⟨rfl, rfl, rfl⟩ := h; obtain ⟨o2, h2⟩ := key2 _ _ _ _ _ h1; exact ⟨o2, by simp only [h2]⟩
                  · cases h
                | l acc =>
                  simp only [roOp] at h ⊢
                  split at h
                  · split at h
                    · rename_i h1; simp at h; obtain ⟨rfl, rfl, rfl⟩ := h; obtain ⟨o2, h2⟩ := key2 _ _ _ _ _ h1; exact ⟨o2, by simp only [h2]⟩
                    · cases h
                  · split at h
                    · rename_i h1; simp at h; obtain ⟨rfl, rfl, rfl⟩ := h; obtain ⟨o2, h2⟩ := key2 _ _ _ _ _ h1; exact ⟨o2, by simp only [h2]⟩
                    · cases h
                | w u u' =>
                  simp only [roOp] at h ⊢
                  split at h
                  · rename_i h1; simp at h; obtain ⟨rfl, rfl, rfl⟩ := h; obtain ⟨o2, h2⟩ := key2 _ _ _ _ _ h1; exact ⟨_, by simp only [h2]; rfl⟩
                  · cases h
                | c f args u =>
                  simp only [roOp] at h ⊢
                  split at h
                  · split at h
                    · rename_i h1
                      split at h
                      · rename_i h3
                        simp at h
                        obtain ⟨rfl, rfl, rfl⟩ := h
                        obtain ⟨o2, h2⟩ := key2 _ _ _ _ _ h1
                        exact ⟨_, by simp only [h2, h3]; rfl⟩
                      · cases h
                    · cases h
                  · cases h
                | ov q u =>
                  simp only [roOp] at h ⊢
                  split at h
                  · simp at h; obtain ⟨rfl, rfl, rfl⟩ := h; exact ⟨_, rfl⟩
                  · cases h
                | q f =>
                  simp only [roOp] at h ⊢
                  split at h
                  · split at h
                    · simp at h; obtain ⟨rfl, rfl, rfl⟩ := h; exact ⟨_, rfl⟩
                    · cases h
                  · cases h
                | qb f i =>
                  simp only [roOp] at h ⊢
                  split at h
                  · split at h
                    · simp at h; obtain ⟨rfl, rfl, rfl⟩ := h; exact ⟨_, rfl⟩
                    · cases h
                  · cases h
                | r V A T mk => simp [roOp] at h
                | x f sp sel rd => simp [roOp] at h
                | cx sp sel => simp [roOp] at h
                | cp => simp [roOp] at h
              obtain ⟨o1, h3⟩ := key h1
              obtain ⟨o2, h4⟩ := symV_dep (c := c) V _ _ _ _ h2
              exact ⟨_, by simp only [h3, h4]; rfl⟩
            · cases h
          · cases h
theorem symAl_DepN (ops : Array Oper) (mk : Nat → Option Mk) : ∀ (A : List Nat) (t : List Value) (H : List Obj), DepN H.length (fun b => symAl P b ops mk A t H)
  | [], t, H => by simp only [symAl]; exact ret_DepN _ _ _
  | k :: A, t, H => by
    intro b c x H' o h
    simp only [symAl] at h ⊢
    split at h
    · rename_i ob hob
      split at h
      · rename_i t1 H1 o1 h0
        simp at h
        obtain ⟨rfl, rfl, rfl⟩ := h
        obtain ⟨h1, h2⟩ := symAl_DepN ops mk A _ _ b c _ _ _ h0
        simp at h1
        refine ⟨by omega, fun ag => ?_⟩
        obtain ⟨o2, h3⟩ := h2 (fun i hi hi' => ag i (by simp at hi; omega) hi')
        have h3 : symAl P c ops mk A (putL t (dstOf ops k) (ob.snd (b H.length))) (H ++ [ob.fst (b H.length).u]) = some (_, _, o2) := h3
        rw [ag H.length (Nat.le_refl _) (by omega), h3]
        exact ⟨_, rfl⟩
      · cases h
    · cases h
theorem symT_Dep (ops : Array Oper) : ∀ (T : List Nat) (sc : List It) (t : List Value) (H : List Obj), Dep H.length (fun b => symT P b ops T sc t H)
  | [], sc, t, H => by simp only [symT]; exact ret_Dep _ _ _
  | j :: T, sc, t, H => by
    simp only [symT]
    split
    · intro b c x H' o h; cases h
    · split
      · exact (ret_Dep _ _ _).bnd fun _ H => (symT_Dep ops T _ _ H).bnd fun _ H => ret_Dep _ _ _
      · split
        · intro b c x H' o h; cases h
        · exact (symOp_Dep _ _ _ _).bnd fun _ H => (symT_Dep ops T _ _ H).bnd fun _ H => ret_Dep _ _ _
theorem symDraw_Dep (ops : Array Oper) (V A T : List Nat) (mk : Nat → Option Mk) (sc : List It) (t : List Value) (H : List Obj) : Dep H.length (fun b => symDraw P b ops V A T mk sc t H) := by
  intro b c x H' o h ho
  simp only [symDraw] at h ⊢
  split at h
  · rename_i x1 ob1 hv
    obtain ⟨ob2, hv2⟩ := symV_dep (c := c) V sc t _ _ hv
    simp only [hv2]
    have key : ∀ ob, Dep H.length (fun b => bnd (bnd (some ((), H, ob)) fun _ H => symAl P b ops mk A x1.1 H) fun t2 H2 => bnd (symT P b ops T x1.2.1 t2 H2) fun y H3 =>
        match kapB ops H.length V A (x1.2.2.map Prod.snd) T y.2.2 && kapLt H.length (x1.2.2.map Prod.snd) with
        | true => some (((y.1, y.2.1) : List Value × List It), H3, [])
        | false => none) := fun ob =>
      (((ret_Dep _ _ _).bnd fun _ H => (symAl_DepN ops mk A _ H).dep)).bnd fun t2 H2 => (symT_Dep ops T _ t2 H2).bnd fun y H3 => by
        split
        · exact ret_Dep _ _ _
        · intro b c x H' o h; cases h
    obtain ⟨h1, h2⟩ := key ob1 b c x H' o h ho
    refine ⟨h1, fun ag => ?_⟩
    obtain ⟨o', h3⟩ := h2 ag
    -- the head's obligations alone differ
    obtain ⟨t2, H2, o1, o2, h4, h5, rfl⟩ := bnd_some.1 h3
    obtain ⟨_, H3, o3, o4, h6, h7, rfl⟩ := bnd_some.1 h4
    simp at h6
    obtain ⟨rfl, rfl⟩ := h6
    exact ⟨_, bnd_some.2 ⟨t2, H2, _, o2, bnd_some.2 ⟨(), H, ob2, o4, rfl, h7, rfl⟩, h5, rfl⟩⟩
  · cases h
theorem symAny_Dep (ops : Array Oper) (A T : List Nat) (its : List It) : ∀ (fuel : Nat) (listed : Array Bool) (t : List Value) (H : List Obj), Dep H.length (fun b => symAny P b ops A T its fuel listed t H)
  | 0, listed, t, H => by
    intro b c x H' o h ho
    simp only [symAny] at h ⊢
    split at h
    · simp at h
      obtain ⟨rfl, rfl, rfl⟩ := h
      exact ⟨Nat.le_refl _, fun _ => ⟨_, rfl⟩⟩
    · cases h
  | fuel + 1, listed, t, H => by
    intro b c x H' o h ho
    simp only [symAny] at h ⊢
    split at h
    · simp at h
      obtain ⟨rfl, rfl, rfl⟩ := h
      exact ⟨Nat.le_refl _, fun _ => ⟨_, rfl⟩⟩
    · rename_i i rs hr
      have one : ∀ j ∈ i :: rs, H.length ≤ H'.length ∧ (agree H'.length c b → ∃ o', symOne P c ops A T its (symAny P c ops A T its fuel) listed t H j = some (x, H', o')) := fun j hj => by
        obtain ⟨o1, h1, ho1⟩ := joinAll_spec h ho _ (List.mem_map.2 ⟨j, hj, rfl⟩)
        unfold symOne at h1 ⊢
        split at h1
        · cases h1
        · split at h1
          · exact symAny_Dep ops A T its fuel _ _ H b c x H' o1 h1 ho1
          · split at h1
            · cases h1
            · exact ((symOp_Dep _ _ _ H).bnd fun v H => symAny_Dep ops A T its fuel _ _ H) b c x H' o1 h1 ho1
      refine ⟨(one i (List.mem_cons_self ..)).1, fun ag => joinAll_make (by simp) fun r hr => ?_⟩
      obtain ⟨j, hj, rfl⟩ := List.mem_map.1 hr
      exact (one j hj).2 ag
theorem symAnyR_Dep (ops : Array Oper) (A T : List Nat) (sc : List It) (t : List Value) (H : List Obj) : Dep H.length (fun b => symAnyR P b ops A T sc t H) := by
  intro b c x H' o h ho
  simp only [symAnyR] at h ⊢
  split at h
  · rename_i t1 H1 o1 h1
    simp at h
    obtain ⟨rfl, rfl, rfl⟩ := h
    obtain ⟨h2, h3⟩ := symAny_Dep ops A T _ _ _ t H b c _ _ _ h1 ho
    refine ⟨h2, fun ag => ?_⟩
    obtain ⟨o2, h4⟩ := h3 ag
    simp only at h4
    rw [h4]
    exact ⟨_, rfl⟩
  · cases h
theorem symReg_Dep (ops : Array Oper) (draw : Bool) (sc : List It) (t : List Value) (H : List Obj) : Dep H.length (fun b => symReg P b ops draw sc t H) := by
  cases draw with
  | false => exact symOps_Dep ops _ _ _ _
  | true =>
    intro b c x H' o h ho
    rcases sc with _ | ⟨it, sc⟩
    · simp [symReg] at h
    cases it
    case r V A T mk =>
      simp only [symReg] at h ⊢
      split at h
      · exact symDraw_Dep ops V A T mk sc t H b c x H' o h ho
      · split at h
        · split at h
          · exact symAnyR_Dep ops _ _ sc t H b c x H' o h ho
          · cases h
        · cases h
    all_goals (simp [symReg] at h)
/-! ### The plan's facts -/
structure Plan (ops : Array Oper) (N : Nat) (V A T : List Nat) : Prop where
  nosel : ∀ (j : Nat) (o : Oper) cs b, ops[j]? = some o → o.op ≠ .select cs b
  nodup : (V ++ A ++ T).Nodup
  all : ∀ i, i < ops.size → i ∈ V ∨ i ∈ A ∨ i ∈ T
  lt : ∀ i, i ∈ V ∨ i ∈ A ∨ i ∈ T → i < ops.size
  dst : dstsOk ops N = true
  v : vOk ops [] V = true
  a : ∀ k ∈ A, ∃ o, ops[k]? = some o ∧ edgesIn ops k V = true ∧ o.guard = none
  la : ∀ k ∈ A, ∀ e, e ∈ V ∨ e ∈ A ∨ e ∈ T → e = k ∨ wfo ops k e = true ∨ wfo ops e k = true ∨ blind ops k e = true
  t : tOk ops none (V ++ A) T = true
  lv : ∀ i ∈ V, ∀ e, e ∈ V ∨ e ∈ A ∨ e ∈ T → e = i ∨ wfo ops i e = true ∨ wfo ops e i = true ∨ blind ops i e = true
  lt' : ∀ j ∈ T, ∀ e, e ∈ V ∨ e ∈ A → wfo ops j e = true ∨ blind ops j e = true
theorem planB_spec {ops : Array Oper} {N : Nat} {V A T : List Nat} (h : planB ops N V A T = true) : Plan ops N V A T := by
  simp only [planB, Bool.and_eq_true, decide_eq_true_eq] at h
  obtain ⟨⟨⟨⟨⟨⟨⟨⟨⟨h1, h2⟩, h3⟩, h4⟩, h5⟩, h6⟩, h7⟩, h8⟩, h9⟩, h10⟩ := h
  have h7' : ∀ k ∈ A, ∃ o, ops[k]? = some o ∧ (edgesIn ops k V = true ∧ o.guard = none) ∧ ∀ e ∈ V ++ A ++ T, e = k ∨ wfo ops k e = true ∨ wfo ops e k = true ∨ blind ops k e = true := fun k hk => by
    have := List.all_eq_true.1 h7 k hk
    unfold looseA at this
    split at this
    · rename_i o ho
      simp only [Bool.and_eq_true, Option.isNone_iff_eq_none] at this
      refine ⟨o, ho, this.1, fun e he => ?_⟩
      have h := List.all_eq_true.1 this.2 e he
      simp only [Bool.or_eq_true, beq_iff_eq] at h
      rcases h with ((h | h) | h) | h
      · exact .inl h
      · exact .inr (.inl h)
      · exact .inr (.inr (.inl h))
      · exact .inr (.inr (.inr h))
    · cases this
  refine ⟨Region.noSelect_spec h1, h2, fun i hi => ?_, fun i hi => ?_, h5, h6, fun k hk => ?_, fun k hk e he => ?_, h8, fun i hi e he => ?_, fun j hj e he => ?_⟩
  · have := List.all_eq_true.1 h3 i (List.mem_range.2 hi)
    simp at this
    rcases this with h | h | h
    · exact .inl h
    · exact .inr (.inl h)
    · exact .inr (.inr h)
  · have := List.all_eq_true.1 h4 i (by rcases hi with h | h | h <;> simp [h])
    simpa using this
  · obtain ⟨o, ho, h, _⟩ := h7' k hk
    exact ⟨o, ho, h.1, h.2⟩
  · obtain ⟨o, ho, _, h⟩ := h7' k hk
    exact h e (by rcases he with h | h | h <;> simp [h])
  · have h11 := List.all_eq_true.1 (List.all_eq_true.1 h9 i hi) e (by
      rcases he with h | h | h <;> simp [h])
    simp only [Bool.or_eq_true, beq_iff_eq] at h11
    rcases h11 with ((h | h) | h) | h
    · exact .inl h
    · exact .inr (.inl h)
    · exact .inr (.inr (.inl h))
    · exact .inr (.inr (.inr h))
  · have h11 := List.all_eq_true.1 (List.all_eq_true.1 h10 j hj) e (by
      rcases he with h | h <;> simp [h])
    simpa using h11
theorem vOk_spec {ops : Array Oper} : ∀ {V seen pre suf : List Nat} {i : Nat}, vOk ops seen V = true → V = pre ++ i :: suf → edgesIn ops i (pre.reverse ++ seen) = true
  | _, seen, [], suf, i, h, rfl => by simp only [List.nil_append, vOk, Bool.and_eq_true] at h; exact h.1
  | _, seen, p :: pre, suf, i, h, rfl => by
    simp only [List.cons_append, vOk, Bool.and_eq_true] at h
    have := vOk_spec (seen := p :: seen) (pre := pre) (suf := suf) (i := i) h.2 rfl
    simpa using this
theorem tOk_spec {ops : Array Oper} : ∀ {T seen pre suf : List Nat} {prev : Option Nat} {j : Nat}, tOk ops prev seen T = true → T = pre ++ j :: suf → edgesIn ops j (pre.reverse ++ seen) = true ∧ ∀ p, (match pre.getLast? with | some x => some x | none => prev) = some p → wfo ops j p = true
  | _, seen, [], suf, prev, j, h, rfl => by
    simp only [List.nil_append, tOk, Bool.and_eq_true] at h
    refine ⟨by simpa using h.1.1, fun p hp => ?_⟩
    simp at hp
    subst hp
    exact h.1.2
  | _, seen, q :: pre, suf, prev, j, h, rfl => by
    simp only [List.cons_append, tOk, Bool.and_eq_true] at h
    obtain ⟨h1, h2⟩ := tOk_spec (seen := q :: seen) (pre := pre) (suf := suf) (prev := some q) (j := j) h.2 rfl
    refine ⟨by simpa using h1, fun p hp => h2 p ?_⟩
    cases pre with
    | nil => simpa using hp
    | cons r pre =>
      rw [List.getLast?_cons_cons] at hp
      obtain ⟨z, hz⟩ : ∃ z, (r :: pre).getLast? = some z := ⟨_, List.getLast?_eq_some_getLast (by simp)⟩
      rw [hz] at hp ⊢
      exact hp
theorem first_not {p : Nat → Prop} : ∀ (l : List Nat), (∃ x ∈ l, ¬ p x) → ∃ pre x suf, l = pre ++ x :: suf ∧ (∀ y ∈ pre, p y) ∧ ¬ p x
  | [], ⟨x, hx, _⟩ => by cases hx
  | y :: l, ⟨x, hx, hp⟩ => by
    by_cases hy : p y
    · obtain ⟨pre, z, suf, rfl, h1, h2⟩ := first_not l ⟨x, by
        rcases List.mem_cons.1 hx with rfl | h
        · exact absurd hy hp
        · exact h, hp⟩
      exact ⟨y :: pre, z, suf, rfl, fun w hw => by
        rcases List.mem_cons.1 hw with rfl | h
        · exact hy
        · exact h1 w h, h2⟩
    · exact ⟨[], y, l, rfl, (fun w hw => by cases hw), hy⟩
theorem filter_lt {p q : Nat → Bool} (h : ∀ x, q x = true → p x = true) : ∀ (l : List Nat) (x : Nat), x ∈ l → p x = true → q x = false → (l.filter q).length < (l.filter p).length := by
  have le : ∀ l : List Nat, (l.filter q).length ≤ (l.filter p).length := by
    intro l
    induction l with
    | nil => simp
    | cons y l ih =>
      simp only [List.filter_cons]
      by_cases hq : q y = true
      · simp only [hq, h y hq, if_true, List.length_cons]; omega
      · by_cases hp : p y = true
        · simp only [hq, hp, if_true, List.length_cons, Bool.false_eq_true, if_false]; omega
        · simp only [hq, hp, Bool.false_eq_true, if_false]; exact ih
  intro l
  induction l with
  | nil => intro x hx; cases hx
  | cons y l ih =>
    intro x hx hp hq
    rcases List.mem_cons.1 hx with rfl | hx
    · have := le l
      simp only [List.filter_cons, hp, hq, if_true, List.length_cons, Bool.false_eq_true, if_false]; omega
    · have := ih x hx hp hq
      simp only [List.filter_cons]
      by_cases hqy : q y = true
      · simp only [hqy, h y hqy, if_true, List.length_cons]; omega
      · by_cases hpy : p y = true
        · simp only [hqy, hpy, if_true, List.length_cons, Bool.false_eq_true, if_false]; omega
        · simp only [hqy, hpy, Bool.false_eq_true, if_false]; exact this
/-! ### Facts on each operation that only reads -/
variable {X : Nat → Prop} {B : Nat} {S : World → Prop}
/-- What the run with letters says of number i, which only reads. -/
def VFact (P : Program) (X : Nat → Prop) (B : Nat) (S : World → Prop) (ops : Array Oper) (c : Lt) (H0 : List Obj) (t0 : List Value) (v : Nat → Value) (kap : Nat → Option Nat) (bef : List Nat) (i : Nat) : Prop :=
  ∃ ti o, ops[i]? = some o ∧ Fr ops t0 (fun e => bef.contains e) v ti ∧
    ((Region.wanted o (yielded ops ti.toArray) = false ∧ v i = undef ∧ kap i = none) ∨
     (Region.wanted o (yielded ops ti.toArray) = true ∧ ∃ it ob, ItOk P X B S it ∧ roOp P c it o (evL ti) H0 = some (v i, kap i, ob) ∧ okL ob))
theorem symV_facts {ops : Array Oper} {c : Lt} {H0 : List Obj} {t0 : List Value} (hd : dstsOk ops t0.length = true) : ∀ (V seen : List Nat) (sc : List It) (t t' : List Value) (sc' : List It) (l : List (Value × Option Nat)) (ob : Obl) (val : Nat → Value),
    Fr ops t0 (fun e => seen.contains e) val t → (V ++ seen).Nodup → (∀ it ∈ sc, ItOk P X B S it) → symV P c ops H0 V sc t = some ((t', sc', l), ob) → okL ob →
    ∃ (v : Nat → Value) (kap : Nat → Option Nat), l = V.map (fun i => (v i, kap i)) ∧ (∀ j, j ∈ seen → v j = val j) ∧ Fr ops t0 (fun e => (V.reverse ++ seen).contains e) v t' ∧ (∀ it ∈ sc', it ∈ sc) ∧
      ∀ pre i suf, V = pre ++ i :: suf → VFact P X B S ops c H0 t0 v kap (pre.reverse ++ seen) i
  | [], seen, sc, t, t', sc', l, ob, val, hf, hn, hit, h, hob => by
    simp only [symV] at h
    simp at h
    obtain ⟨⟨rfl, rfl, rfl⟩, rfl⟩ := h
    exact ⟨val, fun _ => none, rfl, fun _ _ => rfl, hf, fun _ h => h, fun pre i suf h => by simp at h⟩
  | i :: V, seen, sc, t, t', sc', l, ob, val, hf, hn, hit, h, hob => by
    have hn' : (V ++ i :: seen).Nodup := by
      have : (i :: V ++ seen).Perm (V ++ i :: seen) := by simpa using (List.perm_middle (a := i) (l₁ := V) (l₂ := seen)).symm
      exact this.nodup_iff.1 hn
    have hiV : i ∉ V := fun hm => by simp at hn; exact hn.1.1 hm
    have hiS : i ∉ seen := fun hm => by simp at hn; exact hn.1.2 hm
    -- what the first leaves
    have step : ∀ (u : Value) (ku : Option Nat) (sc1 : List It) (l1 : List (Value × Option Nat)) (ob1 : Obl), (∀ it ∈ sc1, it ∈ sc) → symV P c ops H0 V sc1 (putL t (dstAt ops i) u) = some ((t', sc', l1), ob1) → okL ob1 →
        (∀ v : Nat → Value, (∀ j, j ∈ seen → v j = val j) → v i = u → ∀ kap : Nat → Option Nat, kap i = ku → VFact P X B S ops c H0 t0 v kap seen i) → l = (u, ku) :: l1 →
        ∃ (v : Nat → Value) (kap : Nat → Option Nat), l = (i :: V).map (fun i => (v i, kap i)) ∧ (∀ j, j ∈ seen → v j = val j) ∧ Fr ops t0 (fun e => ((i :: V).reverse ++ seen).contains e) v t' ∧ (∀ it ∈ sc', it ∈ sc) ∧
          ∀ pre i' suf, i :: V = pre ++ i' :: suf → VFact P X B S ops c H0 t0 v kap (pre.reverse ++ seen) i' := by
      intro u ku sc1 l1 ob1 hsub h1 hob1 hfact hl
      have hf1 : Fr ops t0 (fun e => (i :: seen).contains e) (fun j => if j = i then u else val j) (putL t (dstAt ops i) u) :=
        Fr.put hd hf (e := i) (fun j => by rw [List.contains_cons, Bool.or_comm]) (fun j _ hj => by simp [hj]) (by simp)
      obtain ⟨v, kap, h2, h3, h4, h5, h6⟩ := symV_facts hd V (i :: seen) sc1 _ t' sc' l1 ob1 _ hf1 hn' (fun it hm => hit it (hsub it hm)) h1 hob1
      have hvi : v i = u := by have := h3 i (by simp); simpa using this
      have hvs : ∀ j, j ∈ seen → v j = val j := fun j hj => by
        have := h3 j (by simp [hj])
        have hne : j ≠ i := fun e => hiS (e ▸ hj)
        simpa [hne] using this
      refine ⟨v, fun j => if j = i then ku else kap j, ?_, hvs, by simpa using h4, fun it hm => hsub it (h5 it hm), fun pre i' suf he => ?_⟩
      · rw [hl, h2]
        simp only [List.map_cons, if_true, hvi]
        congr 1
        exact List.map_congr_left fun j hj => by have : j ≠ i := fun e => hiV (e ▸ hj); simp [this]
      · cases pre with
        | nil =>
          simp at he
          obtain ⟨rfl, _⟩ := he
          simpa using hfact v hvs hvi (fun j => if j = i then ku else kap j) (by simp)
        | cons p pre =>
          simp at he
          obtain ⟨rfl, he⟩ := he
          have h7 := h6 pre i' suf he
          have hne : i' ≠ i := fun e => hiV (by rw [he]; simp [e])
          obtain ⟨ti, o, ho, hfr, hcase⟩ := h7
          refine ⟨ti, o, ho, by simpa using hfr, ?_⟩
          simpa [hne] using hcase
    simp only [symV] at h
    split at h
    · cases h
    · rename_i o ho
      have hdst : o.dst = dstAt ops i := by simp [dstAt, ho]
      split at h
      · rename_i hw
        split at h
        · rename_i h1
          simp at h
          obtain ⟨⟨rfl, rfl, rfl⟩, rfl⟩ := h
          rw [hdst] at h1
          exact step undef none sc _ _ (fun _ h => h) h1 hob (fun v hvs hvi kap hk => ⟨t, o, ho, ⟨hf.len, fun x => by
            rw [hf.get x]
            split
            · rename_i e _
              by_cases hse : seen.contains e = true
              · simp only [hse, true_and]; rw [hvs e (by simpa using hse)]
              · have : seen.contains e = false := by simpa using hse
                simp only [this, Bool.false_eq_true, false_and, if_false]
            · rfl⟩, .inl ⟨hw, hvi, hk⟩⟩) rfl
        · cases h
      · rename_i hw
        split at h
        · cases h
        · rename_i it sc1
          split at h
          · rename_i u ku o1 hr
            split at h
            · rename_i h1
              simp at h
              obtain ⟨⟨rfl, rfl, rfl⟩, rfl⟩ := h
              rw [hdst] at h1
              obtain ⟨ho1, ho2⟩ := okL_app.1 hob
              exact step u ku sc1 _ _ (fun _ h => List.mem_cons_of_mem _ h) h1 ho2 (fun v hvs hvi kap hk => ⟨t, o, ho, ⟨hf.len, fun x => by
                rw [hf.get x]
                split
                · rename_i e _
                  by_cases hse : seen.contains e = true
                  · simp only [hse, true_and]; rw [hvs e (by simpa using hse)]
                  · have : seen.contains e = false := by simpa using hse
                    simp only [this, Bool.false_eq_true, false_and, if_false]
                · rfl⟩, .inr ⟨hw, it, o1, hit it (List.mem_cons_self ..), by rw [hvi, hk]; exact hr, ho1⟩⟩) rfl
            · cases h
          · cases h
/-- The value that points to what number k makes. -/
def mkV (P : Program) (ops : Array Oper) (mk : Nat → Option Mk) (k : Nat) (l : L1) : Value := match allocObj P ops mk k with
  | some o => o.2 l
  | none => ptrTo l.n
theorem symAl_facts {ops : Array Oper} {mk : Nat → Option Mk} {c : Lt} {t0 : List Value} (hd : dstsOk ops t0.length = true) : ∀ (A : List Nat) (t t' : List Value) (H H' : List Obj) (o : Obl) (done : Nat → Bool) (val : Nat → Value), A.Nodup → (∀ k ∈ A, done k = false) →
    Fr ops t0 done val t → symAl P c ops mk A t H = some (t', H', o) →
    Fr ops t0 (fun e => done e || A.contains e) (fun e => if e ∈ A then mkV P ops mk e (c (idxA H.length A e)) else val e) t' ∧ H'.length = H.length + A.length ∧ (∀ j, j < H.length → H'[j]? = H[j]?) ∧
      (∀ k ∈ A, ∃ ob, allocObj P ops mk k = some ob ∧ H'[idxA H.length A k]? = some (ob.1 (c (idxA H.length A k)).u)) ∧
      (okL o → ∀ k ∈ A, ∃ tk done2 val2, Fr ops t0 done2 val2 tk ∧ okL (allocObl ops mk tk k) ∧ done2 k = false ∧ (∀ e, done e = true → done2 e = true ∧ (e ∉ A → val2 e = val e)) ∧ ∀ e, done2 e = true → done e = true ∨ e ∈ A)
  | [], t, t', H, H', o, done, val, _, _, hf, h => by
    simp only [symAl] at h
    simp at h
    obtain ⟨rfl, rfl, rfl⟩ := h
    exact ⟨⟨hf.len, fun x => by rw [hf.get x]; simp⟩, by simp, fun _ _ => rfl, (fun k hk => by cases hk), fun _ k hk => by cases hk⟩
  | k :: A, t, t', H, H', o, done, val, hn, hk, hf, h => by
    simp only [symAl] at h
    split at h
    · rename_i ob hob
      split at h
      case h_2 => cases h
      rename_i t1 H1 o1 h0
      simp at h
      obtain ⟨rfl, rfl, rfl⟩ := h
      obtain ⟨hkA, hA⟩ := List.nodup_cons.1 hn
      have hmv : mkV P ops mk k (c H.length) = ob.2 (c H.length) := by unfold mkV; rw [hob]
      have hf1 : Fr ops t0 (fun e => done e || e == k) (fun e => if e = k then mkV P ops mk k (c H.length) else val e) (putL t (dstAt ops k) (ob.2 (c H.length))) :=
        Fr.put hd hf (e := k) (fun j => rfl) (fun j _ hj => by simp [hj]) (by simp [hmv])
      have hdst : dstOf ops k = dstAt ops k := rfl
      rw [hdst] at h0
      obtain ⟨h1, h2, h3, h4, h5⟩ := symAl_facts hd A _ t1 (H ++ [ob.1 (c H.length).u]) H1 o1 _ _ hA (fun j hj => by
        have : j ≠ k := fun e => hkA (e ▸ hj)
        simp [hk j (List.mem_cons_of_mem _ hj), this]) hf1 h0
      have hidx : ∀ e ∈ A, idxA (H ++ [ob.1 (c H.length).u]).length A e = idxA H.length (k :: A) e := fun e he => by
        have hne : (k == e) = false := by simp; exact fun e' => hkA (e' ▸ he)
        simp [idxA, List.idxOf_cons, hne]; omega
      have hidk : idxA H.length (k :: A) k = H.length := by simp [idxA]
      refine ⟨⟨h1.len, fun x => ?_⟩, by simp at h2; simp; omega, fun j hj => (h3 j (by simp; omega)).trans (append_ne (by omega)), fun e he => ?_, fun hok e he => ?_⟩
      · rw [h1.get x]
        split
        · rename_i e _
          by_cases hek : e = k
          · subst hek
            simp [hkA, hidk]
          · by_cases heA : e ∈ A
            · simp only [heA, if_true, List.mem_cons, or_true, hidx e heA]
              simp [heA]
            · simp [heA, hek]
        · rfl
      · rcases List.mem_cons.1 he with rfl | he
        · refine ⟨ob, hob, ?_⟩
          rw [hidk, h3 H.length (by simp)]
          simp
        · obtain ⟨ob', h5, h6⟩ := h4 e he
          rw [hidx e he] at h6
          exact ⟨ob', h5, h6⟩
      · obtain ⟨ho1, ho2⟩ := okL_app.1 hok
        rcases List.mem_cons.1 he with rfl | he
        · exact ⟨t, done, val, hf, ho1, hk _ (List.mem_cons_self ..), fun _ h => ⟨h, fun _ => rfl⟩, fun _ h => .inl h⟩
        · obtain ⟨tk, done2, val2, g1, g2, g0, g3, g4⟩ := h5 ho2 e he
          refine ⟨tk, done2, val2, g1, g2, g0, fun x hx => ?_, fun x hx => ?_⟩
          · obtain ⟨g5, g6⟩ := g3 x (by simp [hx])
            refine ⟨g5, fun hxA => ?_⟩
            rw [g6 (fun h => hxA (List.mem_cons_of_mem _ h))]
            have : x ≠ k := fun e => hxA (e ▸ List.mem_cons_self ..)
            simp [this]
          · rcases g4 x hx with h | h
            · simp only [Bool.or_eq_true, beq_iff_eq] at h
              rcases h with h | rfl
              · exact .inl h
              · exact .inr (List.mem_cons_self ..)
            · exact .inr (List.mem_cons_of_mem _ h)
    · cases h
theorem idxA_inj {n : Nat} {A : List Nat} {k k' : Nat} (hk : k ∈ A) (hk' : k' ∈ A) (h : idxA n A k = idxA n A k') : k = k' := by
  have e : A.idxOf k = A.idxOf k' := by simpa [idxA] using h
  have h1 := List.getElem_idxOf (List.idxOf_lt_length_of_mem hk)
  have h2 := List.getElem_idxOf (List.idxOf_lt_length_of_mem hk')
  rw [← h1, ← h2]
  congr 1
theorem idxA_lt {n : Nat} {A : List Nat} {k : Nat} (hk : k ∈ A) : n ≤ idxA n A k ∧ idxA n A k < n + A.length := by
  have := List.idxOf_lt_length_of_mem hk
  simp [idxA]; omega
/-- An operation that only reads, run where the block that it looks at is as it was. -/
theorem roOp_sound {c : Lt} {it : It} {o : Oper} {t : List Value} {d : List Deferred} {H0 Ha : List Obj} {w : World} {v : Value} {k : Option Nat} {ob : Obl} (hs : Sat X B c Ha w) (hS : S w) (hit : ItOk P X B S it)
    (hk : ∀ m, k = some m → Ha[m]? = H0[m]?) (h : roOp P c it o (evL t) H0 = some (v, k, ob)) (hob : okL ob) : RunsTo P o ⟨t.toArray, d⟩ w v := by
  unfold RunsTo
  rw [evL_eq]
  have none0 : AccOk S [] := AccOk.nil
  have nil : Sat X B c [] w := .nil hs.base
  cases it with
  | o =>
    simp only [roOp] at h
    split at h
    · rename_i h1; simp at h; obtain ⟨rfl, rfl, rfl⟩ := h; rw [roRun_sound nil hS _ _ _ _ none0 h1 hob]; exact ⟨.refl .., rfl⟩
    · rename_i h1; simp at h; obtain ⟨rfl, rfl, rfl⟩ := h; rw [roRun_sound nil hS _ _ _ _ none0 h1 hob]; exact ⟨.refl .., rfl⟩
    · cases h
  | a i =>
    simp only [roOp] at h
    split at h
    · rename_i h1
      simp at h
      obtain ⟨rfl, rfl, rfl⟩ := h
      have hE := hk i rfl
      have hsame : roRun P c Ha (execOp (evL t) o) [.blk i] = roRun P c H0 (execOp (evL t) o) [.blk i] := by
        have key : ∀ {α : Type} (u : Sem α), roRun P c Ha u [.blk i] = roRun P c H0 u [.blk i] := by
          intro α u
          have hc : cellsAt [.blk i] Ha = cellsAt [.blk i] H0 := by simp only [cellsAt, Acc.blkOf, hE]
          have ho : objAt [.blk i] Ha = objAt [.blk i] H0 := by simp only [objAt, hE]
          have hr : ∀ a, rdCell [.blk i] Ha a = rdCell [.blk i] H0 a := fun a => by simp only [rdCell, hc]
          induction u with
          | load m a k ih => simp only [roRun, hr]; split <;> simp only [nx, ih]
          | shape r k ih => simp only [roRun, hc]; split <;> simp only [nx, ih]
          | getObj r k ih => simp only [roRun, ho]; split <;> simp only [nx, ih]
          | choose q k ih => simp only [roRun]; split <;> simp only [ih]
          | program k ih => simp only [roRun, ih]
          | mark m k ih => simp only [roRun, ih]
          | _ => rfl
        exact key _
      rw [roRun_sound hs hS _ _ _ _ (AccOk.blk i) (hsame.trans h1) hob]
      exact ⟨.refl .., rfl⟩
    · cases h
  | l acc =>
    simp only [roOp] at h
    split at h
    · rename_i i hsb
      have hsa := saidBlk_spec hsb
      split at h
      · rename_i h1
        simp at h
        obtain ⟨rfl, rfl, rfl⟩ := h
        have hE := hk i rfl
        have hsame : roRun P c Ha (execOp (evL t) o) acc = roRun P c H0 (execOp (evL t) o) acc := by
          have key : ∀ {α : Type} (u : Sem α) (acc : List Acc), SaidAll i acc → roRun P c Ha u acc = roRun P c H0 u acc := by
            intro α u
            have hc : ∀ acc, SaidAll i acc → cellsAt acc Ha = cellsAt acc H0 := fun acc ha => by
              match acc, ha with
              | [], ha => exact absurd rfl ha.1
              | x :: r, ha =>
                obtain ⟨cc, off, vv, rfl⟩ := ha.2 x (List.mem_cons_self ..)
                simp only [cellsAt, Acc.blkOf, hE]
            have ho : ∀ acc, SaidAll i acc → objAt acc Ha = objAt acc H0 := fun acc ha => by
              match acc, ha with
              | [], ha => exact absurd rfl ha.1
              | x :: r, ha =>
                obtain ⟨cc, off, vv, rfl⟩ := ha.2 x (List.mem_cons_self ..)
                rfl
            have hr : ∀ acc, SaidAll i acc → ∀ a, rdCell acc Ha a = rdCell acc H0 a := fun acc ha a => by
              have h1 := hc acc ha
              match acc, ha, h1 with
              | [], ha, _ => exact absurd rfl ha.1
              | x :: r, ha, h1 =>
                obtain ⟨cc, off, vv, rfl⟩ := ha.2 x (List.mem_cons_self ..)
                simp only [rdCell, saidOf, h1]
            induction u with
            | load m a k ih => intro acc ha; simp only [roRun, hr acc ha]; split <;> simp only [ih _ _ ha.next]
            | shape r k ih => intro acc ha; simp only [roRun, hc acc ha]; split <;> simp only [ih _ _ ha.next]
            | getObj r k ih => intro acc ha; simp only [roRun, ho acc ha]; split <;> simp only [ih _ _ ha.next]
            | choose q k ih => intro acc ha; simp only [roRun]; split <;> simp only [ih _ _ ha]
            | program k ih => intro acc ha; simp only [roRun, ih _ _ ha]
            | mark m k ih => intro acc ha; simp only [roRun, ih _ ha]
            | _ => intro acc ha; rfl
          exact key _ _ hsa
        rw [roRun_sound hs hS _ _ _ _ hit (hsame.trans h1) hob]
        exact ⟨.refl .., rfl⟩
      · cases h
    · split at h
      · rename_i h1; simp at h; obtain ⟨rfl, rfl, rfl⟩ := h; rw [roRun_sound nil hS _ _ _ _ hit h1 hob]; exact ⟨.refl .., rfl⟩
      · cases h
  | w u u' =>
    simp only [roOp] at h
    split at h
    · rename_i h1
      simp at h
      obtain ⟨rfl, rfl, rfl⟩ := h
      rw [okL_cons] at hob
      rw [roRun_sound nil hS _ _ _ _ none0 h1 hob.2]
      have h2 := hob.1
      simp at h2
      have h3 : u = u' := hit
      exact ⟨.refl .., h2.trans h3⟩
    · cases h
  | c f args u =>
    simp only [roOp] at h
    split at h
    · rename_i cl hcl
      split at h
      · rename_i df ob1 h1
        obtain ⟨tgt, dargs⟩ := df
        simp only at h
        split at h
        · rename_i f' cap
          simp at h
          obtain ⟨rfl, rfl, rfl⟩ := h
          rw [okL_cons, okL_cons] at hob
          obtain ⟨h13, h14, h15⟩ := hob
          simp at h13 h14
          have h4 := roRun_sound nil hS _ _ _ _ none0 h1 h15
          obtain ⟨hcf, hc⟩ := hit w hS
          have he : (execOp (evL t) o).run P w = .ok (.enter f args) w := by
            unfold execOp
            rw [hcl]
            simp only [Sem.run_bind, h4, Result.andThen_ok]
            show (callFunc f' (dargs ++ cap)).run P w = _
            rw [h13, h14]
            exact hcf
          rw [he]
          exact ⟨rfl, hc⟩
        · cases h
      · cases h
    · cases h
  | ov q u =>
    simp only [roOp] at h
    split at h
    · rename_i q' hq
      simp at h
      obtain ⟨rfl, rfl, rfl⟩ := h
      have h3 := (okL_cons.1 hob).1
      simp at h3
      subst h3
      rw [Go.Proofs.YtlpjdjbophcomaaDoor.Q.ofc_sem hq, hit w hS]
      exact ⟨.refl .., rfl⟩
    · cases h
  | q f =>
    simp only [roOp] at h
    split at h
    · rename_i q' hq
      split at h
      · rename_i v1 ob1 hf
        simp at h
        obtain ⟨rfl, rfl, rfl⟩ := h
        rw [Go.Proofs.YtlpjdjbophcomaaDoor.Q.of_sem hq, hit q' _ _ hf hob w hS]
        exact ⟨.refl .., rfl⟩
      · cases h
    · cases h
  | qb f i =>
    simp only [roOp] at h
    split at h
    · rename_i q' hq
      split at h
      · rename_i v1 g hf
        simp at h
        obtain ⟨rfl, rfl, rfl⟩ := h
        rw [Go.Proofs.YtlpjdjbophcomaaDoor.Q.of_sem hq, hit q' _ g _ hf hob w hS]
        exact ⟨.refl .., rfl⟩
      · cases h
    · cases h
  | r V A T mk => simp [roOp] at h
  | x f sp sel rd => simp [roOp] at h
  | cx sp sel => simp [roOp] at h
  | cp => simp [roOp] at h
end
end Go.Proofs.YtlpjdjbophcomaaDoor

