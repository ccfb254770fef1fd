/-
  The run with letters through code and through functions; what a function, a loop, a piece of code does, told as a whole. Nothing of the program stands here.
-/
import Derived.Test.YtlpjdjbophcomaaDoorRxT
import Derived.LoopN
import Derived.ScopeJumps
namespace Go.Proofs.YtlpjdjbophcomaaDoor
open Go.RowKit
set_option linter.unusedVariables false
set_option linter.unusedSimpArgs false
section
variable {X : Nat → Prop} {B : Nat} {P : Program} {S : World → Prop}
/-! ### Code -/
abbrev St := Ex × List Value × List It
def isNode : Code → Bool
  | .loop _ => true
  | .cond _ _ _ => true
  | .block _ _ => true
  | .scope _ => true
  | .region _ _ _ => true
  | _ => false
/-- What the script tells of a piece of code as a whole. -/
inductive Spl where
  | take (sp : Spc) (sel : List Nat) (sc : List It)
  | go (sc : List It)
def spl (l : Bool) (c : Code) (sc : List It) : Spl :=
  match l with
  | true => .go sc
  | false => match isNode c with
    | true => match sc with
      | .cx sp sel :: r => .take sp sel r
      | .cp :: r => .go r
      | _ => .go sc
    | false => .go sc
def symCode (P : Program) (b : Lt) : Nat → Bool → Code → List It → List Value → List Obj → Option (St × List Obj × Obl)
  | 0, _, _, _, _, _ => none
  | f + 1, l, c, sc, t, H => match spl l c sc with
   | .take sp sel sc => bnd (symX true b (.code c t) sp sel H) fun vs H => some ((sp.ex, vs, sc), H, [])
   | .go sc => match c with
    | .skip => some ((.normal, t, sc), H, [])
    | .label _ => some ((.normal, t, sc), H, [])
    | .exit id => some ((.exit id, t, sc), H, [])
    | .goto l => some ((.goto l, t, sc), H, [])
    | .ret => some ((.ret, t, sc), H, [])
    | .region _ ops draw => bnd (symReg P b ops draw sc t H) fun x H => some ((.normal, x.1, x.2), H, [])
    | .seq x y => bnd (symCode P b f false x sc t H) fun s H => match s.1 with
      | .normal => symCode P b f false y s.2.2 s.2.1 H
      | _ => some (s, H, [])
    | .cond c x y => match evL t c with
      | .bool true => symCode P b f false x sc t H
      | .bool false => symCode P b f false y sc t H
      | _ => none
    | .block id x => bnd (symCode P b f false x sc t H) fun s H => match s.1 with
      | .exit id' => if id' = id then some ((.normal, s.2), H, []) else some (s, H, [])
      | _ => some (s, H, [])
    | .loop x => bnd (symCode P b f false x sc t H) fun s H => match s.1 with
      | .normal => symCode P b f true (.loop x) s.2.2 s.2.1 H
      | _ => some (s, H, [])
    | .scope x => bnd (symCode P b f false x sc t H) fun s H => match s.1 with
      | .goto _ => none
      | _ => some (s, H, [])
    | _ => none
theorem spl_go {l : Bool} {c : Code} {sc sc1 : List It} (h : spl l c sc = .go sc1) : ∀ it ∈ sc1, it ∈ sc := by
  unfold spl at h
  split at h
  · simp at h; subst h; exact fun _ h => h
  · split at h
    · split at h
      · cases h
      · simp at h; subst h; exact fun _ h => List.mem_cons_of_mem _ h
      · simp at h; subst h; exact fun _ h => h
    · simp at h; subst h; exact fun _ h => h
theorem spl_take {l : Bool} {c : Code} {sc sc1 : List It} {sp : Spc} {sel : List Nat} (h : spl l c sc = .take sp sel sc1) : It.cx sp sel ∈ sc ∧ ∀ it ∈ sc1, it ∈ sc := by
  unfold spl at h
  split at h
  · cases h
  · split at h
    · split at h
      · simp at h; obtain ⟨rfl, rfl, rfl⟩ := h; exact ⟨List.mem_cons_self .., fun _ h => List.mem_cons_of_mem _ h⟩
      · cases h
      · cases h
    · cases h
theorem symX_Dep (f : Bool) (wh : Wh) (sp : Spc) (sel : List Nat) (H : List Obj) : Dep H.length (fun b => symX f b wh sp sel H) := fun b c x H' o h _ => by
  obtain ⟨h1, h2, h3⟩ := symX_dep (c := c) h
  exact ⟨by omega, fun ag => ⟨o, h3 fun i hi => ag i (by
    rcases hi with hi | hi
    · have := h1 i hi; omega
    · exact hi.2)⟩⟩
theorem symCode_Dep : ∀ (f : Nat) (l : Bool) (c : Code) (sc : List It) (t : List Value) (H : List Obj), Dep H.length (fun b => symCode P b f l c sc t H)
  | 0, l, c, sc, t, H => by intro b c x H' o h; simp [symCode] at h
  | f + 1, l, c, sc, t, H => by
    have ih := symCode_Dep f
    cases hspl : spl l c sc with
    | take sp sel sc1 =>
      simp only [symCode, hspl]
      exact (symX_Dep _ _ _ _ _).bnd fun x H => ret_Dep _ _ _
    | go sc1 =>
      cases c with
      | skip => simp only [symCode, hspl]; exact ret_Dep _ _ _
      | label l => simp only [symCode, hspl]; exact ret_Dep _ _ _
      | exit id => simp only [symCode, hspl]; exact ret_Dep _ _ _
      | goto l => simp only [symCode, hspl]; exact ret_Dep _ _ _
      | ret => simp only [symCode, hspl]; exact ret_Dep _ _ _
      | region id ops draw => simp only [symCode, hspl]; exact (symReg_Dep ops draw sc1 t H).bnd fun x H => ret_Dep _ _ _
      | seq x y =>
        simp only [symCode, hspl]
        refine (ih false x sc1 t H).bnd fun s H => ?_
        obtain ⟨e, s⟩ := s
        cases e <;> first | exact ih false y _ _ _ | exact ret_Dep _ _ _
      | cond c x y =>
        simp only [symCode, hspl]
        cases hc : evL t c <;> first
          | (intro b c x H' o h; cases h; done)
          | (rename_i v; cases v <;> exact ih false _ _ _ _)
      | block id x =>
        simp only [symCode, hspl]
        refine (ih false x sc1 t H).bnd fun s H => ?_
        obtain ⟨e, s⟩ := s
        cases e <;> simp only <;> try exact ret_Dep _ _ _
        split <;> exact ret_Dep _ _ _
      | loop x =>
        simp only [symCode, hspl]
        refine (ih false x sc1 t H).bnd fun s H => ?_
        obtain ⟨e, s⟩ := s
        cases e <;> first | exact ih true (.loop x) _ _ _ | exact ret_Dep _ _ _
      | rangeFunc a b c d => simp only [symCode, hspl]; intro b c x H' o h; cases h
      | scope x =>
        simp only [symCode, hspl]
        refine (ih false x sc1 t H).bnd fun s H => ?_
        obtain ⟨e, s⟩ := s
        cases e <;> first | exact ret_Dep _ _ _ | (intro b c x H' o h; cases h)
      | refuse a => simp only [symCode, hspl]; intro b c x H' o h; cases h
/-- What the run with letters says of code, holds. -/
theorem symCode_sound (hUp : ∀ w w', S w → Chg X B w w' → S w') {d : List Deferred} : ∀ (f : Nat),
    (∀ (c : Code) (Q : Exit → Act → World → Prop) (sc : List It) (t : List Value) (H : List Obj) (w : World) (b : Lt), Sat X B b H w → S w → (∀ it ∈ sc, ItOk P X B S it) → Ran H.length b (fun b => symCode P b f false c sc t H) →
      (∀ c' e t' sc' H' ob w', agree H.length c' b → symCode P c' f false c sc t H = some ((e, t', sc'), H', ob) → okL ob → Sat X B c' H' w' → S w' → Chg X B w w' → (∀ it ∈ sc', it ∈ sc) → Q (Ex.to e) ⟨t'.toArray, d⟩ w') →
      c.wp P Q ⟨t.toArray, d⟩ w) ∧
    (∀ (x : Code) (Q : Exit → Act → World → Prop) (sc : List It) (t : List Value) (H : List Obj) (w : World) (b : Lt), Sat X B b H w → S w → (∀ it ∈ sc, ItOk P X B S it) → Ran H.length b (fun b => symCode P b f true (.loop x) sc t H) →
      (∀ c' e t' sc' H' ob w', agree H.length c' b → symCode P c' f true (.loop x) sc t H = some ((e, t', sc'), H', ob) → okL ob → Sat X B c' H' w' → S w' → Chg X B w w' → (∀ it ∈ sc', it ∈ sc) → Q (Ex.to e) ⟨t'.toArray, d⟩ w') →
      Code.rounds P x Q f ⟨t.toArray, d⟩ w) := by
  intro f
  induction f with
  | zero =>
    refine ⟨fun c Q sc t H w b hs hS hit h K => ?_, fun x Q sc t H w b hs hS hit h K => ?_⟩
    · obtain ⟨x, H', o, h1, _⟩ := h.self; simp [symCode] at h1
    · obtain ⟨x, H', o, h1, _⟩ := h.self; simp [symCode] at h1
  | succ f ih =>
    obtain ⟨ih1, ih2⟩ := ih
    -- one behind the other
    have two : ∀ (x : Code) (k : Lt → St → List Obj → Option (St × List Obj × Obl)) (Q : Exit → Act → World → Prop) (sc : List It) (t : List Value) (H : List Obj) (w : World) (b : Lt), Sat X B b H w → S w → (∀ it ∈ sc, ItOk P X B S it) →
        Ran H.length b (fun b => bnd (symCode P b f false x sc t H) (k b)) →
        (∀ c' e t' sc' H' w', Sat X B c' H' w' → S w' → Chg X B w w' → (∀ it ∈ sc', it ∈ sc) → Ran H'.length c' (fun c => k c (e, t', sc') H') →
          (∀ c'' e' t'' sc'' H'' ob w'', agree H'.length c'' c' → k c'' (e, t', sc') H' = some ((e', t'', sc''), H'', ob) → okL ob → Sat X B c'' H'' w'' → S w'' → Chg X B w w'' → (∀ it ∈ sc'', it ∈ sc) →
            ∃ o', agree H.length c'' b ∧ bnd (symCode P c'' f false x sc t H) (k c'') = some ((e', t'', sc''), H'', o') ∧ okL o') →
          Q (Ex.to e) ⟨t'.toArray, d⟩ w') → x.wp P Q ⟨t.toArray, d⟩ w := by
      intro x k Q sc t H w b hs hS hit h K
      refine ih1 x Q sc t H w b hs hS hit h.fst (fun c' e t' sc' H' ob w' ag hr hob hs' hS' hch hsub => ?_)
      have hdep := symCode_Dep (P := P) f false x sc t H
      have hl := (hdep c' c' _ _ _ hr hob).1
      refine K c' e t' sc' H' w' hs' hS' hch hsub (h.snd hdep ag hr hob) ?_
      intro c'' e' t'' sc'' H'' ob' w'' ag' hr' hob' hs'' hS'' hch' hsub'
      obtain ⟨ob1, hr1⟩ := (hdep c' c'' _ _ _ hr hob).2 ag'
      have agc := (ag'.mono hl).trans ag
      have hrr : bnd (symCode P c'' f false x sc t H) (k c'') = some ((e', t'', sc''), H'', ob1 ++ ob') := bnd_some.2 ⟨_, H', ob1, ob', hr1, hr', rfl⟩
      obtain ⟨y, Hy, oy, hy, hoy⟩ := h c'' agc
      have := hrr.symm.trans hy
      simp at this
      obtain ⟨rfl, rfl, rfl⟩ := this
      exact ⟨_, agc, hrr, hoy⟩
    refine ⟨fun c Q sc t H w b hs hS hit h K => ?_, fun x => ?_⟩
    · cases hspl : spl false c sc with
      | take sp sel sc1 =>
        obtain ⟨hmem, hsub⟩ := spl_take hspl
        have heq : ∀ c', symCode P c' (f + 1) false c sc t H = bnd (symX true c' (.code c t) sp sel H) fun vs H => some ((sp.ex, vs, sc1), H, []) := fun c' => by simp only [symCode, hspl]
        have h' : Ran H.length b (fun c' => bnd (symX true c' (.code c t) sp sel H) fun vs H => some (((sp.ex, vs, sc1) : St), H, [])) := h.congr heq
        have hd := symX_sound hs hS (show SpcX true P X B S sp from hit _ hmem) h'.fst
        refine hd Q d fun t' w' ⟨c', H', o', h1, h2, h3, h4, h5⟩ => ?_
        exact K c' sp.ex t' sc1 H' (o' ++ []) w' h1 (by rw [heq]; exact bnd_some.2 ⟨t', H', o', [], h2, rfl, rfl⟩) (by simpa using h3) h4 (hUp _ _ hS h5) h5 hsub
      | go sc1 =>
       have hin := spl_go hspl
       have hit1 : ∀ it ∈ sc1, ItOk P X B S it := fun i hi => hit i (hin i hi)
       cases c with
      | skip =>
        exact wp_skip (K b .normal t sc1 H [] w agree.rfl' (by simp [symCode, hspl]) rfl hs hS (.refl ..) hin)
      | label l =>
        exact wp_label (K b .normal t sc1 H [] w agree.rfl' (by simp [symCode, hspl]) rfl hs hS (.refl ..) hin)
      | exit id =>
        exact wp_exit (K b (.exit id) t sc1 H [] w agree.rfl' (by simp [symCode, hspl]) rfl hs hS (.refl ..) hin)
      | goto l =>
        exact wp_goto (K b (.goto l) t sc1 H [] w agree.rfl' (by simp [symCode, hspl]) rfl hs hS (.refl ..) hin)
      | ret =>
        exact wp_ret (K b .ret t sc1 H [] w agree.rfl' (by simp [symCode, hspl]) rfl hs hS (.refl ..) hin)
      | region id ops draw =>
        have h' : Ran H.length b (fun b => bnd (symReg P b ops draw sc1 t H) fun x H => some (((.normal, x.1, x.2) : St), H, [])) := h.congr (fun c => by simp only [symCode, hspl])
        refine symReg_sound hUp id ops draw sc1 t H w b hs hS hit1 h'.fst (fun c t' sc' H' ob w' ag hr hob hs' hS' hch hsub => ?_)
        exact K c .normal t' sc' H' (ob ++ []) w' ag (by simp only [symCode, hspl]; exact bnd_some.2 ⟨(t', sc'), H', ob, [], hr, rfl, rfl⟩) (by simpa using hob) hs' hS' hch (fun i hi => hin i (hsub i hi))
      | seq x y =>
        refine wp_seq ?_
        refine two x (fun b s H => match s.1 with
          | .normal => symCode P b f false y s.2.2 s.2.1 H
          | _ => some (s, H, [])) _ sc1 t H w b hs hS hit1 (h.congr fun c => by simp only [symCode, hspl]) ?_
        intro c' e t' sc' H' w' hs' hS' hch hsub hran back
        have fin : e ≠ .normal → Q (Ex.to e) ⟨t'.toArray, d⟩ w' := by
          intro hne
          have hk : ∀ c, (fun (b : Lt) (s : St) (H : List Obj) => match s.1 with
            | .normal => symCode P b f false y s.2.2 s.2.1 H
            | _ => some (s, H, [])) c (e, t', sc') H' = some ((e, t', sc'), H', []) := by
            intro c
            cases e <;> first | exact absurd rfl hne | rfl
          obtain ⟨o', ag, hr, ho⟩ := back c' e t' sc' H' [] w' agree.rfl' (hk c') rfl hs' hS' hch hsub
          exact K c' e t' sc' H' o' w' ag (by simp only [symCode, hspl]; exact hr) ho hs' hS' hch (fun i hi => hin i (hsub i hi))
        cases e with
        | normal =>
          show y.wp P Q _ _
          refine ih1 y Q sc' t' H' w' c' hs' hS' (fun i hi => hit1 i (hsub i hi)) hran (fun c'' e' t'' sc'' H'' ob w'' ag' hr' hob' hs'' hS'' hch' hsub' => ?_)
          obtain ⟨o', ag, hr, ho⟩ := back c'' e' t'' sc'' H'' ob w'' ag' hr' hob' hs'' hS'' (hch.trans hch') (fun i hi => hsub i (hsub' i hi))
          exact K c'' e' t'' sc'' H'' o' w'' ag (by simp only [symCode, hspl]; exact hr) ho hs'' hS'' (hch.trans hch') (fun i hi => hin i (hsub i (hsub' i hi)))
        | exit id => exact fin (by simp)
        | goto l => exact fin (by simp)
        | ret => exact fin (by simp)
      | cond cd x y =>
        obtain ⟨z, Hz, oz, hz, _⟩ := h.self
        simp only [symCode, hspl] at hz
        split at hz
        · rename_i hv
          have heq : ∀ c, symCode P c (f + 1) false (.cond cd x y) sc t H = symCode P c f false x sc1 t H := fun c => by simp only [symCode, hspl, hv]
          refine wp_cond_true (by rw [evL_eq]; exact hv) (ih1 x Q sc1 t H w b hs hS hit1 (h.congr heq) (fun c' e t' sc' H' ob w' ag hr hob hs' hS' hch hsub => K c' e t' sc' H' ob w' ag (by rw [heq]; exact hr) hob hs' hS' hch (fun i hi => hin i (hsub i hi))))
        · rename_i hv
          have heq : ∀ c, symCode P c (f + 1) false (.cond cd x y) sc t H = symCode P c f false y sc1 t H := fun c => by simp only [symCode, hspl, hv]
          refine wp_cond_false (by rw [evL_eq]; exact hv) (ih1 y Q sc1 t H w b hs hS hit1 (h.congr heq) (fun c' e t' sc' H' ob w' ag hr hob hs' hS' hch hsub => K c' e t' sc' H' ob w' ag (by rw [heq]; exact hr) hob hs' hS' hch (fun i hi => hin i (hsub i hi))))
        · cases hz
      | block id x =>
        refine wp_block ?_
        refine two x (fun b s H => match s.1 with
          | .exit id' => if id' = id then some ((.normal, s.2), H, []) else some (s, H, [])
          | _ => some (s, H, [])) _ sc1 t H w b hs hS hit1 (h.congr fun c => by simp only [symCode, hspl]) ?_
        intro c' e t' sc' H' w' hs' hS' hch hsub hran back
        cases e with
        | exit id' =>
          show if id' = id then Q .normal _ _ else Q (.exit id') _ _
          by_cases hid : id' = id
          · rw [if_pos hid]
            obtain ⟨o', ag, hr, ho⟩ := back c' .normal t' sc' H' [] w' agree.rfl' (by simp [hid]) rfl hs' hS' hch hsub
            exact K c' .normal t' sc' H' o' w' ag (by simp only [symCode, hspl]; exact hr) ho hs' hS' hch (fun i hi => hin i (hsub i hi))
          · rw [if_neg hid]
            obtain ⟨o', ag, hr, ho⟩ := back c' (.exit id') t' sc' H' [] w' agree.rfl' (by simp [hid]) rfl hs' hS' hch hsub
            exact K c' (.exit id') t' sc' H' o' w' ag (by simp only [symCode, hspl]; exact hr) ho hs' hS' hch (fun i hi => hin i (hsub i hi))
        | normal =>
          obtain ⟨o', ag, hr, ho⟩ := back c' .normal t' sc' H' [] w' agree.rfl' rfl rfl hs' hS' hch hsub
          exact K c' .normal t' sc' H' o' w' ag (by simp only [symCode, hspl]; exact hr) ho hs' hS' hch (fun i hi => hin i (hsub i hi))
        | goto l =>
          obtain ⟨o', ag, hr, ho⟩ := back c' (.goto l) t' sc' H' [] w' agree.rfl' rfl rfl hs' hS' hch hsub
          exact K c' (.goto l) t' sc' H' o' w' ag (by simp only [symCode, hspl]; exact hr) ho hs' hS' hch (fun i hi => hin i (hsub i hi))
        | ret =>
          obtain ⟨o', ag, hr, ho⟩ := back c' .ret t' sc' H' [] w' agree.rfl' rfl rfl hs' hS' hch hsub
          exact K c' .ret t' sc' H' o' w' ag (by simp only [symCode, hspl]; exact hr) ho hs' hS' hch (fun i hi => hin i (hsub i hi))
      | loop x =>
        have := ih2
        refine wp_loop_rounds (f + 1) ?_
        show x.wp P (Exit.then (Code.rounds P x Q f) Q) _ _
        refine two x (fun b s H => match s.1 with
          | .normal => symCode P b f true (.loop x) s.2.2 s.2.1 H
          | _ => some (s, H, [])) _ sc1 t H w b hs hS hit1 (h.congr fun c => by simp only [symCode, hspl]) ?_
        intro c' e t' sc' H' w' hs' hS' hch hsub hran back
        have fin : e ≠ .normal → Q (Ex.to e) ⟨t'.toArray, d⟩ w' := by
          intro hne
          have hk : ∀ c, (fun (b : Lt) (s : St) (H : List Obj) => match s.1 with
            | .normal => symCode P b f true (.loop x) s.2.2 s.2.1 H
            | _ => some (s, H, [])) c (e, t', sc') H' = some ((e, t', sc'), H', []) := by
            intro c
            cases e <;> first | exact absurd rfl hne | rfl
          obtain ⟨o', ag, hr, ho⟩ := back c' e t' sc' H' [] w' agree.rfl' (hk c') rfl hs' hS' hch hsub
          exact K c' e t' sc' H' o' w' ag (by simp only [symCode, hspl]; exact hr) ho hs' hS' hch (fun i hi => hin i (hsub i hi))
        cases e with
        | normal =>
          show Code.rounds P x Q f _ _
          refine ih2 x Q sc' t' H' w' c' hs' hS' (fun i hi => hit1 i (hsub i hi)) hran (fun c'' e' t'' sc'' H'' ob w'' ag' hr' hob' hs'' hS'' hch' hsub' => ?_)
          obtain ⟨o', ag, hr, ho⟩ := back c'' e' t'' sc'' H'' ob w'' ag' hr' hob' hs'' hS'' (hch.trans hch') (fun i hi => hsub i (hsub' i hi))
          exact K c'' e' t'' sc'' H'' o' w'' ag (by simp only [symCode, hspl]; exact hr) ho hs'' hS'' (hch.trans hch') (fun i hi => hin i (hsub i (hsub' i hi)))
        | exit id => exact fin (by simp)
        | goto l => exact fin (by simp)
        | ret => exact fin (by simp)
      | rangeFunc p q r s => obtain ⟨z, Hz, oz, hz, _⟩ := h.self; simp [symCode, hspl] at hz
      | scope x =>
        refine wp_scope_straight ?_
        refine two x (fun b s H => match s.1 with
          | .goto _ => none
          | _ => some (s, H, [])) _ sc1 t H w b hs hS hit1 (h.congr fun c => by simp only [symCode, hspl]) ?_
        intro c' e t' sc' H' w' hs' hS' hch hsub hran back
        cases e with
        | exit id' =>
          obtain ⟨o', ag, hr, ho⟩ := back c' (.exit id') t' sc' H' [] w' agree.rfl' rfl rfl hs' hS' hch hsub
          exact K c' (.exit id') t' sc' H' o' w' ag (by simp only [symCode, hspl]; exact hr) ho hs' hS' hch (fun i hi => hin i (hsub i hi))
        | normal =>
          obtain ⟨o', ag, hr, ho⟩ := back c' .normal t' sc' H' [] w' agree.rfl' rfl rfl hs' hS' hch hsub
          exact K c' .normal t' sc' H' o' w' ag (by simp only [symCode, hspl]; exact hr) ho hs' hS' hch (fun i hi => hin i (hsub i hi))
        | goto l =>
          obtain ⟨z, Hz, oz, hz, _⟩ := hran.self
          cases hz
        | ret =>
          obtain ⟨o', ag, hr, ho⟩ := back c' .ret t' sc' H' [] w' agree.rfl' rfl rfl hs' hS' hch hsub
          exact K c' .ret t' sc' H' o' w' ag (by simp only [symCode, hspl]; exact hr) ho hs' hS' hch (fun i hi => hin i (hsub i hi))
      | refuse p => obtain ⟨z, Hz, oz, hz, _⟩ := h.self; simp [symCode, hspl] at hz
    · intro Q sc t H w b hs hS hit h K
      show x.wp P (Exit.then (Code.rounds P x Q f) Q) _ _
      refine two x (fun b s H => match s.1 with
        | .normal => symCode P b f true (.loop x) s.2.2 s.2.1 H
        | _ => some (s, H, [])) _ sc t H w b hs hS hit (h.congr fun c => by simp only [symCode, spl]) ?_
      intro c' e t' sc' H' w' hs' hS' hch hsub hran back
      have fin : e ≠ .normal → Q (Ex.to e) ⟨t'.toArray, d⟩ w' := by
        intro hne
        have hk : ∀ c, (fun (b : Lt) (s : St) (H : List Obj) => match s.1 with
          | .normal => symCode P b f true (.loop x) s.2.2 s.2.1 H
          | _ => some (s, H, [])) c (e, t', sc') H' = some ((e, t', sc'), H', []) := by
          intro c
          cases e <;> first | exact absurd rfl hne | rfl
        obtain ⟨o', ag, hr, ho⟩ := back c' e t' sc' H' [] w' agree.rfl' (hk c') rfl hs' hS' hch hsub
        exact K c' e t' sc' H' o' w' ag (by simp only [symCode, spl]; exact hr) ho hs' hS' hch hsub
      cases e with
      | normal =>
        show Code.rounds P x Q f _ _
        refine ih2 x Q sc' t' H' w' c' hs' hS' (fun i hi => hit i (hsub i hi)) hran (fun c'' e' t'' sc'' H'' ob w'' ag' hr' hob' hs'' hS'' hch' hsub' => ?_)
        obtain ⟨o', ag, hr, ho⟩ := back c'' e' t'' sc'' H'' ob w'' ag' hr' hob' hs'' hS'' (hch.trans hch') (fun i hi => hsub i (hsub' i hi))
        exact K c'' e' t'' sc'' H'' o' w'' ag (by simp only [symCode, spl]; exact hr) ho hs'' hS'' (hch.trans hch') (fun i hi => hsub i (hsub' i hi))
      | exit id => exact fin (by simp)
      | goto l => exact fin (by simp)
      | ret => exact fin (by simp)
/-! ### Functions -/
def symFn (P : Program) (b : Lt) (fn : Func) (args : List Value) (sc : List It) (ra : List Acc) (H0 : List Obj) : Option (Value × List Obj × Obl) :=
  match fn.body with
  | some c => bnd (symCode P b 100000 false c sc (args ++ List.replicate (fn.ntmps - args.length) undef) H0) fun s H => match s.1 with
    | .normal => match roRun P b H (results fn s.2.1.toArray) ra with
      | some (v, o) => some (v, H, o)
      | none => none
    | .ret => match roRun P b H (results fn s.2.1.toArray) ra with
      | some (v, o) => some (v, H, o)
      | none => none
    | _ => none
  | none => none
def lft (r : Option (Value × List Obj × Obl)) : Option (List Tok) :=
  match r with
  | some (v, _, o) => some (.v v :: o.map Prod.fst)
  | none => none
def rgt (V : Value) (r : Option (Value × List Obj × Obl)) : Option (List Tok) :=
  match r with
  | some (_, _, o) => some (.v V :: o.map Prod.snd)
  | none => some []
theorem lft_rgt {V : Value} {r : Option (Value × List Obj × Obl)} (h : lft r = rgt V r) : ∃ H o, r = some (V, H, o) ∧ okL o := by
  unfold lft rgt at h
  split at h
  · simp at h
    obtain ⟨rfl, h⟩ := h
    exact ⟨_, _, rfl, by unfold okL; simpa using h⟩
  · cases h
/-- A function, from the blocks H0. -/
theorem fn_wp {f : FuncId} {fn : Func} (hf : P.funcs[f]? = some fn) (args : List Value) (sc : List It) (ra : List Acc) (H0 : List Obj) (b : Lt) (w : World) (hs : Sat X B b H0 w) (hS : S w) (hUp : ∀ w1 w2, S w1 → Chg X B w1 w2 → S w2)
    (hsc : ∀ it ∈ sc, ItOk P X B S it) (hra : AccOk S ra) (h : Ran H0.length b (fun b => symFn P b fn args sc ra H0)) :
    Calls P f args.toArray w fun e w' => ∃ c V H o, agree H0.length c b ∧ symFn P c fn args sc ra H0 = some (V, H, o) ∧ okL o ∧ e = .returned V ∧ Sat X B c H w' ∧ Chg X B w w' := by
  cases hb : fn.body with
  | none => obtain ⟨x, H, o, h1, _⟩ := h.self; simp [symFn, hb] at h1
  | some c =>
    refine calls_of_wp hf hb ?_
    have hargs : args.toArray ++ Array.replicate (fn.ntmps - args.toArray.size) undef = (args ++ List.replicate (fn.ntmps - args.length) undef).toArray := by simp
    rw [hargs]
    have heq : ∀ b, symFn P b fn args sc ra H0 = bnd (symCode P b 100000 false c sc (args ++ List.replicate (fn.ntmps - args.length) undef) H0) fun s H => match s.1 with
        | .normal => match roRun P b H (results fn s.2.1.toArray) ra with
          | some (v, o) => some (v, H, o)
          | none => none
        | .ret => match roRun P b H (results fn s.2.1.toArray) ra with
          | some (v, o) => some (v, H, o)
          | none => none
        | _ => none := fun b => by simp only [symFn, hb]
    have h' := h.congr heq
    refine (symCode_sound hUp 100000).1 c _ sc _ H0 w b hs hS hsc h'.fst (fun c' e t' sc' H' ob w' ag hr hob hs' hS' hch hsub => ?_)
    obtain ⟨V, H1, o1, h1, h2⟩ := h c' ag
    have h1' : symFn P c' fn args sc ra H0 = some (V, H1, o1) := h1
    have h1 := h1'
    rw [heq] at h1
    obtain ⟨x, H2, o2, o3, h3, h4, rfl⟩ := bnd_some.1 h1
    have := hr.symm.trans h3
    simp at this
    obtain ⟨rfl, rfl, rfl⟩ := this
    have ho3 := (okL_app.1 h2).2
    have fin : ∀ (hh : (match roRun P c' H' (results fn t'.toArray) ra with
          | some (v, o) => some (v, H', o)
          | none => none) = some (V, H1, o3)), (results fn t'.toArray).run P w' = .ok V w' ∧ H1 = H' := by
      intro hh
      split at hh
      · rename_i hro
        simp at hh
        obtain ⟨rfl, rfl, rfl⟩ := hh
        exact ⟨roRun_sound hs' hS' _ _ _ _ hra hro ho3, rfl⟩
      · cases hh
    cases e with
    | normal => obtain ⟨h5, rfl⟩ := fin h4; exact ⟨rfl, V, h5, c', V, _, _, ag, h1', h2, rfl, hs', hch⟩
    | ret => obtain ⟨h5, rfl⟩ := fin h4; exact ⟨rfl, V, h5, c', V, _, _, ag, h1', h2, rfl, hs', hch⟩
    | exit id => cases h4
    | goto l => cases h4
/-- A function's contract, out of its run with letters: it answers V, nothing that was there changes. -/
theorem fn_calls {f : FuncId} {fn : Func} (hf : P.funcs[f]? = some fn) (args : List Value) (V : Value) (sc : List It) (ra : List Acc) (w : World) (S : World → Prop) (hS : S w) (hUp : ∀ w1 w2, S w1 → Chg (fun _ => False) w.heap.size w1 w2 → S w2)
    (hsc : ∀ it ∈ sc, ItOk P (fun _ => False) w.heap.size S it) (hra : AccOk S ra) (hrun : ∀ b, lft (symFn P b fn args sc ra []) = rgt V (symFn P b fn args sc ra [])) :
    Calls P f args.toArray w fun e w' => e = .returned V ∧ Below w.heap.size w w' := by
  refine (fn_wp hf args sc ra [] (fun _ => ⟨0, fun _ => undef⟩) w (.nil (Nat.le_refl _)) hS hUp hsc hra (fun c _ => ?_)).mono fun e w' ⟨c, V', H, o, _, h1, h2, h3, h4, h5⟩ => ?_
  · obtain ⟨H, o, h1, h2⟩ := lft_rgt (hrun c)
    exact ⟨V, H, o, h1, h2⟩
  · obtain ⟨H', o', h6, _⟩ := lft_rgt (hrun c)
    have := h6.symm.trans h1
    simp at this
    obtain ⟨rfl, rfl, rfl⟩ := this
    exact ⟨h3, h5.below⟩
end
end Go.Proofs.YtlpjdjbophcomaaDoor

