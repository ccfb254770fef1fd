/-
  The run with letters, through whole functions: regions in their order or in any, branches, loops with so many rounds; calls are told by what they answer. Nothing of the program stands here.
-/
import Derived.Test.YtlpjdjbophcomaaDoorRxB
namespace Go.Proofs.YtlpjdjbophcomaaDoor
open Go.RowKit
set_option linter.unusedVariables false
set_option linter.unusedSimpArgs false
/-! ### One behind the other -/
def bnd {ρ σ : Type} (r : Option (ρ × List Obj × Obl)) (k : ρ → List Obj → Option (σ × List Obj × Obl)) : Option (σ × List Obj × Obl) :=
  match r with
  | some (x, H, o) => match k x H with
    | some (y, H', o') => some (y, H', o ++ o')
    | none => none
  | none => none
theorem bnd_some {ρ σ : Type} {r : Option (ρ × List Obj × Obl)} {k : ρ → List Obj → Option (σ × List Obj × Obl)} {y : σ} {H' : List Obj} {o : Obl} :
    bnd r k = some (y, H', o) ↔ ∃ x H o1 o2, r = some (x, H, o1) ∧ k x H = some (y, H', o2) ∧ o = o1 ++ o2 := by
  unfold bnd
  constructor
  · intro h
    split at h
    · split at h
      · simp at h
        obtain ⟨rfl, rfl, rfl⟩ := h
        exact ⟨_, _, _, _, rfl, by assumption, rfl⟩
      · cases h
    · cases h
  · rintro ⟨x, H, o1, o2, rfl, h, rfl⟩
    simp [h]
/-- The letters that F has are those of what it comes to. -/
def Dep {ρ : Type} (n : Nat) (F : Lt → Option (ρ × List Obj × Obl)) : Prop :=
  ∀ b c x H' o, F b = some (x, H', o) → okL o → n ≤ H'.length ∧ (agree H'.length c b → ∃ o', F c = some (x, H', o'))
/-- Stronger: those that it has are the new ones alone. -/
def DepN {ρ : Type} (n : Nat) (F : Lt → Option (ρ × List Obj × Obl)) : Prop :=
  ∀ b c x H' o, F b = some (x, H', o) → n ≤ H'.length ∧ ((∀ i, n ≤ i → i < H'.length → c i = b i) → ∃ o', F c = some (x, H', o'))
theorem DepN.dep {ρ : Type} {n : Nat} {F : Lt → Option (ρ × List Obj × Obl)} (h : DepN n F) : Dep n F := fun b c x H' o hF _ => ⟨(h b c x H' o hF).1, fun ag => (h b c x H' o hF).2 fun i _ hi => ag i hi⟩
theorem DepN.bnd {ρ σ : Type} {n : Nat} {F : Lt → Option (ρ × List Obj × Obl)} {k : Lt → ρ → List Obj → Option (σ × List Obj × Obl)} (h : DepN n F) (hk : ∀ x H, DepN H.length (fun b => k b x H)) :
    DepN n (fun b => bnd (F b) (k b)) := by
  intro b c y H' o hb
  obtain ⟨x, H, o1, o2, h1, h2, rfl⟩ := bnd_some.1 hb
  obtain ⟨h3, h4⟩ := h b c x H o1 h1
  obtain ⟨h5, h6⟩ := hk x H b c y H' o2 h2
  refine ⟨by omega, fun ag => ?_⟩
  obtain ⟨o1', h7⟩ := h4 (fun i hi hi' => ag i hi (by omega))
  obtain ⟨o2', h8⟩ := h6 (fun i hi hi' => ag i (by omega) hi')
  exact ⟨o1' ++ o2', bnd_some.2 ⟨x, H, o1', o2', h7, h8, rfl⟩⟩
theorem ret_DepN {ρ : Type} (x : ρ) (H : List Obj) (o : Obl) : DepN H.length (fun _ => some (x, H, o)) := by
  intro b c y H' o' h
  simp at h
  obtain ⟨rfl, rfl, rfl⟩ := h
  exact ⟨Nat.le_refl _, fun _ => ⟨_, rfl⟩⟩
def Ran {ρ : Type} (n : Nat) (b : Lt) (F : Lt → Option (ρ × List Obj × Obl)) : Prop := All n b fun c => ∃ x H o, F c = some (x, H, o) ∧ okL o
theorem Ran.congr {ρ : Type} {n : Nat} {b : Lt} {F G : Lt → Option (ρ × List Obj × Obl)} (he : ∀ c, F c = G c) (h : Ran n b F) : Ran n b G := by
  have : F = G := funext he
  subst this
  exact h
theorem Dep.congr {ρ : Type} {n : Nat} {F G : Lt → Option (ρ × List Obj × Obl)} (he : ∀ c, F c = G c) (h : Dep n F) : Dep n G := by
  have : F = G := funext he
  subst this
  exact h
theorem Dep.bnd {ρ σ : Type} {n : Nat} {F : Lt → Option (ρ × List Obj × Obl)} {k : Lt → ρ → List Obj → Option (σ × List Obj × Obl)} (h : Dep n F) (hk : ∀ x H, Dep H.length (fun b => k b x H)) :
    Dep n (fun b => bnd (F b) (k b)) := by
  intro b c y H' o hb ho
  obtain ⟨x, H, o1, o2, h1, h2, rfl⟩ := bnd_some.1 hb
  obtain ⟨ho1, ho2⟩ := okL_app.1 ho
  obtain ⟨h3, h4⟩ := h b c x H o1 h1 ho1
  obtain ⟨h5, h6⟩ := hk x H b c y H' o2 h2 ho2
  refine ⟨by omega, fun ag => ?_⟩
  obtain ⟨o1', h7⟩ := h4 (ag.mono h5)
  obtain ⟨o2', h8⟩ := h6 ag
  exact ⟨o1' ++ o2', bnd_some.2 ⟨x, H, o1', o2', h7, h8, rfl⟩⟩
theorem Ran.fst {ρ σ : Type} {n : Nat} {b : Lt} {F : Lt → Option (ρ × List Obj × Obl)} {k : Lt → ρ → List Obj → Option (σ × List Obj × Obl)} (h : Ran n b (fun b => bnd (F b) (k b))) : Ran n b F := by
  intro c hc
  obtain ⟨y, H', o, h1, ho⟩ := h c hc
  obtain ⟨x, H, o1, o2, h2, h3, rfl⟩ := bnd_some.1 h1
  exact ⟨x, H, o1, h2, (okL_app.1 ho).1⟩
theorem Ran.snd {ρ σ : Type} {n : Nat} {b c : Lt} {F : Lt → Option (ρ × List Obj × Obl)} {k : Lt → ρ → List Obj → Option (σ × List Obj × Obl)} (hd : Dep n F) (h : Ran n b (fun b => bnd (F b) (k b)))
    {x : ρ} {H : List Obj} {o : Obl} (ag : agree n c b) (hc : F c = some (x, H, o)) (ho : okL o) : Ran H.length c (fun d => k d x H) := by
  intro d hdc
  obtain ⟨hl, _⟩ := hd c d x H o hc ho
  obtain ⟨o', hF⟩ := (hd c d x H o hc ho).2 hdc
  obtain ⟨y, H', o2, h1, ho2⟩ := h d ((hdc.mono hl).trans ag)
  obtain ⟨x', H'', o3, o4, h2, h3, rfl⟩ := bnd_some.1 h1
  have := hF.symm.trans h2
  simp at this
  obtain ⟨rfl, rfl, rfl⟩ := this
  exact ⟨y, H', o4, h3, (okL_app.1 ho2).2⟩
/-! ### Things told as a whole -/
inductive Ex where
  | normal
  | exit (id : Nat)
  | goto (l : Nat)
  | ret
def Ex.to : Ex → Exit
  | .normal => .normal
  | .exit id => .exit id
  | .goto l => .goto l
  | .ret => .ret
/-- What an operation, a call or a piece of code does to some blocks: from 'pre' to 'post', with 'm' new ones. Everything may hang on the letters. -/
structure Spc where
  wh : List L1 → Wh
  pre : List L1 → List Obj
  m : Nat
  ex : Ex
  val : List L1 → List Value
  post : List L1 → List Obj
  new : List L1 → List Obj
structure SatL (ls : List L1) (H : List Obj) (w : World) : Prop where
  holds : ∀ (j : Nat) (o : Obj) (l : L1), H[j]? = some o → real o = true → ls[j]? = some l → w.heap[l.n]? = some o
  inj : ∀ (i j : Nat) (o p : Obj) (l l' : L1), H[i]? = some o → real o = true → H[j]? = some p → real p = true → ls[i]? = some l → ls[j]? = some l' → l.n = l'.n → i = j
def touched (ls : List L1) (H : List Obj) (k : Nat) : Prop := ∃ (j : Nat) (o : Obj) (l : L1), H[j]? = some o ∧ real o = true ∧ ls[j]? = some l ∧ l.n = k
def Calls' (P : Program) (f : FuncId) (args : Array Value) (w : World) (R : Ending → World → Prop) : Prop := (callFunc f args).run P w = .ok (.enter f args) w ∧ Calls P f args w R
def Does (P : Program) (wh : Wh) (ex : Ex) (w : World) (R : List Value → World → Prop) : Prop :=
  match wh with
  | .op q => ∃ v w', (q.sem.run P w = .ok (.value v) w' ∨ (q.sem.run P w = .ok .skip w' ∧ v = undef)) ∧ R [v] w'
  | .call f args => Calls' P f args w fun e w' => ∃ v, e = .returned v ∧ R [v] w'
  | .code x t => ∀ (Q : Exit → Act → World → Prop) (d : List Deferred), (∀ t' w', R t' w' → Q ex.to ⟨t'.toArray, d⟩ w') → x.wp P Q ⟨t.toArray, d⟩ w
theorem Does.mono {P : Program} {wh : Wh} {ex : Ex} {w : World} {R R' : List Value → World → Prop} (h : Does P wh ex w R) (hR : ∀ vs w', R vs w' → R' vs w') : Does P wh ex w R' := by
  cases wh with
  | op q => obtain ⟨v, w', h1, h2⟩ := h; exact ⟨v, w', h1, hR _ _ h2⟩
  | call f args => exact ⟨h.1, h.2.mono fun e w' ⟨v, h1, h2⟩ => ⟨v, h1, hR _ _ h2⟩⟩
  | code x t => exact fun Q d K => h Q d fun t' w' h1 => K t' w' (hR _ _ h1)
def Then (sp : Spc) (ls : List L1) (w : World) (vs : List Value) (w' : World) : Prop :=
  ∃ ms : List L1, ms.length = sp.m ∧ vs = sp.val (ls ++ ms) ∧ SatL (ls ++ ms) (sp.post (ls ++ ms) ++ sp.new (ls ++ ms)) w' ∧ (∀ (j : Nat) (o : Obj) (l : L1), (sp.new (ls ++ ms))[j]? = some o → real o = true → ms[j]? = some l → w.heap.size ≤ l.n ∨ touched ls (sp.pre ls) l.n) ∧
    Chg (touched ls (sp.pre ls)) w.heap.size w w'
def SpcOk (P : Program) (S : World → Prop) (sp : Spc) : Prop :=
  ∀ (ls : List L1) (w : World), (sp.pre ls).length = ls.length → SatL ls (sp.pre ls) w → S w → Does P (sp.wh ls) sp.ex w (Then sp ls w)
/-! ### The same, with families -/
structure SatF (ls : List L1) (H : List Obj) (w : World) : Prop where
  hold : ∀ (j k : Nat) (o : Obj) (l : L1) (x : Nat) (p : Obj), H[j]? = some o → ls[j]? = some l → own o l k = some (x, p) → w.heap[x]? = some p
  inj : ∀ (j j' k k' : Nat) (o o' : Obj) (l l' : L1) (x : Nat) (p p' : Obj), H[j]? = some o → ls[j]? = some l → own o l k = some (x, p) → H[j']? = some o' → ls[j']? = some l' → own o' l' k' = some (x, p') → j = j' ∧ k = k'
def touchF (ls : List L1) (H : List Obj) (x : Nat) : Prop := ∃ (j k : Nat) (o : Obj) (l : L1) (p : Obj), H[j]? = some o ∧ ls[j]? = some l ∧ own o l k = some (x, p)
def keepsReal : List Obj → List Obj → Bool
  | p :: ps, q :: qs => (!real q || real p) && keepsReal ps qs
  | [], [] => true
  | _, _ => false
def noPend : List Obj → Bool
  | [] => true
  | o :: r => !isPend o && noPend r
def chkX (ps qs ns : List Obj) : Bool := keepsReal ps qs && (noPend qs && noPend ns)
def Fresh (sp : Spc) (ls ms : List L1) (w : World) : Prop := ∀ (j k : Nat) (o : Obj) (l : L1) (x : Nat) (p : Obj), (sp.post (ls ++ ms) ++ sp.new (ls ++ ms))[j]? = some o → (ls ++ ms)[j]? = some l → own o l k = some (x, p) → w.heap.size ≤ x ∨ touchF ls (sp.pre ls) x
/-- f: whatever stands behind it; else: where neither families stand there nor blocks that weren't there. -/
def ThenX (f : Bool) (sp : Spc) (ls : List L1) (w : World) (vs : List Value) (w' : World) : Prop :=
  ∃ ms : List L1, ms.length = sp.m ∧ vs = sp.val (ls ++ ms) ∧ Chg (touchF ls (sp.pre ls)) w.heap.size w w' ∧
    (f = true ∨ chkX (sp.pre ls) (sp.post (ls ++ ms)) (sp.new (ls ++ ms)) = true → SatF (ls ++ ms) (sp.post (ls ++ ms) ++ sp.new (ls ++ ms)) w' ∧ Fresh sp ls ms w)
/-- The same, where the blocks are ones that may be written, or lie from B on. -/
def SpcX (f : Bool) (P : Program) (X : Nat → Prop) (B : Nat) (S : World → Prop) (sp : Spc) : Prop :=
  ∀ (ls : List L1) (w : World), (sp.pre ls).length = ls.length → SatF ls (sp.pre ls) w → (∀ k, touchF ls (sp.pre ls) k → X k ∨ B ≤ k) → B ≤ w.heap.size → S w → Does P (sp.wh ls) sp.ex w (ThenX f sp ls w)
theorem SatF.L {ls : List L1} {H : List Obj} {w : World} (h : SatF ls H w) : SatL ls H w :=
  ⟨fun j o l hj hr hl => h.hold j 0 o l _ _ hj hl (own_real hr), fun i j o p l l' hi hr hj hr' hl hl' e => (h.inj i j 0 0 o p l l' l.n o p hi hl (own_real hr) hj hl' (by rw [e]; exact own_real hr')).1⟩
theorem touched_F {ls : List L1} {H : List Obj} {x : Nat} (h : touched ls H x) : touchF ls H x := by
  obtain ⟨j, o, l, h1, h2, h3, h4⟩ := h
  exact ⟨j, 0, o, l, o, h1, h3, h4 ▸ own_real h2⟩
theorem noPend_at : ∀ {H : List Obj} {j : Nat} {o : Obj}, noPend H = true → H[j]? = some o → isPend o = false
  | [], j, o, _, h => by simp at h
  | p :: r, j, o, hn, h => by
    simp only [noPend, Bool.and_eq_true, Bool.not_eq_true'] at hn
    cases j with
    | zero => simp at h; subst h; exact hn.1
    | succ j => exact noPend_at hn.2 (by simpa using h)
theorem noPend_app : ∀ {H G : List Obj}, noPend H = true → noPend G = true → noPend (H ++ G) = true
  | [], G, _, h => h
  | p :: r, G, hn, h => by
    simp only [noPend, Bool.and_eq_true] at hn
    simp only [List.cons_append, noPend, Bool.and_eq_true]
    exact ⟨hn.1, noPend_app hn.2 h⟩
theorem SatL.F {ls : List L1} {H : List Obj} {w : World} (h : SatL ls H w) (hn : noPend H = true) : SatF ls H w :=
  ⟨fun j k o l x p hj hl ho => by
    obtain ⟨_, rfl, rfl, hr⟩ := own_plain (noPend_at hn hj) ho
    exact h.holds j _ l hj hr hl,
   fun j j' k k' o o' l l' x p p' hj hl ho hj' hl' ho' => by
    obtain ⟨h1, h2, h3, hr⟩ := own_plain (noPend_at hn hj) ho
    obtain ⟨h1', h2', h3', hr'⟩ := own_plain (noPend_at hn hj') ho'
    exact ⟨h.inj j j' o o' l l' hj hr hj' hr' hl hl' (h2.symm.trans h2'), h1.trans h1'.symm⟩⟩
theorem keepsReal_len : ∀ {ps qs : List Obj}, keepsReal ps qs = true → qs.length = ps.length
  | p :: ps, q :: qs, h => by simp only [keepsReal, Bool.and_eq_true] at h; simp [keepsReal_len h.2]
  | [], [], _ => rfl
  | [], _ :: _, h => by simp [keepsReal] at h
  | _ :: _, [], h => by simp [keepsReal] at h
theorem keepsReal_spec : ∀ {ps qs : List Obj}, keepsReal ps qs = true → ∀ (j : Nat) q, qs[j]? = some q → real q = true → ∃ p, ps[j]? = some p ∧ real p = true
  | p :: ps, q :: qs, h, j, q', hj, hr => by
    simp only [keepsReal, Bool.and_eq_true, Bool.or_eq_true, Bool.not_eq_true'] at h
    cases j with
    | zero =>
      simp at hj
      subst hj
      refine ⟨p, by simp, ?_⟩
      rcases h.1 with h1 | h1
      · rw [h1] at hr; cases hr
      · exact h1
    | succ j => simp only [List.getElem?_cons_succ] at hj ⊢; exact keepsReal_spec h.2 j q' hj hr
  | [], [], _, j, q', hj, _ => by simp at hj
  | [], _ :: _, h, _, _, _, _ => by simp [keepsReal] at h
  | _ :: _, [], h, _, _, _, _ => by simp [keepsReal] at h
theorem Chg.mono {X Y : Nat → Prop} {B : Nat} {w w' : World} (h : Chg X B w w') (hx : ∀ k, X k → Y k) : Chg Y B w w' := ⟨h.os, h.tape, h.output, h.size, fun k hk hy => h.block k hk fun hh => hy (hx k hh)⟩
theorem Then.X {sp : Spc} {ls : List L1} {w w' : World} {vs : List Value} (hl : (sp.pre ls).length = ls.length) (h : Then sp ls w vs w') : ThenX false sp ls w vs w' := by
  obtain ⟨ms, h1, h2, h3, h4, h5⟩ := h
  refine ⟨ms, h1, h2, h5.mono fun k => touched_F, fun hc => ?_⟩
  have hc := hc.resolve_left (by simp)
  unfold chkX at hc
  simp only [Bool.and_eq_true] at hc
  obtain ⟨hk, hn1, hn2⟩ := hc
  have hn := noPend_app hn1 hn2
  refine ⟨h3.F hn, fun j k o l x p hj hlj ho => ?_⟩
  obtain ⟨_, rfl, rfl, hr⟩ := own_plain (noPend_at hn hj) ho
  have hpl := keepsReal_len hk
  by_cases hjl : j < (sp.post (ls ++ ms)).length
  · rw [List.getElem?_append_left hjl] at hj
    obtain ⟨q, hq, hqr⟩ := keepsReal_spec hk j _ hj hr
    rw [List.getElem?_append_left (by omega)] at hlj
    exact .inr ⟨j, 0, q, l, q, hq, hlj, own_real hqr⟩
  · rw [List.getElem?_append_right (by omega)] at hj
    rw [List.getElem?_append_right (by omega)] at hlj
    rcases h4 _ _ l hj hr (by rw [hpl, hl]; exact hlj) with h6 | h6
    · exact .inl h6
    · exact .inr (touched_F h6)
theorem SpcOk.x {P : Program} {S : World → Prop} {sp : Spc} (h : SpcOk P S sp) (X : Nat → Prop) (B : Nat) : SpcX false P X B S sp := fun ls w h1 h2 _ _ h3 => (h ls w h1 h2.L h3).mono fun _ _ h4 => h4.X h1
def pick (H : List Obj) : List Nat → Option (List Obj)
  | [] => some []
  | i :: r => match H[i]? with
    | some o => match pick H r with
      | some l => some (o :: l)
      | none => none
    | none => none
def putSel (H : List Obj) : List Nat → List Obj → List Obj
  | i :: r, o :: l => putSel (H.set i o) r l
  | _, _ => H
def nodupB : List Nat → Bool
  | [] => true
  | x :: l => !l.contains x && nodupB l
def symX (f : Bool) (b : Lt) (wh : Wh) (sp : Spc) (sel : List Nat) (H : List Obj) : Option (List Value × List Obj × Obl) :=
  match pick H sel with
  | some hs => match nodupB sel && cond f ((sp.post (sel.map b ++ (List.range' H.length sp.m).map b)).length == sel.length) (chkX hs (sp.post (sel.map b ++ (List.range' H.length sp.m).map b)) (sp.new (sel.map b ++ (List.range' H.length sp.m).map b))) && (sp.new (sel.map b ++ (List.range' H.length sp.m).map b)).length == sp.m with
    | true => some (sp.val (sel.map b ++ (List.range' H.length sp.m).map b), putSel H sel (sp.post (sel.map b ++ (List.range' H.length sp.m).map b)) ++ sp.new (sel.map b ++ (List.range' H.length sp.m).map b),
        [(.wh wh, .wh (sp.wh (sel.map b))), (.hs hs, .hs (sp.pre (sel.map b)))])
    | false => none
  | none => none
theorem nodupB_spec : ∀ {l : List Nat}, nodupB l = true → l.Nodup
  | [], _ => List.nodup_nil
  | x :: l, h => by
    simp only [nodupB, Bool.and_eq_true, Bool.not_eq_true', List.contains_eq_mem, decide_eq_false_iff_not] at h
    exact List.nodup_cons.2 ⟨h.1, nodupB_spec h.2⟩
theorem nodup_at : ∀ {l : List Nat}, l.Nodup → ∀ {i j a : Nat}, l[i]? = some a → l[j]? = some a → i = j
  | [], _, i, j, a, h, _ => by simp at h
  | x :: l, hn, i, j, a, h, k => by
    obtain ⟨h1, h2⟩ := List.nodup_cons.1 hn
    cases i <;> cases j
    · rfl
    · simp at h k; subst h; exact absurd (List.mem_of_getElem? k) h1
    · simp at h k; subst k; exact absurd (List.mem_of_getElem? h) h1
    · simp at h k; rw [nodup_at h2 h k]
theorem pick_len {H : List Obj} : ∀ {sel : List Nat} {hs : List Obj}, pick H sel = some hs → hs.length = sel.length
  | [], hs, h => by simp [pick] at h; subst h; rfl
  | i :: r, hs, h => by
    simp only [pick] at h
    split at h
    · split at h
      · rename_i l hl
        simp at h
        subst h
        simp [pick_len hl]
      · cases h
    · cases h
theorem pick_get {H : List Obj} : ∀ {sel : List Nat} {hs : List Obj}, pick H sel = some hs → ∀ (k i : Nat), sel[k]? = some i → hs[k]? = H[i]?
  | [], hs, h, k, i, hk => by simp at hk
  | j :: r, hs, h, k, i, hk => by
    simp only [pick] at h
    split at h
    · rename_i o ho
      split at h
      · rename_i l hl
        simp at h
        subst h
        cases k with
        | zero => simp at hk; subst hk; simp [ho]
        | succ k => simp at hk ⊢; exact pick_get hl k i hk
      · cases h
    · cases h
theorem pick_lt {H : List Obj} : ∀ {sel : List Nat} {hs : List Obj}, pick H sel = some hs → ∀ i ∈ sel, i < H.length
  | [], hs, h, i, hi => by cases hi
  | j :: r, hs, h, i, hi => by
    simp only [pick] at h
    split at h
    · rename_i o ho
      split at h
      · rename_i l hl
        rcases List.mem_cons.1 hi with rfl | hi
        · exact (List.getElem?_eq_some_iff.1 ho).1
        · exact pick_lt hl i hi
      · cases h
    · cases h
theorem pick_congr {H H' : List Obj} : ∀ {sel : List Nat}, (∀ i ∈ sel, H'[i]? = H[i]?) → pick H' sel = pick H sel
  | [], _ => rfl
  | i :: r, h => by simp only [pick]; rw [h i (List.mem_cons_self ..), pick_congr fun j hj => h j (List.mem_cons_of_mem _ hj)]
theorem putSel_len : ∀ (sel : List Nat) (l : List Obj) (H : List Obj), (putSel H sel l).length = H.length
  | [], _, H => by simp [putSel]
  | _ :: _, [], H => by simp [putSel]
  | i :: r, o :: l, H => by simp only [putSel]; rw [putSel_len r l]; simp
theorem putSel_out : ∀ (sel : List Nat) (l : List Obj) (H : List Obj) (j : Nat), j ∉ sel → (putSel H sel l)[j]? = H[j]?
  | [], _, H, j, _ => by simp [putSel]
  | _ :: _, [], H, j, _ => by simp [putSel]
  | i :: r, o :: l, H, j, hj => by
    simp only [putSel]
    rw [putSel_out r l _ j (fun h => hj (List.mem_cons_of_mem _ h))]
    exact List.getElem?_set_ne (fun e : i = j => hj (e ▸ List.mem_cons_self ..))
theorem putSel_in : ∀ (sel : List Nat) (l : List Obj) (H : List Obj), sel.Nodup → (∀ i ∈ sel, i < H.length) → l.length = sel.length → ∀ (k i : Nat), sel[k]? = some i → (putSel H sel l)[i]? = l[k]?
  | [], _, H, _, _, _, k, i, hk => by simp at hk
  | _ :: _, [], H, _, _, hl, k, i, hk => by simp at hl
  | j :: r, o :: l, H, hn, hlt, hl, k, i, hk => by
    obtain ⟨h1, h2⟩ := List.nodup_cons.1 hn
    simp only [putSel]
    cases k with
    | zero =>
      simp at hk
      subst hk
      rw [putSel_out r l _ j h1]
      simp [List.getElem?_set_self (hlt j (List.mem_cons_self ..))]
    | succ k =>
      simp only [List.getElem?_cons_succ] at hk ⊢
      exact putSel_in r l _ h2 (fun i hi => by simpa using hlt i (List.mem_cons_of_mem _ hi)) (by simpa using hl) k i hk
theorem map_congr_letters {b c : Lt} {l : List Nat} (h : ∀ i ∈ l, c i = b i) : l.map c = l.map b := List.map_congr_left h
theorem symX_dep {f : Bool} {b c : Lt} {wh : Wh} {sp : Spc} {sel : List Nat} {H : List Obj} {x : List Value} {H' : List Obj} {o : Obl} (h : symX f b wh sp sel H = some (x, H', o)) :
    (∀ i ∈ sel, i < H.length) ∧ H'.length = H.length + sp.m ∧ ((∀ i, (i ∈ sel ∨ (H.length ≤ i ∧ i < H'.length)) → c i = b i) → symX f c wh sp sel H = some (x, H', o)) := by
  have h0 := h
  unfold symX at h
  split at h
  · rename_i hs hp
    split at h
    · rename_i hc
      simp at h
      obtain ⟨rfl, rfl, rfl⟩ := h
      simp only [Bool.and_eq_true, beq_iff_eq] at hc
      have hlen : (putSel H sel (sp.post (sel.map b ++ (List.range' H.length sp.m).map b)) ++ sp.new (sel.map b ++ (List.range' H.length sp.m).map b)).length = H.length + sp.m := by
        rw [List.length_append, putSel_len, hc.2]
      refine ⟨pick_lt hp, hlen, fun ag => ?_⟩
      rw [hlen] at ag
      have e1 : sel.map c = sel.map b := map_congr_letters fun i hi => ag i (.inl hi)
      have e2 : (List.range' H.length sp.m).map c = (List.range' H.length sp.m).map b := map_congr_letters fun i hi => by
        have := List.mem_range'_1.1 hi
        exact ag i (.inr this)
      rw [← h0]
      unfold symX
      rw [e1, e2]
    · cases h
  · cases h
/-- The letters of what was made. -/
def ext (b : Lt) (n : Nat) (ms : List L1) : Lt := fun i => if i < n then b i else ms.getD (i - n) (b i)
theorem ext_agree (b : Lt) (n : Nat) (ms : List L1) : agree n (ext b n ms) b := fun i hi => if_pos hi
theorem ext_new (b : Lt) (n : Nat) (ms : List L1) : (List.range' n ms.length).map (ext b n ms) = ms := by
  apply List.ext_getElem?
  intro j
  by_cases hj : j < ms.length
  · rw [List.getElem?_map, List.getElem?_range' hj]
    simp [ext, hj]
    intro h; omega
  · rw [List.getElem?_eq_none (by simp; omega), List.getElem?_eq_none (by omega)]
theorem symX_sound {f : Bool} {P : Program} {X : Nat → Prop} {B : Nat} {S : World → Prop} {b : Lt} {wh : Wh} {sp : Spc} {sel : List Nat} {H : List Obj} {w : World} (hs : Sat X B b H w) (hS : S w) (hsp : SpcX f P X B S sp) (h : Ran H.length b (fun b => symX f b wh sp sel H)) :
    Does P wh sp.ex w fun vs w' => ∃ c H' o, agree H.length c b ∧ symX f c wh sp sel H = some (vs, H', o) ∧ okL o ∧ Sat X B c H' w' ∧ Chg X B w w' := by
  obtain ⟨x0, H0, o0, h0, hok0⟩ := h.self
  have h0' : symX f b wh sp sel H = some (x0, H0, o0) := h0
  have h0 := h0'
  unfold symX at h0
  split at h0
  · rename_i hsl hp
    split at h0
    · rename_i hc0
      simp at h0
      obtain ⟨rfl, rfl, rfl⟩ := h0
      obtain ⟨e1, h1⟩ := okL_cons.1 hok0
      have e2 := (okL_cons.1 h1).1
      simp only [Tok.wh.injEq, Tok.hs.injEq] at e1 e2
      have hnd : sel.Nodup := by simp only [Bool.and_eq_true] at hc0; exact nodupB_spec hc0.1.1
      have hlt := pick_lt hp
      have hsel : ∀ (k : Nat) l, (sel.map b)[k]? = some l → ∃ i, sel[k]? = some i ∧ l = b i := fun k l hk => by
        rw [List.getElem?_map] at hk
        cases hs' : sel[k]? with
        | none => rw [hs'] at hk; cases hk
        | some i => rw [hs'] at hk; exact ⟨i, rfl, by simpa using hk.symm⟩
      have hpre : ∀ (k : Nat) o i, (sp.pre (sel.map b))[k]? = some o → sel[k]? = some i → H[i]? = some o := fun k o i hk hi => by
        rw [← e2] at hk
        rw [← pick_get hp k i hi]; exact hk
      have nd : ∀ k k' i, sel[k]? = some i → sel[k']? = some i → k = k' := fun k k' i hk hk' => by
        exact nodup_at hnd hk hk'
      have satf : SatF (sel.map b) (sp.pre (sel.map b)) w := by
        refine ⟨fun j k o l x p hj hl ho => ?_, fun j j' k k' o o' l l' x p p' hj hl ho hj' hl' ho' => ?_⟩
        · obtain ⟨i, hi, rfl⟩ := hsel j l hl
          exact hs.hold_ i k o x p (hpre j o i hj hi) ho
        · obtain ⟨i, hi, rfl⟩ := hsel j l hl
          obtain ⟨i', hi', rfl⟩ := hsel j' l' hl'
          obtain ⟨rfl, hk⟩ := hs.inj_ i i' k k' o o' x p p' (hpre j o i hj hi) ho (hpre j' o' i' hj' hi') ho'
          exact ⟨nd j j' i hi hi', hk⟩
      have hC : ∀ x, touchF (sel.map b) (sp.pre (sel.map b)) x → X x ∨ B ≤ x := fun x ⟨j, k, o, l, p, h3, h4, h5⟩ => by
        obtain ⟨i, hi, rfl⟩ := hsel j l h4
        exact hs.mine_ i k o x p (hpre j o i h3 hi) h5
      -- what is touched is none of what stays
      have hT : ∀ x, touchF (sel.map b) (sp.pre (sel.map b)) x → ∀ j k o p, j ∉ sel → H[j]? = some o → own o (b j) k = some (x, p) → False := fun x ⟨j', k', o', l, p', h3, h4, h5⟩ j k o p hjs hj ho => by
        obtain ⟨i, hi, rfl⟩ := hsel j' l h4
        obtain ⟨rfl, _⟩ := hs.inj_ i j k' k o' o x p' p (hpre j' o' i h3 hi) h5 hj ho
        exact hjs (List.mem_of_getElem? hi)
      have hd := hsp (sel.map b) w (by rw [← e2, pick_len hp]; simp) satf hC hs.base hS
      rw [← e1] at hd
      refine hd.mono fun vs w' ⟨ms, hm, hv, hch, hpost⟩ => ?_
      -- the letters
      have eb : sel.map (ext b H.length ms) = sel.map b := map_congr_letters fun i hi => ext_agree b H.length ms i (hlt i hi)
      have en : (List.range' H.length sp.m).map (ext b H.length ms) = ms := by rw [← hm]; exact ext_new b H.length ms
      obtain ⟨x1, H1, o1, h1', hok1⟩ := h (ext b H.length ms) (ext_agree b H.length ms)
      have h1' : symX f (ext b H.length ms) wh sp sel H = some (x1, H1, o1) := h1'
      have h2 := h1'
      unfold symX at h2
      rw [hp, eb, en] at h2
      simp only at h2
      split at h2
      · rename_i hc
        simp at h2
        obtain ⟨rfl, rfl, rfl⟩ := h2
        simp only [Bool.and_eq_true, beq_iff_eq] at hc
        obtain ⟨⟨_, hkr⟩, hnl⟩ := hc
        have hpl : (sp.post (sel.map b ++ ms)).length = sel.length := by
          cases f with
          | true => simpa using hkr
          | false =>
            simp only [cond_false, chkX, Bool.and_eq_true] at hkr
            exact (keepsReal_len hkr.1).trans (pick_len hp)
        obtain ⟨hsl', hnew⟩ := hpost (by
          cases f with
          | true => exact .inl rfl
          | false =>
            rw [← e2]
            exact .inr hkr)
        refine ⟨ext b H.length ms, _, _, ext_agree b H.length ms, hv ▸ h1', hok1, ?_, ?_⟩
        · have hlb : ∀ i, i < H.length → (ext b H.length ms i) = b i := fun i hi => ext_agree b H.length ms i hi
          have exn : ∀ (k : Nat) (hk : k < ms.length), ext b H.length ms (H.length + k) = ms[k] := fun k hk => by
            simp [ext, hk]
            intro h; omega
          -- where an entry comes from
          have kind : ∀ (j : Nat) o, (putSel H sel (sp.post (sel.map b ++ ms)) ++ sp.new (sel.map b ++ ms))[j]? = some o →
              (∃ q, (sp.post (sel.map b ++ ms) ++ sp.new (sel.map b ++ ms))[q]? = some o ∧ (sel.map b ++ ms)[q]? = some (ext b H.length ms j) ∧ ((q < sel.length ∧ sel[q]? = some j) ∨ (sel.length ≤ q ∧ j = H.length + (q - sel.length)))) ∨ (j ∉ sel ∧ H[j]? = some o ∧ j < H.length) := fun j o hj => by
            by_cases hjl : j < H.length
            · rw [List.getElem?_append_left (by rw [putSel_len]; exact hjl)] at hj
              by_cases hjs : j ∈ sel
              · obtain ⟨k, hk⟩ := List.mem_iff_getElem?.1 hjs
                rw [putSel_in sel _ H hnd hlt hpl k j hk] at hj
                have hkl := (List.getElem?_eq_some_iff.1 hk).1
                refine .inl ⟨k, by rw [List.getElem?_append_left (by omega)]; exact hj, ?_, .inl ⟨hkl, hk⟩⟩
                rw [List.getElem?_append_left (by simpa using hkl), List.getElem?_map, hk, hlb j hjl]; rfl
              · rw [putSel_out sel _ H j hjs] at hj
                exact .inr ⟨hjs, hj, hjl⟩
            · rw [List.getElem?_append_right (by rw [putSel_len]; omega), putSel_len] at hj
              have hjn := (List.getElem?_eq_some_iff.1 hj).1
              refine .inl ⟨sel.length + (j - H.length), ?_, ?_, .inr ⟨by omega, by omega⟩⟩
              · rw [List.getElem?_append_right (by omega), hpl, Nat.add_sub_cancel_left]; exact hj
              · rw [List.getElem?_append_right (by simp), List.length_map, Nat.add_sub_cancel_left, List.getElem?_eq_getElem (by omega)]
                have := exn (j - H.length) (by omega)
                rw [show H.length + (j - H.length) = j by omega] at this
                rw [this]
          refine ⟨fun j k o x p hj ho => ?_, fun j k o x p hj ho => ?_, fun j j' k k' o o' x p p' hj ho hj' ho' => ?_, Nat.le_trans hs.base hch.size⟩
          · rcases kind j o hj with ⟨q, hq, hl, _⟩ | ⟨hjs, ho2, hjl⟩
            · exact hsl'.hold q k o _ x p hq hl ho
            · rw [hlb j hjl] at ho
              rw [hch.block x (hs.lt_ ho2 ho) (fun ht => hT x ht j k o p hjs ho2 ho)]
              exact hs.hold_ j k o x p ho2 ho
          · rcases kind j o hj with ⟨q, hq, hl, _⟩ | ⟨hjs, ho2, hjl⟩
            · rcases hnew q k o _ x p hq hl ho with h3 | h3
              · exact .inr (Nat.le_trans hs.base h3)
              · exact hC _ h3
            · rw [hlb j hjl] at ho
              exact hs.mine_ j k o x p ho2 ho
          · have mixed : ∀ (j j' k k' : Nat) (o o' p p' : Obj), (∃ q : Nat, (sp.post (sel.map b ++ ms) ++ sp.new (sel.map b ++ ms))[q]? = some o ∧ (sel.map b ++ ms)[q]? = some (ext b H.length ms j)) → j' ∉ sel → H[j']? = some o' → own o (ext b H.length ms j) k = some (x, p) → own o' (b j') k' = some (x, p') → False := fun j j' k k' o o' p p' ⟨q, hq, hl⟩ hjs hj' ho ho' => by
              rcases hnew q k o _ x p hq hl ho with h3 | h3
              · have := hs.lt_ hj' ho'; omega
              · exact hT x h3 j' k' o' p' hjs hj' ho'
            rcases kind j o hj with ⟨q, hq, hl, hqj⟩ | ⟨hjs, ho2, hjl⟩ <;> rcases kind j' o' hj' with ⟨q', hq', hl', hqj'⟩ | ⟨hjs', ho2', hjl'⟩
            · obtain ⟨rfl, hk⟩ := hsl'.inj q q' k k' o o' _ _ x p p' hq hl ho hq' hl' ho'
              refine ⟨?_, hk⟩
              rcases hqj with ⟨h3, h4⟩ | ⟨h3, h4⟩ <;> rcases hqj' with ⟨h5, h6⟩ | ⟨h5, h6⟩
              · rw [h4] at h6; injection h6
              · omega
              · omega
              · omega
            · rw [hlb j' hjl'] at ho'
              exact (mixed j j' k k' o o' p p' ⟨q, hq, hl⟩ hjs' ho2' ho ho').elim
            · rw [hlb j hjl] at ho
              exact (mixed j' j k' k o' o p' p ⟨q', hq', hl'⟩ hjs ho2 ho' ho).elim
            · rw [hlb j hjl] at ho
              rw [hlb j' hjl'] at ho'
              exact hs.inj_ j j' k k' o o' x p p' ho2 ho ho2' ho'
        · refine ⟨hch.os, hch.tape, hch.output, hch.size, fun k hk hx => hch.block k (Nat.lt_of_lt_of_le hk hs.base) fun ht => ?_⟩
          rcases hC k ht with h7 | h7
          · exact hx h7
          · omega
      · cases h2
    · cases h0
  · cases h0
/-! ### Items -/
/-- What a make, whose operands are told, makes: a block that hangs on what is told of its letter, and a value that points to it. -/
structure Mk where
  T : TypeId
  n : Value
  m : Value
  ob : (Nat → Value) → Obj
  v : L1 → Value
def plainU : Nat → Value := fun _ => .nilFunc
def MkOk (P : Program) (M : Mk) : Prop := (∀ u, isPend (M.ob u) = false) ∧ ∀ w, (Q.mks M.T M.n M.m).sem.run P w = .ok (.value (M.v ⟨w.heap.size, plainU⟩)) (w.alloc (M.ob plainU))
/-- At these positions two lists have the same. -/
def keepP : List Nat → List Obj → List Obj → Prop
  | [], _, _ => True
  | j :: ks, A, B => A[j]? = B[j]? ∧ keepP ks A B
theorem keepP.refl : ∀ (ks : List Nat) (A : List Obj), keepP ks A A
  | [], _ => trivial
  | _ :: ks, A => ⟨rfl, keepP.refl ks A⟩
theorem keepP.at_ : ∀ {ks : List Nat} {A B : List Obj}, keepP ks A B → ∀ j ∈ ks, A[j]? = B[j]?
  | _ :: _, _, _, h, j, hj => (List.mem_cons.1 hj).elim (fun e => e ▸ h.1) (fun hj => keepP.at_ h.2 j hj)
/-- What stands at positions that aren't among these. -/
def wrAt (ks : List Nat) : Nat → List Nat → List Nat
  | _, [] => []
  | j, i :: l => bif ks.contains j then wrAt ks (j + 1) l else i :: wrAt ks (j + 1) l
theorem wrAt_not {ks : List Nat} {k : Nat} : ∀ {l : List Nat} {a : Nat}, k ∉ wrAt ks a l → ∀ j, l[j]? = some k → a + j ∈ ks
  | [], _, _, j, h => by simp at h
  | i :: l, a, hk, j, h => by
    unfold wrAt at hk
    cases hc : ks.contains a with
    | true =>
      rw [hc] at hk
      match j, h with
      | 0, h => simpa using hc
      | j + 1, h =>
        have := wrAt_not (l := l) (a := a + 1) hk j (by simpa using h)
        rw [show a + (j + 1) = a + 1 + j by omega]; exact this
    | false =>
      rw [hc] at hk
      simp only [cond_false, List.mem_cons, not_or] at hk
      match j, h with
      | 0, h => exact absurd (by simpa using h : i = k).symm hk.1
      | j + 1, h =>
        have := wrAt_not (l := l) (a := a + 1) hk.2 j (by simpa using h)
        rw [show a + (j + 1) = a + 1 + j by omega]; exact this
/-- What the text of a run tells of an operation. -/
inductive It where
  | o
  | a (i : Nat)
  | l (acc : List Acc)
  | w (v v' : Value)
  | c (f : FuncId) (args : Array Value) (v : Value)
  | ov (q : Q) (v : Value)
  | q (f : Q → Option (Value × Obl))
  | qb (f : Q → Option (Value × (L1 → Obl))) (i : Nat)
  | r (V A T : List Nat) (mk : Nat → Option Mk)
  | x (f : Bool) (sp : Spc) (sel : List Nat) (rd : List Nat)
  | cx (sp : Spc) (sel : List Nat)
  | cp
def ItOk (P : Program) (X : Nat → Prop) (B : Nat) (S : World → Prop) : It → Prop
  | .l acc => AccOk S acc
  | .w v v' => v = v'
  | .c f args v => ∀ w, S w → Calls' P f args w fun e w' => e = .returned v ∧ Below w.heap.size w w'
  | .ov q v => ∀ w, S w → q.sem.run P w = .ok (.value v) w
  | .q f => ∀ q v ob, f q = some (v, ob) → okL ob → ∀ w, S w → q.sem.run P w = .ok (.value v) w
  | .qb f _ => ∀ q v g l, f q = some (v, g) → okL (g l) → ∀ w, S w → q.sem.run P w = .ok (.value v) w
  | .x f sp sel rd => SpcX f P X B S sp ∧ ∀ ls ms : List L1, ls.length = sel.length → ms.length = sp.m → keepP rd (sp.post (ls ++ ms)) (sp.pre ls)
  | .cx sp _ => SpcX true P X B S sp
  | .r _ _ _ mk => ∀ k M, mk k = some M → MkOk P M
  | _ => True
/-- What comes out without a look at the memory. -/
def pureRun {α : Type} (P : Program) : Sem α → Option α
  | .pure x => some x
  | .choose q k => match q.forced with
    | true => pureRun P (k 0)
    | false => none
  | .program k => pureRun P (k P)
  | .mark _ k => pureRun P k
  | _ => none
theorem pureRun_sound {α : Type} {P : Program} {w : World} : ∀ (t : Sem α) (x : α), pureRun P t = some x → t.run P w = .ok x w := by
  intro t
  induction t with
  | pure y => intro x h; simp [pureRun] at h; subst h; rfl
  | choose q k ih =>
    intro x h
    simp only [pureRun] at h
    split at h
    · rename_i hq
      simp only [Sem.run, hq, if_true]
      exact ih 0 x h
    · cases h
  | program k ih => intro x h; simp only [pureRun] at h; exact ih P x h
  | mark m k ih => intro x h; simp only [pureRun] at h; exact ih x h
  | _ => intro x h; simp [pureRun] at h
/-- What an operation is, with its operands reckoned. -/
def whOf (P : Program) (ρ : Operand → Value) (o : Oper) : Option Wh :=
  match Q.of ρ o with
  | some q => some (.op q)
  | none => match o.op with
    | .call c => match pureRun P (resolve ρ c o.type) with
      | some d => match d.target with
        | .fn (.func f) cap => some (.call f (d.args ++ cap))
        | .fn (.method name) _ => match (d.args[0]? : Option Value) with
          | some (.iface T v) => match pureRun P (method (P.types.size + Made.depth) T v name) with
            | some (f, r) => some (.call f (#[r] ++ d.args.extract 1 d.args.size))
            | none => none
          | _ => none
        | _ => none
      | none => none
    | _ => none
def nextVal : Next → List Obj → Option (Value × List Obj × Obl)
  | .value v, H => some (v, H, [])
  | .skip, H => some (undef, H, [])
  | _, _ => none
def symOp (P : Program) (b : Lt) (it : It) (o : Oper) (ρ : Operand → Value) (H : List Obj) : Option (Value × List Obj × Obl) :=
  match it with
  | .o => bnd (symRun P b (execOp ρ o) [] H) nextVal
  | .a i => bnd (symRun P b (execOp ρ o) [.blk i] H) nextVal
  | .l acc => bnd (symRun P b (execOp ρ o) acc H) nextVal
  | .w v v' => bnd (symRun P b (execOp ρ o) [] H) fun x H => match x with
    | .value u => some (v', H, [(.v u, .v v)])
    | _ => none
  | .c f args v => match o.op with
    | .call c => bnd (symRun P b (resolve ρ c o.type) [] H) fun d H => match d.target with
      | .fn (.func f') cap => some (v, H, [(.n f', .n f), (.v (.tuple (d.args ++ cap)), .v (.tuple args))])
      | _ => none
    | _ => none
  | .ov q v => match Q.ofc ρ o with
    | some q' => some (v, H, [(.q q', .q q)])
    | none => none
  | .q f => match Q.of ρ o with
    | some q' => match f q' with
      | some (v, ob) => some (v, H, ob)
      | none => none
    | none => none
  | .qb f i => match Q.of ρ o with
    | some q' => match f q' with
      | some (v, g) => some (v, H, g (b i))
      | none => none
    | none => none
  | .x f sp sel _ => match whOf P ρ o with
    | some wh => match symX f b wh sp sel H with
      | some ([v], H', ob) => some (v, H', ob)
      | _ => none
    | none => none
  | _ => none

/-- An operation that only reads. -/
def roRun {α : Type} (P : Program) (b : Lt) (H : List Obj) : Sem α → List Acc → Option (α × Obl)
  | .pure x, _ => some (x, [])
  | .load _ a k, acc => match rdCell acc H a with
    | some (v, p) => match roRun P b H (k v) (nx acc) with
      | some (x, o) => some (x, tok b p :: o)
      | none => none
    | none => none
  | .shape r k, acc => match cellsAt acc H with
    | some (i, c, T, _) => match roRun P b H (k (some (T, c.size))) (nx acc) with
      | some (x, o) => some (x, (.n r, .n (b i).n) :: o)
      | none => none
    | none => none
  | .getObj r k, acc => match objAt acc H with
    | some (i, o1) => match roRun P b H (k o1) (nx acc) with
      | some (x, o) => some (x, (.n r, .n (b i).n) :: o)
      | none => none
    | none => none
  | .choose q k, acc => match q.forced with
    | true => roRun P b H (k 0) acc
    | false => none
  | .program k, acc => roRun P b H (k P) acc
  | .mark _ k, acc => roRun P b H k acc
  | _, _ => none
section
variable {X : Nat → Prop} {B : Nat} {P : Program} {S : World → Prop}
theorem roRun_sound {α : Type} {b : Lt} {H : List Obj} {w : World} (hs : Sat X B b H w) (hS : S w) : ∀ (t : Sem α) (acc : List Acc) (x : α) (o : Obl), AccOk S acc → roRun P b H t acc = some (x, o) → okL o → t.run P w = .ok x w := by
  intro t
  induction t with
  | pure y => intro acc x o _ h _; simp [roRun] at h; obtain ⟨rfl, rfl⟩ := h; rfl
  | load m a k ih =>
    intro acc x o ha h ho
    simp only [roRun] at h
    split at h
    · rename_i v p hr
      split at h
      · rename_i h1
        simp at h
        obtain ⟨rfl, rfl⟩ := h
        rw [okL_cons] at ho
        simp only [Sem.run, rdCell_sound hs hS ha hr ho.1]
        exact ih v _ _ _ ha.nx h1 ho.2
      · cases h
    · cases h
  | shape r k ih =>
    intro acc x o ha h ho
    simp only [roRun] at h
    split at h
    · rename_i hc
      split at h
      · rename_i h1
        simp at h
        obtain ⟨rfl, rfl⟩ := h
        rw [okL_cons] at ho
        have hb := hs.holds _ _ (cellsAt_spec hc) rfl
        have hr := ho.1
        simp at hr
        simp only [Sem.run, World.shape?, hr, hb]
        exact ih _ _ _ _ ha.nx h1 ho.2
      · cases h
    · cases h
  | getObj r k ih =>
    intro acc x o ha h ho
    simp only [roRun] at h
    split at h
    · rename_i hc
      split at h
      · rename_i h1
        simp at h
        obtain ⟨rfl, rfl⟩ := h
        rw [okL_cons] at ho
        obtain ⟨hH, hn, hreal⟩ := objAt_spec hc
        have hb := hs.holds _ _ hH hreal
        have hr := ho.1
        simp at hr
        simp only [Sem.run, hr, hb]
        exact ih _ _ _ _ ha.nx h1 ho.2
      · cases h
    · cases h
  | choose q k ih =>
    intro acc x o ha h ho
    simp only [roRun] at h
    split at h
    · rename_i hq
      simp only [Sem.run, hq, if_true]
      exact ih 0 _ _ _ ha h ho
    · cases h
  | program k ih => intro acc x o ha h ho; simp only [roRun] at h; exact ih P _ _ _ ha h ho
  | mark m k ih => intro acc x o ha h ho; simp only [roRun] at h; exact ih _ _ _ ha h ho
  | _ => intro acc x o ha h ho; simp [roRun] at h
theorem roRun_dep {α : Type} {b c : Lt} {H : List Obj} : ∀ (t : Sem α) (acc : List Acc) (x : α) (o : Obl), roRun P b H t acc = some (x, o) → ∃ o', roRun P c H t acc = some (x, o') := by
  intro t
  induction t with
  | pure y => intro acc x o h; simp [roRun] at h; obtain ⟨rfl, rfl⟩ := h; exact ⟨[], by simp [roRun]⟩
  | load m a k ih =>
    intro acc x o h
    simp only [roRun] at h ⊢
    split at h
    · split at h
      · rename_i h1
        simp at h
        obtain ⟨rfl, rfl⟩ := h
        obtain ⟨o', h2⟩ := ih _ _ _ _ h1
        exact ⟨_, by simp only [h2]; rfl⟩
      · cases h
    · cases h
  | shape r k ih =>
    intro acc x o h
    simp only [roRun] at h ⊢
    split at h
    · split at h
      · rename_i h1
        simp at h
        obtain ⟨rfl, rfl⟩ := h
        obtain ⟨o', h2⟩ := ih _ _ _ _ h1
        exact ⟨_, by simp only [h2]; rfl⟩
      · cases h
    · cases h
  | getObj r k ih =>
    intro acc x o h
    simp only [roRun] at h ⊢
    split at h
    · split at h
      · rename_i h1
        simp at h
        obtain ⟨rfl, rfl⟩ := h
        obtain ⟨o', h2⟩ := ih _ _ _ _ h1
        exact ⟨_, by simp only [h2]; rfl⟩
      · cases h
    · cases h
  | choose q k ih =>
    intro acc x o h
    simp only [roRun] at h ⊢
    split at h
    · exact ih _ _ _ _ h
    · cases h
  | program k ih => intro acc x o h; simp only [roRun] at h ⊢; exact ih P _ _ _ h
  | mark m k ih => intro acc x o h; simp only [roRun] at h ⊢; exact ih _ _ _ h
  | _ => intro acc x o h; simp [roRun] at h
end
/-- The block that a row of said accesses looks at. -/
def saidOnly (i : Nat) : Acc → Bool
  | .saidF j _ _ _ => i == j
  | _ => false
def saidBlk : List Acc → Option Nat
  | .saidF i _ _ _ :: r => match r.all (saidOnly i) with
    | true => some i
    | false => none
  | _ => none
def SaidAll (i : Nat) (acc : List Acc) : Prop := acc ≠ [] ∧ ∀ x ∈ acc, ∃ c off v, x = .saidF i c off v
theorem saidBlk_spec {acc : List Acc} {i : Nat} (h : saidBlk acc = some i) : SaidAll i acc := by
  unfold saidBlk at h
  split at h
  · rename_i j c off v r
    split at h
    · rename_i ha
      simp at h
      subst h
      refine ⟨by simp, fun x hx => ?_⟩
      rcases List.mem_cons.1 hx with rfl | hx
      · exact ⟨_, _, _, rfl⟩
      · have := List.all_eq_true.1 ha x hx
        cases x with
        | saidF j' c' off' v' =>
          have e : j = j' := by simpa [saidOnly] using this
          subst e
          exact ⟨_, _, _, rfl⟩
        | _ => simp [saidOnly] at this
    · cases h
  · cases h
theorem SaidAll.next {i : Nat} {acc : List Acc} (h : SaidAll i acc) : SaidAll i (nx acc) := by
  match acc, h with
  | [x], h => exact h
  | x :: y :: r, h =>
    exact ⟨fun k => (by cases k), fun z hz => h.2 z (List.mem_cons_of_mem _ hz)⟩
  | [], h => exact absurd rfl h.1
/-- An operation that only reads: what it leaves, and which block it looks at. -/
def roOp (P : Program) (b : Lt) (it : It) (o : Oper) (ρ : Operand → Value) (H : List Obj) : Option (Value × Option Nat × Obl) :=
  match it with
  | .o => match roRun P b [] (execOp ρ o) [] with | some (.value v, ob) => some (v, none, ob) | some (.skip, ob) => some (undef, none, ob) | _ => none
  | .a i => match roRun P b H (execOp ρ o) [.blk i] with | some (.value v, ob) => some (v, some i, ob) | _ => none
  | .l acc => match saidBlk acc with
    | some i => match roRun P b H (execOp ρ o) acc with | some (.value v, ob) => some (v, some i, ob) | _ => none
    | none => match roRun P b [] (execOp ρ o) acc with | some (.value v, ob) => some (v, none, ob) | _ => none
  | .w v v' => match roRun P b [] (execOp ρ o) [] with | some (.value u, ob) => some (v', none, (.v u, .v v) :: ob) | _ => none
  | .c f args v => match o.op with
    | .call c => match roRun P b [] (resolve ρ c o.type) [] with
      | some (d, ob) => match d.target with
        | .fn (.func f') cap => some (v, none, (.n f', .n f) :: (.v (.tuple (d.args ++ cap)), .v (.tuple args)) :: ob)
        | _ => none
      | none => none
    | _ => none
  | .ov q v => match Q.ofc ρ o with
    | some q' => some (v, none, [(.q q', .q q)])
    | none => none
  | .q f => match Q.of ρ o with
    | some q' => match f q' with
      | some (v, ob) => some (v, none, ob)
      | none => none
    | none => none
  | .qb f i => match Q.of ρ o with
    | some q' => match f q' with
      | some (v, g) => some (v, none, g (b i))
      | none => none
    | none => none
  | _ => none
/-- The blocks that an operation may turn, by what its item says. -/
def It.blks : It → List Nat
  | .a i => [i]
  | .l acc => acc.filterMap Acc.blkOf
  | .x _ _ sel _ => sel
  | _ => []
/-- The blocks that it may change. -/
def It.wrs : It → List Nat
  | .x _ _ sel rd => wrAt rd 0 sel
  | it => it.blks
/-! ### Frames as lists -/
def evL (t : List Value) : Operand → Value
  | .tmp i => t.getD i undef
  | .const v => v
  | .global g => .pointer (some ⟨g, 0, none⟩)
  | .func f => .func (.func f) #[] #[]
def putL (t : List Value) (dst : Option Tmp) (v : Value) : List Value :=
  match dst with
  | some d => t.set d v
  | none => t
theorem evL_eq (t : List Value) (d : List Deferred) : (⟨t.toArray, d⟩ : Act).eval = evL t := by
  funext x
  cases x <;> simp [Act.eval, evL]
theorem putL_eq (t : List Value) (d : List Deferred) (dst : Option Tmp) (v : Value) : (⟨t.toArray, d⟩ : Act).put dst v = ⟨(putL t dst v).toArray, d⟩ := by
  cases dst <;> simp [Act.put, putL]
/-! ### Regions -/
def symOps (P : Program) (b : Lt) (ops : Array Oper) : List Oper → List It → List Value → List Obj → Option ((List Value × List It) × List Obj × Obl)
  | [], sc, t, H => some ((t, sc), H, [])
  | o :: rest, sc, t, H => match Region.wanted o (yielded ops t.toArray) with
    | false => symOps P b ops rest sc (putL t o.dst undef) H
    | true => match sc with
      | [] => none
      | it :: sc => bnd (symOp P b it o (evL t) H) fun v H => symOps P b ops rest sc (putL t o.dst v) H
def allocObj (P : Program) (ops : Array Oper) (mk : Nat → Option Mk) (k : Nat) : Option (((Nat → Value) → Obj) × (L1 → Value)) :=
  match ops[k]? with
  | some o => match o.op with
    | .alloc e => match P.info? e with
      | some i => match i.zero with
        | some z => some (fun _ => .cells z.cells e, fun l => ptrTo l.n)
        | none => none
      | none => none
    | .makeSlice _ _ _ => match mk k with
      | some M => some (M.ob, M.v)
      | none => none
    | _ => none
  | none => none
/-- What must be so of its operands. -/
def allocObl (ops : Array Oper) (mk : Nat → Option Mk) (t : List Value) (k : Nat) : Obl :=
  match ops[k]? with
  | some o => match o.op with
    | .makeSlice T l c => match mk k with
      | some M => [(.n T, .n M.T), (.v (evL t l), .v M.n), (.v (evL t c), .v M.m)]
      | none => []
    | _ => []
  | none => []
def symAl (P : Program) (b : Lt) (ops : Array Oper) (mk : Nat → Option Mk) : List Nat → List Value → List Obj → Option (List Value × List Obj × Obl)
  | [], t, H => some (t, H, [])
  | k :: A, t, H => match allocObj P ops mk k with
    | some o => match symAl P b ops mk A (putL t (dstOf ops k) (o.2 (b H.length))) (H ++ [o.1 (b H.length).u]) with
      | some (t', H', o') => some (t', H', allocObl ops mk t k ++ o')
      | none => none
    | none => none
/-- The operations that only read, each with what it leaves and the block that it looks at. -/
def symV (P : Program) (b : Lt) (ops : Array Oper) (H : List Obj) : List Nat → List It → List Value → Option ((List Value × List It × List (Value × Option Nat)) × Obl)
  | [], sc, t => some ((t, sc, []), [])
  | i :: V, sc, t => match ops[i]? with
    | none => none
    | some o => match Region.wanted o (yielded ops t.toArray) with
      | false => match symV P b ops H V sc (putL t o.dst undef) with
        | some ((t', sc', l), ob) => some ((t', sc', (undef, none) :: l), ob)
        | none => none
      | true => match sc with
        | [] => none
        | it :: sc => match roOp P b it o (evL t) H with
          | some (v, k, ob) => match symV P b ops H V sc (putL t o.dst v) with
            | some ((t', sc', l), ob') => some ((t', sc', (v, k) :: l), ob ++ ob')
            | none => none
          | none => none
/-- The others, one behind the other, each with the blocks that it may turn. -/
def symT (P : Program) (b : Lt) (ops : Array Oper) : List Nat → List It → List Value → List Obj → Option ((List Value × List It × List (List Nat × List Nat)) × List Obj × Obl)
  | [], sc, t, H => some ((t, sc, []), H, [])
  | i :: T, sc, t, H => match ops[i]? with
    | none => none
    | some o => match Region.wanted o (yielded ops t.toArray) with
      | false => bnd (some ((), H, [])) fun _ H => bnd (symT P b ops T sc (putL t o.dst undef) H) fun x H => some ((x.1, x.2.1, ([], []) :: x.2.2), H, [])
      | true => match sc with
        | [] => none
        | it :: sc => bnd (symOp P b it o (evL t) H) fun v H => bnd (symT P b ops T sc (putL t o.dst v) H) fun x H => some ((x.1, x.2.1, (it.blks, it.wrs) :: x.2.2), H, [])
section
variable {X : Nat → Prop} {B : Nat} {P : Program} {S : World → Prop}
theorem nextVal_depN (n : Next) (H : List Obj) : DepN H.length (fun _ => nextVal n H) := by
  intro b c x H' o h
  have : H' = H := by unfold nextVal at h; split at h <;> simp at h <;> exact h.2.1.symm
  subst this
  exact ⟨Nat.le_refl _, fun _ => ⟨o, h⟩⟩
theorem symRun_DepN {α : Type} (t : Sem α) (acc : List Acc) (H : List Obj) : DepN H.length (fun b => symRun P b t acc H) :=
  fun b c x H' o h => symRun_dep t acc H x H' o h
theorem symOp_DepN (it : It) (o : Oper) (ρ : Operand → Value) (H : List Obj) (hx : ∀ f sp sel rd, it ≠ .x f sp sel rd) : DepN H.length (fun b => symOp P b it o ρ H) := by
  cases it with
  | o => exact (symRun_DepN _ _ _).bnd fun x H => nextVal_depN x H
  | a i => exact (symRun_DepN _ _ _).bnd fun x H => nextVal_depN x H
  | l acc => exact (symRun_DepN _ _ _).bnd fun x H => nextVal_depN x H
  | w v v' =>
    refine (symRun_DepN _ _ _).bnd fun x H b c y H' ob h => ?_
    simp only at h ⊢
    split at h
    · simp at h; obtain ⟨rfl, rfl, rfl⟩ := h; exact ⟨Nat.le_refl _, fun _ => ⟨_, rfl⟩⟩
    · cases h
  | c f args v =>
    have key : ∀ cl : Call, DepN H.length (fun b => bnd (symRun P b (resolve ρ cl o.type) [] H) fun d H => match d.target with
        | .fn (.func f') cap => some (v, H, [(.n f', .n f), (.v (.tuple (d.args ++ cap)), .v (.tuple args))])
        | _ => none) := by
      intro cl
      refine (symRun_DepN _ _ _).bnd (fun x H b c y H' ob h => ?_)
      simp only at h ⊢
      split at h
      · simp at h; obtain ⟨rfl, rfl, rfl⟩ := h; exact ⟨Nat.le_refl _, fun _ => ⟨_, rfl⟩⟩
      · cases h
    cases ho : o.op
    case call cl =>
      have e : (fun b => symOp P b (.c f args v) o ρ H) = fun b => bnd (symRun P b (resolve ρ cl o.type) [] H) fun d H => match d.target with
        | .fn (.func f') cap => some (v, H, [(.n f', .n f), (.v (.tuple (d.args ++ cap)), .v (.tuple args))])
        | _ => none := by funext b; simp only [symOp, ho]
      rw [e]
      exact key cl
    all_goals (intro b c y H' ob h; simp [symOp, ho] at h)
  | ov q v =>
    intro b c y H' ob h
    simp only [symOp] at h ⊢
    split at h
    · simp at h
      obtain ⟨rfl, rfl, rfl⟩ := h
      exact ⟨Nat.le_refl _, fun _ => ⟨_, rfl⟩⟩
    · cases h
  | q f =>
    intro b c y H' ob h
    simp only [symOp] at h ⊢
    split at h
    · split at h
      · simp at h
        obtain ⟨rfl, rfl, rfl⟩ := h
        exact ⟨Nat.le_refl _, fun _ => ⟨_, rfl⟩⟩
      · cases h
    · cases h
  | qb f i =>
    intro b c y H' ob h
    simp only [symOp] at h ⊢
    split at h
    · split at h
      · simp at h
        obtain ⟨rfl, rfl, rfl⟩ := h
        exact ⟨Nat.le_refl _, fun _ => ⟨_, rfl⟩⟩
      · cases h
    · cases h
  | r V A T mk => intro b c y H' ob h; simp [symOp] at h
  | x f sp sel rd => exact absurd rfl (hx f sp sel rd)
  | cx sp sel => intro b c y H' ob h; simp [symOp] at h
  | cp => intro b c y H' ob h; simp [symOp] at h
/-- One operation hangs on the letters of the blocks that it may turn, and on new ones. -/
theorem symOp_blks {it : It} {o : Oper} {ρ : Operand → Value} {H : List Obj} {b : Lt} {v : Value} {H' : List Obj} {ob : Obl} (h : symOp P b it o ρ H = some (v, H', ob)) :
    H.length ≤ H'.length ∧ ∀ c : Lt, (∀ i, (i ∈ it.blks ∧ i < H.length) ∨ (H.length ≤ i ∧ i < H'.length) → c i = b i) → ∃ ob', symOp P c it o ρ H = some (v, H', ob') := by
  by_cases hx : ∃ f sp sel rd, it = .x f sp sel rd
  · obtain ⟨f, sp, sel, rd, rfl⟩ := hx
    simp only [symOp] at h ⊢
    split at h
    · rename_i wh hwh
      split at h
      · rename_i u H1 ob1 hsx
        simp at h
        obtain ⟨rfl, rfl, rfl⟩ := h
        obtain ⟨h1, h2, h3⟩ := symX_dep (c := b) hsx
        refine ⟨by omega, fun c ag => ?_⟩
        rw [(symX_dep (c := c) hsx).2.2 fun i hi => ag i (by
          rcases hi with hi | hi
          · exact .inl ⟨hi, h1 i hi⟩
          · exact .inr hi)]
        exact ⟨_, rfl⟩
      · cases h
    · cases h
  · have hd := symOp_DepN (P := P) it o ρ H (fun f sp sel rd e => hx ⟨f, sp, sel, rd, e⟩)
    exact ⟨(hd b b v H' ob h).1, fun c ag => (hd b c v H' ob h).2 fun i h1 h2 => ag i (.inr ⟨h1, h2⟩)⟩
theorem symOp_Dep (it : It) (o : Oper) (ρ : Operand → Value) (H : List Obj) : Dep H.length (fun b => symOp P b it o ρ H) := fun b c v H' ob h _ => by
  obtain ⟨h1, h2⟩ := symOp_blks h
  exact ⟨h1, fun ag => h2 c fun i hi => ag i (by omega)⟩
theorem ret_Dep {ρ : Type} (x : ρ) (H : List Obj) (o : Obl) : Dep H.length (fun _ => some (x, H, o)) := (ret_DepN x H o).dep
theorem symOps_Dep (ops : Array Oper) : ∀ (l : List Oper) (sc : List It) (t : List Value) (H : List Obj), Dep H.length (fun b => symOps P b ops l sc t H)
  | [], sc, t, H => by simp only [symOps]; exact ret_Dep _ _ _
  | o :: rest, sc, t, H => by
    intro b c
    simp only [symOps]
    split
    · exact symOps_Dep ops rest sc _ H b c
    · split
      · intro x H' o h; cases h
      · exact (symOp_Dep _ _ _ _).bnd (fun v H => symOps_Dep ops rest _ _ H) b c
/-- One operation: what the run with letters says of it, holds. -/
theorem symOp_sound (hUp : ∀ w w', S w → Chg X B w w' → S w') {it : It} {o : Oper} {t : List Value} {d : List Deferred} {H : List Obj} {w : World} {b : Lt} {next : Act → World → Prop} {Q : Exit → Act → World → Prop}
    (hs : Sat X B b H w) (hS : S w) (hit : ItOk P X B S it) (h : Ran H.length b (fun b => symOp P b it o (evL t) H))
    (K : ∀ c v H' ob w', agree H.length c b → symOp P c it o (evL t) H = some (v, H', ob) → okL ob → Sat X B c H' w' → S w' → Chg X B w w' → next (Act.put ⟨t.toArray, d⟩ o.dst v) w') :
    o.wp P ⟨t.toArray, d⟩ w next Q := by
  unfold Oper.wp
  rw [evL_eq]
  have plain : ∀ acc, AccOk S acc → (∀ c, symOp P c it o (evL t) H = bnd (symRun P c (execOp (evL t) o) acc H) nextVal) → o.upon P ⟨t.toArray, d⟩ next Q ((execOp (evL t) o).run P w) := by
    intro acc ha heq
    have h' : Ran H.length b (fun b => bnd (symRun P b (execOp (evL t) o) acc H) nextVal) := fun c hc => by
      obtain ⟨x, H', ob, h1, h2⟩ := h c hc
      simp only [heq] at h1
      exact ⟨x, H', ob, h1, h2⟩
    obtain ⟨c, x, H', ob, w', h1, h2, h3, h4, h5, h6, h7, h8⟩ := symRun_sound hUp (execOp (evL t) o) acc H w b hs hS ha h'.fst
    obtain ⟨y, H'', ob', h9, h10⟩ := h' c h1
    obtain ⟨x', H1, o1, o2, h11, h12, rfl⟩ := bnd_some.1 h9
    have := h2.symm.trans h11
    simp at this
    obtain ⟨rfl, rfl, rfl⟩ := this
    rw [h4]
    have hK := K c y H'' (ob ++ o2) w' h1 (by rw [heq]; exact h9) h10
    unfold nextVal at h12
    split at h12
    · simp at h12
      obtain ⟨rfl, rfl, rfl⟩ := h12
      exact hK h5 h8 h7
    · simp at h12
      obtain ⟨rfl, rfl, rfl⟩ := h12
      exact hK h5 h8 h7
    · cases h12
  cases it with
  | o => exact plain [] AccOk.nil (fun c => rfl)
  | a i => exact plain [.blk i] (AccOk.blk i) (fun c => rfl)
  | l acc => exact plain acc hit (fun c => rfl)
  | w v v' =>
    have h' : Ran H.length b (fun b => bnd (symRun P b (execOp (evL t) o) [] H) fun x H => match x with
      | .value u => some (v', H, [(.v u, .v v)])
      | _ => none) := h
    obtain ⟨c, x, H', ob, w', h1, h2, h3, h4, h5, h6, h7, h8⟩ := symRun_sound hUp (execOp (evL t) o) [] H w b hs hS AccOk.nil h'.fst
    obtain ⟨y, H'', ob', h9, h10⟩ := h' c h1
    obtain ⟨x', H1, o1, o2, h11, h12, rfl⟩ := bnd_some.1 h9
    have := h2.symm.trans h11
    simp at this
    obtain ⟨rfl, rfl, rfl⟩ := this
    rw [h4]
    have hK := K c y H'' (ob ++ o2) w' h1 h9 h10
    split at h12
    · rename_i u
      simp at h12
      obtain ⟨rfl, rfl, rfl⟩ := h12
      have h13 := (okL_cons.1 (okL_app.1 h10).2).1
      simp at h13
      have h14 : v = v' := hit
      subst h13
      subst h14
      exact hK h5 h8 h7
    · cases h12
  | c f args v =>
    have h0 := h.self
    simp only [symOp] at h0
    obtain ⟨y0, H0, ob0, h01, _⟩ := h0
    split at h01
    · rename_i cl hcl
      have h' : Ran H.length b (fun b => bnd (symRun P b (resolve (evL t) cl o.type) [] H) fun d H => match d.target with
        | .fn (.func f') cap => some (v, H, [(.n f', .n f), (.v (.tuple (d.args ++ cap)), .v (.tuple args))])
        | _ => none) := fun c hc => by
          obtain ⟨x, H', ob, h1, h2⟩ := h c hc
          simp only [symOp, hcl] at h1
          exact ⟨x, H', ob, h1, h2⟩
      obtain ⟨c, df, H', ob, w', h1, h2, h3, h4, h5, h6, h7, h8⟩ := symRun_sound hUp (resolve (evL t) cl o.type) [] H w b hs hS AccOk.nil h'.fst
      obtain ⟨y, H'', ob', h9, h10⟩ := h' c h1
      obtain ⟨x', H1, o1, o2, h11, h12, rfl⟩ := bnd_some.1 h9
      have := h2.symm.trans h11
      simp at this
      obtain ⟨rfl, rfl, rfl⟩ := this
      have hK := K c y H'' (ob ++ o2)
      have hop : ∀ c, symOp P c (.c f args v) o (evL t) H = bnd (symRun P c (resolve (evL t) cl o.type) [] H) fun d H => match d.target with
        | .fn (.func f') cap => some (v, H, [(.n f', .n f), (.v (.tuple (d.args ++ cap)), .v (.tuple args))])
        | _ => none := fun c => by simp only [symOp, hcl]
      obtain ⟨tgt, dargs⟩ := df
      simp only at h12
      split at h12
      · rename_i f' cap
        simp at h12
        obtain ⟨rfl, rfl, rfl⟩ := h12
        have h13 := okL_cons.1 (okL_app.1 h10).2
        have h14 := (okL_cons.1 h13.2).1
        have h13 := h13.1
        simp at h13 h14
        obtain ⟨hcf, hc⟩ := hit w' h8
        have he : (execOp (evL t) o).run P w = .ok (.enter f args) w' := by
          unfold execOp
          rw [hcl]
          simp only [Sem.run_bind, h4, Result.andThen_ok]
          show (callFunc f' (dargs ++ cap)).run P w' = _
          rw [h13, h14]
          exact hcf
        rw [he]
        show Calls P f args w' _
        refine hc.mono fun e w'' ⟨he', hb⟩ => ?_
        subst he'
        have hch : Chg X B w' w'' := .of_below hb h5.base
        exact hK w'' h1 (by rw [hop]; exact h9) h10 (h5.below hb) (hUp _ _ h8 hch) (h7.trans hch)
      · cases h12
    · cases h01
  | ov q v =>
    obtain ⟨y, H', ob, h1, h2⟩ := h.self
    have h1' := h1
    simp only [symOp] at h1
    split at h1
    · rename_i q' hq
      simp at h1
      obtain ⟨rfl, rfl, rfl⟩ := h1
      have h3 := (okL_cons.1 h2).1
      simp at h3
      subst h3
      have h4 : q'.sem.run P w = .ok (.value v) w := hit w hS
      rw [Go.Proofs.YtlpjdjbophcomaaDoor.Q.ofc_sem hq, h4]
      exact K b v H _ w agree.rfl' h1' h2 hs hS (.refl ..)
    · cases h1
  | q f =>
    obtain ⟨y, H', ob, h1, h2⟩ := h.self
    have h1' := h1
    simp only [symOp] at h1
    split at h1
    · rename_i q' hq
      split at h1
      · rename_i v ob1 hf
        simp at h1
        obtain ⟨rfl, rfl, rfl⟩ := h1
        have h4 : q'.sem.run P w = .ok (.value v) w := hit q' v ob1 hf h2 w hS
        rw [Go.Proofs.YtlpjdjbophcomaaDoor.Q.of_sem hq, h4]
        exact K b v H _ w agree.rfl' h1' h2 hs hS (.refl ..)
      · cases h1
    · cases h1
  | qb f i =>
    obtain ⟨y, H', ob, h1, h2⟩ := h.self
    have h1' := h1
    simp only [symOp] at h1
    split at h1
    · rename_i q' hq
      split at h1
      · rename_i v g hf
        simp at h1
        obtain ⟨rfl, rfl, rfl⟩ := h1
        have h4 : q'.sem.run P w = .ok (.value v) w := hit q' v g _ hf h2 w hS
        rw [Go.Proofs.YtlpjdjbophcomaaDoor.Q.of_sem hq, h4]
        exact K b v H _ w agree.rfl' h1' h2 hs hS (.refl ..)
      · cases h1
    · cases h1
  | r V A T mk =>
    obtain ⟨y, H', ob, h1, h2⟩ := h.self
    simp [symOp] at h1
  | cx sp sel =>
    obtain ⟨y, H', ob, h1, h2⟩ := h.self
    simp [symOp] at h1
  | cp =>
    obtain ⟨y, H', ob, h1, h2⟩ := h.self
    simp [symOp] at h1
  | x f sp sel rd =>
    obtain ⟨y0, H0, ob0, h01, _⟩ := h.self
    simp only [symOp] at h01
    split at h01
    · rename_i wh hwh
      have hX : Ran H.length b (fun b => symX f b wh sp sel H) := fun c hc => by
        obtain ⟨y, H', ob, h1, h2⟩ := h c hc
        simp only [symOp, hwh] at h1
        split at h1
        · rename_i u H1 ob1 hsx
          simp at h1
          obtain ⟨rfl, rfl, rfl⟩ := h1
          exact ⟨_, _, _, hsx, h2⟩
        · cases h1
      have hd := symX_sound hs hS hit.1 hX
      -- the end
      have fin : ∀ vs w', (∃ c H' o', agree H.length c b ∧ symX f c wh sp sel H = some (vs, H', o') ∧ okL o' ∧ Sat X B c H' w' ∧ Chg X B w w') → ∃ v, vs = [v] ∧ next (Act.put ⟨t.toArray, d⟩ o.dst v) w' := by
        rintro vs w' ⟨c, H', o', h1, h2, h3, h4, h5⟩
        obtain ⟨y, H'', ob, h6, h7⟩ := h c h1
        have h6' := h6
        simp only [symOp, hwh, h2] at h6
        split at h6
        · rename_i u H1 ob1 he
          simp at he h6
          obtain ⟨rfl, rfl, rfl⟩ := he
          obtain ⟨rfl, rfl, rfl⟩ := h6
          exact ⟨_, rfl, K c _ _ _ w' h1 h6' h7 h4 (hUp _ _ hS h5) h5⟩
        · cases h6
      unfold whOf at hwh
      split at hwh
      · rename_i q hq
        simp at hwh
        subst hwh
        obtain ⟨v, w', h1, h2⟩ := hd
        obtain ⟨v', h3, h4⟩ := fin _ _ h2
        simp at h3
        subst h3
        rw [Go.Proofs.YtlpjdjbophcomaaDoor.Q.of_sem hq]
        rcases h1 with h1 | ⟨h1, rfl⟩
        · rw [h1]; exact h4
        · rw [h1]; exact h4
      · split at hwh
        · rename_i cl hcl
          split at hwh
          · rename_i df hdf
            obtain ⟨tgt, dargs⟩ := df
            simp only at hwh
            split at hwh
            · rename_i f' cap
              simp at hwh
              subst hwh
              obtain ⟨hcf, hc⟩ := hd
              have he : (execOp (evL t) o).run P w = .ok (.enter f' (dargs ++ cap)) w := by
                unfold execOp
                rw [hcl]
                simp only [Sem.run_bind, pureRun_sound _ _ hdf, Result.andThen_ok]
                exact hcf
              rw [he]
              show Calls P f' (dargs ++ cap) w _
              refine hc.mono fun e w'' ⟨v, he', hb⟩ => ?_
              subst he'
              obtain ⟨v', h3, h4⟩ := fin _ _ hb
              simp at h3
              subst h3
              exact h4
            · rename_i name cap
              split at hwh
              · rename_i T v hrecv
                split at hwh
                · rename_i f' r hm
                  simp at hwh
                  subst hwh
                  obtain ⟨hcf, hc⟩ := hd
                  have he : (execOp (evL t) o).run P w = .ok (.enter f' (#[r] ++ dargs.extract 1 dargs.size)) w := by
                    unfold execOp
                    rw [hcl]
                    simp only [Sem.run_bind, pureRun_sound _ _ hdf, Result.andThen_ok]
                    unfold invoke
                    simp only [hrecv]
                    unfold callMethod
                    simp only [bind, Sem.bind, program, Sem.run]
                    refine (Sem.run_bind ..).trans ?_
                    rw [pureRun_sound _ _ hm]
                    exact hcf
                  rw [he]
                  show Calls P f' (#[r] ++ dargs.extract 1 dargs.size) w _
                  refine hc.mono fun e w'' ⟨v, he', hb⟩ => ?_
                  subst he'
                  obtain ⟨v', h3, h4⟩ := fin _ _ hb
                  simp at h3
                  subst h3
                  exact h4
                · cases hwh
              · cases hwh
            · cases hwh
          · cases hwh
        · cases hwh
    · cases h01
theorem symOps_sound (hUp : ∀ w w', S w → Chg X B w w' → S w') (ops : Array Oper) {Q : Exit → Act → World → Prop} {d : List Deferred} : ∀ (l : List Oper) (sc : List It) (t : List Value) (H : List Obj) (w : World) (b : Lt),
    Sat X B b H w → S w → (∀ it ∈ sc, ItOk P X B S it) → Ran H.length b (fun b => symOps P b ops l sc t H) →
    (∀ c t' sc' H' ob w', agree H.length c b → symOps P c ops l sc t H = some ((t', sc'), H', ob) → okL ob → Sat X B c H' w' → S w' → Chg X B w w' → (∀ it ∈ sc', it ∈ sc) → Q .normal ⟨t'.toArray, d⟩ w') →
    wpList P ops Q l ⟨t.toArray, d⟩ w
  | [], sc, t, H, w, b, hs, hS, hit, h, K => K b t sc H [] w agree.rfl' rfl rfl hs hS (.refl ..) (fun _ h => h)
  | o :: rest, sc, t, H, w, b, hs, hS, hit, h, K => by
    refine wpList_step fun KK hKK => ?_
    by_cases hw : Region.wanted o (yielded ops t.toArray) = true
    · simp only [hw, if_true]
      cases sc with
      | nil =>
        obtain ⟨x, H', ob, h1, _⟩ := h.self
        simp only [symOps, hw] at h1
        cases h1
      | cons it sc =>
        have heq : ∀ c, symOps P c ops (o :: rest) (it :: sc) t H = bnd (symOp P c it o (evL t) H) fun v H => symOps P c ops rest sc (putL t o.dst v) H := fun c => by simp only [symOps, hw]
        have h' : Ran H.length b (fun b => bnd (symOp P b it o (evL t) H) fun v H => symOps P b ops rest sc (putL t o.dst v) H) := h.congr heq
        refine symOp_sound hUp hs hS (hit it (List.mem_cons_self ..)) h'.fst (fun c v H' ob w' ag hv hob hs' hS' hch => hKK _ _ ?_)
        rw [putL_eq]
        have hl := (symOp_Dep it o (evL t) H c c v H' ob hv hob).1
        refine symOps_sound hUp ops rest sc (putL t o.dst v) H' w' c hs' hS' (fun i hi => hit i (List.mem_cons_of_mem _ hi)) (h'.snd (symOp_Dep it o (evL t) H) ag hv hob) ?_
        intro c' t' sc' H'' ob' w'' ag' hr hob' hs'' hS'' hch' hsub
        obtain ⟨ob1, hv'⟩ := (symOp_Dep it o (evL t) H c c' v H' ob hv hob).2 ag'
        have hr' : symOps P c' ops (o :: rest) (it :: sc) t H = some ((t', sc'), H'', ob1 ++ ob') := by
          rw [heq]; exact bnd_some.2 ⟨v, H', ob1, ob', hv', hr, rfl⟩
        have ag'' := (ag'.mono hl).trans ag
        obtain ⟨x, Hx, obx, hx, hox⟩ := h c' ag''
        have := hr'.symm.trans hx
        simp at this
        obtain ⟨rfl, rfl, rfl⟩ := this
        exact K c' t' sc' H'' _ w'' ag'' hr' hox hs'' hS'' (hch.trans hch') (fun i hi => List.mem_cons_of_mem _ (hsub i hi))
    · have hwf : Region.wanted o (yielded ops t.toArray) = false := by simpa using hw
      simp only [hwf, Bool.false_eq_true, if_false]
      refine hKK _ _ ?_
      rw [putL_eq]
      have heq : ∀ c, symOps P c ops (o :: rest) sc t H = symOps P c ops rest sc (putL t o.dst undef) H := fun c => by simp only [symOps, hwf]
      refine symOps_sound hUp ops rest sc _ H w b hs hS hit (h.congr heq) ?_
      intro c t' sc' H' ob w' ag hr
      exact K c t' sc' H' ob w' ag (by rw [heq]; exact hr)
end
end Go.Proofs.YtlpjdjbophcomaaDoor

