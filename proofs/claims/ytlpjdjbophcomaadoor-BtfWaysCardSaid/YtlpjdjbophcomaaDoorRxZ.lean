/-
  Told things that lean on old memory that stays (S), loops told by steps that may fail. Nothing of the program stands here.
-/
import Derived.Test.YtlpjdjbophcomaaDoorRxY
namespace Go.Proofs.YtlpjdjbophcomaaDoor
open Go.RowKit
set_option linter.unusedVariables false
set_option linter.unusedSimpArgs false
/-- What S says of old memory (the blocks ahead of B) stays. -/
structure Up (M : Nat → Prop) (B : Nat) (S : World → Prop) : Prop where
  base : ∀ w, S w → B ≤ w.heap.size
  keep : ∀ w w', S w → Chg M B w w' → S w'
theorem chg_sub {M : Nat → Prop} {B B' : Nat} {X : Nat → Prop} (hx : ∀ k, X k ∨ B' ≤ k → M k ∨ B ≤ k) {w w' : World} (hc : Chg X B' w w') : Chg M B w w' :=
  ⟨hc.os, hc.tape, hc.output, hc.size, fun k hk hM => hc.block k (by
    by_cases h1 : k < B'
    · exact h1
    · exact absurd (hx k (.inr (by omega))) (fun h => h.elim hM (by omega))) (fun hX => (hx k (.inl hX)).elim hM (by omega))⟩
theorem Up.chg {M : Nat → Prop} {B B' : Nat} {S : World → Prop} {X : Nat → Prop} (h : Up M B S) (hx : ∀ k, X k ∨ B' ≤ k → M k ∨ B ≤ k) {w w' : World} (hS : S w) (hc : Chg X B' w w') : S w' :=
  h.keep w w' hS (chg_sub hx hc)
theorem Up.next {M : Nat → Prop} {B : Nat} {S : World → Prop} (h : Up M B S) {w w' : World} (hS : S w) (hb : Below w.heap.size w w') : S w' :=
  h.keep w w' hS (Chg.of_below hb (h.base w hS))
/-- f: whatever stands behind it; else: where neither families stand there nor blocks that weren't there. -/
def SpcGf (f : Bool) (P : Program) (M : Nat → Prop) (B : Nat) (S : World → Prop) (sp : Spc) : Prop :=
  ∀ (ls : List L1) (w : World), (sp.pre ls).length = ls.length → SatF ls (sp.pre ls) w → (∀ k, touchF ls (sp.pre ls) k → M k ∨ B ≤ k) → S w → Does P (sp.wh ls) sp.ex w (ThenX f sp ls w)
abbrev SpcG (P : Program) (M : Nat → Prop) (B : Nat) (S : World → Prop) (sp : Spc) : Prop := SpcGf true P M B S sp
theorem SpcGf.x {f : Bool} {P : Program} {M : Nat → Prop} {B B' : Nat} {S : World → Prop} {X : Nat → Prop} {sp : Spc} (h : SpcGf f P M B S sp) (hx : ∀ k, X k ∨ B' ≤ k → M k ∨ B ≤ k) : SpcX f P X B' S sp :=
  fun ls w h1 h2 h3 _ h4 => h ls w h1 h2 (fun k hk => hx k (h3 k hk)) h4
theorem SpcOk.g {P : Program} {M : Nat → Prop} {B : Nat} {S : World → Prop} {sp : Spc} (h : SpcOk P S sp) : SpcGf false P M B S sp := fun ls w h1 h2 _ h3 => (h ls w h1 h2.L h3).mono fun _ _ h4 => h4.X h1
def ConG (P : Program) (S : World → Prop) (f : FuncId) (args : Array Value) (V : Value) : Prop := ∀ w, S w → Calls' P f args w fun e w' => e = .returned V ∧ Below w.heap.size w w'
theorem Con.g {P : Program} {S : World → Prop} {f : FuncId} {args : Array Value} {V : Value} (h : Con P f args V) : ConG P S f args V := fun w _ => h w
theorem ConG.val {P : Program} {S : World → Prop} {f : FuncId} {a : Array Value} {V V' : Value} (h : ConG P S f a V) (e : V = V') : ConG P S f a V' := e ▸ h
def AllG (P : Program) (M : Nat → Prop) (B : Nat) (S : World → Prop) : List It → Prop
  | [] => True
  | .w v v' :: r => v = v' ∧ AllG P M B S r
  | .c f args v :: r => ConG P S f args v ∧ AllG P M B S r
  | .ov q v :: r => (∀ w, q.sem.run P w = .ok (.value v) w) ∧ AllG P M B S r
  | .q f :: r => (∀ q v ob, f q = some (v, ob) → okL ob → ∀ w, S w → q.sem.run P w = .ok (.value v) w) ∧ AllG P M B S r
  | .qb f _ :: r => (∀ q v g l, f q = some (v, g) → okL (g l) → ∀ w, S w → q.sem.run P w = .ok (.value v) w) ∧ AllG P M B S r
  | .l acc :: r => AccOk S acc ∧ AllG P M B S r
  | .x f sp sel rd :: r => (SpcGf f P M B S sp ∧ ∀ ls ms : List L1, ls.length = sel.length → ms.length = sp.m → keepP rd (sp.post (ls ++ ms)) (sp.pre ls)) ∧ AllG P M B S r
  | .cx sp _ :: r => SpcG P M B S sp ∧ AllG P M B S r
  | .o :: r => AllG P M B S r
  | .a _ :: r => AllG P M B S r
  | .r _ _ _ mk :: r => (∀ k M, mk k = some M → MkOk P M) ∧ AllG P M B S r
  | .cp :: r => AllG P M B S r
theorem AllG.ok {P : Program} {M : Nat → Prop} {B B' : Nat} {S : World → Prop} {X : Nat → Prop} (hx : ∀ k, X k ∨ B' ≤ k → M k ∨ B ≤ k) : ∀ {sc : List It}, AllG P M B S sc → ∀ it ∈ sc, ItOk P X B' S it
  | [], _, it, h => by cases h
  | x :: r, h, it, hm => by
    have key : ItOk P X B' S x ∧ AllG P M B S r := by
      cases x with
      | w v v' => exact h
      | c f args v => exact ⟨fun w hS => h.1 w hS, h.2⟩
      | ov q v => exact ⟨fun w _ => h.1 w, h.2⟩
      | q f => exact ⟨fun q v ob hf ho w hS => h.1 q v ob hf ho w hS, h.2⟩
      | qb f i => exact ⟨fun q v g l hf ho w hS => h.1 q v g l hf ho w hS, h.2⟩
      | l acc => exact h
      | x f sp sel rd => exact ⟨⟨h.1.1.x hx, h.1.2⟩, h.2⟩
      | cx sp sel => exact ⟨h.1.x hx, h.2⟩
      | o => exact ⟨trivial, h⟩
      | a i => exact ⟨trivial, h⟩
      | r V A T mk => exact h
      | cp => exact ⟨trivial, h⟩
    rcases List.mem_cons.1 hm with rfl | hm
    · exact key.1
    · exact AllG.ok hx key.2 it hm
structure PG (P : Program) (M : Nat → Prop) (B : Nat) (S : World → Prop) where
  it : It
  ok : AllG P M B S [it]
namespace PG
variable {P : Program} {M : Nat → Prop} {B : Nat} {S : World → Prop}
theorem all : ∀ l : List (PG P M B S), AllG P M B S (l.map PG.it)
  | [] => trivial
  | x :: l => by
    have k := all l
    show AllG P M B S (x.it :: l.map PG.it)
    obtain ⟨it, ok⟩ := x
    cases it <;> first | exact k | exact ⟨ok.1, k⟩
def o : PG P M B S := ⟨.o, trivial⟩
def a (i : Nat) : PG P M B S := ⟨.a i, trivial⟩
def r (V A T : List Nat) : PG P M B S := ⟨.r V A T (fun _ => none), fun _ _ h => (nomatch h), trivial⟩
def cp : PG P M B S := ⟨.cp, trivial⟩
def v (k : IntKind) {a b : Int} (h : a = b) : PG P M B S := ⟨.w (.int k a) (.int k b), congrArg _ h, trivial⟩
def w {a b : Value} (h : a = b) : PG P M B S := ⟨.w a b, h, trivial⟩
def b {a b : Bool} (h : a = b) : PG P M B S := ⟨.w (.bool a) (.bool b), congrArg _ h, trivial⟩
def t {a c d : Bool} (l : a = c) (h : c = d) : PG P M B S := ⟨.w (.bool a) (.bool d), congrArg _ (l.trans h), trivial⟩
def tn {a c d : Bool} (l : a = !c) (h : c = d) : PG P M B S := ⟨.w (.bool a) (.bool (!d)), congrArg _ (l.trans (congrArg _ h)), trivial⟩
/-- A call whose answer is put as a letter. -/
def cg {f : FuncId} {args : Array Value} {V : Value} (h : ConG P S f args V) : PG P M B S := ⟨.c f args V, h, trivial⟩
def ov {q : Q} {v : Value} (h : ∀ w, q.sem.run P w = .ok (.value v) w) : PG P M B S := ⟨.ov q v, h, trivial⟩
def q {f : Q → Option (Value × Obl)} (h : ∀ q v ob, f q = some (v, ob) → okL ob → ∀ w, q.sem.run P w = .ok (.value v) w) : PG P M B S := ⟨.q f, fun q v ob h1 h2 w _ => h q v ob h1 h2 w, trivial⟩
def qb {f : Q → Option (Value × (L1 → Obl))} (h : ∀ q v g l, f q = some (v, g) → okL (g l) → ∀ w, q.sem.run P w = .ok (.value v) w) (i : Nat) : PG P M B S := ⟨.qb f i, fun q v g l h1 h2 w _ => h q v g l h1 h2 w, trivial⟩
def qs {f : Q → Option (Value × Obl)} (h : ∀ q v ob, f q = some (v, ob) → okL ob → ∀ w, S w → q.sem.run P w = .ok (.value v) w) : PG P M B S := ⟨.q f, h, trivial⟩
def l {acc : List Acc} (h : AccOk S acc) : PG P M B S := ⟨.l acc, h, trivial⟩
def x {sp : Spc} (h : SpcOk P S sp) (sel : List Nat) : PG P M B S := ⟨.x false sp sel [], ⟨h.g, fun _ _ _ _ => trivial⟩, trivial⟩
def xg {sp : Spc} (h : SpcG P M B S sp) (sel : List Nat) : PG P M B S := ⟨.x true sp sel [], ⟨h, fun _ _ _ _ => trivial⟩, trivial⟩
/-- A call that only reads. -/
def xr {sp : Spc} (h : SpcG P M B S sp) (e : ∀ ls, sp.post ls = sp.pre ls) (hm : sp.m = 0) (hn : ∀ ls, sp.new ls = []) (sel : List Nat) : PG P M B S := ⟨.x true sp sel (List.range sel.length), ⟨h, fun ls ms _ h2 => by
  rw [hm] at h2
  obtain rfl : ms = [] := List.length_eq_zero_iff.1 h2
  rw [List.append_nil, e]
  exact keepP.refl _ _⟩, trivial⟩
def cx {sp : Spc} (h : SpcG P M B S sp) (sel : List Nat) : PG P M B S := ⟨.cx sp sel, h, trivial⟩
end PG
theorem fn_conG {P : Program} {M : Nat → Prop} {B : Nat} {S : World → Prop} (hU : Up M B S) {f : FuncId} {fn : Func} (hf : P.funcs[f]? = some fn) (hF : ∀ xs w, (callFunc f xs).run P w = .ok (.enter f xs) w) (args : List Value) (V : Value) (sc : List (PG P M B S)) (ra : List Nat)
    (hrun : ∀ b, lft (symFn P b fn args (sc.map PG.it) (ra.map Acc.blk) []) = rgt V (symFn P b fn args (sc.map PG.it) (ra.map Acc.blk) [])) : ConG P S f args.toArray V := fun w hS =>
  have hx : ∀ k, (fun _ : Nat => False) k ∨ w.heap.size ≤ k → M k ∨ B ≤ k := fun k h => h.elim False.elim (fun h => .inr (Nat.le_trans (hU.base w hS) h))
  ⟨hF _ w, fn_calls hf args V (sc.map PG.it) (ra.map Acc.blk) w S hS (fun w1 w2 h1 h2 => hU.chg hx h1 h2) ((PG.all sc).ok hx) (fun x hx => by
    obtain ⟨i, _, rfl⟩ := List.mem_map.1 hx; trivial) hrun⟩
def GoesG (P : Program) (M : Nat → Prop) (B0 : Nat) (S : World → Prop) (x : Code) (n : Nat) (fr : List L1 → List Value) (Hs : List L1 → List Obj) (e : Ex) (k : Nat) (fr' : List L1 → List Value) (Hs' : List L1 → List Obj) (n' : Nat) : Prop :=
  ∀ (X : Nat → Prop) (B : Nat) (b : Lt) (w : World), (∀ k, X k ∨ B ≤ k → M k ∨ B0 ≤ k) → Sat X B b (Hs (lts b n)) w → S w → ∀ (Q : Exit → Act → World → Prop) (d : List Deferred),
    (∀ b' w', agree k b' b → Sat X B b' (Hs' (lts b' n')) w' → S w' → Chg X B w w' → Q e.to ⟨(fr' (lts b' n')).toArray, d⟩ w') → x.wp P Q ⟨(fr (lts b n)).toArray, d⟩ w
theorem goes_runG {P : Program} {M : Nat → Prop} {B0 : Nat} {S : World → Prop} (hU : Up M B0 S) {x : Code} {n : Nat} {fr : List L1 → List Value} {Hs : List L1 → List Obj} {e : Ex} {k : Nat} {fr' : List L1 → List Value} {Hs' : List L1 → List Obj} {n' : Nat} (sc : List (PG P M B0 S)) (sel : List Nat)
    (hH : ∀ b : Lt, (Hs (lts b n)).length = n) (hk : k ≤ n) (hn : n' = sel.length + 1)
    (hrun : ∀ b : Lt, lftC e k sel (symCode P b 100000 false x (sc.map PG.it) (fr (lts b n)) (Hs (lts b n))) = rgtC fr' Hs' (sel.map b) (symCode P b 100000 false x (sc.map PG.it) (fr (lts b n)) (Hs (lts b n)))) :
    GoesG P M B0 S x n fr Hs e k fr' Hs' n' := by
  intro X B b w hx hs hS Q d K
  subst hn
  have hl := hH b
  have hran : Ran (Hs (lts b n)).length b (fun c => symCode P c 100000 false x (sc.map PG.it) (fr (lts b n)) (Hs (lts b n))) := fun c hc => by
    rw [hl] at hc
    obtain ⟨t', sc', H', o, l, h1, h2, _⟩ := lft_rgtC (hrun c)
    rw [lts_agree hc] at h1
    exact ⟨_, H', o, h1, h2⟩
  refine (symCode_sound (S := S) (fun w1 w2 h1 h2 => hU.chg hx h1 h2) 100000).1 x Q (sc.map PG.it) _ _ w b hs hS ((PG.all sc).ok hx) hran (fun c' e1 t1 sc1 H1 ob w' ag hr hob hs' hS' hch _ => ?_)
  rw [hl] at ag
  obtain ⟨t', sc', H', o, l, h1, h2, h3, h4, h5, h6, h7⟩ := lft_rgtC (hrun c')
  rw [lts_agree ag] at h1
  have := hr.symm.trans h1
  simp only [Option.some.injEq, Prod.mk.injEq] at this
  obtain ⟨⟨rfl, rfl, rfl⟩, rfl, rfl⟩ := this
  have hsel := hs'.sel h4 h5 (junk t1)
  have hK := K (reLt c' sel (junk t1)) w' ?_ (by rw [reLt_lts, ← h7]; exact hsel) hS' hch
  · rw [reLt_lts, ← h6] at hK
    exact hK
  · intro i hi
    have hks : k ≤ sel.length := by
      have := congrArg List.length h3
      simp at this
      omega
    have h8 : sel[i]? = some i := by
      have := congrArg (fun l => l[i]?) h3
      simpa [hi] using this
    have h9 : i < sel.length := by omega
    have h10 : sel.getD i 0 = i := by simp [List.getD, h8]
    have : reLt c' sel (junk t1) i = c' i := by unfold reLt; rw [if_pos h9, h10]
    rw [this]
    exact ag i (by omega)
/-! ### Frames of which a part is told -/
noncomputable def jksT (u : Nat → Value) (rest : List Value) (n a : Nat) : List Value := Nat.rec (motive := fun _ => Nat → List Value) (fun _ => rest) (fun _ ih a => u a :: ih (a + 1)) n a
noncomputable def jks (u : Nat → Value) (a n : Nat) : List Value := jksT u [] n a
noncomputable def und (n : Nat) : List Value := Nat.rec (motive := fun _ => List Value) [] (fun _ ih => undef :: ih) n
noncomputable def tkT (n : Nat) (vs : List Value) (c : List Value → List Value) : List Value := Nat.rec (motive := fun _ => List Value → List Value) c (fun _ ih vs => List.rec (motive := fun _ => List Value) [] (fun v t _ => v :: ih t) vs) n vs
noncomputable def drT (n : Nat) (vs : List Value) : List Value := Nat.rec (motive := fun _ => List Value → List Value) (fun l => l) (fun _ ih vs => List.rec (motive := fun _ => List Value) [] (fun _ t _ => ih t) vs) n vs
/-- A frame: so many values that are told, so many that aren't, and so on. -/
noncomputable def mrg (u : Nat → Value) : List (Nat × Nat) → List Value → Nat → List Value
  | [], vs, _ => vs
  | (k, j) :: r, vs, a => tkT k vs fun vs' => jksT u (mrg u r vs' (a + k + j)) j (a + k)
noncomputable def strip : List (Nat × Nat) → List Value → List Value
  | [], t => t
  | (k, j) :: r, t => tkT k t fun t' => strip r (drT j t')
def tot : List (Nat × Nat) → Nat
  | [] => 0
  | (k, j) :: r => k + j + tot r
theorem tkT_back {u : Nat → Value} {c c' : List Value → List Value} : ∀ (k : Nat) (t : List Value), k ≤ t.length → (c' (c (t.drop k)) = t.drop k) → tkT k (tkT k t c) c' = t
  | 0, t, _, h => by
    show c' (c t) = t
    simpa using h
  | k + 1, [], h, _ => by simp at h
  | k + 1, v :: t, h, hc => by
    have := tkT_back (u := u) (c := c) (c' := c') k t (by simpa using h) (by simpa using hc)
    show v :: tkT k (tkT k t c) c' = _
    rw [this]
theorem drT_eq : ∀ (j : Nat) (t : List Value), drT j t = t.drop j
  | 0, t => rfl
  | j + 1, [] => rfl
  | j + 1, v :: t => drT_eq j t
theorem jksT_back {u : Nat → Value} {rest : List Value} : ∀ (j a : Nat) (t : List Value), j ≤ t.length → (∀ i, u (a + i) = t.getD i undef) → rest = t.drop j → jksT u rest j a = t
  | 0, a, t, _, _, h => h
  | j + 1, a, [], h, _, _ => by simp at h
  | j + 1, a, v :: t, h, hu, hr => by
    have h0 := hu 0
    simp only [Nat.add_zero, List.getD_cons_zero] at h0
    have := jksT_back (u := u) (rest := rest) j (a + 1) t (by simpa using h) (fun i => by have := hu (i + 1); rw [show a + 1 + i = a + (i + 1) by omega, this]; simp) (by simpa using hr)
    show u a :: jksT u rest j (a + 1) = _
    rw [this, h0]
theorem mrg_strip {u : Nat → Value} : ∀ (ms : List (Nat × Nat)) (t : List Value) (a : Nat), tot ms ≤ t.length → (∀ i, u (a + i) = t.getD i undef) → mrg u ms (strip ms t) a = t
  | [], t, a, _, _ => rfl
  | (k, j) :: r, t, a, h, hu => by
    have h : k + j + tot r ≤ t.length := h
    show tkT k (tkT k t fun t' => strip r (drT j t')) (fun vs' => jksT u (mrg u r vs' (a + k + j)) j (a + k)) = t
    refine tkT_back (u := u) k t (by omega) ?_
    refine jksT_back j (a + k) (t.drop k) (by simp; omega) (fun i => by rw [show a + k + i = a + (k + i) by omega, hu]; simp [List.getD]) ?_
    show mrg u r (strip r (drT j (t.drop k))) (a + k + j) = _
    rw [drT_eq]
    exact mrg_strip r _ _ (by simp; omega) (fun i => by rw [show a + k + j + i = a + (k + j + i) by omega, hu]; simp [List.getD, Nat.add_assoc])
noncomputable def mrgF (ms : List (Nat × Nat)) (vals : List L1 → List Value) (m : Nat) : List L1 → List Value := fun ls => mrg (lget ls m).u ms (vals ls) 0
theorem mrgF_junk {ms : List (Nat × Nat)} {vals : List L1 → List Value} {m : Nat} {ls : List L1} {t : List Value} (hl : lget ls m = junk t) (ht : tot ms ≤ t.length) (hs : strip ms t = vals ls) : mrgF ms vals m ls = t := by
  show mrg (lget ls m).u ms (vals ls) 0 = t
  rw [hl, ← hs]
  exact mrg_strip ms t 0 ht fun i => by simp [junk]
noncomputable def lftM (e : Ex) (k : Nat) (sel : List Nat) (ms : List (Nat × Nat)) (r : Option (St × List Obj × Obl)) : Option (List Tok) :=
  match r with
  | some ((e', t', _), H', o) => match exB e' e && eqL (sel.take k) (List.range k) && nodupB sel && Nat.ble (tot ms) t'.length with
    | true => match pick H' sel with
      | some l => some (.vs (strip ms t') :: .hs (l ++ [unb]) :: o.map Prod.fst)
      | none => none
    | false => none
  | none => none
def rgtM (vals : List L1 → List Value) (Hs' : List L1 → List Obj) (ls : List L1) (r : Option (St × List Obj × Obl)) : Option (List Tok) :=
  match r with
  | some ((_, t', _), _, o) => some (.vs (vals (ls ++ [junk t'])) :: .hs (Hs' (ls ++ [junk t'])) :: o.map Prod.snd)
  | none => some []
theorem lftM_C {e : Ex} {k : Nat} {sel : List Nat} {ms : List (Nat × Nat)} {r : Option (St × List Obj × Obl)} {vals : List L1 → List Value} {Hs' : List L1 → List Obj} {ls : List L1} (h : lftM e k sel ms r = rgtM vals Hs' ls r) : lftC e k sel r = rgtC (mrgF ms vals ls.length) Hs' ls r := by
  unfold lftM rgtM at h
  unfold lftC rgtC
  split at h
  · split at h
    · rename_i hc
      split at h
      · rename_i l hp
        simp only [Bool.and_eq_true] at hc
        have hc3 := hc.2
        simp only [Option.some.injEq, List.cons.injEq, Tok.vs.injEq, Tok.hs.injEq] at h
        obtain ⟨h1, h2, h3⟩ := h
        have hm := mrgF_junk (ms := ms) (vals := vals) (m := ls.length) (by simp [lget]) (Nat.le_of_ble_eq_true hc3) h1
        simp only [hc.1.1.1, hc.1.1.2, hc.1.2, Bool.and_self, hp]
        rw [hm, h2, h3]
      · cases h
    · cases h
  · cases h
theorem goes_runM {P : Program} {M : Nat → Prop} {B0 : Nat} {S : World → Prop} (hU : Up M B0 S) {x : Code} {n : Nat} {fr : List L1 → List Value} {Hs : List L1 → List Obj} {e : Ex} {k : Nat} {ms : List (Nat × Nat)} {vals : List L1 → List Value} {m : Nat} {Hs' : List L1 → List Obj} {n' : Nat} (sc : List (PG P M B0 S)) (sel : List Nat)
    (hH : ∀ b : Lt, (Hs (lts b n)).length = n) (hk : k ≤ n) (hn : n' = sel.length + 1) (hm : m = sel.length)
    (hrun : ∀ b : Lt, lftM e k sel ms (symCode P b 100000 false x (sc.map PG.it) (fr (lts b n)) (Hs (lts b n))) = rgtM vals Hs' (sel.map b) (symCode P b 100000 false x (sc.map PG.it) (fr (lts b n)) (Hs (lts b n)))) :
    GoesG P M B0 S x n fr Hs e k (mrgF ms vals m) Hs' n' := by
  refine goes_runG hU sc sel hH hk hn fun b => ?_
  have := lftM_C (hrun b)
  rw [List.length_map] at this
  subst hm
  exact this
/-! ### Loops whose rounds may fail -/
def runO {σ τ : Type} (st : σ → Option (σ ⊕ τ)) : Nat → σ → Option τ
  | 0, _ => none
  | n + 1, s => match st s with
    | none => none
    | some (.inl s') => runO st n s'
    | some (.inr r) => some r
theorem runO_mono {σ τ : Type} {st : σ → Option (σ ⊕ τ)} : ∀ {n : Nat} {s : σ} {r : τ}, runO st n s = some r → ∀ m, n ≤ m → runO st m s = some r
  | 0, s, r, h, _, _ => by cases h
  | n + 1, s, r, h, m, hm => by
    obtain ⟨m, rfl⟩ : ∃ k, m = k + 1 := ⟨m - 1, by omega⟩
    unfold runO at h ⊢
    split at h
    · cases h
    · exact runO_mono h m (by omega)
    · exact h
theorem runO_det {σ τ : Type} {st : σ → Option (σ ⊕ τ)} {n m : Nat} {s : σ} {r r' : τ} (h : runO st n s = some r) (h' : runO st m s = some r') : r = r' := by
  have h1 := runO_mono h (max n m) (Nat.le_max_left ..)
  rw [runO_mono h' (max n m) (Nat.le_max_right ..)] at h1
  injection h1 with h1
  exact h1.symm
open Classical in
noncomputable def lpO {σ τ : Type} (st : σ → Option (σ ⊕ τ)) (s : σ) : Option τ := if h : ∃ r n, runO st n s = some r then some (Classical.choose h) else none
theorem lpO_iff {σ τ : Type} {st : σ → Option (σ ⊕ τ)} {s : σ} {r : τ} : lpO st s = some r ↔ ∃ n, runO st n s = some r := by
  unfold lpO
  constructor
  · intro h
    split at h
    · rename_i hex
      obtain ⟨n, hn⟩ := Classical.choose_spec hex
      injection h with h
      exact ⟨n, h ▸ hn⟩
    · cases h
  · rintro ⟨n, hn⟩
    have hex : ∃ r n, runO st n s = some r := ⟨r, n, hn⟩
    rw [dif_pos hex]
    obtain ⟨m, hm⟩ := Classical.choose_spec hex
    exact congrArg some (runO_det hm hn)
theorem lpO_next {σ τ : Type} {st : σ → Option (σ ⊕ τ)} {s s' : σ} (h : st s = some (.inl s')) : lpO st s = lpO st s' := by
  have key : ∀ r, lpO st s = some r ↔ lpO st s' = some r := fun r => by
    rw [lpO_iff, lpO_iff]
    constructor
    · rintro ⟨n, hn⟩
      cases n with
      | zero => cases hn
      | succ n => unfold runO at hn; rw [h] at hn; exact ⟨n, hn⟩
    · rintro ⟨n, hn⟩
      exact ⟨n + 1, by unfold runO; rw [h]; exact hn⟩
  cases e : lpO st s' with
  | some r => exact (key r).2 e
  | none =>
    cases e' : lpO st s with
    | none => rfl
    | some r => rw [(key r).1 e'] at e; cases e
theorem lpO_end {σ τ : Type} {st : σ → Option (σ ⊕ τ)} {s : σ} {r : τ} (h : st s = some (.inr r)) : lpO st s = some r := lpO_iff.2 ⟨1, by unfold runO; rw [h]⟩
/-- What a loop comes to, by induction. -/
theorem lpO_ind {σ τ : Type} {st : σ → Option (σ ⊕ τ)} (I : σ → Prop) (μ : σ → Nat) (Pr : σ → τ → Prop)
    (hr : ∀ s, I s → (∃ s', st s = some (.inl s') ∧ I s' ∧ μ s' < μ s ∧ ∀ r, Pr s' r → Pr s r) ∨ (∃ r, st s = some (.inr r) ∧ Pr s r)) : ∀ s, I s → ∃ r, lpO st s = some r ∧ Pr s r := by
  have key : ∀ n s, μ s < n → I s → ∃ r, lpO st s = some r ∧ Pr s r := by
    intro n
    induction n with
    | zero => intro s h; omega
    | succ n ih =>
      intro s hn hI
      rcases hr s hI with ⟨s', h1, h2, h3, h4⟩ | ⟨r, h1, h2⟩
      · obtain ⟨r, h5, h6⟩ := ih s' (by omega) h2
        exact ⟨r, (lpO_next h1).trans h5, h4 r h6⟩
      · exact ⟨r, lpO_end h1, h2⟩
  exact fun s hI => key (μ s + 1) s (by omega) hI
theorem goes_lpO {P : Program} {M : Nat → Prop} {B0 : Nat} {S : World → Prop} {σ τ : Type} {x : Code} {n k nf : Nat} {fr : σ → List L1 → List Value} {Hs : σ → List L1 → List Obj} {ex : τ → Ex} {vf : τ → List L1 → List Value} {Hf : τ → List L1 → List Obj} {st : σ → Option (σ ⊕ τ)}
    (hg : ∀ s q, st s = some q → match q with
      | .inl s' => GoesG P M B0 S x n (fr s) (Hs s) .normal k (fr s') (Hs s') n
      | .inr r => ex r ≠ .normal ∧ GoesG P M B0 S x n (fr s) (Hs s) (ex r) k (vf r) (Hf r) nf) (s : σ) (r : τ) (h : lpO st s = some r) :
    GoesG P M B0 S (.loop x) n (fr s) (Hs s) (ex r) k (vf r) (Hf r) nf := by
  have key : ∀ N s, runO st N s = some r → ∀ (X : Nat → Prop) (B : Nat) (b : Lt) (w : World), (∀ k, X k ∨ B ≤ k → M k ∨ B0 ≤ k) → Sat X B b (Hs s (lts b n)) w → S w → ∀ (Q : Exit → Act → World → Prop) (d : List Deferred),
      (∀ b' w', agree k b' b → Sat X B b' (Hf r (lts b' nf)) w' → S w' → Chg X B w w' → Q (ex r).to ⟨(vf r (lts b' nf)).toArray, d⟩ w') → Code.rounds P x Q N ⟨(fr s (lts b n)).toArray, d⟩ w := by
    intro N
    induction N with
    | zero => intro s h; cases h
    | succ N ih =>
      intro s hN X B b w hx hs hS Q d K
      show x.wp P (Exit.then (Code.rounds P x Q N) Q) _ _
      unfold runO at hN
      split at hN
      · cases hN
      · rename_i s' e
        refine hg s _ e X B b w hx hs hS _ d fun b' w' ag hs' hS' hch => ?_
        show Code.rounds P x Q N _ _
        exact ih s' hN X B b' w' hx hs' hS' Q d fun b'' w'' ag' hs'' hS'' hch' => K b'' w'' (ag'.trans ag) hs'' hS'' (hch.trans hch')
      · rename_i r' e
        injection hN with hN
        subst hN
        obtain ⟨hne, hgo⟩ := hg s _ e
        refine hgo X B b w hx hs hS _ d fun b' w' ag hs' hS' hch => ?_
        have := K b' w' ag hs' hS' hch
        cases he : ex r' with
        | normal => exact absurd he hne
        | exit id => rw [he] at this; exact this
        | goto l => rw [he] at this; exact this
        | ret => rw [he] at this; exact this
  obtain ⟨N, hN⟩ := lpO_iff.1 h
  intro X B b w hx hs hS Q d K
  exact wp_loop_rounds N (key N s hN X B b w hx hs hS Q d K)
theorem spc_of_goesG {P : Program} {M : Nat → Prop} {B0 : Nat} {S : World → Prop} (hU : Up M B0 S) (p : Nat) {x : Code} {k0 : Nat} {fr : List L1 → List Value} {Hs : List L1 → List Obj} {e : Ex} {k : Nat} {fr' : List L1 → List Value} {Hs' : List L1 → List Obj} {n' : Nat} (hg : GoesG P M B0 S x (k0 + (p + 1)) fr Hs e k fr' Hs' n')
    (t0 : List L1 → List Value) (pre : List L1 → List Obj) (h0 : ∀ ls, (pre ls).length = k0) (h1 : ∀ ls, ls.length = k0 → fr (ls ++ List.replicate (p + 1) (junk (t0 ls))) = t0 ls) (h2 : ∀ ls, ls.length = k0 → Hs (ls ++ List.replicate (p + 1) (junk (t0 ls))) = pre ls ++ List.replicate (p + 1) unb)
    (hk : k ≤ k0) (hk' : k ≤ n') (h3 : ∀ ls, (Hs' ls).length = n') :
    SpcG P M B0 S ⟨fun ls => .code x (t0 ls), pre, n' - k, e, fun ls => fr' (ls.take k ++ ls.drop k0), fun ls => (Hs' (ls.take k ++ ls.drop k0)).take k ++ List.replicate (k0 - k) unb, fun ls => (Hs' (ls.take k ++ ls.drop k0)).drop k⟩ := by
  intro ls w hlen hsl htb hS
  have hpl : (pre ls).length = k0 := h0 ls
  have hl : ls.length = k0 := hlen.symm.trans hpl
  show ∀ (Q : Exit → Act → World → Prop) (d : List Deferred), _ → _
  intro Q d K
  have el : lts (ofL (ls ++ List.replicate (p + 1) (junk (t0 ls)))) (k0 + (p + 1)) = ls ++ List.replicate (p + 1) (junk (t0 ls)) := by
    have := lts_ofL (ls ++ List.replicate (p + 1) (junk (t0 ls)))
    simpa [hl] using this
  have hb : ∀ (i : Nat) l, ls[i]? = some l → ofL (ls ++ List.replicate (p + 1) (junk (t0 ls))) i = l := fun i l hi => by
    have := (List.getElem?_eq_some_iff.1 hi).1
    simp [ofL, List.getElem?_append_left this, hi]
  have hsat : Sat (touchF ls (pre ls)) w.heap.size (ofL (ls ++ List.replicate (p + 1) (junk (t0 ls)))) (pre ls ++ List.replicate (p + 1) unb) w := by
    have key : ∀ (i : Nat) (o : Obj), (pre ls ++ List.replicate (p + 1) unb)[i]? = some o → o ≠ unb → ∃ l, (pre ls)[i]? = some o ∧ ls[i]? = some l ∧ ofL (ls ++ List.replicate (p + 1) (junk (t0 ls))) i = l := by
      intro i o ho hr
      by_cases hi : i < (pre ls).length
      · rw [List.getElem?_append_left hi] at ho
        have : i < ls.length := by omega
        exact ⟨ls[i], ho, List.getElem?_eq_getElem this, hb i _ (List.getElem?_eq_getElem this)⟩
      · rw [List.getElem?_append_right (by omega)] at ho
        have : o = unb := by
          rw [List.getElem?_replicate] at ho
          split at ho
          · simpa using ho.symm
          · simp at ho
        exact absurd this hr
    have nu : ∀ {o : Obj} {l : L1} {k x : Nat} {q : Obj}, own o l k = some (x, q) → o ≠ unb := fun h e => by subst e; cases h
    refine ⟨fun i k o x q hi hr => ?_, fun i k o x q hi hr => ?_, fun i j k k' o o' x q q' hi hr hj hr' => ?_, Nat.le_refl _⟩
    · obtain ⟨l, h4, h5, h6⟩ := key i o hi (nu hr)
      rw [h6] at hr; exact hsl.hold i k o l x q h4 h5 hr
    · obtain ⟨l, h4, h5, h6⟩ := key i o hi (nu hr)
      rw [h6] at hr; exact .inl ⟨i, k, o, l, q, h4, h5, hr⟩
    · obtain ⟨l, h4, h5, h6⟩ := key i o hi (nu hr)
      obtain ⟨l', h4', h5', h6'⟩ := key j o' hj (nu hr')
      rw [h6] at hr; rw [h6'] at hr'
      exact hsl.inj i j k k' o o' l l' x q q' h4 h5 hr h4' h5' hr'
  have := hg (touchF ls (pre ls)) w.heap.size (ofL (ls ++ List.replicate (p + 1) (junk (t0 ls)))) w (fun k h => h.elim (htb k) (fun h => .inr (Nat.le_trans (hU.base w hS) h))) (by rw [el, h2 ls hl]; exact hsat) hS Q d fun b' w' ag hs' _ hch => ?_
  · rw [el, h1 ls hl] at this
    exact this
  · refine K _ w' ⟨(lts b' n').drop k, by simp [lts_len], ?_, hch, fun _ => ?_⟩
    all_goals
      have e1 : (lts b' n').take k = ls.take k := by
        apply List.ext_getElem?
        intro i
        by_cases hi : i < k
        · rw [List.getElem?_take_of_lt hi, List.getElem?_take_of_lt hi, lts_get _ (by omega), ag i hi]
          have : i < ls.length := by omega
          rw [List.getElem?_eq_getElem this, hb i _ (List.getElem?_eq_getElem this)]
        · rw [List.getElem?_eq_none (by simp [lts_len]; omega), List.getElem?_eq_none (by simp; omega)]
      have e2 : (ls ++ (lts b' n').drop k).take k ++ (ls ++ (lts b' n').drop k).drop k0 = lts b' n' := by
        rw [List.take_append_of_le_length (by omega), ← hl, List.drop_left, ← e1]
        exact List.take_append_drop ..
    · show fr' (lts b' n') = fr' _
      rw [e2]
    · show SatF _ (_ ++ _) w' ∧ ∀ (j k : Nat) (o : Obj) (l : L1) (x : Nat) (p : Obj), (_ ++ _)[j]? = some o → _ → own o l k = some (x, p) → _
      simp only [e2]
      have key : ∀ (j : Nat) (o : Obj), (((Hs' (lts b' n')).take k ++ List.replicate (k0 - k) unb) ++ (Hs' (lts b' n')).drop k)[j]? = some o → o ≠ unb → ∀ l, (ls ++ (lts b' n').drop k)[j]? = some l →
          ∃ i, (Hs' (lts b' n'))[i]? = some o ∧ b' i = l ∧ ((j < k ∧ i = j) ∨ (k0 ≤ j ∧ i = j - k0 + k)) := by
        intro j o hj hr l hjl
        have hT : ((Hs' (lts b' n')).take k).length = k := by simp [h3]; omega
        by_cases h4 : j < k
        · rw [List.getElem?_append_left (by simp [hT]; omega), List.getElem?_append_left (by omega), List.getElem?_take_of_lt h4] at hj
          rw [List.getElem?_append_left (by omega)] at hjl
          exact ⟨j, hj, by rw [ag j h4]; exact hb j l hjl, .inl ⟨h4, rfl⟩⟩
        · by_cases h5 : j < k0
          · rw [List.getElem?_append_left (by simp [hT]; omega), List.getElem?_append_right (by omega), List.getElem?_replicate] at hj
            split at hj
            · simp at hj; exact absurd hj.symm hr
            · cases hj
          · rw [List.getElem?_append_right (by simp [hT]; omega), List.getElem?_drop] at hj
            rw [List.getElem?_append_right (by omega), List.getElem?_drop] at hjl
            have h6 : k + (j - ((Hs' (lts b' n')).take k ++ List.replicate (k0 - k) unb).length) = j - k0 + k := by simp [hT]; omega
            rw [h6] at hj
            have h7 : k + (j - ls.length) = j - k0 + k := by omega
            rw [h7] at hjl
            have h8 := (List.getElem?_eq_some_iff.1 hj).1
            rw [h3] at h8
            rw [lts_get _ h8] at hjl
            exact ⟨_, hj, by simpa using hjl, .inr ⟨by omega, rfl⟩⟩
      have nu : ∀ {o : Obj} {l : L1} {k x : Nat} {q : Obj}, own o l k = some (x, q) → o ≠ unb := fun h e => by subst e; cases h
      refine ⟨⟨fun j k o l x q hj hjl hr => ?_, fun i j k k' o o' l l' x q q' hi hil hr hj hjl hr' => ?_⟩, fun j k o l x q hj hjl hr => ?_⟩
      · obtain ⟨i, h4, h5, _⟩ := key j o hj (nu hr) l hjl
        rw [← h5] at hr; exact hs'.hold_ i k o x q h4 hr
      · obtain ⟨i1, h4, h5, h6⟩ := key i o hi (nu hr) l hil
        obtain ⟨i2, h4', h5', h6'⟩ := key j o' hj (nu hr') l' hjl
        rw [← h5] at hr; rw [← h5'] at hr'
        obtain ⟨h7, h8⟩ := hs'.inj_ i1 i2 k k' o o' x q q' h4 hr h4' hr'
        exact ⟨by omega, h8⟩
      · obtain ⟨i, h4, h5, _⟩ := key j o hj (nu hr) l hjl
        rw [← h5] at hr
        exact (hs'.mine_ i k o x q h4 hr).symm
theorem fr_of_mask {ms : List (Nat × Nat)} {vals : List L1 → List Value} {k pl : Nat} {t0 : List L1 → List Value} (h : ∀ ls, ls.length = k → Nat.ble (tot ms) (t0 ls).length = true ∧ strip ms (t0 ls) = vals (ls ++ List.replicate (pl + 1) (junk (t0 ls)))) : ∀ ls, ls.length = k → mrgF ms vals (k + pl) (ls ++ List.replicate (pl + 1) (junk (t0 ls))) = t0 ls := fun ls hl => by
  obtain ⟨h1, h2⟩ := h ls hl
  refine mrgF_junk ?_ (Nat.le_of_ble_eq_true h1) h2
  unfold lget
  rw [List.getD, List.getElem?_append_right (by omega), hl, Nat.add_sub_cancel_left]
  simp
theorem spc_of_goesM {P : Program} {M : Nat → Prop} {B0 : Nat} {S : World → Prop} (hU : Up M B0 S) (p : Nat) {x : Code} {k0 : Nat} {ms : List (Nat × Nat)} {vals : List L1 → List Value} {Hs : List L1 → List Obj} {e : Ex} {k : Nat} {fr' : List L1 → List Value} {Hs' : List L1 → List Obj} {n' : Nat} (hg : GoesG P M B0 S x (k0 + (p + 1)) (mrgF ms vals (k0 + p)) Hs e k fr' Hs' n')
    (t0 : List L1 → List Value) (pre : List L1 → List Obj) (h0 : ∀ ls, (pre ls).length = k0) (h1 : ∀ ls, ls.length = k0 → Nat.ble (tot ms) (t0 ls).length = true ∧ strip ms (t0 ls) = vals (ls ++ List.replicate (p + 1) (junk (t0 ls)))) (h2 : ∀ ls, ls.length = k0 → Hs (ls ++ List.replicate (p + 1) (junk (t0 ls))) = pre ls ++ List.replicate (p + 1) unb)
    (hk : k ≤ k0) (hk' : k ≤ n') (h3 : ∀ ls, (Hs' ls).length = n') :
    SpcG P M B0 S ⟨fun ls => .code x (t0 ls), pre, n' - k, e, fun ls => fr' (ls.take k ++ ls.drop k0), fun ls => (Hs' (ls.take k ++ ls.drop k0)).take k ++ List.replicate (k0 - k) unb, fun ls => (Hs' (ls.take k ++ ls.drop k0)).drop k⟩ :=
  spc_of_goesG hU p hg t0 pre h0 (fr_of_mask h1) h2 hk hk' h3
theorem fn_specG {P : Program} {M : Nat → Prop} {B0 : Nat} {S : World → Prop} (hU : Up M B0 S) {f : FuncId} {fn : Func} (hf : P.funcs[f]? = some fn) (hF : ∀ xs w, (callFunc f xs).run P w = .ok (.enter f xs) w) (n : Nat) (args : List L1 → List Value) (pre : List L1 → List Obj) (h0 : ∀ ls, (pre ls).length = n)
    (V : List L1 → Value) (post new : List L1 → List Obj) (sel : List Nat) (sc : List (PG P M B0 S)) (ra : List Nat)
    (hrun : ∀ b, lftF n sel (symFn P b fn (args (lts b n)) (sc.map PG.it) (ra.map Acc.blk) (pre (lts b n))) = rgtF (V (lts b n ++ sel.map b)) (post (lts b n ++ sel.map b)) (new (lts b n ++ sel.map b)) (symFn P b fn (args (lts b n)) (sc.map PG.it) (ra.map Acc.blk) (pre (lts b n)))) :
    SpcG P M B0 S ⟨fun ls => .call f (args ls).toArray, pre, sel.length, .normal, fun ls => [V ls], post, new⟩ := by
  intro ls w hlen hsl htb hS
  have hx : ∀ k, touchF ls (pre ls) k ∨ w.heap.size ≤ k → M k ∨ B0 ≤ k := fun k h => h.elim (htb k) (fun h => .inr (Nat.le_trans (hU.base w hS) h))
  have hpl : (pre ls).length = n := h0 ls
  have hl : ls.length = n := hlen.symm.trans hpl
  have el : lts (ofL ls) n = ls := by rw [← hl]; exact lts_ofL ls
  have hb : ∀ (i : Nat) l, ls[i]? = some l → ofL ls i = l := fun i l hi => by simp [ofL, hi]
  have hsat : Sat (touchF ls (pre ls)) w.heap.size (ofL ls) (pre ls) w := by
    have key : ∀ (i : Nat) (o : Obj), (pre ls)[i]? = some o → ∃ l, ls[i]? = some l ∧ ofL ls i = l := by
      intro i o ho
      have := (List.getElem?_eq_some_iff.1 ho).1
      have : i < ls.length := by omega
      exact ⟨ls[i], List.getElem?_eq_getElem this, hb i _ (List.getElem?_eq_getElem this)⟩
    refine ⟨fun i k o x q hi hr => ?_, fun i k o x q hi hr => ?_, fun i j k k' o o' x q q' hi hr hj hr' => ?_, Nat.le_refl _⟩
    · obtain ⟨l, h5, h6⟩ := key i o hi
      rw [h6] at hr; exact hsl.hold i k o l x q hi h5 hr
    · obtain ⟨l, h5, h6⟩ := key i o hi
      rw [h6] at hr; exact .inl ⟨i, k, o, l, q, hi, h5, hr⟩
    · obtain ⟨l, h5, h6⟩ := key i o hi
      obtain ⟨l', h5', h6'⟩ := key j o' hj
      rw [h6] at hr; rw [h6'] at hr'
      exact hsl.inj i j k k' o o' l l' x q q' hi h5 hr hj h5' hr'
  refine ⟨hF _ w, ?_⟩
  have hran : Ran (pre ls).length (ofL ls) (fun b => symFn P b fn (args ls) (sc.map PG.it) (ra.map Acc.blk) (pre ls)) := fun c hc => by
    rw [h0 ls] at hc
    obtain ⟨H', o, h1, h2, _⟩ := lft_rgtF (hrun c)
    rw [lts_agree hc, el] at h1
    exact ⟨_, H', o, h1, h2⟩
  refine (fn_wp (S := S) hf (args ls) (sc.map PG.it) (ra.map Acc.blk) (pre ls) (ofL ls) w hsat hS (fun w1 w2 h1 h2 => hU.chg hx h1 h2) ((PG.all sc).ok hx) (fun x hx => by
    obtain ⟨i, _, rfl⟩ := List.mem_map.1 hx; trivial) hran).mono fun e w' ⟨c, V', H, o, ag, h1, h2, h3, h4, h5⟩ => ?_
  rw [h0 ls] at ag
  obtain ⟨H', o', h6, h7, h8, h9, h10⟩ := lft_rgtF (hrun c)
  rw [lts_agree ag, el] at h6 h9 h10
  have := h6.symm.trans h1
  simp only [Option.some.injEq, Prod.mk.injEq] at this
  obtain ⟨rfl, rfl, rfl⟩ := this
  have hsel := h4.sel h8 h9 ⟨0, fun _ => undef⟩
  have full : (List.range n ++ sel).map c = ls ++ sel.map c := by
    rw [List.map_append]
    have : (List.range n).map c = lts c n := rfl
    rw [this, lts_agree ag, el]
  have lk : ∀ (j : Nat) l, (ls ++ sel.map c)[j]? = some l → reLt c (List.range n ++ sel) ⟨0, fun _ => undef⟩ j = l := fun j l hj => by
    rw [← full, List.getElem?_map] at hj
    cases hx : (List.range n ++ sel)[j]? with
    | none => rw [hx] at hj; cases hj
    | some k =>
      rw [hx] at hj
      have hlt := (List.getElem?_eq_some_iff.1 hx).1
      have h11 : (List.range n ++ sel).getD j 0 = k := by simp [List.getD, hx]
      unfold reLt
      rw [if_pos hlt, h11]
      simpa using hj
  have up : ∀ (j : Nat) o, (post (ls ++ sel.map c) ++ new (ls ++ sel.map c))[j]? = some o → (post (ls ++ sel.map c) ++ new (ls ++ sel.map c) ++ [unb])[j]? = some o := fun j o hj => by
    rw [List.getElem?_append_left (List.getElem?_eq_some_iff.1 hj).1]; exact hj
  refine ⟨_, h3, sel.map c, by simp, rfl, h5, fun _ => ⟨⟨fun j k o l x q hj hjl hr => ?_, fun i j k k' o o' l l' x q q' hi hil hr hj hjl hr' => ?_⟩, fun j k o l x q hj hjl hr => ?_⟩⟩
  · rw [← lk j l hjl] at hr; exact hsel.hold_ j k o x q (up j o hj) hr
  · rw [← lk i l hil] at hr; rw [← lk j l' hjl] at hr'
    exact hsel.inj_ i j k k' o o' x q q' (up i o hi) hr (up j o' hj) hr'
  · rw [← lk j l hjl] at hr
    exact (hsel.mine_ j k o x q (up j o hj) hr).symm

/-! ### What is told with a failure in it -/
theorem bindO_eq {α β : Type} {x : Option α} {f : α → Option β} {r : β} (h : x.bind f = some r) : ∃ y, x = some y ∧ f y = some r := by
  cases x with
  | none => cases h
  | some y => exact ⟨y, rfl, h⟩
theorem cond_eq_or {α : Type} {c : Bool} {a b r : α} (h : cond c a b = r) : (c = true ∧ a = r) ∨ (c = false ∧ b = r) := by
  cases c
  · exact .inr ⟨rfl, h⟩
  · exact .inl ⟨rfl, h⟩
theorem none_some {α : Type} {r : α} {p : Prop} (h : (none : Option α) = some r) : p := by cases h
end Go.Proofs.YtlpjdjbophcomaaDoor

