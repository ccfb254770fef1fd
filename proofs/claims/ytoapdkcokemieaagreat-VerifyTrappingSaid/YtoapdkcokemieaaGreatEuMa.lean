/-
  Calls that are told apart: what they come back with, and what they made. Nothing of the program stands here.
-/
import Derived.Test.YtoapdkcokemieaaGreatEuM
namespace Go.Proofs.YtoapdkcokemieaaGreat.Ev
open Go.RowKit
noncomputable section
set_option linter.unusedVariables false
set_option linter.unusedSimpArgs false
set_option linter.unusedSectionVars false
variable [Fs] [En] [FsOk]
/-! ### Are two values the same -/
def eqL {β : Type} (f : β → β → Bool) : List β → List β → Bool
  | [], [] => true
  | x :: l, y :: m => match f x y with
    | true => eqL f l m
    | false => false
  | _, _ => false
theorem eqL_ok {β : Type} {f : β → β → Bool} (hf : ∀ x y, f x y = true → x = y) : ∀ {l m : List β}, eqL f l m = true → l = m
  | [], [], _ => rfl
  | [], _ :: _, h => by simp [eqL] at h
  | _ :: _, [], h => by simp [eqL] at h
  | x :: l, y :: m, h => by
    simp only [eqL] at h
    split at h
    · rename_i hx
      rw [hf x y hx, eqL_ok hf h]
    · cases h
def eqF : Fn → Fn → Bool
  | .func f, .func g => Nat.beq f g
  | .method m, .method n => m == n
  | _, _ => false
theorem eqF_ok {f g : Fn} (h : eqF f g = true) : f = g := by
  cases f <;> cases g <;> simp [eqF] at h
  · rw [h]
  · rw [h]
def eqI : Int → Int → Bool
  | .ofNat m, .ofNat n => Nat.beq m n
  | .negSucc m, .negSucc n => Nat.beq m n
  | _, _ => false
theorem eqI_ok {a b : Int} (h : eqI a b = true) : a = b := by
  cases a <;> cases b <;> simp [eqI] at h
  · rw [h]
  · rw [h]
def eqP : Nat → PV → PV → Bool
  | 0, _, _ => false
  | f + 1, a, b => match a, b with
    | .bl x, .bl y => x == y
    | .it k m, .it l n => k == l && eqI m n
    | .st s, .st t => eqL Nat.beq s t
    | .pt i o, .pt j p => Nat.beq i j && Nat.beq o p
    | .np, .np => true
    | .sl i o l c g, .sl j p m d h => Nat.beq i j && Nat.beq o p && Nat.beq l m && Nat.beq c d && (g == h)
    | .ns, .ns => true
    | .mp i, .mp j => Nat.beq i j
    | .nm, .nm => true
    | .fn g a c, .fn h b d => eqF g h && eqL (eqP f) a b && eqL (eqP f) c d
    | .nf, .nf => true
    | .ic t v, .ic u w => Nat.beq t u && eqP f v w
    | .ni, .ni => true
    | .ag l, .ag m => eqL (eqP f) l m
    | .tp l, .tp m => eqL (eqP f) l m
    | .ss l, .ss m => eqL (eqP f) l m
    | .sy k lo hi e, .sy l lo2 hi2 e2 => k == l && eqI lo lo2 && eqI hi hi2 && eqSE e e2
    | _, _ => false
theorem eqP_ok : ∀ (f : Nat) (a b : PV), eqP f a b = true → a = b
  | 0, a, b, h => by simp [eqP] at h
  | f + 1, a, b, h => by
    have ih := eqP_ok f
    cases a <;> cases b <;> simp only [eqP, Bool.and_eq_true, reduceCtorEq, Bool.false_eq_true, beq_iff_eq] at h <;> try rfl
    · rw [h]
    · rw [h.1, eqI_ok h.2]
    · rw [eqL_ok (fun x y hxy => Nat.eq_of_beq_eq_true hxy) h]
    · rw [Nat.eq_of_beq_eq_true h.1, Nat.eq_of_beq_eq_true h.2]
    · rw [Nat.eq_of_beq_eq_true h.1.1.1.1, Nat.eq_of_beq_eq_true h.1.1.1.2, Nat.eq_of_beq_eq_true h.1.1.2, Nat.eq_of_beq_eq_true h.1.2, h.2]
    · rw [Nat.eq_of_beq_eq_true h]
    · rw [eqF_ok h.1.1, eqL_ok ih h.1.2, eqL_ok ih h.2]
    · rw [Nat.eq_of_beq_eq_true h.1, ih _ _ h.2]
    · rw [eqL_ok ih h]
    · rw [eqL_ok ih h]
    · rw [h.1.1.1, eqI_ok h.1.1.2, eqI_ok h.1.2, eqSE_ok h.2]
    · rw [eqL_ok ih h]
/-! ### Blocks, told -/
inductive AO where
  | row (l : List PV) (T sz : Nat) (g : Bool)
  | mp (es : List (PV × PV × Nat)) (clk : Nat)
  /-- a row of which some cells are known -/
  | part (cs : List (Nat × PV)) (n T sz : Nat) (g : Bool)
/-- Just these cells. -/
def putL : List (Nat × PV) → Tr PV
  | [] => .lf
  | x :: l => (putL l).put x.1 (some x.2)
def AO.obj : AO → AObj
  | .row l T sz g => .row (Tr.fill .lf 0 l) l.length T sz g
  | .mp es clk => .mp es clk
  | .part cs n T sz g => .row (putL cs) n T sz g
def putO : List (Nat × AO) → Tr AObj
  | [] => .lf
  | r :: l => (putO l).put r.1 (some r.2.obj)
/-- Where a number's block is told. -/
theorem putO_mem : ∀ {l : List (Nat × AO)} {i : Nat} {o : AObj}, (putO l).at i = some o → i ∈ l.map (·.1)
  | [], i, o, h => by rw [putO, Tr.at_lf] at h; cases h
  | r :: l, i, o, h => by
    rw [putO, Tr.at_put] at h
    split at h
    · rename_i e; simp [e]
    · have := putO_mem h
      simp only [List.map_cons, List.mem_cons]
      exact .inr this
theorem putO_some : ∀ {l : List (Nat × AO)} {i : Nat}, i ∈ l.map (·.1) → ∃ o, (putO l).at i = some o
  | [], i, h => by simp at h
  | r :: l, i, h => by
    by_cases e : r.1 = i
    · exact ⟨r.2.obj, by rw [putO, Tr.at_put, if_pos e]⟩
    · simp only [List.map_cons, List.mem_cons] at h
      obtain ⟨o, ho⟩ := putO_some (h.resolve_left (fun h => e h.symm))
      exact ⟨o, by rw [putO, Tr.at_put, if_neg e]; exact ho⟩
/-! ### Blocks under other numbers -/
def renG (σ : Nat → Option Nat) : Nat → PV → Option PV
  | _, .bl b => some (.bl b)
  | _, .it k n => some (.it k n)
  | _, .st s => some (.st s)
  | _, .np => some .np
  | _, .ns => some .ns
  | _, .nm => some .nm
  | _, .nf => some .nf
  | _, .ni => some .ni
  | _, .sy k lo hi e => some (.sy k lo hi e)
  | _, .pt i off => match σ i with
    | some j => some (.pt j off)
    | none => none
  | _, .sl i off len c g => match σ i with
    | some j => some (.sl j off len c g)
    | none => none
  | _, .mp i => match σ i with
    | some j => some (.mp j)
    | none => none
  | f + 1, .fn g a c => match mapO (renG σ f) a with
    | some a => match mapO (renG σ f) c with
      | some c => some (.fn g a c)
      | none => none
    | none => none
  | f + 1, .ic t v => match renG σ f v with
    | some v => some (.ic t v)
    | none => none
  | f + 1, .ag l => match mapO (renG σ f) l with
    | some l => some (.ag l)
    | none => none
  | f + 1, .tp l => match mapO (renG σ f) l with
    | some l => some (.tp l)
    | none => none
  | f + 1, .ss l => match mapO (renG σ f) l with
    | some l => some (.ss l)
    | none => none
  | _, _ => none
theorem mapO_ren {b c : Bm} {f : PV → Option PV} (hf : ∀ p u v, f p = some u → V b p v → V c u v) : ∀ (l : List PV) (m : List PV) (l' : List Value), mapO f l = some m → VL b l l' → VL c m l'
  | [], m, l', h, hv => by cases hv; simp [mapO] at h; subst h; exact .nil
  | p :: l, m, l', h, hv => by
    cases hv with
    | cons _ v _ l'' h1 h2 =>
      simp only [mapO] at h
      split at h
      · rename_i y hy
        split at h
        · rename_i m1 hm
          simp at h; subst h
          exact .cons _ _ _ _ (hf _ _ _ hy h1) (mapO_ren hf _ _ _ hm h2)
        · cases h
      · cases h
theorem renG_ok {σ : Nat → Option Nat} {b c : Bm} (hs : ∀ i j, σ i = some j → c j = b i) : ∀ (f : Nat) (p u : PV) (v : Value), renG σ f p = some u → V b p v → V c u v := by
  intro f
  induction f with
  | zero =>
    intro p u v h hv
    cases hv with
    | pt i off x hx =>
      simp only [renG] at h
      split at h
      · rename_i j hj; simp at h; subst h; exact .pt j off x (by rw [hs _ _ hj]; exact hx)
      · cases h
    | sl i off len d g x hx =>
      simp only [renG] at h
      split at h
      · rename_i j hj; simp at h; subst h; exact .sl j off len d g x (by rw [hs _ _ hj]; exact hx)
      · cases h
    | mp i x hx =>
      simp only [renG] at h
      split at h
      · rename_i j hj; simp at h; subst h; exact .mp j x (by rw [hs _ _ hj]; exact hx)
      · cases h
    | bl x => simp [renG] at h; subst h; exact .bl x
    | it k n => simp [renG] at h; subst h; exact .it k n
    | st s => simp [renG] at h; subst h; exact .st s
    | np => simp [renG] at h; subst h; exact .np
    | ns => simp [renG] at h; subst h; exact .ns
    | nm => simp [renG] at h; subst h; exact .nm
    | nf => simp [renG] at h; subst h; exact .nf
    | ni => simp [renG] at h; subst h; exact .ni
    | sy k lo hi e h1 h2 => simp [renG] at h; subst h; exact .sy k lo hi e h1 h2
    | fn g a c a' c' h1 h2 => simp [renG] at h
    | ic t q q' h1 => simp [renG] at h
    | ag l l' h1 => simp [renG] at h
    | tp l l' h1 => simp [renG] at h
    | ss l l' m h1 h2 h3 => simp [renG] at h
  | succ f ih =>
    intro p u v h hv
    cases hv with
    | pt i off x hx =>
      simp only [renG] at h
      split at h
      · rename_i j hj; simp at h; subst h; exact .pt j off x (by rw [hs _ _ hj]; exact hx)
      · cases h
    | sl i off len d g x hx =>
      simp only [renG] at h
      split at h
      · rename_i j hj; simp at h; subst h; exact .sl j off len d g x (by rw [hs _ _ hj]; exact hx)
      · cases h
    | mp i x hx =>
      simp only [renG] at h
      split at h
      · rename_i j hj; simp at h; subst h; exact .mp j x (by rw [hs _ _ hj]; exact hx)
      · cases h
    | bl x => simp [renG] at h; subst h; exact .bl x
    | it k n => simp [renG] at h; subst h; exact .it k n
    | st s => simp [renG] at h; subst h; exact .st s
    | np => simp [renG] at h; subst h; exact .np
    | ns => simp [renG] at h; subst h; exact .ns
    | nm => simp [renG] at h; subst h; exact .nm
    | nf => simp [renG] at h; subst h; exact .nf
    | ni => simp [renG] at h; subst h; exact .ni
    | sy k lo hi e h1 h2 => simp [renG] at h; subst h; exact .sy k lo hi e h1 h2
    | fn g a c a' c' h1 h2 =>
      simp only [renG] at h
      split at h
      · rename_i a2 ha
        split at h
        · rename_i c2 hc
          simp at h; subst h
          exact .fn g a2 c2 a' c' (mapO_ren ih _ _ _ ha h1) (mapO_ren ih _ _ _ hc h2)
        · cases h
      · cases h
    | ic t q q' h1 =>
      simp only [renG] at h
      split at h
      · rename_i q2 hq; simp at h; subst h; exact .ic t q2 q' (ih _ _ _ hq h1)
      · cases h
    | ag l l' h1 =>
      simp only [renG] at h
      split at h
      · rename_i l2 hl; simp at h; subst h; exact .ag l2 l' (mapO_ren ih _ _ _ hl h1)
      · cases h
    | tp l l' h1 =>
      simp only [renG] at h
      split at h
      · rename_i l2 hl; simp at h; subst h; exact .tp l2 l' (mapO_ren ih _ _ _ hl h1)
      · cases h
    | ss l l' m h1 h2 h3 =>
      simp only [renG] at h
      split at h
      · rename_i l2 hl; simp at h; subst h; exact .ss l2 l' m (mapO_ren ih _ _ _ hl h1) h2 h3
      · cases h
theorem renG_none : ∀ (f : Nat) (p u : PV), renG (fun _ => none) f p = some u → u = p := by
  intro f
  induction f with
  | zero => intro p u h; cases p <;> simp [renG] at h <;> exact h.symm
  | succ f ih =>
    have hl : ∀ (l m : List PV), mapO (renG (fun _ => none) f) l = some m → m = l := by
      intro l
      induction l with
      | nil => intro m h; simp [mapO] at h; exact h.symm ▸ rfl
      | cons x l ihl =>
        intro m h
        simp only [mapO] at h
        split at h
        · rename_i y hy
          split at h
          · rename_i k hk
            simp at h; subst h
            rw [ih _ _ hy, ihl _ hk]
          · cases h
        · cases h
    intro p u h
    cases p with
    | fn g a c =>
      simp only [renG] at h
      split at h
      · rename_i a2 ha
        split at h
        · rename_i c2 hc
          simp at h; subst h
          rw [hl _ _ ha, hl _ _ hc]
        · cases h
      · cases h
    | ic t q =>
      simp only [renG] at h
      split at h
      · rename_i q2 hq; simp at h; subst h; rw [ih _ _ hq]
      · cases h
    | ag l =>
      simp only [renG] at h
      split at h
      · rename_i l2 hl2; simp at h; subst h; rw [hl _ _ hl2]
      · cases h
    | tp l =>
      simp only [renG] at h
      split at h
      · rename_i l2 hl2; simp at h; subst h; rw [hl _ _ hl2]
      · cases h
    | ss l =>
      simp only [renG] at h
      split at h
      · rename_i l2 hl2; simp at h; subst h; rw [hl _ _ hl2]
      · cases h
    | _ => simp [renG] at h <;> exact h.symm
/-! ### Calls -/
/-- A call: of which function, with what, which reads the blocks q (numbers below m; their cells name no blocks), what it yields and what it has made: numbers from m on. -/
structure Told where
  f : Nat
  args : List PV
  v : PV
  r : List (Nat × AO)
  n : Nat
  m : Nat := 0
  q : List (Nat × AO) := []
class Hk where
  l : List Told
/-- Which blocks a value names. -/
def blks : Nat → List Nat → PV → List Nat
  | 0, o, _ => o
  | f + 1, o, p => match p with
    | .pt i _ => match o.contains i with
      | true => o
      | false => o ++ [i]
    | .sl i _ _ _ _ => match o.contains i with
      | true => o
      | false => o ++ [i]
    | .ic _ v => blks f o v
    | .ag l => l.foldl (blks f) o
    | .tp l => l.foldl (blks f) o
    | .fn _ a c => c.foldl (blks f) (a.foldl (blks f) o)
    | _ => o
def idxL (x : Nat) : List Nat → Nat → Option Nat
  | [], _ => none
  | y :: l, k => match Nat.beq y x with
    | true => some k
    | false => idxL x l (k + 1)
theorem idxL_ok {x : Nat} : ∀ {l : List Nat} {k j : Nat}, idxL x l k = some j → k ≤ j ∧ l[j - k]? = some x
  | [], k, j, h => by cases h
  | y :: l, k, j, h => by
    unfold idxL at h
    split at h
    · rename_i hb
      simp at h; subst h
      simp [Nat.eq_of_beq_eq_true hb]
    · obtain ⟨h1, h2⟩ := idxL_ok h
      refine ⟨by omega, ?_⟩
      rw [show j - k = (j - (k + 1)) + 1 from by omega]
      simpa using h2
def plainL (l m : List PV) : Bool := match mapO (renG (fun _ => none) 8) l with
  | some k => eqL (eqP 8) k m
  | none => false
theorem plainL_ok {l m : List PV} (h : plainL l m = true) : l = m ∧ ∀ v, v ∈ l → renG (fun _ => none) 8 v = some v := by
  unfold plainL at h
  split at h
  · rename_i k hk
    have e := eqL_ok (fun a b => eqP_ok 8 a b) h
    subst e
    obtain ⟨h1, h2⟩ := mapO_spec hk
    have hv : ∀ v, v ∈ l → renG (fun _ => none) 8 v = some v := by
      intro v hv
      obtain ⟨j, hj⟩ := List.getElem?_of_mem hv
      obtain ⟨y, h3, h4⟩ := h2 j v hj
      rw [h4, renG_none 8 _ _ h4]
    refine ⟨?_, hv⟩
    apply List.ext_getElem?
    intro j
    by_cases hj : j < l.length
    · have h5 : l[j]? = some l[j] := List.getElem?_eq_getElem hj
      obtain ⟨y, h3, h4⟩ := h2 j _ h5
      rw [h5, h3, renG_none 8 _ _ h4]
    · rw [List.getElem?_eq_none (by omega), List.getElem?_eq_none (by omega)]
  · cases h
/-- Are the blocks that are read what they must be? Number k of the list is block k. -/
def chkQs (olds : List Nat) (t : Tr AObj) : Nat → List (Nat × AO) → Bool
  | k, [] => Nat.beq k olds.length
  | k, r :: l => match olds[k]? with
    | some i => match t.at i with
      | some (.row c n T sz g) => match r.2 with
        | .row d T' sz' g' => match c.run 0 n with
          | some d' => (Nat.beq r.1 k && Nat.beq n d.length && Nat.beq T T' && Nat.beq sz sz' && (g == g') && plainL d' d) && chkQs olds t (k + 1) l
          | none => false
        | _ => false
      | _ => false
    | none => false
def nodupB : List Nat → Bool
  | [] => true
  | x :: l => (!(l.contains x)) && nodupB l
theorem nodupB_ok : ∀ {l : List Nat}, nodupB l = true → ∀ (i j x : Nat), l[i]? = some x → l[j]? = some x → i = j
  | [], h => by intro i j x hi; simp at hi
  | y :: l, h => by
    simp only [nodupB, Bool.and_eq_true, Bool.not_eq_true'] at h
    obtain ⟨h2, h3⟩ := h
    have hy : y ∉ l := by simpa using h2
    intro i j x hi hj
    cases i with
    | zero =>
      cases j with
      | zero => rfl
      | succ j =>
        simp at hi hj; subst hi
        exact absurd (List.mem_of_getElem? hj) hy
    | succ i =>
      cases j with
      | zero =>
        simp at hi hj; subst hj
        exact absurd (List.mem_of_getElem? hi) hy
      | succ j =>
        simp at hi hj
        rw [nodupB_ok h3 i j x hi hj]
/-- What is known of a block that is read. -/
theorem chkQs_ok {olds : List Nat} {t : Tr AObj} : ∀ {l : List (Nat × AO)} {k : Nat}, chkQs olds t k l = true → (k ≤ olds.length → k + l.length = olds.length) ∧ ∀ j, k ≤ j → j < k + l.length → ∃ i c n T sz g d, olds[j]? = some i ∧ t.at i = some (.row c n T sz g) ∧ (putO l).at j = some (.row (Tr.fill .lf 0 d) n T sz g) ∧ d.length = n ∧ c.run 0 n = some d ∧ ∀ v, v ∈ d → renG (fun _ => none) 8 v = some v
  | [], k, h => by
    simp only [chkQs] at h
    have := Nat.eq_of_beq_eq_true h
    refine ⟨fun _ => by simpa using this, fun j h1 h2 => by simp at h2; omega⟩
  | r :: l, k, h => by
    unfold chkQs at h
    split at h
    · rename_i i hi
      split at h
      · rename_i c n T sz g hc
        split at h
        · rename_i d T' sz' g' hr
          split at h
          · rename_i d' hd
            simp only [Bool.and_eq_true, beq_iff_eq] at h
            obtain ⟨⟨⟨⟨⟨⟨h1, h2⟩, h3⟩, h4⟩, h5⟩, h6⟩, h7⟩ := h
            have h1 := Nat.eq_of_beq_eq_true h1
            have h2 := Nat.eq_of_beq_eq_true h2
            have h3 := Nat.eq_of_beq_eq_true h3
            have h4 := Nat.eq_of_beq_eq_true h4
            obtain ⟨h8, h9⟩ := plainL_ok h6
            obtain ⟨h10, h11⟩ := chkQs_ok h7
            have hk : k < olds.length := (List.getElem?_eq_some_iff.1 hi).1
            subst h8
            refine ⟨fun _ => by have := h10 (by omega); simp only [List.length_cons]; omega, ?_⟩
            intro j hj hj2
            by_cases e : j = k
            · subst e
              refine ⟨i, c, n, T, sz, g, d', hi, hc, ?_, h2.symm, hd, h9⟩
              rw [putO, Tr.at_put, if_pos h1, hr]
              show some (AObj.row (Tr.fill .lf 0 d') d'.length T' sz' g') = _
              rw [← h2, ← h3, ← h4, ← h5]
            · obtain ⟨i2, c2, n2, T2, sz2, g2, d2, e1, e2, e3, e4⟩ := h11 j (by omega) (by simp only [List.length_cons] at hj2; omega)
              refine ⟨i2, c2, n2, T2, sz2, g2, d2, e1, e2, ?_, e4⟩
              rw [putO, Tr.at_put, if_neg (by omega)]; exact e3
          · cases h
        · cases h
      · cases h
    · cases h
/-- Does a call match? The numbers of the blocks that it reads. -/
def matchT (t : Told) (args : List PV) (H : Hp) : Option (List Nat) := match args.foldl (blks 8) [] with
  | olds => match nodupB olds && (olds.all fun i => Nat.ble (i + 1) H.n) && Nat.beq olds.length t.m && (match mapO (renG (fun i => idxL i olds 0) 8) args with
    | some l => eqL (eqP 8) l t.args
    | none => false) && chkQs olds H.t 0 t.q with
    | true => some olds
    | false => none
theorem matchT_ok {t : Told} {args : List PV} {H : Hp} {olds : List Nat} (h : matchT t args H = some olds) : (∀ (i j x : Nat), olds[i]? = some x → olds[j]? = some x → i = j) ∧ (∀ i, i ∈ olds → i < H.n) ∧ olds.length = t.m ∧ mapO (renG (fun i => idxL i olds 0) 8) args = some t.args ∧ chkQs olds H.t 0 t.q = true := by
  unfold matchT at h
  simp only at h
  generalize args.foldl (blks 8) [] = o at h
  split at h
  · rename_i hb
    simp only [Option.some.injEq] at h; subst h
    simp only [Bool.and_eq_true, List.all_eq_true, Nat.ble_eq] at hb
    obtain ⟨⟨⟨⟨h1, h2⟩, h3⟩, h4⟩, h5⟩ := hb
    refine ⟨nodupB_ok h1, fun i hi => by have := h2 i hi; omega, Nat.eq_of_beq_eq_true h3, ?_, h5⟩
    split at h4
    · rename_i l hl
      rw [hl, eqL_ok (fun a b => eqP_ok 8 a b) h4]
    · cases h4
  · cases h
def findH (f : Nat) (args : List PV) (H : Hp) : List Told → Option (Told × List Nat)
  | [] => none
  | t :: l => match Nat.beq t.f f with
    | true => match matchT t args H with
      | some olds => some (t, olds)
      | none => findH f args H l
    | false => findH f args H l
theorem findH_ok {f : Nat} {args : List PV} {H : Hp} {t : Told} {olds : List Nat} : ∀ {l : List Told}, findH f args H l = some (t, olds) → t ∈ l ∧ t.f = f ∧ matchT t args H = some olds
  | [], h => by cases h
  | u :: l, h => by
    unfold findH at h
    split at h
    · rename_i hb
      split at h
      · rename_i o hp
        simp at h
        obtain ⟨rfl, rfl⟩ := h
        exact ⟨by simp, Nat.eq_of_beq_eq_true hb, hp⟩
      · obtain ⟨h1, h2⟩ := findH_ok h
        exact ⟨by simp [h1], h2⟩
    · obtain ⟨h1, h2⟩ := findH_ok h
      exact ⟨by simp [h1], h2⟩
/-- Under which number a block of a told call stands. -/
def up (olds : List Nat) (m k : Nat) (i : Nat) : Option Nat := match Nat.ble m i with
  | true => some (k + (i - m))
  | false => olds[i]?
def shE (σ : Nat → Option Nat) (x : PV × PV × Nat) : Option (PV × PV × Nat) := match renG σ 8 x.1 with
  | some a => match renG σ 8 x.2.1 with
    | some v => some (a, v, x.2.2)
    | none => none
  | none => none
def shO (σ : Nat → Option Nat) : AO → Option AO
  | .row l T sz g => match mapO (renG σ 8) l with
    | some l => some (.row l T sz g)
    | none => none
  | .mp es clk => match mapO (shE σ) es with
    | some es => some (.mp es clk)
    | none => none
  | .part .. => none
def addS (σ : Nat → Option Nat) (m k : Nat) : List (Nat × AO) → Tr AObj → Option (Tr AObj)
  | [], t => some t
  | r :: l, t => match addS σ m k l t with
    | some t => match shO σ r.2 with
      | some o => match Nat.ble m r.1 with
        | true => some (t.put (k + (r.1 - m)) (some o.obj))
        | false => none
      | none => none
    | none => none
def tell (t : Told) (olds : List Nat) (H : Hp) : Option (PV × Hp) := match renG (up olds t.m H.n) 8 t.v with
  | some v => match addS (up olds t.m H.n) t.m H.n t.r H.t with
    | some tr => some (v, ⟨tr, H.n + t.n⟩)
    | none => none
  | none => none
theorem shE_ok {σ : Nat → Option Nat} {b c : Bm} (hs : ∀ i j, σ i = some j → c j = b i) : ∀ {es fs : List (PV × PV × Nat)} {es' : List MapEntry}, mapO (shE σ) es = some fs → EL b es es' → EL c fs es'
  | [], fs, es', h, hv => by cases hv; simp [mapO] at h; subst h; exact .nil
  | x :: es, fs, es', h, hv => by
    cases hv with
    | cons a v n a' v' _ l' h1 h2 h3 =>
      simp only [mapO] at h
      split at h
      · rename_i y hy
        split at h
        · rename_i m hm
          simp at h; subst h
          unfold shE at hy
          split at hy
          · rename_i k2 hk
            split at hy
            · rename_i v2 hv2
              simp at hy; subst hy
              exact .cons _ _ _ _ _ _ _ (renG_ok hs 8 _ _ _ hk h1) (renG_ok hs 8 _ _ _ hv2 h2) (shE_ok hs hm h3)
            · cases hy
          · cases hy
        · cases h
      · cases h
theorem shO_ok {σ : Nat → Option Nat} {o o2 : AO} (h : shO σ o = some o2) {b c : Bm} (hs : ∀ i j, σ i = some j → c j = b i) {x : Blk} {ob : Obj} (hor : OR b x o.obj ob) : OR c x o2.obj ob := by
  cases o with
  | row l T sz g =>
    simp only [shO] at h
    split at h
    · rename_i l2 hl
      simp at h; subst h
      obtain ⟨a, fz, e1, e2, e3, e4, e5⟩ := hor
      obtain ⟨h8, h9⟩ := mapO_spec hl
      refine ⟨a, fz, e1, by rw [h8]; exact e2, ?_, ?_, e5⟩
      · intro j hj
        rw [Tr.at_fill, if_neg (by omega), Tr.at_lf]
      · intro j v hj
        rw [Tr.at_fill] at hj
        split at hj
        · rename_i hb
          have hlt : j < l.length := by omega
          have h11 : l[j]? = some l[j] := List.getElem?_eq_getElem hlt
          obtain ⟨y, h12, h13⟩ := h9 j _ h11
          obtain ⟨v', h14, h15⟩ := e4 j l[j] (by rw [Tr.at_fill, if_pos ⟨by omega, by omega⟩]; simp)
          refine ⟨v', h14, ?_⟩
          have : y = v := by
            rw [Nat.sub_zero] at hj
            rw [h12] at hj; simpa using hj
          subst this
          exact renG_ok hs 8 _ _ _ h13 h15
        · rw [Tr.at_lf] at hj; cases hj
    · cases h
  | mp es clk =>
    simp only [shO] at h
    split at h
    · rename_i es2 he
      simp at h; subst h
      obtain ⟨es3, e1, e2⟩ := hor
      exact ⟨es3, e1, shE_ok hs he e2⟩
    · cases h
  | part cs n T sz g => cases h
theorem addS_ok {σ : Nat → Option Nat} {m k : Nat} {t : Tr AObj} : ∀ {l : List (Nat × AO)} {t2 : Tr AObj}, addS σ m k l t = some t2 → ∀ i o, t2.at i = some o → t.at i = some o ∨ ∃ o1, k ≤ i ∧ (putO l).at (m + (i - k)) = some o1 ∧ ∀ (b c : Bm) x ob, (∀ i j, σ i = some j → c j = b i) → OR b x o1 ob → OR c x o ob
  | [], t2, h, i, o, hi => by simp [addS] at h; subst h; exact .inl hi
  | r :: l, t2, h, i, o, hi => by
    simp only [addS] at h
    split at h
    · rename_i t1 h1
      split at h
      · rename_i o2 h2
        split at h
        · rename_i hm
          rw [Nat.ble_eq] at hm
          simp at h; subst h
          rw [Tr.at_put] at hi
          split at hi
          · rename_i e
            simp only [Option.some.injEq] at hi
            subst e; subst hi
            refine .inr ⟨r.2.obj, by omega, ?_, fun b c x ob hs hor => shO_ok h2 hs hor⟩
            rw [show m + (k + (r.1 - m) - k) = r.1 from by omega, putO, Tr.at_put, if_pos rfl]
          · rename_i e
            rcases addS_ok h1 i o hi with h3 | ⟨o1, h3, h4, h5⟩
            · exact .inl h3
            · refine .inr ⟨o1, h3, ?_, h5⟩
              rw [putO, Tr.at_put, if_neg (by omega)]; exact h4
        · cases h
      · cases h
    · cases h
theorem putO_app : ∀ {l m : List (Nat × AO)} {i : Nat}, (putO (l ++ m)).at i = if i ∈ l.map (·.1) then (putO l).at i else (putO m).at i
  | [], m, i => by simp
  | r :: l, m, i => by
    simp only [List.cons_append, putO, Tr.at_put, List.map_cons, List.mem_cons]
    by_cases e : r.1 = i
    · rw [if_pos e, if_pos (.inl e.symm), if_pos e]
    · rw [if_neg e, putO_app, if_neg e]
      by_cases h : i ∈ l.map (·.1)
      · rw [if_pos h, if_pos (.inr h)]
      · rw [if_neg h, if_neg (by intro h2; rcases h2 with h2 | h2; exact e h2.symm; exact h h2)]
end
end Go.Proofs.YtoapdkcokemieaaGreat.Ev
