/-
  Runs in stages (3): what is left behind is forgotten, what was made gets numbers of its own; loops. Nothing of the program stands here.
-/
import Derived.Test.YtoapdkcokemieaaGreatEuZF
namespace Go.Proofs.YtoapdkcokemieaaGreat.Ev
open Go.RowKit
noncomputable section
set_option linter.unusedVariables false
set_option linter.unusedSimpArgs false
set_option linter.unusedSectionVars false
variable [Fs] [En] [FsOk] [Hk]
/-- The number that a block gets: those below n0 keep theirs, the k-th of 'olds' is number n0 + k. -/
def idx (x : Nat) : List Nat → Nat → Option Nat
  | [], _ => none
  | y :: l, k => match Nat.beq y x with
    | true => some k
    | false => idx x l (k + 1)
theorem idx_ok {x : Nat} : ∀ {l : List Nat} {k j : Nat}, idx x l k = some j → k ≤ j ∧ l[j - k]? = some x
  | [], k, j, h => by cases h
  | y :: l, k, j, h => by
    unfold idx at h
    split at h
    · rename_i hb
      simp at h; subst h
      simp [Nat.eq_of_beq_eq_true hb]
    · obtain ⟨h1, h2⟩ := idx_ok h
      refine ⟨by omega, ?_⟩
      rw [show j - k = (j - (k + 1)) + 1 from by omega]
      simpa using h2
def newN (n0 : Nat) (olds : List Nat) (i : Nat) : Option Nat := match Nat.ble (i + 1) n0 with
  | true => some i
  | false => idx i olds n0
def oldN (n0 : Nat) (olds : List Nat) (j : Nat) : Option Nat := if j < n0 then some j else olds[j - n0]?
theorem newN_ok {n0 : Nat} {olds : List Nat} {i j : Nat} (h : newN n0 olds i = some j) : oldN n0 olds j = some i := by
  unfold newN at h
  split at h
  · rename_i hb
    rw [Nat.ble_eq] at hb
    simp at h; subst h
    rw [oldN, if_pos (by omega)]
  · obtain ⟨h1, h2⟩ := idx_ok h
    rw [oldN, if_neg (by omega)]; exact h2
def renB (n0 : Nat) (olds : List Nat) (b : Bm) : Bm := fun j => match oldN n0 olds j with
  | some i => b i
  | none => none
theorem renB_new {n0 : Nat} {olds : List Nat} {b : Bm} {i j : Nat} (h : newN n0 olds i = some j) : renB n0 olds b j = b i := by
  unfold renB
  rw [newN_ok h]
def renV (n0 : Nat) (olds : List Nat) : Nat → PV → Option PV
  | _, .bl b => some (.bl b)
  | _, .it k n => some (.it k n)
  | _, .st s => some (.st s)
  | _, .np => some .np
  | _, .ns => some .ns
  | _, .nm => some .nm
  | _, .nf => some .nf
  | _, .ni => some .ni
  | _, .sy k lo hi e => some (.sy k lo hi e)
  | _, .pt i off => match newN n0 olds i with
    | some j => some (.pt j off)
    | none => none
  | _, .sl i off len c g => match newN n0 olds i with
    | some j => some (.sl j off len c g)
    | none => none
  | _, .mp i => match newN n0 olds i with
    | some j => some (.mp j)
    | none => none
  | f + 1, .fn g a c => match mapO (renV n0 olds f) a with
    | some a => match mapO (renV n0 olds f) c with
      | some c => some (.fn g a c)
      | none => none
    | none => none
  | f + 1, .ic t v => match renV n0 olds f v with
    | some v => some (.ic t v)
    | none => none
  | f + 1, .ag l => match mapO (renV n0 olds f) l with
    | some l => some (.ag l)
    | none => none
  | f + 1, .tp l => match mapO (renV n0 olds f) l with
    | some l => some (.tp l)
    | none => none
  | f + 1, .ss l => match mapO (renV n0 olds f) l with
    | some l => some (.ss l)
    | none => none
  | _, _ => none
theorem renV_ok {n0 : Nat} {olds : List Nat} {b : Bm} : ∀ (f : Nat) (p u : PV) (v : Value), renV n0 olds f p = some u → V b p v → V (renB n0 olds b) u v := by
  intro f
  induction f with
  | zero =>
    intro p u v h hv
    cases hv with
    | pt i off x hx =>
      simp only [renV] at h
      split at h
      · rename_i j hj; simp at h; subst h; exact .pt j off x (by rw [renB_new hj]; exact hx)
      · cases h
    | sl i off len d g x hx =>
      simp only [renV] at h
      split at h
      · rename_i j hj; simp at h; subst h; exact .sl j off len d g x (by rw [renB_new hj]; exact hx)
      · cases h
    | mp i x hx =>
      simp only [renV] at h
      split at h
      · rename_i j hj; simp at h; subst h; exact .mp j x (by rw [renB_new hj]; exact hx)
      · cases h
    | bl x => simp [renV] at h; subst h; exact .bl x
    | it k n => simp [renV] at h; subst h; exact .it k n
    | st s => simp [renV] at h; subst h; exact .st s
    | np => simp [renV] at h; subst h; exact .np
    | ns => simp [renV] at h; subst h; exact .ns
    | nm => simp [renV] at h; subst h; exact .nm
    | nf => simp [renV] at h; subst h; exact .nf
    | ni => simp [renV] at h; subst h; exact .ni
    | sy k lo hi e h1 h2 => simp [renV] at h; subst h; exact .sy k lo hi e h1 h2
    | fn g a c a' c' h1 h2 => simp [renV] at h
    | ic t q q' h1 => simp [renV] at h
    | ag l l' h1 => simp [renV] at h
    | tp l l' h1 => simp [renV] at h
    | ss l l' m h1 h2 h3 => simp [renV] at h
  | succ f ih =>
    intro p u v h hv
    cases hv with
    | pt i off x hx =>
      simp only [renV] at h
      split at h
      · rename_i j hj; simp at h; subst h; exact .pt j off x (by rw [renB_new hj]; exact hx)
      · cases h
    | sl i off len d g x hx =>
      simp only [renV] at h
      split at h
      · rename_i j hj; simp at h; subst h; exact .sl j off len d g x (by rw [renB_new hj]; exact hx)
      · cases h
    | mp i x hx =>
      simp only [renV] at h
      split at h
      · rename_i j hj; simp at h; subst h; exact .mp j x (by rw [renB_new hj]; exact hx)
      · cases h
    | bl x => simp [renV] at h; subst h; exact .bl x
    | it k n => simp [renV] at h; subst h; exact .it k n
    | st s => simp [renV] at h; subst h; exact .st s
    | np => simp [renV] at h; subst h; exact .np
    | ns => simp [renV] at h; subst h; exact .ns
    | nm => simp [renV] at h; subst h; exact .nm
    | nf => simp [renV] at h; subst h; exact .nf
    | ni => simp [renV] at h; subst h; exact .ni
    | sy k lo hi e h1 h2 => simp [renV] at h; subst h; exact .sy k lo hi e h1 h2
    | fn g a c a' c' h1 h2 =>
      simp only [renV] at h
      split at h
      · rename_i a2 ha
        split at h
        · rename_i c2 hc
          simp at h; subst h
          exact .fn g a2 c2 a' c' (mapO_ren ih _ _ _ ha h1) (mapO_ren ih _ _ _ hc h2)
        · cases h
      · cases h
    | ic t q q' h1 =>
      simp only [renV] at h
      split at h
      · rename_i q2 hq; simp at h; subst h; exact .ic t q2 q' (ih _ _ _ hq h1)
      · cases h
    | ag l l' h1 =>
      simp only [renV] at h
      split at h
      · rename_i l2 hl; simp at h; subst h; exact .ag l2 l' (mapO_ren ih _ _ _ hl h1)
      · cases h
    | tp l l' h1 =>
      simp only [renV] at h
      split at h
      · rename_i l2 hl; simp at h; subst h; exact .tp l2 l' (mapO_ren ih _ _ _ hl h1)
      · cases h
    | ss l l' m h1 h2 h3 =>
      simp only [renV] at h
      split at h
      · rename_i l2 hl; simp at h; subst h; exact .ss l2 l' m (mapO_ren ih _ _ _ hl h1) h2 h3
      · cases h
/-! ### A state that is come to, its blocks under other numbers -/
def chkT3 (n0 : Nat) (olds : List Nat) (T : Tr PV) : List (Nat × PV) → Bool
  | [] => true
  | x :: l => match T.at x.1 with
    | some v => match renV n0 olds 8 v with
      | some u => match eqP 8 u x.2 with
        | true => chkT3 n0 olds T l
        | false => false
      | none => false
    | none => false
theorem chkT3_ok {n0 : Nat} {olds : List Nat} {T : Tr PV} : ∀ {l : List (Nat × PV)}, chkT3 n0 olds T l = true → ∀ d v, (puts l).at d = some v → ∃ u, T.at d = some u ∧ renV n0 olds 8 u = some v
  | [], h, d, v, hd => by rw [puts, Tr.at_lf] at hd; cases hd
  | x :: l, h, d, v, hd => by
    unfold chkT3 at h
    split at h
    · rename_i w hw
      split at h
      · rename_i u hu
        split at h
        · rename_i he
          rw [puts, Tr.at_put] at hd
          split at hd
          · rename_i e
            simp only [Option.some.injEq] at hd
            subst e; subst hd
            exact ⟨w, hw, by rw [hu, eqP_ok 8 _ _ he]⟩
          · exact chkT3_ok h d v hd
        · cases h
      · cases h
    · cases h
def renE (n0 : Nat) (olds : List Nat) (x : PV × PV × Nat) : Option (PV × PV × Nat) := match renV n0 olds 8 x.1 with
  | some k => match renV n0 olds 8 x.2.1 with
    | some v => some (k, v, x.2.2)
    | none => none
  | none => none
theorem renE_ok {n0 : Nat} {olds : List Nat} {b : Bm} : ∀ {es fs : List (PV × PV × Nat)} {es' : List MapEntry}, mapO (renE n0 olds) es = some fs → EL b es es' → EL (renB n0 olds b) fs es'
  | [], fs, es', h, hv => by cases hv; simp [mapO] at h; subst h; exact .nil
  | x :: es, fs, es', h, hv => by
    cases hv with
    | cons k v n k' v' _ l' h1 h2 h3 =>
      simp only [mapO] at h
      split at h
      · rename_i y hy
        split at h
        · rename_i m hm
          simp at h; subst h
          unfold renE at hy
          split at hy
          · rename_i k2 hk
            split at hy
            · rename_i v2 hv2
              simp at hy; subst hy
              exact .cons _ _ _ _ _ _ _ (renV_ok 8 _ _ _ hk h1) (renV_ok 8 _ _ _ hv2 h2) (renE_ok hm h3)
            · cases hy
          · cases hy
        · cases h
      · cases h
/-- Is a block, told anew, what it must be? -/
def chkO3 (n0 : Nat) (olds : List Nat) (t : Tr AObj) (j : Nat) (o : AO) : Bool := match oldN n0 olds j with
  | some i => match o with
    | .row l T sz g => match t.at i with
      | some (.row c n T' sz' g') => Nat.beq n l.length && Nat.beq T' T && Nat.beq sz' sz && (g' == g) && (match c.run 0 n with
        | some l' => match mapO (renV n0 olds 8) l' with
          | some l' => eqL (eqP 8) l' l
          | none => false
        | none => false)
      | _ => false
    | .mp es clk => match t.at i with
      | some (.mp es' clk') => (match mapO (renE n0 olds) es' with
        | some es' => eqL eqE es' es
        | none => false) && Nat.beq clk' clk
      | _ => false
    | .part cs n T sz g => match t.at i with
      | some (.row c n' T' sz' g') => Nat.beq n' n && Nat.beq T' T && Nat.beq sz' sz && (g' == g) && chkT3 n0 olds c cs
      | _ => false
  | none => false
theorem chkO3_ok {n0 : Nat} {olds : List Nat} {t : Tr AObj} {j : Nat} {o : AO} (h : chkO3 n0 olds t j o = true) : ∃ i p, oldN n0 olds j = some i ∧ t.at i = some p ∧ ∀ (b : Bm) x ob, OR b x p ob → OR (renB n0 olds b) x o.obj ob := by
  unfold chkO3 at h
  split at h
  · rename_i i hi
    split at h
    · rename_i l T sz g
      split at h
      · rename_i c n T' sz' g' hp
        simp only [Bool.and_eq_true, beq_iff_eq] at h
        obtain ⟨⟨⟨⟨h1, h2⟩, h3⟩, h4⟩, h5⟩ := h
        have h1 := Nat.eq_of_beq_eq_true h1
        have h2 := Nat.eq_of_beq_eq_true h2
        have h3 := Nat.eq_of_beq_eq_true h3
        subst h2; subst h3; subst h4
        split at h5
        · rename_i l1 hl1
          split at h5
          · rename_i l2 hl2
            have hll := eqL_ok (fun a b => eqP_ok 8 a b) h5
            subst hll
            obtain ⟨h6, h7⟩ := Tr.run_spec hl1
            obtain ⟨h8, h9⟩ := mapO_spec hl2
            refine ⟨i, _, hi, hp, ?_⟩
            intro b x ob hor
            obtain ⟨a, fz, e1, e2, e3, e4, e5⟩ := hor
            refine ⟨a, fz, e1, by rw [← h1]; exact e2, ?_, ?_, e5⟩
            · intro k hk
              rw [Tr.at_fill, if_neg (by omega), Tr.at_lf]
            · intro k v hk
              rw [Tr.at_fill] at hk
              split at hk
              · rename_i hb
                have h10 := h7 k (by omega)
                rw [show 0 + k = k from by omega] at h10
                have hlt : k < l1.length := by omega
                have h11 : l1[k]? = some l1[k] := List.getElem?_eq_getElem hlt
                obtain ⟨y, h12, h13⟩ := h9 k _ h11
                obtain ⟨v', h14, h15⟩ := e4 k l1[k] (by rw [h10, h11])
                refine ⟨v', h14, ?_⟩
                have : y = v := by
                  rw [Nat.sub_zero] at hk
                  rw [h12] at hk; simpa using hk
                subst this
                exact renV_ok 8 _ _ _ h13 h15
              · rw [Tr.at_lf] at hk; cases hk
          · cases h5
        · cases h5
      · cases h
    · rename_i es clk
      split at h
      · rename_i es' clk' hp
        simp only [Bool.and_eq_true] at h
        obtain ⟨h1, h2⟩ := h
        have h2 := Nat.eq_of_beq_eq_true h2
        subst h2
        split at h1
        · rename_i es2 he
          have := eqL_ok (fun a b => eqE_ok) h1
          subst this
          refine ⟨i, _, hi, hp, ?_⟩
          intro b x ob hor
          obtain ⟨es3, e1, e2⟩ := hor
          exact ⟨es3, e1, renE_ok he e2⟩
        · cases h1
      · cases h
    · rename_i cs n T sz g
      split at h
      · rename_i c n' T' sz' g' hp
        simp only [Bool.and_eq_true, beq_iff_eq] at h
        obtain ⟨⟨⟨⟨h1, h2⟩, h3⟩, h4⟩, h5⟩ := h
        have h1 := Nat.eq_of_beq_eq_true h1
        have h2 := Nat.eq_of_beq_eq_true h2
        have h3 := Nat.eq_of_beq_eq_true h3
        subst h1; subst h2; subst h3; subst h4
        refine ⟨i, _, hi, hp, ?_⟩
        intro b x ob hor
        obtain ⟨a, fz, e1, e2, e3, e4, e5⟩ := hor
        have hc : ∀ k v, (putL cs).at k = some v → ∃ u, c.at k = some u ∧ renV n0 olds 8 u = some v := by
          intro k v hk
          rw [putL_eq] at hk
          exact chkT3_ok h5 k v hk
        refine ⟨a, fz, e1, e2, ?_, ?_, e5⟩
        · intro k hk
          cases hx : (putL cs).at k with
          | none => rfl
          | some v =>
            obtain ⟨u, h6, _⟩ := hc k v hx
            rw [e3 k hk] at h6; cases h6
        · intro k v hk
          obtain ⟨u, h6, h7⟩ := hc k v hk
          obtain ⟨v', h8, h9⟩ := e4 k u h6
          exact ⟨v', h8, renV_ok 8 _ _ _ h7 h9⟩
      · cases h
  · cases h
def chkOs3 (n0 : Nat) (olds : List Nat) (t : Tr AObj) : List (Nat × AO) → Bool
  | [] => true
  | r :: l => match chkO3 n0 olds t r.1 r.2 with
    | true => chkOs3 n0 olds t l
    | false => false
theorem chkOs3_ok {n0 : Nat} {olds : List Nat} {t : Tr AObj} : ∀ {l : List (Nat × AO)}, chkOs3 n0 olds t l = true → ∀ j o0, (putO l).at j = some o0 → ∃ i p, oldN n0 olds j = some i ∧ t.at i = some p ∧ ∀ (b : Bm) x ob, OR b x p ob → OR (renB n0 olds b) x o0 ob
  | [], h, j, o0, hj => by rw [putO, Tr.at_lf] at hj; cases hj
  | r :: l, h, j, o0, hj => by
    unfold chkOs3 at h
    split at h
    · rename_i hr
      rw [putO, Tr.at_put] at hj
      split at hj
      · rename_i e
        simp only [Option.some.injEq] at hj
        subst e; subst hj
        exact chkO3_ok hr
      · exact chkOs3_ok h j o0 hj
    · cases h
/-- All apart, none below n0. -/
def goodL (n0 : Nat) : List Nat → Bool
  | [] => true
  | x :: l => Nat.ble n0 x && (!(l.contains x)) && goodL n0 l
theorem goodL_ok {n0 : Nat} : ∀ {l : List Nat}, goodL n0 l = true → (∀ x, x ∈ l → n0 ≤ x) ∧ ∀ (i j x : Nat), l[i]? = some x → l[j]? = some x → i = j
  | [], h => ⟨by simp, by intro i j x hi; simp at hi⟩
  | y :: l, h => by
    simp only [goodL, Bool.and_eq_true, Nat.ble_eq, Bool.not_eq_true'] at h
    obtain ⟨⟨h1, h2⟩, h3⟩ := h
    obtain ⟨h4, h5⟩ := goodL_ok h3
    have hy : y ∉ l := by simpa using h2
    refine ⟨fun x hx => ?_, ?_⟩
    · rcases List.mem_cons.1 hx with rfl | hx
      · exact h1
      · exact h4 x hx
    · intro i j x hi hj
      cases i with
      | zero =>
        cases j with
        | zero => rfl
        | succ j =>
          simp at hi hj; subst hi
          exact absurd (List.mem_of_getElem? hj) hy
      | succ i =>
        cases j with
        | zero =>
          simp at hi hj; subst hj
          exact absurd (List.mem_of_getElem? hi) hy
        | succ j =>
          simp at hi hj
          rw [h5 i j x hi hj]
theorem oldN_inj {n0 : Nat} {olds : List Nat} (h : goodL n0 olds = true) {i j x : Nat} (hi : oldN n0 olds i = some x) (hj : oldN n0 olds j = some x) : i = j := by
  obtain ⟨h1, h2⟩ := goodL_ok h
  unfold oldN at hi hj
  split at hi
  · simp at hi; subst hi
    split at hj
    · simp at hj; exact hj.symm
    · have := h1 _ (List.mem_of_getElem? hj)
      omega
  · split at hj
    · simp at hj; subst hj
      have := h1 _ (List.mem_of_getElem? hi)
      omega
    · have := h2 _ _ _ hi hj
      omega
/-- What was come to, told by fewer blocks under other numbers. -/
theorem Goes.rename {P : Program} {wp : (Exit → Act → World → Prop) → Act → World → Prop} {N : Nat} {T T' : Tr PV} {H H' : Hp} {s : S2} {olds : List Nat} (hg : goodL H.n olds = true) (hn : s.n = H.n + olds.length)
    (hT : chkT3 H.n olds T' s.t = true) (hO : chkOs3 H.n olds H'.t s.r = true) (g : Goes P wp N T [] H .normal T' [] H') : Goes P wp N T [] H .normal s.T [] s.H := by
  intro F b a w Q ha hr hQ
  refine g F b a w Q ha hr ?_
  intro b' e' a' w' hle her ha' hr' hk
  have hlow : ∀ i, i < H.n → renB H.n olds b' i = b' i := by
    intro i hi
    unfold renB oldN
    rw [if_pos hi]
  refine hQ (renB H.n olds b') e' a' w' ?_ ?_ ?_ ?_ hk
  · intro i x hi
    have : i < H.n := by
      apply Nat.lt_of_not_le
      intro hge
      rw [hr.nx i hge] at hi; cases hi
    rw [hlow i this]; exact hle i x hi
  · cases her; exact .normal
  · refine ⟨?_, ha'.n, ?_⟩
    · intro d v hd
      obtain ⟨u, h1, h2⟩ := chkT3_ok hT d v hd
      obtain ⟨v', h3, h4⟩ := ha'.t d u h1
      exact ⟨v', h3, renV_ok 8 _ _ _ h2 h4⟩
    · have := ha'.d
      generalize hd : a'.defers = ds at this
      cases this
      exact .nil
  · refine ⟨hr'.fo, ?_, ?_, ?_, ?_, ?_⟩
    · intro i hi
      have hi : s.n ≤ i := hi
      unfold renB oldN
      rw [if_neg (by omega)]
      have : olds[i - H.n]? = none := List.getElem?_eq_none (by omega)
      rw [this]
    · have := hr.low
      show F.n0 ≤ s.n
      omega
    · intro i hi
      have := hr.low
      rw [hlow i (by omega)]
      exact hr'.ag i hi
    · intro j o0 hj
      obtain ⟨i, p, h1, h2, h3⟩ := chkOs3_ok hO j o0 hj
      obtain ⟨x, ob, h4, h5, h6, h7⟩ := hr'.live i p h2
      refine ⟨x, ob, ?_, h5, h3 b' x ob h6, h7⟩
      unfold renB
      rw [h1]; exact h4
    · intro i j o p x y hi hj hx hy hxy
      obtain ⟨i0, p1, h1, h2, _⟩ := chkOs3_ok hO i o hi
      obtain ⟨j0, p2, h3, h4, _⟩ := chkOs3_ok hO j p hj
      have e1 : b' i0 = some x := by unfold renB at hx; rw [h1] at hx; exact hx
      have e2 : b' j0 = some y := by unfold renB at hy; rw [h3] at hy; exact hy
      have := hr'.inj i0 j0 p1 p2 x y h2 h4 e1 e2 hxy
      subst this
      exact oldN_inj hg h1 h3
/-! ### Loops -/
section
variable {P : Program} [HkOk P]
theorem Goes.turn {c : Code} {N : Nat} {T T1 T2 : Tr PV} {D D1 D2 : DL} {H H1 H2 : Hp} {e : AE} (h1 : Goes P (fun Q a w => c.wp P Q a w) N T D H .normal T1 D1 H1) (h2 : Goes P (fun Q a w => Lwp P c Q a w) N T1 D1 H1 e T2 D2 H2) :
    Goes P (fun Q a w => Lwp P c Q a w) N T D H e T2 D2 H2 := by
  intro F b a w Q ha hr hQ
  refine Lwp_of (h1 F b a w _ ha hr ?_)
  intro b' e' a' w' hle her ha' hr' hk
  cases her
  exact h2 F b' a' w' Q ha' hr' (fun b2 e2 a2 w2 hle2 her2 ha2 hr2 hk2 => hQ b2 e2 a2 w2 (hle.trans hle2) her2 ha2 hr2 (hk.trans hk2))
theorem Goes.last {c : Code} {N : Nat} {T T2 : Tr PV} {D D2 : DL} {H H2 : Hp} {e : AE} (he : e ≠ .normal) (h : Goes P (fun Q a w => c.wp P Q a w) N T D H e T2 D2 H2) :
    Goes P (fun Q a w => Lwp P c Q a w) N T D H e T2 D2 H2 := by
  intro F b a w Q ha hr hQ
  refine Lwp_of (h F b a w _ ha hr ?_)
  intro b' e' a' w' hle her ha' hr' hk
  cases her with
  | normal => exact absurd rfl he
  | exit id => exact hQ b' _ a' w' hle (.exit id) ha' hr' hk
  | goto l => exact hQ b' _ a' w' hle (.goto l) ha' hr' hk
  | ret => exact hQ b' _ a' w' hle .ret ha' hr' hk
  | panic v v' hv => exact hQ b' _ a' w' hle (.panic v v' hv) ha' hr' hk
theorem Goes.loop {c : Code} {N : Nat} {T T2 : Tr PV} {D D2 : DL} {H H2 : Hp} {e : AE} (h : Goes P (fun Q a w => Lwp P c Q a w) N T D H e T2 D2 H2) : Goes P (fun Q a w => (Code.loop c).wp P Q a w) N T D H e T2 D2 H2 := by
  intro F b a w Q ha hr hQ
  exact wp_loop_of (h F b a w Q ha hr hQ)
/-- So many turns. -/
theorem Goes.turns {c : Code} {N : Nat} {T : Nat → Tr PV} {H : Nat → Hp} {T2 : Tr PV} {H2 : Hp} {e : AE} {m : Nat} (ht : ∀ i, i < m → Goes P (fun Q a w => c.wp P Q a w) N (T i) [] (H i) .normal (T (i + 1)) [] (H (i + 1)))
    (hl : Goes P (fun Q a w => Lwp P c Q a w) N (T m) [] (H m) e T2 [] H2) : ∀ k, k ≤ m → Goes P (fun Q a w => Lwp P c Q a w) N (T (m - k)) [] (H (m - k)) e T2 [] H2
  | 0, _ => hl
  | k + 1, hk => by
    have h1 := ht (m - (k + 1)) (by omega)
    rw [show m - (k + 1) + 1 = m - k from by omega] at h1
    exact h1.turn (Goes.turns ht hl k (by omega))
end
end
end Go.Proofs.YtoapdkcokemieaaGreat.Ev
