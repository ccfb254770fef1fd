/-
  Runs in stages (2): maps among what is known; what a stage has nothing to do with stays. Nothing of the program stands here.
-/
import Derived.Test.YtoapdkcokemieaaGreatEuZE
namespace Go.Proofs.YtoapdkcokemieaaGreat.Ev
open Go.RowKit
noncomputable section
set_option linter.unusedVariables false
set_option linter.unusedSimpArgs false
set_option linter.unusedSectionVars false
variable [Fs] [En] [FsOk] [Hk]
section
variable {P : Program} [HkOk P]
/-- What stands aside from a run is there behind it, as it was. -/
theorem Goes.frame {wp : (Exit → Act → World → Prop) → Act → World → Prop} {N : Nat} {T : Tr PV} {D : DL} {e : AE} {T' : Tr PV} {D' : DL} {H0 H H' H2 : Hp} {X : Nat → Prop} (hn : H.n = H0.n)
    (hX : ∀ i, X i → i < H0.n ∧ ∃ o, H0.t.at i = some o) (h1 : ∀ i o, H.t.at i = some o → H0.t.at i = some o ∧ ¬ X i) (h2 : ∀ i o, H2.t.at i = some o → (X i ∧ H0.t.at i = some o) ∨ (¬ X i ∧ H'.t.at i = some o)) (hn2 : H2.n = H'.n)
    (g : Goes P wp N T D H e T' D' H') : Goes P wp N T D H0 e T' D' H2 := by
  intro F b a w Q ha hr hQ
  have hs := hr.toF.aside X (h' := H.t.at) (k0 := H0.n) (bb := b) (Nat.le_refl _) (fun i _ => rfl) (fun i hi => (hX i hi).2) h1
  rw [← hn] at hs
  refine g ⟨fun k => F.f k ∨ side b X k, H.n, b⟩ b a w Q ha (HRf.of hs) ?_
  intro b' e' a' w' hle her ha' hr' hk
  have hag : ∀ i, i < H0.n → b' i = b i := fun i hi => hr'.ag i (by rw [hn]; exact hi)
  refine hQ b' e' a' w' hle her ha' ?_ hk.less
  have hnn : H0.n ≤ H'.n := by have := hr'.low; rw [hn] at this; exact this
  have := hr.toF.back (X := X) (fun i hi => ⟨hag i (hX i hi).1, (hX i hi).2⟩) (fun i hi => hag i (Nat.lt_of_lt_of_le hi hr.low)) hnn (hr'.toF) hle hk (h' := H2.t.at) h2
  rw [← hn2] at this
  exact HRf.of this
end
/-! ### States with maps -/
structure S2 where
  t : List (Nat × PV)
  r : List (Nat × AO)
  n : Nat
def S2.T (s : S2) : Tr PV := puts s.t
def S2.H (s : S2) : Hp := ⟨putO s.r, s.n⟩
def eqE (x y : PV × PV × Nat) : Bool := eqP 8 x.1 y.1 && (eqP 8 x.2.1 y.2.1 && Nat.beq x.2.2 y.2.2)
theorem eqE_ok {x y : PV × PV × Nat} (h : eqE x y = true) : x = y := by
  obtain ⟨a, b, c⟩ := x
  obtain ⟨d, e, f⟩ := y
  simp only [eqE, Bool.and_eq_true] at h
  rw [eqP_ok 8 _ _ h.1, eqP_ok 8 _ _ h.2.1, Nat.eq_of_beq_eq_true h.2.2]
def chkO (t : Tr AObj) (i : Nat) : AO → Bool
  | .row l T sz g => chkRw t ⟨i, l, T, sz, g⟩
  | .mp es clk => match t.at i with
    | some (.mp es' clk') => eqL eqE es' es && Nat.beq clk' clk
    | _ => false
  | .part cs n T sz g => match t.at i with
    | some (.row c n' T' sz' g') => Nat.beq n' n && Nat.beq T' T && Nat.beq sz' sz && (g' == g) && chkTs c cs
    | _ => false
theorem putL_eq : ∀ l : List (Nat × PV), putL l = puts l
  | [] => rfl
  | x :: l => by rw [putL, puts, putL_eq l]
theorem chkO_ok {t : Tr AObj} {i : Nat} : ∀ {o : AO}, chkO t i o = true → LessO t i o.obj
  | .row l T sz g, h => chkRw_ok h
  | .mp es clk, h => by
    simp only [chkO] at h
    split at h
    · rename_i es' clk' hi
      simp only [Bool.and_eq_true] at h
      have h1 := eqL_ok (fun a b => eqE_ok) h.1
      have h2 := Nat.eq_of_beq_eq_true h.2
      subst h1; subst h2
      exact ⟨_, hi, .inl rfl⟩
    · cases h
  | .part cs n T sz g, h => by
    simp only [chkO] at h
    split at h
    · rename_i c n' T' sz' g' hi
      simp only [Bool.and_eq_true, beq_iff_eq] at h
      obtain ⟨⟨⟨⟨h1, h2⟩, h3⟩, h4⟩, h5⟩ := h
      have h1 := Nat.eq_of_beq_eq_true h1
      have h2 := Nat.eq_of_beq_eq_true h2
      have h3 := Nat.eq_of_beq_eq_true h3
      subst h1; subst h2; subst h3; subst h4
      exact ⟨_, hi, .inr ⟨c, putL cs, _, _, _, _, rfl, rfl, by rw [putL_eq]; exact puts_at (chkTs_ok h5)⟩⟩
    · cases h
def chkOs (t : Tr AObj) : List (Nat × AO) → Bool
  | [] => true
  | r :: l => match chkO t r.1 r.2 with
    | true => chkOs t l
    | false => false
theorem chkOs_ok {t : Tr AObj} : ∀ {l : List (Nat × AO)}, chkOs t l = true → ∀ i o0, (putO l).at i = some o0 → LessO t i o0
  | [], h, i, o0, hi => by rw [putO, Tr.at_lf] at hi; cases hi
  | r :: l, h, i, o0, hi => by
    unfold chkOs at h
    split at h
    · rename_i hr
      rw [putO, Tr.at_put] at hi
      split at hi
      · rename_i e
        simp only [Option.some.injEq] at hi
        subst e; subst hi
        exact chkO_ok hr
      · exact chkOs_ok h i o0 hi
    · cases h
def kS2 (s : S2) (e : AE) (T : Tr PV) (D : DL) (H : Hp) : Option Unit := match e with
  | .normal => match D with
    | [] => match chkTs T s.t && chkOs H.t s.r && Nat.ble H.n s.n with
      | true => some ()
      | false => none
    | _ => none
  | _ => none
/-- Blocks that stand apart: none of the two lists is of the other. -/
def apart (l m : List (Nat × AO)) : Bool := m.all fun x => !(l.map (·.1)).contains x.1
theorem apart_ok {l m : List (Nat × AO)} (h : apart l m = true) {i : Nat} (hi : i ∈ m.map (·.1)) : i ∉ l.map (·.1) := by
  simp only [apart, List.all_eq_true] at h
  obtain ⟨x, hx, rfl⟩ := List.mem_map.1 hi
  have := h x hx
  simpa using this
def below (n : Nat) (l : List (Nat × AO)) : Bool := l.all fun x => Nat.ble (x.1 + 1) n
theorem below_ok {n : Nat} {l : List (Nat × AO)} (h : below n l = true) {i : Nat} (hi : i ∈ l.map (·.1)) : i < n := by
  simp only [below, List.all_eq_true] at h
  obtain ⟨x, hx, rfl⟩ := List.mem_map.1 hi
  have := h x hx
  rw [Nat.ble_eq] at this; omega
section
variable {P : Program} [HkOk P]
theorem stage2 {draw : DrawT Unit} (hdraw : DrawOk P draw) {n N : Nat} {cs : List Code} {T : Tr PV} {H : Hp} {s : S2} (h : evL P draw n N cs T [] H (kS2 s) = some ()) {z : Code} {e : AE} {T2 : Tr PV} {D2 : DL} {H2 : Hp}
    (g : Goes P (fun Q a w => z.wp P Q a w) N s.T [] s.H e T2 D2 H2) : Goes P (fun Q a w => (catC cs z).wp P Q a w) N T [] H e T2 D2 H2 := by
  obtain ⟨T', D', H', h1, h2⟩ := evL_ok hdraw (k := kS2 s) (by intro e T D H he; cases e <;> first | rfl | exact absurd rfl he) cs h
  refine h2 z ?_
  cases D' with
  | cons d D' => cases h1
  | nil =>
    simp only [kS2] at h1
    split at h1
    · rename_i hb
      simp only [Bool.and_eq_true, Nat.ble_eq] at hb
      obtain ⟨⟨h3, h4⟩, h5⟩ := hb
      exact Goes.less (puts_at (chkTs_ok h3)) h5 (chkOs_ok h4) g
    · cases h1
/-- One code alone, from a state to a state. -/
theorem step2 {draw : DrawT Unit} (hdraw : DrawOk P draw) {n N : Nat} {c : Code} {s s' : S2} (h : evC P draw n false N c s.T [] s.H (kS2 s') = some ()) : Goes P (fun Q a w => c.wp P Q a w) N s.T [] s.H .normal s'.T [] s'.H := by
  obtain ⟨e, T', D', H', h1, h2⟩ := (evC_ok hdraw n).1 N c _ [] _ _ _ h
  cases e with
  | normal =>
    cases D' with
    | cons d D' => cases h1
    | nil =>
      simp only [kS2] at h1
      split at h1
      · rename_i hb
        simp only [Bool.and_eq_true, Nat.ble_eq] at hb
        obtain ⟨⟨h3, h4⟩, h5⟩ := hb
        intro F b a w Q ha hr hQ
        refine h2 F b a w Q ha hr ?_
        intro b' e' a' w' hle her ha' hr' hk
        exact hQ b' e' a' w' hle her ⟨fun d v hd => ha'.t d v (puts_at (chkTs_ok h3) d v hd), ha'.n, ha'.d⟩ (HR.less h5 (chkOs_ok h4) hr') hk
      · cases h1
  | _ => cases h1
/-- A state beside which there is more. -/
theorem Goes.beside {wp : (Exit → Act → World → Prop) → Act → World → Prop} {N : Nat} {T : Tr PV} {D : DL} {e : AE} {T' : Tr PV} {D' : DL} {r r' m : List (Nat × AO)} {n n' : Nat} (h1 : apart r m = true) (h2 : apart r' m = true) (h3 : below n m = true)
    (g : Goes P wp N T D ⟨putO r, n⟩ e T' D' ⟨putO r', n'⟩) : Goes P wp N T D ⟨putO (r ++ m), n⟩ e T' D' ⟨putO (r' ++ m), n'⟩ := by
  refine Goes.frame (H := ⟨putO r, n⟩) (H' := ⟨putO r', n'⟩) (H0 := ⟨putO (r ++ m), n⟩) (H2 := ⟨putO (r' ++ m), n'⟩) (X := fun i => i ∈ m.map (·.1)) rfl ?_ ?_ ?_ rfl g
  · intro i hi
    refine ⟨below_ok h3 hi, ?_⟩
    have : i ∉ r.map (·.1) := apart_ok h1 hi
    show ∃ o, (putO (r ++ m)).at i = some o
    rw [putO_app, if_neg this]
    exact putO_some hi
  · intro i o hi
    have hm := putO_mem hi
    refine ⟨?_, fun hx => apart_ok h1 hx hm⟩
    show (putO (r ++ m)).at i = some o
    rw [putO_app, if_pos hm]; exact hi
  · intro i o hi
    have hi : (putO (r' ++ m)).at i = some o := hi
    rw [putO_app] at hi
    by_cases hr : i ∈ r'.map (·.1)
    · rw [if_pos hr] at hi
      exact .inr ⟨fun hx => apart_ok h2 hx hr, hi⟩
    · rw [if_neg hr] at hi
      have hm := putO_mem hi
      refine .inl ⟨hm, ?_⟩
      show (putO (r ++ m)).at i = some o
      rw [putO_app, if_neg (apart_ok h1 hm)]; exact hi
end
end
end Go.Proofs.YtoapdkcokemieaaGreat.Ev
