/-
  Runs in stages: what is known between two of them stands written. Nothing of the program stands here.
-/
import Derived.Test.YtoapdkcokemieaaGreatEuZD
namespace Go.Proofs.YtoapdkcokemieaaGreat.Ev
open Go.RowKit
noncomputable section
set_option linter.unusedVariables false
set_option linter.unusedSimpArgs false
set_option linter.unusedSectionVars false
variable [Fs] [En] [FsOk] [Hk]
/-- A row: its number, cells, type, an element's size, whether there may be room behind it. -/
structure Rw where
  i : Nat
  l : List PV
  T : Nat
  sz : Nat
  g : Bool
/-- What is known between two stages. -/
structure St where
  t : List (Nat × PV)
  r : List Rw
  n : Nat
def putRows : List Rw → Tr AObj
  | [] => .lf
  | r :: l => (putRows l).put r.i (some (.row (Tr.fill .lf 0 r.l) r.l.length r.T r.sz r.g))
def St.T (s : St) : Tr PV := puts s.t
def St.H (s : St) : Hp := ⟨putRows s.r, s.n⟩
def chkTs (T : Tr PV) : List (Nat × PV) → Bool
  | [] => true
  | x :: l => match T.at x.1 with
    | some v => match eqP 8 v x.2 with
      | true => chkTs T l
      | false => false
    | none => false
theorem chkTs_ok {T : Tr PV} : ∀ {l : List (Nat × PV)}, chkTs T l = true → ∀ x, x ∈ l → T.at x.1 = some x.2
  | [], h, x, hx => by cases hx
  | y :: l, h, x, hx => by
    unfold chkTs at h
    split at h
    · rename_i v hv
      split at h
      · rename_i he
        rcases List.mem_cons.1 hx with rfl | hx
        · rw [hv, eqP_ok 8 _ _ he]
        · exact chkTs_ok h x hx
      · cases h
    · cases h
def chkRw (t : Tr AObj) (r : Rw) : Bool := match t.at r.i with
  | some (.row c n T sz g) => Nat.beq n r.l.length && Nat.beq T r.T && Nat.beq sz r.sz && (g == r.g) && (match c.run 0 n with
    | some l => eqL (eqP 8) l r.l
    | none => false)
  | _ => false
def chkRs (t : Tr AObj) : List Rw → Bool
  | [] => true
  | r :: l => match chkRw t r with
    | true => chkRs t l
    | false => false
def LessO (t : Tr AObj) (i : Nat) (o0 : AObj) : Prop := ∃ o, t.at i = some o ∧ (o0 = o ∨ ∃ c c0 n T sz g, o = .row c n T sz g ∧ o0 = .row c0 n T sz g ∧ ∀ k v, c0.at k = some v → c.at k = some v)
theorem chkRw_ok {t : Tr AObj} {r : Rw} (h : chkRw t r = true) : LessO t r.i (.row (Tr.fill .lf 0 r.l) r.l.length r.T r.sz r.g) := by
  unfold chkRw at h
  split at h
  · rename_i c n T sz g hr
    simp only [Bool.and_eq_true, beq_iff_eq] at h
    obtain ⟨⟨⟨⟨h1, h2⟩, h3⟩, h4⟩, h5⟩ := h
    have h1 := Nat.eq_of_beq_eq_true h1
    have h2 := Nat.eq_of_beq_eq_true h2
    have h3 := Nat.eq_of_beq_eq_true h3
    split at h5
    · rename_i l hl
      have hll := eqL_ok (fun a b => eqP_ok 8 a b) h5
      subst hll
      obtain ⟨h6, h7⟩ := Tr.run_spec hl
      refine ⟨_, hr, .inr ⟨c, Tr.fill .lf 0 r.l, n, T, sz, g, rfl, by rw [h1, h2, h3, h4], ?_⟩⟩
      intro k v hk
      rw [Tr.at_fill] at hk
      split at hk
      · rename_i hb
        have := h7 k (by omega)
        rw [show 0 + k = k from by omega] at this
        rw [this]; simpa using hk
      · rw [Tr.at_lf] at hk; cases hk
    · cases h5
  · cases h
theorem chkRs_ok {t : Tr AObj} : ∀ {l : List Rw}, chkRs t l = true → ∀ i o0, (putRows l).at i = some o0 → LessO t i o0
  | [], h, i, o0, hi => by rw [putRows, Tr.at_lf] at hi; cases hi
  | r :: l, h, i, o0, hi => by
    unfold chkRs at h
    split at h
    · rename_i hr
      rw [putRows, Tr.at_put] at hi
      split at hi
      · rename_i e
        simp only [Option.some.injEq] at hi
        subst e; subst hi
        exact chkRw_ok hr
      · exact chkRs_ok h i o0 hi
    · cases h
def kS (s : St) (e : AE) (T : Tr PV) (D : DL) (H : Hp) : Option Unit := match e with
  | .normal => match D with
    | [] => match chkTs T s.t && chkRs H.t s.r && Nat.ble H.n s.n with
      | true => some ()
      | false => none
    | _ => none
  | _ => none
section
variable {P : Program} [HkOk P]
/-- A stage: what it comes to is as it is written, or more is known. -/
theorem stage {draw : DrawT Unit} (hdraw : DrawOk P draw) {n N : Nat} {cs : List Code} {T : Tr PV} {H : Hp} {s : St} (h : evL P draw n N cs T [] H (kS s) = some ()) {z : Code} {e : AE} {T2 : Tr PV} {D2 : DL} {H2 : Hp}
    (g : Goes P (fun Q a w => z.wp P Q a w) N s.T [] s.H e T2 D2 H2) : Goes P (fun Q a w => (catC cs z).wp P Q a w) N T [] H e T2 D2 H2 := by
  obtain ⟨T', D', H', h1, h2⟩ := evL_ok hdraw (k := kS s) (by intro e T D H he; cases e <;> first | rfl | exact absurd rfl he) cs h
  refine h2 z ?_
  cases D' with
  | cons d D' => cases h1
  | nil =>
    simp only [kS] at h1
    split at h1
    · rename_i hb
      simp only [Bool.and_eq_true, Nat.ble_eq] at hb
      obtain ⟨⟨h3, h4⟩, h5⟩ := hb
      exact Goes.less (puts_at (chkTs_ok h3)) h5 (chkRs_ok h4) g
    · cases h1
end
end
end Go.Proofs.YtoapdkcokemieaaGreat.Ev
