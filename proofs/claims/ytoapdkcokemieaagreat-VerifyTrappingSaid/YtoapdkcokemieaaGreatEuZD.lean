/-
  Runs in parts (2): codes one behind the other, what is known let go of. Nothing of the program stands here.
-/
import Derived.Test.YtoapdkcokemieaaGreatEuZC
namespace Go.Proofs.YtoapdkcokemieaaGreat.Ev
open Go.RowKit
noncomputable section
set_option linter.unusedVariables false
set_option linter.unusedSimpArgs false
set_option linter.unusedSectionVars false
variable [Fs] [En] [FsOk] [Hk]
def catC : List Code → Code → Code
  | [], z => z
  | c :: l, z => .seq c (catC l z)
section
variable {α : Type} {P : Program} [HkOk P]
def evL (P : Program) (draw : DrawT α) (n N : Nat) : List Code → Tr PV → DL → Hp → (AE → Tr PV → DL → Hp → Option α) → Option α
  | [], T, D, H, k => k .normal T D H
  | c :: l, T, D, H, k => evC P draw n false N c T D H fun e T D H => match e with
    | .normal => evL P draw n N l T D H k
    | e => k e T D H
theorem evL_ok {draw : DrawT α} (hdraw : DrawOk P draw) {n N : Nat} {k : AE → Tr PV → DL → Hp → Option α} (hk : ∀ e T D H, e ≠ .normal → k e T D H = none) : ∀ (cs : List Code) {T : Tr PV} {D : DL} {H : Hp} {r : α}, evL P draw n N cs T D H k = some r →
    ∃ T' D' H', k .normal T' D' H' = some r ∧ ∀ (z : Code) {e : AE} {T2 : Tr PV} {D2 : DL} {H2 : Hp}, Goes P (fun Q a w => z.wp P Q a w) N T' D' H' e T2 D2 H2 → Goes P (fun Q a w => (catC cs z).wp P Q a w) N T D H e T2 D2 H2
  | [], T, D, H, r, h => ⟨T, D, H, h, fun z _ _ _ _ g => g⟩
  | c :: l, T, D, H, r, h => by
    unfold evL at h
    obtain ⟨e, T1, D1, H1, h1, h2⟩ := (evC_ok hdraw n).1 N c T D H _ _ h
    cases e with
    | normal =>
      obtain ⟨T', D', H', h3, h4⟩ := evL_ok hdraw hk l h1
      exact ⟨T', D', H', h3, fun z _ _ _ _ g => Goes.chain h2 (h4 z g)⟩
    | exit i => simp only at h1; rw [hk _ _ _ _ (by simp)] at h1; cases h1
    | goto i => simp only at h1; rw [hk _ _ _ _ (by simp)] at h1; cases h1
    | ret => simp only at h1; rw [hk _ _ _ _ (by simp)] at h1; cases h1
    | panic v => simp only at h1; rw [hk _ _ _ _ (by simp)] at h1; cases h1
/-- Less is known of memory. -/
theorem HR.less {F : Fr} {b : Bm} {H H0 : Hp} {w : World} (hn : H.n ≤ H0.n) (h : ∀ i o0, H0.t.at i = some o0 → ∃ o, H.t.at i = some o ∧ (o0 = o ∨ ∃ c c0 n T sz g, o = .row c n T sz g ∧ o0 = .row c0 n T sz g ∧ ∀ k v, c0.at k = some v → c.at k = some v)) (hr : HR F b H w) : HR F b H0 w := by
  refine ⟨hr.fo, fun i hi => hr.nx i (by omega), by have := hr.low; omega, hr.ag, ?_, ?_⟩
  · intro i o0 hi
    obtain ⟨o, h1, h2⟩ := h i o0 hi
    obtain ⟨x, ob, h3, h4, h5, h6⟩ := hr.live i o h1
    refine ⟨x, ob, h3, h4, ?_, h6⟩
    rcases h2 with rfl | ⟨c, c0, n, T, sz, g, rfl, rfl, hc⟩
    · exact h5
    · obtain ⟨a, fz, h7, h8, h9, h10, h11⟩ := h5
      refine ⟨a, fz, h7, h8, fun k hk => ?_, fun k v hk => h10 k v (hc k v hk), h11⟩
      cases hx : c0.at k with
      | none => rfl
      | some v => have := hc k v hx; rw [h9 k hk] at this; cases this
  · intro i j o p x y hi hj hx hy hxy
    obtain ⟨o', h1, _⟩ := h i o hi
    obtain ⟨p', h2, _⟩ := h j p hj
    exact hr.inj i j o' p' x y h1 h2 hx hy hxy
/-- Less is known at the start. -/
theorem Goes.less {wp : (Exit → Act → World → Prop) → Act → World → Prop} {N : Nat} {T T0 : Tr PV} {D : DL} {H H0 : Hp} {e : AE} {T' : Tr PV} {D' : DL} {H' : Hp} (hT : ∀ d v, T0.at d = some v → T.at d = some v) (hn : H.n ≤ H0.n)
    (hH : ∀ i o0, H0.t.at i = some o0 → ∃ o, H.t.at i = some o ∧ (o0 = o ∨ ∃ c c0 n T sz g, o = .row c n T sz g ∧ o0 = .row c0 n T sz g ∧ ∀ k v, c0.at k = some v → c.at k = some v)) (g : Goes P wp N T0 D H0 e T' D' H') : Goes P wp N T D H e T' D' H' := by
  intro F b a w Q ha hr hQ
  exact g F b a w Q ⟨fun d v h => ha.t d v (hT d v h), ha.n, ha.d⟩ (HR.less hn hH hr) hQ
/-- Just these temporaries. -/
def puts : List (Nat × PV) → Tr PV
  | [] => .lf
  | x :: l => (puts l).put x.1 (some x.2)
theorem puts_at {T : Tr PV} : ∀ {l : List (Nat × PV)}, (∀ x, x ∈ l → T.at x.1 = some x.2) → ∀ d v, (puts l).at d = some v → T.at d = some v
  | [], _, d, v, h => by rw [puts, Tr.at_lf] at h; cases h
  | x :: l, hl, d, v, h => by
    rw [puts, Tr.at_put] at h
    split at h
    · rename_i hd
      subst hd
      rw [hl x (by simp)]; exact h
    · exact puts_at (fun y hy => hl y (by simp [hy])) d v h
end
end
end Go.Proofs.YtoapdkcokemieaaGreat.Ev
