/-
  Memory told by lists of blocks: greater and smaller ones. Nothing of the program stands here.
-/
import Derived.Test.YtoapdkcokemieaaGreatEuZH
namespace Go.Proofs.YtoapdkcokemieaaGreat.Ev
open Go.RowKit
noncomputable section
set_option linter.unusedVariables false
set_option linter.unusedSimpArgs false
set_option linter.unusedSectionVars false
variable [Fs] [En] [FsOk] [Hk]
theorem putO_get : ∀ {l : List (Nat × AO)} {i : Nat} {o : AObj}, (putO l).at i = some o → ∃ x, x ∈ l ∧ x.1 = i ∧ x.2.obj = o
  | [], i, o, h => by rw [putO, Tr.at_lf] at h; cases h
  | r :: l, i, o, h => by
    rw [putO, Tr.at_put] at h
    split at h
    · rename_i e
      simp only [Option.some.injEq] at h
      exact ⟨r, by simp, e, h⟩
    · obtain ⟨x, h1, h2, h3⟩ := putO_get h
      exact ⟨x, by simp [h1], h2, h3⟩
theorem putO_of_mem : ∀ {l : List (Nat × AO)}, (l.map (·.1)).Nodup → ∀ {x : Nat × AO}, x ∈ l → (putO l).at x.1 = some x.2.obj
  | [], hn, x, hx => by cases hx
  | r :: l, hn, x, hx => by
    rw [List.map_cons, List.nodup_cons] at hn
    rw [putO, Tr.at_put]
    rcases List.mem_cons.1 hx with rfl | hx
    · rw [if_pos rfl]
    · have : r.1 ≠ x.1 := by
        intro e
        exact hn.1 (by rw [e]; exact List.mem_map_of_mem hx)
      rw [if_neg this]
      exact putO_of_mem hn.2 hx
section
variable {P : Program} [HkOk P]
/-- What a smaller memory comes to, a greater one comes to as well. -/
theorem Goes.within {wp : (Exit → Act → World → Prop) → Act → World → Prop} {N : Nat} {T T' : Tr PV} {D D' : DL} {e : AE} {m m2 s s2 : List (Nat × AO)} {n n' : Nat} (hm : (m.map (·.1)).Nodup) (hm2 : (m2.map (·.1)).Nodup) (hs : ∀ x, x ∈ s → x ∈ m) (hs2 : ∀ x, x ∈ s2 → x ∈ m2)
    (hid : ∀ i, i ∈ s.map (·.1) ↔ i ∈ s2.map (·.1)) (hrest : ∀ x, x ∈ m2 → x.1 ∉ s.map (·.1) → x ∈ m) (hb : ∀ x, x ∈ m → x.1 < n) (g : Goes P wp N T D ⟨putO s, n⟩ e T' D' ⟨putO s2, n'⟩) : Goes P wp N T D ⟨putO m, n⟩ e T' D' ⟨putO m2, n'⟩ := by
  refine Goes.frame (H := ⟨putO s, n⟩) (H' := ⟨putO s2, n'⟩) (H0 := ⟨putO m, n⟩) (H2 := ⟨putO m2, n'⟩) (X := fun i => i ∈ m.map (·.1) ∧ i ∉ s.map (·.1)) rfl ?_ ?_ ?_ rfl g
  · rintro i ⟨hi, _⟩
    obtain ⟨x, hx, rfl⟩ := List.mem_map.1 hi
    exact ⟨hb x hx, putO_some hi⟩
  · intro i o hi
    obtain ⟨x, h1, h2, h3⟩ := putO_get hi
    refine ⟨?_, fun hX => hX.2 (putO_mem hi)⟩
    have := putO_of_mem hm (hs x h1)
    rw [h2, h3] at this
    exact this
  · intro i o hi
    have hi : (putO m2).at i = some o := hi
    by_cases hsi : i ∈ s.map (·.1)
    · refine .inr ⟨fun hX => hX.2 hsi, ?_⟩
      obtain ⟨o2, ho2⟩ := putO_some ((hid i).1 hsi)
      obtain ⟨x, h1, h2, h3⟩ := putO_get ho2
      have := putO_of_mem hm2 (hs2 x h1)
      rw [h2, h3, hi] at this
      simp only [Option.some.injEq] at this
      show (putO s2).at i = some o
      rw [ho2, this]
    · obtain ⟨x, h1, h2, h3⟩ := putO_get hi
      have hxm := hrest x h1 (by rw [h2]; exact hsi)
      have := putO_of_mem hm hxm
      rw [h2, h3] at this
      exact .inl ⟨⟨by rw [← h2]; exact List.mem_map_of_mem hxm, hsi⟩, this⟩
theorem Goes.same {wp : (Exit → Act → World → Prop) → Act → World → Prop} {N : Nat} {T T' : Tr PV} {D D' : DL} {e : AE} {m s : List (Nat × AO)} {n n' : Nat} (hm : (m.map (·.1)).Nodup) (hs : ∀ x, x ∈ s → x ∈ m) (hb : ∀ x, x ∈ m → x.1 < n)
    (g : Goes P wp N T D ⟨putO s, n⟩ e T' D' ⟨putO s, n'⟩) : Goes P wp N T D ⟨putO m, n⟩ e T' D' ⟨putO m, n'⟩ :=
  Goes.within hm hm hs hs (fun _ => Iff.rfl) (fun x h _ => h) hb g
/-- Temporaries told otherwise. -/
theorem Goes.retell {wp : (Exit → Act → World → Prop) → Act → World → Prop} {N : Nat} {T T0 T' : Tr PV} {D D' : DL} {e : AE} {H H' : Hp} (hT : ∀ d v, T0.at d = some v → ∃ u, T.at d = some u ∧ ∀ (b : Bm) x, V b u x → V b v x)
    (g : Goes P wp N T0 D H e T' D' H') : Goes P wp N T D H e T' D' H' := by
  intro F b a w Q ha hr hQ
  refine g F b a w Q ⟨fun d v h => ?_, ha.n, ha.d⟩ hr hQ
  obtain ⟨u, h1, h2⟩ := hT d v h
  obtain ⟨v', h3, h4⟩ := ha.t d u h1
  exact ⟨v', h3, h2 b v' h4⟩
theorem puts_retell {l m : List (Nat × PV)} (h : ∀ x, x ∈ m → ∃ u, (puts l).at x.1 = some u ∧ ∀ (b : Bm) y, V b u y → V b x.2 y) : ∀ d v, (puts m).at d = some v → ∃ u, (puts l).at d = some u ∧ ∀ (b : Bm) y, V b u y → V b v y := by
  induction m with
  | nil => intro d v hd; rw [puts, Tr.at_lf] at hd; cases hd
  | cons x m ih =>
    intro d v hd
    rw [puts, Tr.at_put] at hd
    split at hd
    · rename_i e
      simp only [Option.some.injEq] at hd
      subst e; subst hd
      exact h x (by simp)
    · exact ih (fun y hy => h y (by simp [hy])) d v hd
theorem Goes.block {id : Nat} {x : Code} {N : Nat} {T T' : Tr PV} {D D' : DL} {H H' : Hp} (h : Goes P (fun Q a w => x.wp P Q a w) N T D H (.exit id) T' D' H') : Goes P (fun Q a w => (Code.block id x).wp P Q a w) N T D H .normal T' D' H' := by
  obtain ⟨e, T2, D2, H2, h1, h2⟩ := block_ok (id := id) h (k := fun e T D H => some (e, T, D, H)) (r := (.normal, T', D', H')) (by simp only [Nat.beq_refl])
  simp only [Option.some.injEq, Prod.mk.injEq] at h1
  obtain ⟨rfl, rfl, rfl, rfl⟩ := h1
  exact h2
end
end
end Go.Proofs.YtoapdkcokemieaaGreat.Ev
