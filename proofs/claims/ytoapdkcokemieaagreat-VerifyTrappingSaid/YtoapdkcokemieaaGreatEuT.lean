/-
  Regions that draw their order (1): what stands beside an operation stays; a state in which some operations have been done. Nothing of the program stands here.
-/
import Derived.Test.YtoapdkcokemieaaGreatEuS
import Derived.Orders
namespace Go.Proofs.YtoapdkcokemieaaGreat.Ev
open Go.RowKit
noncomputable section
set_option linter.unusedVariables false
set_option linter.unusedSimpArgs false
set_option linter.unusedSectionVars false
variable [Fs] [En] [FsOk]
section
variable {α : Type} {P : Program}
/-- As HR, the blocks told by a function. -/
structure HRf (F : Fr) (b : Bm) (h : Nat → Option AObj) (n : Nat) (w : World) : Prop where
  fo : ∀ n, F.f n → n < w.heap.size
  nx : ∀ i, n ≤ i → b i = none
  low : F.n0 ≤ n
  ag : ∀ i, i < F.n0 → b i = F.b0 i
  live : ∀ i o, h i = some o → ∃ x ob, b i = some x ∧ w.heap[x.n]? = some ob ∧ OR b x o ob ∧ ¬ F.f x.n
  inj : ∀ i j o p x y, h i = some o → h j = some p → b i = some x → b j = some y → x.n = y.n → i = j
theorem HR.toF {F : Fr} {b : Bm} {H : Hp} {w : World} (h : HR F b H w) : HRf F b H.t.at H.n w := ⟨h.fo, h.nx, h.low, h.ag, h.live, h.inj⟩
theorem HRf.of {F : Fr} {b : Bm} {H : Hp} {w : World} (h : HRf F b H.t.at H.n w) : HR F b H w := ⟨h.fo, h.nx, h.low, h.ag, h.live, h.inj⟩
/-- Fewer blocks. -/
theorem HRf.sub {F : Fr} {b : Bm} {h h' : Nat → Option AObj} {n : Nat} {w : World} (hr : HRf F b h n w) (hs : ∀ i o, h' i = some o → h i = some o) : HRf F b h' n w :=
  ⟨hr.fo, hr.nx, hr.low, hr.ag, fun i o hi => hr.live i o (hs i o hi), fun i j o p x y hi hj => hr.inj i j o p x y (hs _ _ hi) (hs _ _ hj)⟩
/-- The blocks of those that stand beside. -/
def side (b : Bm) (X : Nat → Prop) (k : Nat) : Prop := ∃ i x, X i ∧ b i = some x ∧ x.n = k
/-- What is done with some blocks is done with more: those beside become foreign .. -/
theorem HRf.aside {F : Fr} {b : Bm} {h h' : Nat → Option AObj} {n : Nat} {w : World} (hr : HRf F b h n w) (X : Nat → Prop) {k0 : Nat} {bb : Bm} (hk0 : k0 ≤ n) (hbb : ∀ i, i < k0 → b i = bb i) (hX : ∀ i, X i → ∃ o, h i = some o) (hs : ∀ i o, h' i = some o → h i = some o ∧ ¬ X i) :
    HRf ⟨fun k => F.f k ∨ side b X k, k0, bb⟩ b h' n w := by
  refine ⟨?_, hr.nx, hk0, hbb, ?_, fun i j o p x y hi hj => hr.inj i j o p x y (hs _ _ hi).1 (hs _ _ hj).1⟩
  · rintro k (hk | ⟨i, x, hi, hx, rfl⟩)
    · exact hr.fo k hk
    · obtain ⟨o, ho⟩ := hX i hi
      obtain ⟨y, ob, h1, h2, _⟩ := hr.live i o ho
      rw [hx] at h1; simp at h1; subst h1
      exact heap_lt h2
  · intro i o hi
    obtain ⟨h1, h2⟩ := hs i o hi
    obtain ⟨x, ob, h3, h4, h5, h6⟩ := hr.live i o h1
    refine ⟨x, ob, h3, h4, h5, ?_⟩
    rintro (hk | ⟨j, y, hj, hy, hxy⟩)
    · exact h6 hk
    · obtain ⟨p, hp⟩ := hX j hj
      have := hr.inj i j _ _ _ _ h1 hp h3 hy hxy.symm
      exact h2 (this ▸ hj)
/-- .. and come back behind it. -/
theorem HRf.back {F : Fr} {b b' : Bm} {h g : Nat → Option AObj} {n n' k0 : Nat} {bb : Bm} {w w' : World} (hr : HRf F b h n w) {X : Nat → Prop} (hX : ∀ i, X i → b' i = b i ∧ ∃ o, h i = some o) (hag : ∀ i, i < F.n0 → b' i = b i) (hn : n ≤ n')
    (hr' : HRf ⟨fun k => F.f k ∨ side b X k, k0, bb⟩ b' g n' w') (hle : b.le b') (hk : Keep ⟨fun k => F.f k ∨ side b X k, k0, bb⟩ w w') {h' : Nat → Option AObj} (hh : ∀ i o, h' i = some o → (X i ∧ h i = some o) ∨ (¬ X i ∧ g i = some o)) :
    HRf F b' h' n' w' := by
  have aux : ∀ i o x, h' i = some o → b' i = some x → (X i ∧ h i = some o ∧ b i = some x) ∨ (¬ X i ∧ g i = some o) := by
    intro i o x hi hx
    rcases hh i o hi with ⟨h1, h2⟩ | ⟨h1, h2⟩
    · refine .inl ⟨h1, h2, ?_⟩
      rw [← (hX i h1).1]; exact hx
    · exact .inr ⟨h1, h2⟩
  refine ⟨?_, hr'.nx, Nat.le_trans hr.low hn, ?_, ?_, ?_⟩
  · intro k hF; exact Nat.lt_of_lt_of_le (hr.fo k hF) hk.size
  · intro i hi; rw [hag i hi]; exact hr.ag i hi
  · intro i o hi
    rcases hh i o hi with ⟨h1, h2⟩ | ⟨h1, h2⟩
    · obtain ⟨x, ob, h3, h4, h5, h6⟩ := hr.live i o h2
      refine ⟨x, ob, hle _ _ h3, ?_, h5.mono hle, h6⟩
      rw [hk.block x.n (.inr ⟨i, x, h1, h3, rfl⟩)]; exact h4
    · obtain ⟨x, ob, h3, h4, h5, h6⟩ := hr'.live i o h2
      exact ⟨x, ob, h3, h4, h5, fun hF => h6 (.inl hF)⟩
  · intro i j o p x y hi hj hx hy hxy
    rcases aux i o x hi hx with ⟨h1, h2, h3⟩ | ⟨h1, h2⟩
    · rcases aux j p y hj hy with ⟨h4, h5, h6⟩ | ⟨h4, h5⟩
      · exact hr.inj i j _ _ _ _ h2 h5 h3 h6 hxy
      · exfalso
        obtain ⟨y', ob, h7, h8, h9, h10⟩ := hr'.live j p h5
        rw [hy] at h7; simp at h7; subst h7
        exact h10 (.inr ⟨i, x, h1, h3, hxy⟩)
    · rcases aux j p y hj hy with ⟨h4, h5, h6⟩ | ⟨h4, h5⟩
      · exfalso
        obtain ⟨x', ob, h7, h8, h9, h10⟩ := hr'.live i o h2
        rw [hx] at h7; simp at h7; subst h7
        exact h10 (.inr ⟨j, y, h4, h6, hxy.symm⟩)
      · exact hr'.inj i j _ _ _ _ h2 h5 hx hy hxy
/-- Nothing of those beside is wanted any more. -/
theorem HRf.drop {F : Fr} {b b' : Bm} {h g : Nat → Option AObj} {n n' k0 : Nat} {bb : Bm} {w w' : World} (hr : HRf F b h n w) {X : Nat → Prop} (hag : ∀ i, i < F.n0 → b' i = b i) (hn : n ≤ n') (hr' : HRf ⟨fun k => F.f k ∨ side b X k, k0, bb⟩ b' g n' w')
    (hk : Keep ⟨fun k => F.f k ∨ side b X k, k0, bb⟩ w w') : HRf F b' g n' w' :=
  ⟨fun k hF => Nat.lt_of_lt_of_le (hr.fo k hF) hk.size, hr'.nx, Nat.le_trans hr.low hn, fun i hi => by rw [hag i hi]; exact hr.ag i hi,
    fun i o hi => by obtain ⟨x, ob, h3, h4, h5, h6⟩ := hr'.live i o hi; exact ⟨x, ob, h3, h4, h5, fun hF => h6 (.inl hF)⟩, hr'.inj⟩
theorem Keep.less {F : Fr} {X : Nat → Prop} {n : Nat} {b : Bm} {w w' : World} (h : Keep ⟨fun k => F.f k ∨ X k, n, b⟩ w w') : Keep F w w' := ⟨h.os, h.tape, h.output, h.size, fun k hk => h.block k (.inl hk)⟩
/-! ### Operations, told by what they yield -/
/-- In memory H the operation, its operands as E says, yields v, and memory is then H'. -/
def ValOk (P : Program) (o : Oper) (E : Tr PV) (H : Hp) (v : PV) (H' : Hp) : Prop := ∀ (F : Fr) (b : Bm) (a : Act) (w : World) (next : Act → World → Prop) (Q : Exit → Act → World → Prop), TR b E a.tmps → HR F b H w →
  (∀ b' v' w', b.le b' → V b' v v' → HR F b' H' w' → Keep F w w' → next (a.put o.dst v') w') → o.wp P a w next Q
def PanOk (P : Program) (o : Oper) (E : Tr PV) (H : Hp) (v : PV) (H' : Hp) : Prop := ∀ (F : Fr) (b : Bm) (a : Act) (w : World) (next : Act → World → Prop) (Q : Exit → Act → World → Prop), TR b E a.tmps → HR F b H w →
  (∀ b' v' w', b.le b' → V b' v v' → HR F b' H' w' → Keep F w w' → Q (.panic [{ v := v', recovered := false }]) a w') → o.wp P a w next Q
/-- It only reads. -/
def QOk (P : Program) (o : Oper) (E : Tr PV) (H : Hp) (v : PV) : Prop := ∀ (F : Fr) (b : Bm) (a : Act) (w : World), TR b E a.tmps → HR F b H w → ∃ v', (execOp a.eval o).run P w = .ok (.value v') w ∧ V b v v'
/-- It makes a block, number m, whatever there is. -/
def MOk (P : Program) (o : Oper) (E : Tr PV) (m : Nat) (v : PV) (ob : AObj) : Prop := ∀ (H : Hp) (F : Fr) (b : Bm) (a : Act) (w : World) (next : Act → World → Prop) (Q : Exit → Act → World → Prop), TR b E a.tmps → HR F b H w → F.n0 ≤ m → m < H.n → b m = none →
  (∀ b' v' w', b.le b' → (∀ j, j ≠ m → b' j = b j) → V b' v v' → HR F b' ⟨H.t.put m (some ob), H.n⟩ w' → Keep F w w' → next (a.put o.dst v') w') → o.wp P a w next Q
end
end
end Go.Proofs.YtoapdkcokemieaaGreat.Ev
