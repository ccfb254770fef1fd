/-
  Rows of rows: a row's slice read, a cell of a row read and written. Nothing of the program stands here.
-/
import Derived.Test.YtlpjdjbophcomaaDoorRyB
namespace Go.Proofs.YtlpjdjbophcomaaDoor
open Go.RowKit
set_option linter.unusedVariables false
set_option linter.unusedSimpArgs false
section
variable {P : Program} {M : Nat → Prop} {B0 : Nat} {S : World → Prop}
/-- What only reads is told by what it answers. -/
theorem spc_read {q : List L1 → Q} {o : List L1 → List Obj} {v : List L1 → Value} (h : ∀ ls w, (o ls).length = ls.length → SatF ls (o ls) w → S w → (q ls).sem.run P w = .ok (.value (v ls)) w) :
    SpcG P M B0 S ⟨fun ls => .op (q ls), o, 0, .normal, fun ls => [v ls], o, fun _ => []⟩ := fun ls w hl hs ht hS =>
  ⟨v ls, w, .inl (h ls w hl hs hS), [], rfl, by simp, Chg.refl .., fun _ => ⟨by simpa using hs, fun j k o l x p hj hx ho => .inr ⟨j, k, o, l, p, by simpa using hj, by simpa using hx, ho⟩⟩⟩
variable {τ : Type} {e T2 T : TypeId} {f : τ → List Value} {sz N k : Nat} {D : Nat → Nat × (Nat → τ)}
end
end Go.Proofs.YtlpjdjbophcomaaDoor
/-
  Rows of rows: so many rows of nothing made; a row put in another's place. Nothing of the program stands here.
-/
namespace Go.Proofs.YtlpjdjbophcomaaDoor
open Go.RowKit
set_option linter.unusedVariables false
set_option linter.unusedSimpArgs false
theorem AccOk.blks {S : World → Prop} (l : List Nat) : AccOk S (l.map Acc.blk) := fun x hx => by
  obtain ⟨i, _, rfl⟩ := List.mem_map.1 hx
  trivial
section
variable {P : Program} {M : Nat → Prop} {B0 : Nat} {S : World → Prop} {t e T2 T : TypeId} {i : TypeInfo} {z : Value} {bytes : Nat}
/-! ### make -/
/-! ### A row in another's place -/
end
end Go.Proofs.YtlpjdjbophcomaaDoor
/-
  Rows of rows at two places: the row, and an entry for all that its elements point to. Nothing of the program stands here.
-/
namespace Go.Proofs.YtlpjdjbophcomaaDoor
open Go.RowKit
set_option linter.unusedVariables false
set_option linter.unusedSimpArgs false
/-! ### The same blocks, told by other entries -/
def At (ls : List L1) (H : List Obj) (j k x : Nat) (p : Obj) : Prop := ∃ o l, H[j]? = some o ∧ ls[j]? = some l ∧ own o l k = some (x, p)
def Maps (ls : List L1) (H : List Obj) (ls' : List L1) (H' : List Obj) (φ : Nat → Nat → Nat × Nat) : Prop :=
  (∀ j k x p, At ls H j k x p → At ls' H' (φ j k).1 (φ j k).2 x p) ∧ ∀ j k j' k' x p p', At ls H j k x p → At ls H j' k' x p' → φ j k = φ j' k' → j = j' ∧ k = k'
theorem Maps.sat {ls ls' : List L1} {H H' : List Obj} {φ : Nat → Nat → Nat × Nat} {w : World} (h : Maps ls H ls' H' φ) (hs : SatF ls' H' w) : SatF ls H w := by
  refine ⟨fun j k o l x p hj hl ho => ?_, fun j j' k k' o o' l l' x p p' hj hl ho hj' hl' ho' => ?_⟩
  · obtain ⟨o', l', h1, h2, h3⟩ := h.1 j k x p ⟨o, l, hj, hl, ho⟩
    exact hs.hold _ _ o' l' x p h1 h2 h3
  · obtain ⟨o1, l1, h1, h2, h3⟩ := h.1 j k x p ⟨o, l, hj, hl, ho⟩
    obtain ⟨o2, l2, h4, h5, h6⟩ := h.1 j' k' x p' ⟨o', l', hj', hl', ho'⟩
    obtain ⟨e1, e2⟩ := hs.inj _ _ _ _ o1 o2 l1 l2 x p p' h1 h2 h3 h4 h5 h6
    exact h.2 j k j' k' x p p' ⟨o, l, hj, hl, ho⟩ ⟨o', l', hj', hl', ho'⟩ (Prod.ext e1 e2)
theorem Maps.touch {ls ls' : List L1} {H H' : List Obj} {φ : Nat → Nat → Nat × Nat} {x : Nat} (h : Maps ls H ls' H' φ) (ht : touchF ls H x) : touchF ls' H' x := by
  obtain ⟨j, k, o, l, p, h1, h2, h3⟩ := ht
  obtain ⟨o', l', h4, h5, h6⟩ := h.1 j k x p ⟨o, l, h1, h2, h3⟩
  exact ⟨_, _, o', l', p, h4, h5, h6⟩
/-- What is told of one list of entries is told of another that stands for the same blocks. -/
theorem SpcG.two {P : Program} {M : Nat → Prop} {B0 : Nat} {S : World → Prop} {sp sp2 : Spc} (h : SpcG P M B0 S sp) (tr : List L1 → List L1) (back : List L1 → List L1 → List L1)
    (hex : sp2.ex = sp.ex)
    (hpre : ∀ ls, (sp2.pre ls).length = ls.length → (sp.pre (tr ls)).length = (tr ls).length ∧ sp2.wh ls = sp.wh (tr ls) ∧ ∃ φ, Maps (tr ls) (sp.pre (tr ls)) ls (sp2.pre ls) φ)
    (hres : ∀ ls ms w, (sp2.pre ls).length = ls.length → ms.length = sp.m → SatF (tr ls ++ ms) (sp.post (tr ls ++ ms) ++ sp.new (tr ls ++ ms)) w → (back ls ms).length = sp2.m ∧ sp.val (tr ls ++ ms) = sp2.val (ls ++ back ls ms) ∧
      ∃ φ, Maps (ls ++ back ls ms) (sp2.post (ls ++ back ls ms) ++ sp2.new (ls ++ back ls ms)) (tr ls ++ ms) (sp.post (tr ls ++ ms) ++ sp.new (tr ls ++ ms)) φ) :
    SpcG P M B0 S sp2 := by
  intro ls w hlen hsat htb hS
  obtain ⟨h1, h2, φ, h3⟩ := hpre ls hlen
  have hd := h (tr ls) w h1 (h3.sat hsat) (fun x hx => htb x (h3.touch hx)) hS
  rw [h2, hex]
  refine hd.mono fun vs w' ⟨ms, hms, hv, hch, hfs⟩ => ?_
  obtain ⟨hsl, hnew⟩ := hfs (.inl rfl)
  obtain ⟨h4, h5, ψ, h6⟩ := hres ls ms w' hlen hms hsl
  refine ⟨back ls ms, h4, hv.trans h5, ⟨hch.os, hch.tape, hch.output, hch.size, fun x hx ht => hch.block x hx fun q => ht (h3.touch q)⟩, fun _ => ⟨h6.sat hsl, fun j k o l x p hj hl ho => ?_⟩⟩
  obtain ⟨j', k', o', l', p', h7, h8, h9⟩ := h6.touch ⟨j, k, o, l, p, hj, hl, ho⟩
  rcases hnew j' k' o' l' x p' h7 h8 h9 with q | q
  · exact .inl q
  · exact .inr (h3.touch q)
/-! ### The two places -/
section
variable {τ : Type} {q l : L1} {e T2 : TypeId} {f : τ → List Value} {sz N : Nat} {D : Nat → Nat × (Nat → τ)}
end
/-! ### A row in another's place -/
section
variable {P : Program} {M : Nat → Prop} {B0 : Nat} {S : World → Prop} {e T2 T : TypeId}
end
end Go.Proofs.YtlpjdjbophcomaaDoor
/-
  Rows of rows at two places: append, make, reading, one given to a reader. Nothing of the program stands here.
-/
namespace Go.Proofs.YtlpjdjbophcomaaDoor
open Go.RowKit
set_option linter.unusedVariables false
set_option linter.unusedSimpArgs false
section
variable {τ : Type} {q l L : L1} {e T2 : TypeId} {f : τ → List Value} {sz N : Nat} {D : Nat → Nat × (Nat → τ)} {rest xs ys : List L1} {R Hs Ks : List Obj}
end
section
variable {P : Program} {M : Nat → Prop} {B0 : Nat} {S : World → Prop} {t ty e T2 T : TypeId} {i : TypeInfo} {z : Value} {bytes : Nat}
variable {τ : Type} {f : τ → List Value} {sz N k : Nat} {D : Nat → Nat × (Nat → τ)}
end
/-! ### One given to a reader -/
end Go.Proofs.YtlpjdjbophcomaaDoor
/-
  Makes among other makes, an entry for blocks that aren't there yet, a row of nothing in another's place. Nothing of the program stands here.
-/
namespace Go.Proofs.YtlpjdjbophcomaaDoor
open Go.RowKit
set_option linter.unusedVariables false
set_option linter.unusedSimpArgs false
section
variable {P : Program} {t e : TypeId} {i : TypeInfo} {z : Value} {sz bytes : Nat}
end
section
variable {P : Program} {M : Nat → Prop} {B0 : Nat} {S : World → Prop} {e T2 T : TypeId}
end
end Go.Proofs.YtlpjdjbophcomaaDoor
