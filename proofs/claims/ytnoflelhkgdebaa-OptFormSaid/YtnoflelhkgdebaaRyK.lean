/-
  Rows whose elements are rows: one entry for the row itself and for all the rows that it points to. Nothing of the program stands here.
-/
import Derived.Test.YtnoflelhkgdebaaRxM
import Derived.Lib.AppendStr
import Derived.ChangeKeysEq
namespace Go.Proofs.Ytnoflelhkgdebaa
open Go.RowKit
set_option linter.unusedVariables false
set_option linter.unusedSimpArgs false
section
variable {τ : Type} {l : L1} {T T2 : TypeId} {f : τ → List Value} {sz N : Nat} {D : Nat → Nat × (Nat → τ)}
end
/-! ### One row more -/
section
variable {P : Program} {M : Nat → Prop} {B0 : Nat} {S : World → Prop} {t ty e T2 : TypeId} {i : TypeInfo} {z : Value} {bytes : Nat}
end
end Go.Proofs.Ytnoflelhkgdebaa
/-
  Rows of rows that are only read; one of the call's own given to a callee that only reads it. Nothing of the program stands here.
-/
namespace Go.Proofs.Ytnoflelhkgdebaa
open Go.RowKit
set_option linter.unusedVariables false
set_option linter.unusedSimpArgs false
/-- Where a row lies that is only read, and its room. -/
structure RoX where
  a : Option Addr
  p : Nat
  q : Nat
  c : Nat
def rxC {τ : Type} (X : Nat → RoX) (D : Nat → Nat × (Nat → τ)) (i : Nat) : List Value := [.slice (X i).a (D i).1 ((D i).1 + (X i).c)]
structure RoR {τ : Type} (S : World → Prop) (f : τ → List Value) (sz : Nat) (a : Option Addr) (p q n : Nat) (X : Nat → RoX) (D : Nat → Nat × (Nat → τ)) : Prop where
  row : Ro S (rxC X D) 1 a p q n (fun i => i)
  els : ∀ i, i < n → Ro S f sz (X i).a (X i).p (X i).q (D i).1 (D i).2
theorem RoR.mono {τ : Type} {S S' : World → Prop} {f : τ → List Value} {sz : Nat} {a : Option Addr} {p q n : Nat} {X : Nat → RoX} {D : Nat → Nat × (Nat → τ)} (h : RoR S f sz a p q n X D) (hs : ∀ w, S' w → S w) : RoR S' f sz a p q n X D :=
  ⟨h.row.mono hs, fun i hi => (h.els i hi).mono hs⟩
theorem RoR.nil {τ : Type} {S : World → Prop} {f : τ → List Value} {sz : Nat} {a : Option Addr} {p q : Nat} {X : Nat → RoX} {D : Nat → Nat × (Nat → τ)} : RoR S f sz a p q 0 X D := ⟨Ro.nil, fun i hi => absurd hi (by omega)⟩
end Go.Proofs.Ytnoflelhkgdebaa
/-
  Rows of rows: a row's slice read, a cell of a row read and written. Nothing of the program stands here.
-/
namespace Go.Proofs.Ytnoflelhkgdebaa
open Go.RowKit
set_option linter.unusedVariables false
set_option linter.unusedSimpArgs false
section
variable {P : Program} {M : Nat → Prop} {B0 : Nat} {S : World → Prop}
variable {τ : Type} {e T2 T : TypeId} {f : τ → List Value} {sz N k : Nat} {D : Nat → Nat × (Nat → τ)}
end
end Go.Proofs.Ytnoflelhkgdebaa
/-
  Rows of rows: so many rows of nothing made; a row put in another's place. Nothing of the program stands here.
-/
namespace Go.Proofs.Ytnoflelhkgdebaa
open Go.RowKit
set_option linter.unusedVariables false
set_option linter.unusedSimpArgs false
theorem AccOk.blks {S : World → Prop} (l : List Nat) : AccOk S (l.map Acc.blk) := fun x hx => by
  obtain ⟨i, _, rfl⟩ := List.mem_map.1 hx
  trivial
section
variable {P : Program} {M : Nat → Prop} {B0 : Nat} {S : World → Prop} {t e T2 T : TypeId} {i : TypeInfo} {z : Value} {bytes : Nat}
/-! ### make -/
/-! ### A row in another's place -/
end
end Go.Proofs.Ytnoflelhkgdebaa
/-
  Rows of rows at two places: the row, and an entry for all that its elements point to. Nothing of the program stands here.
-/
namespace Go.Proofs.Ytnoflelhkgdebaa
open Go.RowKit
set_option linter.unusedVariables false
set_option linter.unusedSimpArgs false
/-! ### The same blocks, told by other entries -/
def At (ls : List L1) (H : List Obj) (j k x : Nat) (p : Obj) : Prop := ∃ o l, H[j]? = some o ∧ ls[j]? = some l ∧ own o l k = some (x, p)
def Maps (ls : List L1) (H : List Obj) (ls' : List L1) (H' : List Obj) (φ : Nat → Nat → Nat × Nat) : Prop :=
  (∀ j k x p, At ls H j k x p → At ls' H' (φ j k).1 (φ j k).2 x p) ∧ ∀ j k j' k' x p p', At ls H j k x p → At ls H j' k' x p' → φ j k = φ j' k' → j = j' ∧ k = k'
theorem Maps.sat {ls ls' : List L1} {H H' : List Obj} {φ : Nat → Nat → Nat × Nat} {w : World} (h : Maps ls H ls' H' φ) (hs : SatF ls' H' w) : SatF ls H w := by
  refine ⟨fun j k o l x p hj hl ho => ?_, fun j j' k k' o o' l l' x p p' hj hl ho hj' hl' ho' => ?_⟩
  · obtain ⟨o', l', h1, h2, h3⟩ := h.1 j k x p ⟨o, l, hj, hl, ho⟩
    exact hs.hold _ _ o' l' x p h1 h2 h3
  · obtain ⟨o1, l1, h1, h2, h3⟩ := h.1 j k x p ⟨o, l, hj, hl, ho⟩
    obtain ⟨o2, l2, h4, h5, h6⟩ := h.1 j' k' x p' ⟨o', l', hj', hl', ho'⟩
    obtain ⟨e1, e2⟩ := hs.inj _ _ _ _ o1 o2 l1 l2 x p p' h1 h2 h3 h4 h5 h6
    exact h.2 j k j' k' x p p' ⟨o, l, hj, hl, ho⟩ ⟨o', l', hj', hl', ho'⟩ (Prod.ext e1 e2)
theorem Maps.touch {ls ls' : List L1} {H H' : List Obj} {φ : Nat → Nat → Nat × Nat} {x : Nat} (h : Maps ls H ls' H' φ) (ht : touchF ls H x) : touchF ls' H' x := by
  obtain ⟨j, k, o, l, p, h1, h2, h3⟩ := ht
  obtain ⟨o', l', h4, h5, h6⟩ := h.1 j k x p ⟨o, l, h1, h2, h3⟩
  exact ⟨_, _, o', l', p, h4, h5, h6⟩
/-- What is told of one list of entries is told of another that stands for the same blocks. -/
theorem SpcG.two {P : Program} {M : Nat → Prop} {B0 : Nat} {S : World → Prop} {sp sp2 : Spc} (h : SpcG P M B0 S sp) (tr : List L1 → List L1) (back : List L1 → List L1 → List L1)
    (hex : sp2.ex = sp.ex)
    (hpre : ∀ ls, (sp2.pre ls).length = ls.length → (sp.pre (tr ls)).length = (tr ls).length ∧ sp2.wh ls = sp.wh (tr ls) ∧ ∃ φ, Maps (tr ls) (sp.pre (tr ls)) ls (sp2.pre ls) φ)
    (hres : ∀ ls ms w, (sp2.pre ls).length = ls.length → ms.length = sp.m → SatF (tr ls ++ ms) (sp.post (tr ls ++ ms) ++ sp.new (tr ls ++ ms)) w → (back ls ms).length = sp2.m ∧ sp.val (tr ls ++ ms) = sp2.val (ls ++ back ls ms) ∧
      ∃ φ, Maps (ls ++ back ls ms) (sp2.post (ls ++ back ls ms) ++ sp2.new (ls ++ back ls ms)) (tr ls ++ ms) (sp.post (tr ls ++ ms) ++ sp.new (tr ls ++ ms)) φ) :
    SpcG P M B0 S sp2 := by
  intro ls w hlen hsat htb hS
  obtain ⟨h1, h2, φ, h3⟩ := hpre ls hlen
  have hd := h (tr ls) w h1 (h3.sat hsat) (fun x hx => htb x (h3.touch hx)) hS
  rw [h2, hex]
  refine hd.mono fun vs w' ⟨ms, hms, hv, hch, hfs⟩ => ?_
  obtain ⟨hsl, hnew⟩ := hfs (.inl rfl)
  obtain ⟨h4, h5, ψ, h6⟩ := hres ls ms w' hlen hms hsl
  refine ⟨back ls ms, h4, hv.trans h5, ⟨hch.os, hch.tape, hch.output, hch.size, fun x hx ht => hch.block x hx fun q => ht (h3.touch q)⟩, fun _ => ⟨h6.sat hsl, fun j k o l x p hj hl ho => ?_⟩⟩
  obtain ⟨j', k', o', l', p', h7, h8, h9⟩ := h6.touch ⟨j, k, o, l, p, hj, hl, ho⟩
  rcases hnew j' k' o' l' x p' h7 h8 h9 with q | q
  · exact .inl q
  · exact .inr (h3.touch q)
/-! ### The two places -/
section
variable {τ : Type} {q l : L1} {e T2 : TypeId} {f : τ → List Value} {sz N : Nat} {D : Nat → Nat × (Nat → τ)}
end
/-! ### A row in another's place -/
section
variable {P : Program} {M : Nat → Prop} {B0 : Nat} {S : World → Prop} {e T2 T : TypeId}
end
end Go.Proofs.Ytnoflelhkgdebaa
/-
  Rows of rows at two places: append, make, reading, one given to a reader. Nothing of the program stands here.
-/
namespace Go.Proofs.Ytnoflelhkgdebaa
open Go.RowKit
set_option linter.unusedVariables false
set_option linter.unusedSimpArgs false
section
variable {τ : Type} {q l L : L1} {e T2 : TypeId} {f : τ → List Value} {sz N : Nat} {D : Nat → Nat × (Nat → τ)} {rest xs ys : List L1} {R Hs Ks : List Obj}
end
section
variable {P : Program} {M : Nat → Prop} {B0 : Nat} {S : World → Prop} {t ty e T2 T : TypeId} {i : TypeInfo} {z : Value} {bytes : Nat}
variable {τ : Type} {f : τ → List Value} {sz N k : Nat} {D : Nat → Nat × (Nat → τ)}
end
/-! ### One given to a reader -/
end Go.Proofs.Ytnoflelhkgdebaa
/-
  Makes among other makes, an entry for blocks that aren't there yet, a row of nothing in another's place. Nothing of the program stands here.
-/
namespace Go.Proofs.Ytnoflelhkgdebaa
open Go.RowKit
set_option linter.unusedVariables false
set_option linter.unusedSimpArgs false
section
variable {P : Program} {t e : TypeId} {i : TypeInfo} {z : Value} {sz bytes : Nat}
end
section
variable {P : Program} {M : Nat → Prop} {B0 : Nat} {S : World → Prop} {e T2 T : TypeId}
end
end Go.Proofs.Ytnoflelhkgdebaa
/-
  Blocks of several arrays; parts of a call's own rows and arrays, which a callee may write. Nothing of the program stands here.
-/
namespace Go.Proofs.Ytnoflelhkgdebaa
open Go.RowKit
set_option linter.unusedVariables false
set_option linter.unusedSimpArgs false
/-! ### A block of several arrays -/
section
variable {P : Program} {S : World → Prop} {T e : TypeId}
variable {τ : Type} {f : τ → List Value} {N k sz o off : Nat} {A A1 : Nat → τ} {v : τ} {pre post : List (List Value)}
end
/-! ### A part of a row or of an array -/
section
variable {P : Program} {T e : TypeId} {sz : Nat}
end
end Go.Proofs.Ytnoflelhkgdebaa
/-
  Bytes of a string behind a row, a row behind a block that bears a mark, parts of known rows, elements that point somewhere. Nothing of the program stands here.
-/
namespace Go.Proofs.Ytnoflelhkgdebaa
open Go.RowKit
set_option linter.unusedVariables false
set_option linter.unusedSimpArgs false
/-! ### Parts at known places -/
section
variable {P : Program} {T e : TypeId} {sz n : Nat}
end
/-! ### append -/
section
variable {P : Program} {t ty e : TypeId} {i : TypeInfo} {z : Value} {size bytes : Nat}
end
section
variable {P : Program} {t ty e : TypeId} {i : TypeInfo} {z : Value} {sz bytes : Nat} {α : Type} {f : α → List Value}
end
section
variable {P : Program} {t u ty e : TypeId} {i : TypeInfo} {z : Value} {bytes : Nat} {α : Type} {f : α → List Value}
end
section
variable {P : Program} {t ty e : TypeId} {i : TypeInfo} {z : Value} {size bytes : Nat}
end
end Go.Proofs.Ytnoflelhkgdebaa
/-
  Equality of arrays, shifts by what is left of a division. Nothing of the program stands here.
-/
namespace Go.Proofs.Ytnoflelhkgdebaa
open Go.RowKit
set_option linter.unusedVariables false
set_option linter.unusedSimpArgs false
section
variable {P : Program} {w : World} {d : Nat} {t e : TypeId} {n c : Nat}
end
end Go.Proofs.Ytnoflelhkgdebaa
/-
  At an assignment: a slice of a whole block is a row without room. Nothing of the program stands here.
-/
namespace Go.Proofs.Ytnoflelhkgdebaa
open Go.RowKit
set_option linter.unusedVariables false
set_option linter.unusedSimpArgs false
section
variable {P : Program}
theorem litRow_ok {S : World → Prop} {es : List Value} {e n sz : Nat} :
    SpcOk P S ⟨fun ls => .op (.mv (.slice (some ⟨(lget ls 0).n, 0, none⟩) n n)),
      fun ls => [.cells ⟨es⟩ e], 1, .normal, fun ls => [rowV (lget ls 1) n sz], fun _ => [unb], fun ls => [rowO (lget ls 1) es e n sz]⟩ := by
  intro ls w hlen hsat hS
  match ls, hlen with
  | [l], _ =>
    have hg : w.heap[l.n]? = some (.cells ⟨es⟩ e) := hsat.holds 0 _ l rfl rfl rfl
    have hpad : padL (⟨l.n, fun _ => .nilFunc⟩ : L1) n sz = [] := by
      unfold padL padR
      simp
    refine ⟨_, w, .inl rfl, [⟨l.n, fun _ => .nilFunc⟩], rfl, ?_, sat_unb1 ?_, ?_, ⟨rfl, rfl, rfl, Nat.le_refl _, fun _ _ _ => rfl⟩⟩
    · show [Value.slice (some ⟨l.n, 0, none⟩) n n] = [rowV ⟨l.n, fun _ => .nilFunc⟩ n sz]
      unfold rowV
      rw [hpad]
      simp
    · show w.heap[l.n]? = some (rowO ⟨l.n, fun _ => .nilFunc⟩ es e n sz)
      unfold rowO
      rw [hpad, List.append_nil]
      exact hg
    · intro j o x hj hreal hx
      match j, hx with
      | 0, hx =>
        obtain rfl : (⟨l.n, fun _ => .nilFunc⟩ : L1) = x := by simpa using hx
        exact .inr ⟨0, _, l, rfl, rfl, rfl, rfl⟩
      | k + 1, hx => simp at hx
end
end Go.Proofs.Ytnoflelhkgdebaa
