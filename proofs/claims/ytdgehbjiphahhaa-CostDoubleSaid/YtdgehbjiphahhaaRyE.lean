/-
  Rows of rows at two places: the row, and an entry for all that its elements point to. Nothing of the program stands here.
-/
import Derived.Test.YtdgehbjiphahhaaRyD
namespace Go.Proofs.Ytdgehbjiphahhaa
open Go.RowKit
set_option linter.unusedVariables false
set_option linter.unusedSimpArgs false
/-! ### The same blocks, told by other entries -/
def At (ls : List L1) (H : List Obj) (j k x : Nat) (p : Obj) : Prop := ∃ o l, H[j]? = some o ∧ ls[j]? = some l ∧ own o l k = some (x, p)
def Maps (ls : List L1) (H : List Obj) (ls' : List L1) (H' : List Obj) (φ : Nat → Nat → Nat × Nat) : Prop :=
  (∀ j k x p, At ls H j k x p → At ls' H' (φ j k).1 (φ j k).2 x p) ∧ ∀ j k j' k' x p p', At ls H j k x p → At ls H j' k' x p' → φ j k = φ j' k' → j = j' ∧ k = k'
theorem Maps.sat {ls ls' : List L1} {H H' : List Obj} {φ : Nat → Nat → Nat × Nat} {w : World} (h : Maps ls H ls' H' φ) (hs : SatF ls' H' w) : SatF ls H w := by
  refine ⟨fun j k o l x p hj hl ho => ?_, fun j j' k k' o o' l l' x p p' hj hl ho hj' hl' ho' => ?_⟩
  · obtain ⟨o', l', h1, h2, h3⟩ := h.1 j k x p ⟨o, l, hj, hl, ho⟩
    exact hs.hold _ _ o' l' x p h1 h2 h3
  · obtain ⟨o1, l1, h1, h2, h3⟩ := h.1 j k x p ⟨o, l, hj, hl, ho⟩
    obtain ⟨o2, l2, h4, h5, h6⟩ := h.1 j' k' x p' ⟨o', l', hj', hl', ho'⟩
    obtain ⟨e1, e2⟩ := hs.inj _ _ _ _ o1 o2 l1 l2 x p p' h1 h2 h3 h4 h5 h6
    exact h.2 j k j' k' x p p' ⟨o, l, hj, hl, ho⟩ ⟨o', l', hj', hl', ho'⟩ (Prod.ext e1 e2)
theorem Maps.touch {ls ls' : List L1} {H H' : List Obj} {φ : Nat → Nat → Nat × Nat} {x : Nat} (h : Maps ls H ls' H' φ) (ht : touchF ls H x) : touchF ls' H' x := by
  obtain ⟨j, k, o, l, p, h1, h2, h3⟩ := ht
  obtain ⟨o', l', h4, h5, h6⟩ := h.1 j k x p ⟨o, l, h1, h2, h3⟩
  exact ⟨_, _, o', l', p, h4, h5, h6⟩
/-- What is told of one list of entries is told of another that stands for the same blocks. -/
theorem SpcG.two {P : Program} {M : Nat → Prop} {B0 : Nat} {S : World → Prop} {sp sp2 : Spc} (h : SpcG P M B0 S sp) (tr : List L1 → List L1) (back : List L1 → List L1 → List L1)
    (hex : sp2.ex = sp.ex)
    (hpre : ∀ ls, (sp2.pre ls).length = ls.length → (sp.pre (tr ls)).length = (tr ls).length ∧ sp2.wh ls = sp.wh (tr ls) ∧ ∃ φ, Maps (tr ls) (sp.pre (tr ls)) ls (sp2.pre ls) φ)
    (hres : ∀ ls ms w, (sp2.pre ls).length = ls.length → ms.length = sp.m → SatF (tr ls ++ ms) (sp.post (tr ls ++ ms) ++ sp.new (tr ls ++ ms)) w → (back ls ms).length = sp2.m ∧ sp.val (tr ls ++ ms) = sp2.val (ls ++ back ls ms) ∧
      ∃ φ, Maps (ls ++ back ls ms) (sp2.post (ls ++ back ls ms) ++ sp2.new (ls ++ back ls ms)) (tr ls ++ ms) (sp.post (tr ls ++ ms) ++ sp.new (tr ls ++ ms)) φ) :
    SpcG P M B0 S sp2 := by
  intro ls w hlen hsat htb hS
  obtain ⟨h1, h2, φ, h3⟩ := hpre ls hlen
  have hd := h (tr ls) w h1 (h3.sat hsat) (fun x hx => htb x (h3.touch hx)) hS
  rw [h2, hex]
  refine hd.mono fun vs w' ⟨ms, hms, hv, hch, hfs⟩ => ?_
  obtain ⟨hsl, hnew⟩ := hfs (.inl rfl)
  obtain ⟨h4, h5, ψ, h6⟩ := hres ls ms w' hlen hms hsl
  refine ⟨back ls ms, h4, hv.trans h5, ⟨hch.os, hch.tape, hch.output, hch.size, fun x hx ht => hch.block x hx fun q => ht (h3.touch q)⟩, fun _ => ⟨h6.sat hsl, fun j k o l x p hj hl ho => ?_⟩⟩
  obtain ⟨j', k', o', l', p', h7, h8, h9⟩ := h6.touch ⟨j, k, o, l, p, hj, hl, ho⟩
  rcases hnew j' k' o' l' x p' h7 h8 h9 with q | q
  · exact .inl q
  · exact .inr (h3.touch q)
/-! ### The two places -/
def rfC {τ : Type} (l : L1) (sz : Nat) (D : Nat → Nat × (Nat → τ)) (i : Nat) : List Value := [if (D i).1 = 0 then .slice none 0 0 else rowV (mfl l i) (D i).1 sz]
/-- The row itself: its letter q, and the letter l of what it points to. -/
def rfR {τ : Type} (q l : L1) (e : TypeId) (sz N : Nat) (D : Nat → Nat × (Nat → τ)) : Obj := rowO q (esG (rfC l sz D) N fun i => i) e N 1
/-- What its elements point to. -/
def rfO {τ : Type} (T2 : TypeId) (f : τ → List Value) (sz N : Nat) (D : Nat → Nat × (Nat → τ)) : Obj := .pending ⟨(List.range N).map fun i => rrB T2 f sz (D i)⟩ 0
def cmb (q l : L1) : L1 := ⟨0, fun k => if k = 0 then rrE q else l.u (k - 1)⟩
def rfS (L : L1) : L1 := ⟨0, fun k => L.u (k + 1)⟩
theorem cmb_M (q l : L1) (i : Nat) : rrM (cmb q l) i = mfl l i := by
  have e : (cmb q l).u (i + 1) = l.u i := by
    show (if i + 1 = 0 then rrE q else l.u (i + 1 - 1)) = l.u i
    rw [if_neg (by omega), Nat.add_sub_cancel]
  unfold rrM mfl
  rw [e]
theorem rrC_cmb {τ : Type} (q l : L1) (sz : Nat) (D : Nat → Nat × (Nat → τ)) (i : Nat) : rrC (cmb q l) sz D i = rfC l sz D i := by
  unfold rrC rfC
  rw [cmb_M]
section
variable {τ : Type} {q l : L1} {e T2 : TypeId} {f : τ → List Value} {sz N : Nat} {D : Nat → Nat × (Nat → τ)}
theorem own_rf {i : Nat} : own (rfO T2 f sz N D) l i = if i < N ∧ (D i).1 ≠ 0 then some ((mfl l i).n, rowO (mfl l i) (esG f (D i).1 (D i).2) T2 (D i).1 sz) else none := by
  by_cases hi : i < N
  · have e1 : ((⟨(List.range N).map fun i => rrB T2 f sz (D i)⟩ : Array Value))[i]? = some (rrB T2 f sz (D i)) := by
      simp [hi]
    unfold own rfO
    simp only [e1]
    unfold rrB
    by_cases h0 : (D i).1 = 0
    · rw [if_pos h0, if_neg (fun h => h.2 h0)]; rfl
    · rw [if_neg h0, objOf_row, if_pos ⟨hi, h0⟩]
  · have e1 : ((⟨(List.range N).map fun i => rrB T2 f sz (D i)⟩ : Array Value))[i]? = none := by
      simp; omega
    unfold own rfO
    simp only [e1]
    rw [if_neg (fun h => hi h.1)]
/-- One entry's blocks are the two entries' blocks. -/
theorem own_cmb {k x : Nat} {p : Obj} : own (rrO (cmb q l) e T2 f sz N D) (cmb q l) k = some (x, p) ↔ (k = 0 ∧ own (rfR q l e sz N D) q 0 = some (x, p)) ∨ ∃ i, k = i + 1 ∧ own (rfO T2 f sz N D) l i = some (x, p) := by
  have eo : own (rfR q l e sz N D) q 0 = some (q.n, rfR q l e sz N D) := rfl
  have es : esG (rrC (cmb q l) sz D) N (fun i => i) = esG (rfC l sz D) N (fun i => i) := esG_map fun j hj => rrC_cmb q l sz D j
  constructor
  · intro h
    rcases own_rr h with ⟨rfl, rfl, rfl⟩ | ⟨i, rfl, hi, h0, rfl, rfl⟩
    · refine .inl ⟨rfl, ?_⟩
      rw [eo, es]
      rfl
    · refine .inr ⟨i, rfl, ?_⟩
      rw [own_rf, if_pos ⟨hi, h0⟩, cmb_M]
  · rintro (⟨rfl, h⟩ | ⟨i, rfl, h⟩)
    · rw [eo] at h
      rw [own_rr0, es]
      exact h
    · rw [own_rf] at h
      split at h
      · rename_i hc
        rw [own_rrS hc.1 hc.2, cmb_M]
        exact h
      · cases h
end
/-! ### A row in another's place -/
def rfS1 {τ : Type} (l : L1) (sz : Nat) (D : Nat → Nat × (Nat → τ)) (i : Nat) : Option Addr × Nat × Nat :=
  if (D i).1 = 0 then (none, 0, 0) else (some ⟨(mfl l i).n, 0, none⟩, (D i).1, (D i).1 + (padL (mfl l i) (D i).1 sz).length / sz)
theorem rfC_S {τ : Type} (l : L1) (sz : Nat) (D : Nat → Nat × (Nat → τ)) (i : Nat) : rfC l sz D i = fSl (rfS1 l sz D i) := by
  unfold rfC fSl rfS1
  by_cases h : (D i).1 = 0
  · rw [if_pos h, if_pos h]
  · rw [if_neg h, if_neg h]; rfl
theorem own_rf1 {τ : Type} {l : L1} {T2 : TypeId} {f : τ → List Value} {sz N : Nat} {D : Nat → Nat × (Nat → τ)} {i : Nat} (hi : i < N) (h0 : (D i).1 ≠ 0) : own (rfO T2 f sz N D) l i = some ((mfl l i).n, rowO (mfl l i) (esG f (D i).1 (D i).2) T2 (D i).1 sz) := by
  rw [own_rf, if_pos ⟨hi, h0⟩]
theorem own_rf2 {τ : Type} {l : L1} {T2 : TypeId} {f : τ → List Value} {sz N : Nat} {D : Nat → Nat × (Nat → τ)} {i x : Nat} {p : Obj} (h : own (rfO T2 f sz N D) l i = some (x, p)) : i < N ∧ (D i).1 ≠ 0 ∧ x = (mfl l i).n ∧ p = rowO (mfl l i) (esG f (D i).1 (D i).2) T2 (D i).1 sz := by
  rw [own_rf] at h
  split at h
  · rename_i hc
    injection h with h
    injection h with h1 h2
    exact ⟨hc.1, hc.2, h1.symm, h2.symm⟩
  · cases h
section
variable {P : Program} {M : Nat → Prop} {B0 : Nat} {S : World → Prop} {e T2 T : TypeId}
end
end Go.Proofs.Ytdgehbjiphahhaa

