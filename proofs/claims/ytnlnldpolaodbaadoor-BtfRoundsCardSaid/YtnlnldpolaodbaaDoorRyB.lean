/-
  Rows of rows that are only read; one of the call's own given to a callee that only reads it. Nothing of the program stands here.
-/
import Derived.Test.YtnlnldpolaodbaaDoorRyA
namespace Go.Proofs.YtnlnldpolaodbaaDoor
open Go.RowKit
set_option linter.unusedVariables false
set_option linter.unusedSimpArgs false
/-- Where a row lies that is only read, and its room. -/
structure RoX where
  a : Option Addr
  p : Nat
  q : Nat
  c : Nat
def rxC {τ : Type} (X : Nat → RoX) (D : Nat → Nat × (Nat → τ)) (i : Nat) : List Value := [.slice (X i).a (D i).1 ((D i).1 + (X i).c)]
theorem rxC_len {τ : Type} (X : Nat → RoX) (D : Nat → Nat × (Nat → τ)) (i : Nat) : (rxC X D i).length = 1 := rfl
theorem rxC_one {τ : Type} (X : Nat → RoX) (D : Nat → Nat × (Nat → τ)) (i : Nat) : ((rxC X D i).all fun u => u.oneCell') = true := rfl
structure RoR {τ : Type} (S : World → Prop) (f : τ → List Value) (sz : Nat) (a : Option Addr) (p q n : Nat) (X : Nat → RoX) (D : Nat → Nat × (Nat → τ)) : Prop where
  row : Ro S (rxC X D) 1 a p q n (fun i => i)
  els : ∀ i, i < n → Ro S f sz (X i).a (X i).p (X i).q (D i).1 (D i).2
theorem RoR.mono {τ : Type} {S S' : World → Prop} {f : τ → List Value} {sz : Nat} {a : Option Addr} {p q n : Nat} {X : Nat → RoX} {D : Nat → Nat × (Nat → τ)} (h : RoR S f sz a p q n X D) (hs : ∀ w, S' w → S w) : RoR S' f sz a p q n X D :=
  ⟨h.row.mono hs, fun i hi => (h.els i hi).mono hs⟩
theorem RoR.nil {τ : Type} {S : World → Prop} {f : τ → List Value} {sz : Nat} {a : Option Addr} {p q : Nat} {X : Nat → RoX} {D : Nat → Nat × (Nat → τ)} : RoR S f sz a p q 0 X D := ⟨Ro.nil, fun i hi => absurd hi (by omega)⟩
def rrX {τ : Type} (l : L1) (sz : Nat) (D : Nat → Nat × (Nat → τ)) (i : Nat) : RoX :=
  if (D i).1 = 0 then ⟨none, 0, 0, 0⟩ else ⟨some ⟨(rrM l i).n, 0, none⟩, (rrM l i).n, 0, (padL (rrM l i) (D i).1 sz).length / sz⟩
theorem rxC_rrX {τ : Type} (l : L1) (sz : Nat) (D : Nat → Nat × (Nat → τ)) (i : Nat) : rxC (rrX l sz D) D i = rrC l sz D i := by
  unfold rxC rrC rrX
  by_cases h : (D i).1 = 0
  · rw [if_pos h, if_pos h, h]; rfl
  · rw [if_neg h, if_neg h]; rfl
def ownSpR {τ : Type} (f : τ → List Value) (sz N : Nat) (D : Nat → Nat × (Nat → τ)) (T T2 : TypeId) (sp : Option Addr → Nat → (Nat → RoX) → Spc) (m : Nat) (ex : Ex) : Spc :=
  ⟨fun ls => (sp (some ⟨(rrL (lget ls 0)).n, 0, none⟩) ((padL (rrL (lget ls 0)) N 1).length / 1) (rrX (lget ls 0) sz D)).wh ls.tail, fun ls => rrO (lget ls 0) T T2 f sz N D :: (sp (some ⟨(rrL (lget ls 0)).n, 0, none⟩) ((padL (rrL (lget ls 0)) N 1).length / 1) (rrX (lget ls 0) sz D)).pre ls.tail, m, ex,
   fun ls => (sp (some ⟨(rrL (lget ls 0)).n, 0, none⟩) ((padL (rrL (lget ls 0)) N 1).length / 1) (rrX (lget ls 0) sz D)).val ls.tail, fun ls => rrO (lget ls 0) T T2 f sz N D :: (sp (some ⟨(rrL (lget ls 0)).n, 0, none⟩) ((padL (rrL (lget ls 0)) N 1).length / 1) (rrX (lget ls 0) sz D)).post ls.tail, fun ls => (sp (some ⟨(rrL (lget ls 0)).n, 0, none⟩) ((padL (rrL (lget ls 0)) N 1).length / 1) (rrX (lget ls 0) sz D)).new ls.tail⟩
/-- A callee that only reads a row of rows may be given one of the call's own. -/
theorem SpcG.ownRR {P : Program} {M : Nat → Prop} {B : Nat} {S : World → Prop} (hU : Up M B S) {τ : Type} {f : τ → List Value} {sz : Nat} (hf : ∀ x, (f x).length = sz) (N : Nat) (D : Nat → Nat × (Nat → τ)) (T T2 : TypeId) (sp : Option Addr → Nat → (Nat → RoX) → Spc) (m : Nat) (ex : Ex)
    (hm : ∀ a c X, (sp a c X).m = m) (he : ∀ a c X, (sp a c X).ex = ex)
    (h : ∀ (M' : Nat → Prop) (B' : Nat) (S' : World → Prop) (a : Option Addr) (p q c : Nat) (X : Nat → RoX), Up M' B' S' → (∀ w, S' w → S w) → RoR S' f sz a p q N X D → SpcG P M' B' S' (sp a c X)) :
    SpcG P M B S (ownSpR f sz N D T T2 sp m ex) := by
  intro ls w hlen hsat htb hS
  match ls, hlen with
  | l :: rest, hlen =>
    have hl0 : lget (l :: rest) 0 = l := rfl
    let a : Option Addr := some ⟨(rrL l).n, 0, none⟩
    let s := sp a ((padL (rrL l) N 1).length / 1) (rrX l sz D)
    have hg : ∀ k x p, Go.Proofs.YtnlnldpolaodbaaDoor.own (rrO l T T2 f sz N D) l k = some (x, p) → w.heap[x]? = some p := fun k x p ho => hsat.hold 0 k _ l x p rfl rfl ho
    have hlt : ∀ k x p, Go.Proofs.YtnlnldpolaodbaaDoor.own (rrO l T T2 f sz N D) l k = some (x, p) → x < w.heap.size := fun k x p ho => (Array.getElem?_eq_some_iff.1 (hg k x p ho)).1
    have hpl : (s.pre rest).length = rest.length := by
      have h1 : (s.pre rest).length + 1 = rest.length + 1 := hlen
      omega
    have hsr : SatF rest (s.pre rest) w := ⟨fun j k o x y p hj hx hr => hsat.hold (j + 1) k o x y p hj hx hr, fun i j k k' o o' x x' y p p' hi hx hr hj hx' hr' => by
      have := hsat.inj (i + 1) (j + 1) k k' o o' x x' y p p' hi hx hr hj hx' hr'
      exact ⟨by omega, this.2⟩⟩
    have hnt : ∀ k x p, Go.Proofs.YtnlnldpolaodbaaDoor.own (rrO l T T2 f sz N D) l k = some (x, p) → ¬ touchF rest (s.pre rest) x := fun k0 x0 p0 ho ⟨j, k, o, x, p, h1, h2, h3⟩ => by
      have := hsat.inj 0 (j + 1) k0 k _ o l x x0 p0 p rfl rfl ho h1 h2 h3
      omega
    have htr : ∀ k, touchF rest (s.pre rest) k → touchF (l :: rest) ((ownSpR f sz N D T T2 sp m ex).pre (l :: rest)) k := fun k ⟨j, i, o, x, p, h1, h2, h3⟩ => ⟨j + 1, i, o, x, p, h1, h2, h3⟩
    have hS' : Up (fun k => (M k ∨ B ≤ k) ∧ ∀ i p, Go.Proofs.YtnlnldpolaodbaaDoor.own (rrO l T T2 f sz N D) l i ≠ some (k, p)) w.heap.size (fun w' => S w' ∧ (∀ k x p, Go.Proofs.YtnlnldpolaodbaaDoor.own (rrO l T T2 f sz N D) l k = some (x, p) → w'.heap[x]? = some p) ∧ w.heap.size ≤ w'.heap.size) := by
      refine ⟨fun w1 h1 => h1.2.2, fun w1 w2 h1 hc => ⟨hU.chg (X := fun k => (M k ∨ B ≤ k) ∧ ∀ i p, Go.Proofs.YtnlnldpolaodbaaDoor.own (rrO l T T2 f sz N D) l i ≠ some (k, p)) (B' := w.heap.size) (fun k hk => hk.elim (fun h => h.1) (fun h => .inr (Nat.le_trans (hU.base w hS) h))) h1.1 hc, fun k x p ho => ?_, Nat.le_trans h1.2.2 hc.size⟩⟩
      exact (hc.block x (hlt k x p ho) (fun h => h.2 k p ho)).trans (h1.2.1 k x p ho)
    have hRo : RoR (fun w' => S w' ∧ (∀ k x p, Go.Proofs.YtnlnldpolaodbaaDoor.own (rrO l T T2 f sz N D) l k = some (x, p) → w'.heap[x]? = some p) ∧ w.heap.size ≤ w'.heap.size) f sz a (rrL l).n 0 N (rrX l sz D) D := by
      refine ⟨⟨fun _ => rfl, fun w1 h1 k hk j hj => ?_⟩, fun i hi => ?_⟩
      · have hg1 : w1.heap[(rrL l).n]? = some (.cells ⟨esG (rrC l sz D) N (fun i => i) ++ padL (rrL l) N 1⟩ T) := h1.2.1 0 _ _ own_rr0
        rw [rxC_rrX, cell_of_cells hg1, List.getElem?_toArray, Nat.zero_add, List.getElem?_append_left ?_, esG_get (rrC_len l sz D) hj hk]
        rw [esG_len (rrC_len l sz D)]
        omega
      · by_cases h0 : (D i).1 = 0
        · exact ⟨fun h => absurd h (by omega), fun w1 _ k hk => absurd hk (by omega)⟩
        · have eX : rrX l sz D i = ⟨some ⟨(rrM l i).n, 0, none⟩, (rrM l i).n, 0, (padL (rrM l i) (D i).1 sz).length / sz⟩ := if_neg h0
          rw [eX]
          refine ⟨fun _ => rfl, fun w1 h1 k hk j hj => ?_⟩
          have hg1 : w1.heap[(rrM l i).n]? = some (.cells ⟨esG f (D i).1 (D i).2 ++ padL (rrM l i) (D i).1 sz⟩ T2) := h1.2.1 (i + 1) _ _ (own_rrS hi h0)
          show w1.cell? ⟨(rrM l i).n, 0 + k * sz + j, none⟩ = _
          rw [cell_of_cells hg1, List.getElem?_toArray, Nat.zero_add, List.getElem?_append_left ?_, esG_get hf hj hk]
          rw [esG_len hf]
          have := Nat.mul_le_mul_right sz (show k + 1 ≤ (D i).1 by omega)
          rw [Nat.succ_mul] at this
          omega
    have hd := h _ _ _ a (rrL l).n 0 ((padL (rrL l) N 1).length / 1) (rrX l sz D) hS' (fun w1 h1 => h1.1) hRo rest w hpl hsr (fun k hk => .inl ⟨htb k (htr k hk), fun i p e => hnt i k p e hk⟩) ⟨hS, hg, Nat.le_refl _⟩
    show Does P (s.wh rest) ex w _
    rw [← he a ((padL (rrL l) N 1).length / 1) (rrX l sz D)]
    refine hd.mono fun vs w' ⟨ms, hms, hv, hch, hfs⟩ => ?_
    obtain ⟨hsl, hnew⟩ := hfs (.inl rfl)
    have hmm : ms.length = m := hms.trans (hm _ _ _)
    have hkeep : ∀ k x p, Go.Proofs.YtnlnldpolaodbaaDoor.own (rrO l T T2 f sz N D) l k = some (x, p) → w'.heap[x]? = some p := fun k x p ho => (hch.block x (hlt k x p ho) (hnt k x p ho)).trans (hg k x p ho)
    have hother : ∀ (j k : Nat) (o : Obj) (x : L1) (y : Nat) (p : Obj), (s.post (rest ++ ms) ++ s.new (rest ++ ms))[j]? = some o → (rest ++ ms)[j]? = some x → Go.Proofs.YtnlnldpolaodbaaDoor.own o x k = some (y, p) → ∀ i q, Go.Proofs.YtnlnldpolaodbaaDoor.own (rrO l T T2 f sz N D) l i ≠ some (y, q) := fun j k o x y p hj hx hr i q e => by
      rcases hnew j k o x y p hj hx hr with h1 | h1
      · have := hlt i y q e
        omega
      · exact hnt i y q e h1
    have hown : ∀ (o : Obj) (x : L1), (((ownSpR f sz N D T T2 sp m ex).post (l :: rest ++ ms)) ++ (ownSpR f sz N D T T2 sp m ex).new (l :: rest ++ ms))[0]? = some o → (l :: rest ++ ms)[0]? = some x → o = rrO l T T2 f sz N D ∧ x = l := fun o x hj hx => by
      constructor
      · simpa [ownSpR, lget] using hj.symm
      · simpa using hx.symm
    refine ⟨ms, hmm, hv, ⟨hch.os, hch.tape, hch.output, hch.size, fun k hk ht => hch.block k hk fun h1 => ht (htr k h1)⟩, fun _ => ⟨⟨fun j k o x y p hj hx hr => ?_, fun i j k k' o o' x x' y p p' hi hx hr hj hx' hr' => ?_⟩, fun j k o x y p hj hx hr => ?_⟩⟩
    · cases j with
      | zero =>
        obtain ⟨rfl, rfl⟩ := hown o x hj hx
        exact hkeep k y p hr
      | succ j => exact hsl.hold j k o x y p hj hx hr
    · cases i with
      | zero =>
        obtain ⟨rfl, rfl⟩ := hown o x hi hx
        cases j with
        | zero =>
          obtain ⟨rfl, rfl⟩ := hown o' x' hj hx'
          have := hsat.inj 0 0 k k' _ _ x' x' y p p' rfl rfl hr rfl rfl hr'
          exact ⟨rfl, this.2⟩
        | succ j => exact absurd hr (hother j k' o' x' y p' hj hx' hr' k p)
      | succ i =>
        cases j with
        | zero =>
          obtain ⟨rfl, rfl⟩ := hown o' x' hj hx'
          exact absurd hr' (hother i k o x y p hi hx hr k' p')
        | succ j =>
          obtain ⟨h1, h2⟩ := hsl.inj i j k k' o o' x x' y p p' hi hx hr hj hx' hr'
          exact ⟨by omega, h2⟩
    · cases j with
      | zero =>
        obtain ⟨rfl, rfl⟩ := hown o x hj hx
        exact .inr ⟨0, k, _, x, p, rfl, rfl, hr⟩
      | succ j =>
        rcases hnew j k o x y p hj hx hr with h1 | h1
        · exact .inl h1
        · exact .inr (htr _ h1)
end Go.Proofs.YtnlnldpolaodbaaDoor
