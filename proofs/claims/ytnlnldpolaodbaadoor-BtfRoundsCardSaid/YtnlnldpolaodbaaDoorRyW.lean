/-
  Rows of structs with a slice that are only read; one of the call's own handed to a reader. Nothing of the program stands here.
-/
import Derived.Test.YtnlnldpolaodbaaDoorRyB
import Derived.Test.YtnlnldpolaodbaaDoorRyQ
namespace Go.Proofs.YtnlnldpolaodbaaDoor
open Go.RowKit
set_option linter.unusedVariables false
set_option linter.unusedSimpArgs false
def rxS {τ σ : Type} (hd tl : σ → List Value) (X : Nat → RoX) (D : Nat → Nat × (Nat → τ)) (E : Nat → σ) (i : Nat) : List Value := hd (E i) ++ .slice (X i).a (D i).1 ((D i).1 + (X i).c) :: tl (E i)
theorem rxS_len {τ σ : Type} {hd tl : σ → List Value} {zs : Nat} (hz : ∀ x, (hd x).length + 1 + (tl x).length = zs) (X : Nat → RoX) (D : Nat → Nat × (Nat → τ)) (E : Nat → σ) (i : Nat) : (rxS hd tl X D E i).length = zs := by
  unfold rxS
  rw [List.length_append, List.length_cons, ← hz (E i)]
  omega
structure RoS {τ σ : Type} (S : World → Prop) (hd tl : σ → List Value) (zs : Nat) (f : τ → List Value) (sz : Nat) (a : Option Addr) (p q n : Nat) (X : Nat → RoX) (D : Nat → Nat × (Nat → τ)) (E : Nat → σ) : Prop where
  row : Ro S (rxS hd tl X D E) zs a p q n (fun i => i)
  els : ∀ i, i < n → Ro S f sz (X i).a (X i).p (X i).q (D i).1 (D i).2
theorem RoS.mono {τ σ : Type} {S S' : World → Prop} {hd tl : σ → List Value} {zs : Nat} {f : τ → List Value} {sz : Nat} {a : Option Addr} {p q n : Nat} {X : Nat → RoX} {D : Nat → Nat × (Nat → τ)} {E : Nat → σ} (h : RoS S hd tl zs f sz a p q n X D E) (hs : ∀ w, S' w → S w) : RoS S' hd tl zs f sz a p q n X D E :=
  ⟨h.row.mono hs, fun i hi => (h.els i hi).mono hs⟩
theorem RoS.nil {τ σ : Type} {S : World → Prop} {hd tl : σ → List Value} {zs : Nat} {f : τ → List Value} {sz : Nat} {a : Option Addr} {p q : Nat} {X : Nat → RoX} {D : Nat → Nat × (Nat → τ)} {E : Nat → σ} : RoS S hd tl zs f sz a p q 0 X D E := ⟨Ro.nil, fun i hi => absurd hi (by omega)⟩
theorem rxS_rrX {τ σ : Type} (hd tl : σ → List Value) (l : L1) (sz : Nat) (D : Nat → Nat × (Nat → τ)) (E : Nat → σ) (i : Nat) : rxS hd tl (rrX l sz D) D E i = rsC hd tl l sz D E i := by
  unfold rxS rsC rrX
  by_cases h : (D i).1 = 0
  · rw [if_pos h, if_pos h, h]; rfl
  · rw [if_neg h, if_neg h]; rfl
def ownSpS {τ σ : Type} (hd tl : σ → List Value) (zs : Nat) (E : Nat → σ) (f : τ → List Value) (sz N : Nat) (D : Nat → Nat × (Nat → τ)) (T T2 : TypeId) (sp : Option Addr → Nat → (Nat → RoX) → Spc) (m : Nat) (ex : Ex) : Spc :=
  ⟨fun ls => (sp (some ⟨(rrL (lget ls 0)).n, 0, none⟩) ((padL (rrL (lget ls 0)) N zs).length / zs) (rrX (lget ls 0) sz D)).wh ls.tail, fun ls => rsO hd tl zs (lget ls 0) T T2 f sz N D E :: (sp (some ⟨(rrL (lget ls 0)).n, 0, none⟩) ((padL (rrL (lget ls 0)) N zs).length / zs) (rrX (lget ls 0) sz D)).pre ls.tail, m, ex,
   fun ls => (sp (some ⟨(rrL (lget ls 0)).n, 0, none⟩) ((padL (rrL (lget ls 0)) N zs).length / zs) (rrX (lget ls 0) sz D)).val ls.tail, fun ls => rsO hd tl zs (lget ls 0) T T2 f sz N D E :: (sp (some ⟨(rrL (lget ls 0)).n, 0, none⟩) ((padL (rrL (lget ls 0)) N zs).length / zs) (rrX (lget ls 0) sz D)).post ls.tail, fun ls => (sp (some ⟨(rrL (lget ls 0)).n, 0, none⟩) ((padL (rrL (lget ls 0)) N zs).length / zs) (rrX (lget ls 0) sz D)).new ls.tail⟩
/-- A callee that only reads a row of rows may be given one of the call's own. -/
theorem SpcG.ownRS {P : Program} {M : Nat → Prop} {B : Nat} {S : World → Prop} (hU : Up M B S) {τ σ : Type} {hd tl : σ → List Value} {zs : Nat} (hz : ∀ x, (hd x).length + 1 + (tl x).length = zs) (E : Nat → σ) {f : τ → List Value} {sz : Nat} (hf : ∀ x, (f x).length = sz) (N : Nat) (D : Nat → Nat × (Nat → τ)) (T T2 : TypeId) (sp : Option Addr → Nat → (Nat → RoX) → Spc) (m : Nat) (ex : Ex)
    (hm : ∀ a c X, (sp a c X).m = m) (he : ∀ a c X, (sp a c X).ex = ex)
    (h : ∀ (M' : Nat → Prop) (B' : Nat) (S' : World → Prop) (a : Option Addr) (p q c : Nat) (X : Nat → RoX), Up M' B' S' → (∀ w, S' w → S w) → RoS S' hd tl zs f sz a p q N X D E → SpcG P M' B' S' (sp a c X)) :
    SpcG P M B S (ownSpS hd tl zs E f sz N D T T2 sp m ex) := by
  intro ls w hlen hsat htb hS
  match ls, hlen with
  | l :: rest, hlen =>
    have hl0 : lget (l :: rest) 0 = l := rfl
    let a : Option Addr := some ⟨(rrL l).n, 0, none⟩
    let s := sp a ((padL (rrL l) N zs).length / zs) (rrX l sz D)
    have hg : ∀ k x p, Go.Proofs.YtnlnldpolaodbaaDoor.own (rsO hd tl zs l T T2 f sz N D E) l k = some (x, p) → w.heap[x]? = some p := fun k x p ho => hsat.hold 0 k _ l x p rfl rfl ho
    have hlt : ∀ k x p, Go.Proofs.YtnlnldpolaodbaaDoor.own (rsO hd tl zs l T T2 f sz N D E) l k = some (x, p) → x < w.heap.size := fun k x p ho => (Array.getElem?_eq_some_iff.1 (hg k x p ho)).1
    have hpl : (s.pre rest).length = rest.length := by
      have h1 : (s.pre rest).length + 1 = rest.length + 1 := hlen
      omega
    have hsr : SatF rest (s.pre rest) w := ⟨fun j k o x y p hj hx hr => hsat.hold (j + 1) k o x y p hj hx hr, fun i j k k' o o' x x' y p p' hi hx hr hj hx' hr' => by
      have := hsat.inj (i + 1) (j + 1) k k' o o' x x' y p p' hi hx hr hj hx' hr'
      exact ⟨by omega, this.2⟩⟩
    have hnt : ∀ k x p, Go.Proofs.YtnlnldpolaodbaaDoor.own (rsO hd tl zs l T T2 f sz N D E) l k = some (x, p) → ¬ touchF rest (s.pre rest) x := fun k0 x0 p0 ho ⟨j, k, o, x, p, h1, h2, h3⟩ => by
      have := hsat.inj 0 (j + 1) k0 k _ o l x x0 p0 p rfl rfl ho h1 h2 h3
      omega
    have htr : ∀ k, touchF rest (s.pre rest) k → touchF (l :: rest) ((ownSpS hd tl zs E f sz N D T T2 sp m ex).pre (l :: rest)) k := fun k ⟨j, i, o, x, p, h1, h2, h3⟩ => ⟨j + 1, i, o, x, p, h1, h2, h3⟩
    have hS' : Up (fun k => (M k ∨ B ≤ k) ∧ ∀ i p, Go.Proofs.YtnlnldpolaodbaaDoor.own (rsO hd tl zs l T T2 f sz N D E) l i ≠ some (k, p)) w.heap.size (fun w' => S w' ∧ (∀ k x p, Go.Proofs.YtnlnldpolaodbaaDoor.own (rsO hd tl zs l T T2 f sz N D E) l k = some (x, p) → w'.heap[x]? = some p) ∧ w.heap.size ≤ w'.heap.size) := by
      refine ⟨fun w1 h1 => h1.2.2, fun w1 w2 h1 hc => ⟨hU.chg (X := fun k => (M k ∨ B ≤ k) ∧ ∀ i p, Go.Proofs.YtnlnldpolaodbaaDoor.own (rsO hd tl zs l T T2 f sz N D E) l i ≠ some (k, p)) (B' := w.heap.size) (fun k hk => hk.elim (fun h => h.1) (fun h => .inr (Nat.le_trans (hU.base w hS) h))) h1.1 hc, fun k x p ho => ?_, Nat.le_trans h1.2.2 hc.size⟩⟩
      exact (hc.block x (hlt k x p ho) (fun h => h.2 k p ho)).trans (h1.2.1 k x p ho)
    have hRo : RoS (fun w' => S w' ∧ (∀ k x p, Go.Proofs.YtnlnldpolaodbaaDoor.own (rsO hd tl zs l T T2 f sz N D E) l k = some (x, p) → w'.heap[x]? = some p) ∧ w.heap.size ≤ w'.heap.size) hd tl zs f sz a (rrL l).n 0 N (rrX l sz D) D E := by
      refine ⟨⟨fun _ => rfl, fun w1 h1 k hk j hj => ?_⟩, fun i hi => ?_⟩
      · have hg1 : w1.heap[(rrL l).n]? = some (.cells ⟨esG (rsC hd tl l sz D E) N (fun i => i) ++ padL (rrL l) N zs⟩ T) := h1.2.1 0 _ _ own_rs0
        rw [rxS_rrX, cell_of_cells hg1, List.getElem?_toArray, Nat.zero_add, List.getElem?_append_left ?_, esG_get (rsC_len hz l sz D E) hj hk]
        rw [esG_len (rsC_len hz l sz D E)]
        have := Nat.mul_le_mul_right zs (show k + 1 ≤ N by omega)
        rw [Nat.succ_mul] at this
        omega
      · by_cases h0 : (D i).1 = 0
        · exact ⟨fun h => absurd h (by omega), fun w1 _ k hk => absurd hk (by omega)⟩
        · have eX : rrX l sz D i = ⟨some ⟨(rrM l i).n, 0, none⟩, (rrM l i).n, 0, (padL (rrM l i) (D i).1 sz).length / sz⟩ := if_neg h0
          rw [eX]
          refine ⟨fun _ => rfl, fun w1 h1 k hk j hj => ?_⟩
          have hg1 : w1.heap[(rrM l i).n]? = some (.cells ⟨esG f (D i).1 (D i).2 ++ padL (rrM l i) (D i).1 sz⟩ T2) := h1.2.1 (i + 1) _ _ (own_rsS hi h0)
          show w1.cell? ⟨(rrM l i).n, 0 + k * sz + j, none⟩ = _
          rw [cell_of_cells hg1, List.getElem?_toArray, Nat.zero_add, List.getElem?_append_left ?_, esG_get hf hj hk]
          rw [esG_len hf]
          have := Nat.mul_le_mul_right sz (show k + 1 ≤ (D i).1 by omega)
          rw [Nat.succ_mul] at this
          omega
    have hdn := h _ _ _ a (rrL l).n 0 ((padL (rrL l) N zs).length / zs) (rrX l sz D) hS' (fun w1 h1 => h1.1) hRo rest w hpl hsr (fun k hk => .inl ⟨htb k (htr k hk), fun i p e => hnt i k p e hk⟩) ⟨hS, hg, Nat.le_refl _⟩
    show Does P (s.wh rest) ex w _
    rw [← he a ((padL (rrL l) N zs).length / zs) (rrX l sz D)]
    refine hdn.mono fun vs w' ⟨ms, hms, hv, hch, hfs⟩ => ?_
    obtain ⟨hsl, hnew⟩ := hfs (.inl rfl)
    have hmm : ms.length = m := hms.trans (hm _ _ _)
    have hkeep : ∀ k x p, Go.Proofs.YtnlnldpolaodbaaDoor.own (rsO hd tl zs l T T2 f sz N D E) l k = some (x, p) → w'.heap[x]? = some p := fun k x p ho => (hch.block x (hlt k x p ho) (hnt k x p ho)).trans (hg k x p ho)
    have hother : ∀ (j k : Nat) (o : Obj) (x : L1) (y : Nat) (p : Obj), (s.post (rest ++ ms) ++ s.new (rest ++ ms))[j]? = some o → (rest ++ ms)[j]? = some x → Go.Proofs.YtnlnldpolaodbaaDoor.own o x k = some (y, p) → ∀ i q, Go.Proofs.YtnlnldpolaodbaaDoor.own (rsO hd tl zs l T T2 f sz N D E) l i ≠ some (y, q) := fun j k o x y p hj hx hr i q e => by
      rcases hnew j k o x y p hj hx hr with h1 | h1
      · have := hlt i y q e
        omega
      · exact hnt i y q e h1
    have hown : ∀ (o : Obj) (x : L1), (((ownSpS hd tl zs E f sz N D T T2 sp m ex).post (l :: rest ++ ms)) ++ (ownSpS hd tl zs E f sz N D T T2 sp m ex).new (l :: rest ++ ms))[0]? = some o → (l :: rest ++ ms)[0]? = some x → o = rsO hd tl zs l T T2 f sz N D E ∧ x = l := fun o x hj hx => by
      constructor
      · simpa [ownSpS, lget] using hj.symm
      · simpa using hx.symm
    refine ⟨ms, hmm, hv, ⟨hch.os, hch.tape, hch.output, hch.size, fun k hk ht => hch.block k hk fun h1 => ht (htr k h1)⟩, fun _ => ⟨⟨fun j k o x y p hj hx hr => ?_, fun i j k k' o o' x x' y p p' hi hx hr hj hx' hr' => ?_⟩, fun j k o x y p hj hx hr => ?_⟩⟩
    · cases j with
      | zero =>
        obtain ⟨rfl, rfl⟩ := hown o x hj hx
        exact hkeep k y p hr
      | succ j => exact hsl.hold j k o x y p hj hx hr
    · cases i with
      | zero =>
        obtain ⟨rfl, rfl⟩ := hown o x hi hx
        cases j with
        | zero =>
          obtain ⟨rfl, rfl⟩ := hown o' x' hj hx'
          have := hsat.inj 0 0 k k' _ _ x' x' y p p' rfl rfl hr rfl rfl hr'
          exact ⟨rfl, this.2⟩
        | succ j => exact absurd hr (hother j k' o' x' y p' hj hx' hr' k p)
      | succ i =>
        cases j with
        | zero =>
          obtain ⟨rfl, rfl⟩ := hown o' x' hj hx'
          exact absurd hr' (hother i k o x y p hi hx hr k' p')
        | succ j =>
          obtain ⟨h1, h2⟩ := hsl.inj i j k k' o o' x x' y p p' hi hx hr hj hx' hr'
          exact ⟨by omega, h2⟩
    · cases j with
      | zero =>
        obtain ⟨rfl, rfl⟩ := hown o x hj hx
        exact .inr ⟨0, k, _, x, p, rfl, rfl, hr⟩
      | succ j =>
        rcases hnew j k o x y p hj hx hr with h1 | h1
        · exact .inl h1
        · exact .inr (htr _ h1)
theorem rs_nextn {τ : Type} {σ : Type} {hd tl : σ → List Value} {zs : Nat} {E : Nat → σ} {x0 : σ} {r l' : L1} {e T2 : TypeId} {f : τ → List Value} {sz N : Nat} {D : Nat → Nat × (Nat → τ)} {B : Nat → τ} {w w' : World}
    (hmem : ∀ i, i < N → (D i).1 ≠ 0 → w.heap[(rrM r i).n]? = some (rowO (rrM r i) (esG f (D i).1 (D i).2) T2 (D i).1 sz))
    (hinj : ∀ i j, i < N → j < N → (D i).1 ≠ 0 → (D j).1 ≠ 0 → (rrM r i).n = (rrM r j).n → i = j)
    (hl' : w'.heap[l'.n]? = some (rowO l' (esG (rsC hd tl r sz D E) N (fun i => i) ++ (hd x0 ++ .slice none 0 0 :: tl x0)) e (N + 1) zs))
    (hl1 : ∀ i, i < N → (D i).1 ≠ 0 → (rrM r i).n ≠ l'.n)
    (hk : ∀ i, i < N → (D i).1 ≠ 0 → w'.heap[(rrM r i).n]? = w.heap[(rrM r i).n]?) :
    (∀ k x p, own (rsO hd tl zs (rrPut r l' N (l')) e T2 f sz (N + 1) (updF D N (0, B)) (updF E N x0)) (rrPut r l' N (l')) k = some (x, p) → w'.heap[x]? = some p) ∧
    (∀ k k' x p p', own (rsO hd tl zs (rrPut r l' N (l')) e T2 f sz (N + 1) (updF D N (0, B)) (updF E N x0)) (rrPut r l' N (l')) k = some (x, p) → own (rsO hd tl zs (rrPut r l' N (l')) e T2 f sz (N + 1) (updF D N (0, B)) (updF E N x0)) (rrPut r l' N (l')) k' = some (x, p') → k = k') ∧
    (∀ k x p, own (rsO hd tl zs (rrPut r l' N (l')) e T2 f sz (N + 1) (updF D N (0, B)) (updF E N x0)) (rrPut r l' N (l')) k = some (x, p) → x = l'.n ∨ ∃ i, i < N ∧ (D i).1 ≠ 0 ∧ x = (rrM r i).n) := by
  generalize hL : rrPut r l' N (l') = L
  have eL : rrL L = bare l' := by rw [← hL]; exact rrPut_L ..
  have eM : ∀ i, i ≠ N → rrM L i = rrM r i := fun i h => by rw [← hL]; exact rrPut_M _ _ _ h
  have dN : updF D N (0, B) N = (0, B) := updF_at ..
  have dM : ∀ i, i ≠ N → updF D N (0, B) i = D i := fun i h => updF_ne _ _ h
  have es : esG (rsC hd tl L sz (updF D N (0, B)) (updF E N x0)) (N + 1) (fun i => i) = esG (rsC hd tl r sz D E) N (fun i => i) ++ (hd x0 ++ .slice none 0 0 :: tl x0) := by
    rw [esG_succ]
    congr 1
    · exact esG_map fun k hk => by
        unfold rsC
        rw [dM k (by omega), eM k (by omega), updF_ne E x0 (show k ≠ N by omega)]
    · unfold rsC
      rw [dN, if_pos rfl, updF_at]
  -- what lies where
  have key : ∀ k x p, own (rsO hd tl zs L e T2 f sz (N + 1) (updF D N (0, B)) (updF E N x0)) L k = some (x, p) → (k = 0 ∧ x = l'.n ∧ w'.heap[x]? = some p) ∨ ∃ i, k = i + 1 ∧ i < N ∧ (D i).1 ≠ 0 ∧ x = (rrM r i).n ∧ w'.heap[x]? = some p := fun k x p h => by
    rcases own_rs h with ⟨rfl, rfl, rfl⟩ | ⟨i, rfl, hi, h0, rfl, rfl⟩
    · refine .inl ⟨rfl, by rw [eL]; rfl, ?_⟩
      rw [es, eL, bare_rowO]
      exact hl'
    · by_cases hiN : i = N
      · subst hiN
        rw [dN] at h0
        exact absurd rfl h0
      · rw [dM i hiN] at h0
        have hi' : i < N := by omega
        refine .inr ⟨i, rfl, hi', h0, by rw [eM i hiN], ?_⟩
        rw [dM i hiN, eM i hiN]
        exact (hk i hi' h0).trans (hmem i hi' h0)
  refine ⟨fun k x p h => ?_, fun k k' x p p' h h' => ?_, fun k x p h => ?_⟩
  · rcases key k x p h with ⟨_, _, h1⟩ | ⟨_, _, _, _, _, h1⟩ <;> exact h1
  · rcases key k x p h with ⟨rfl, rfl, _⟩ | ⟨i, rfl, hi, h0, rfl, _⟩ <;> rcases key k' _ p' h' with ⟨rfl, e2, _⟩ | ⟨j, rfl, hj, h0', e2, _⟩
    · rfl
    · exact absurd e2.symm (hl1 j hj h0')
    · exact absurd e2 (hl1 i hi h0)
    · rw [hinj i j hi hj h0 h0' e2]
  · rcases key k x p h with ⟨_, h1, _⟩ | ⟨i, _, hi, h0, h1, _⟩
    · exact .inl h1
    · exact .inr ⟨i, hi, h0, h1⟩
/-- A row put behind a row of rows. -/
def sqApRSn {τ : Type} {σ : Type} (hd tl : σ → List Value) (zs : Nat) (E : Nat → σ) (x0 : σ) (t ty e T2 : TypeId) (consts : Array Bool) (f : τ → List Value) (sz N : Nat) (D : Nat → Nat × (Nat → τ)) (B : Nat → τ) (c : Nat) (T' : TypeId) : Spc :=
  ⟨fun ls => .op (.blt .append #[t, t] ty consts #[rowV (rrL (lget ls 0)) N zs, .slice (some ⟨(lget ls 1).n, 0, none⟩) 1 c]),
   fun ls => [rsO hd tl zs (lget ls 0) e T2 f sz N D E, .cells ⟨hd x0 ++ .slice none 0 0 :: tl x0⟩ T'], 1, .normal,
   fun ls => [rowV (rrL (lget ls 2)) (N + 1) zs],
   fun ls => [unb, unb], fun ls => [rsO hd tl zs (lget ls 2) e T2 f sz (N + 1) (updF D N (0, B)) (updF E N x0)]⟩
/-- To nothing. -/
def sqApRSn0 {τ : Type} {σ : Type} (hd tl : σ → List Value) (zs : Nat) (E : Nat → σ) (x0 : σ) (t ty e T2 : TypeId) (consts : Array Bool) (f : τ → List Value) (sz : Nat) (B : Nat → τ) (c : Nat) (T' : TypeId) : Spc :=
  ⟨fun ls => .op (.blt .append #[t, t] ty consts #[.slice none 0 0, .slice (some ⟨(lget ls 0).n, 0, none⟩) 1 c]),
   fun ls => [.cells ⟨hd x0 ++ .slice none 0 0 :: tl x0⟩ T'], 1, .normal,
   fun ls => [rowV (rrL (lget ls 1)) 1 zs],
   fun ls => [unb], fun ls => [rsO hd tl zs (lget ls 1) e T2 f sz 1 (fun _ => (0, B)) (fun _ => x0)]⟩
section
variable {P : Program} {M : Nat → Prop} {B0 : Nat} {S : World → Prop} {t ty e T2 : TypeId} {i : TypeInfo} {z : Value} {bytes : Nat}
theorem sqApRSn_ok {σ : Type} {hd tl : σ → List Value} {zs : Nat} {E : Nat → σ} {x0 : σ} (hz : ∀ x, (hd x).length + 1 + (tl x).length = zs) (hh1 : ∀ x, ∀ u ∈ hd x, u.oneCell' = true) (hh2 : ∀ x, ∀ u ∈ tl x, u.oneCell' = true) (R : RowT P t e i z zs bytes) (consts : Array Bool) {τ : Type} {f : τ → List Value} {sz N : Nat} {D : Nat → Nat × (Nat → τ)} {B : Nat → τ} {c : Nat} {T' : TypeId}
    (hN : decide (N ≤ 1000000) = true) (hb : bytes ≤ 1000000) : SpcG P M B0 S (sqApRSn hd tl zs E x0 t ty e T2 consts f sz N D B c T') := by
  have hN := of_decide_eq_true hN
  intro ls w hlen hsat htb hS
  match ls, hlen with
  | [r, tm], _ =>
    have hg : w.heap[(rrL r).n]? = some (rowO (rrL r) (esG (rsC hd tl r sz D E) N fun i => i) e N zs) := hsat.hold 0 0 _ r _ _ rfl rfl own_rs0
    have htm : w.heap[tm.n]? = some (.cells ⟨hd x0 ++ .slice none 0 0 :: tl x0⟩ T') := hsat.hold 1 0 _ tm _ _ rfl rfl rfl
    have hmem : ∀ i, i < N → (D i).1 ≠ 0 → w.heap[(rrM r i).n]? = some (rowO (rrM r i) (esG f (D i).1 (D i).2) T2 (D i).1 sz) := fun i hi h => hsat.hold 0 (i + 1) _ r _ _ rfl rfl (own_rsS hi h)
    have a4 : ∀ i, i < N → (D i).1 ≠ 0 → (rrM r i).n ≠ (rrL r).n := fun i hi h k => by
      have := (hsat.inj 0 0 (i + 1) 0 _ _ r r (rrL r).n _ _ rfl rfl (by rw [← k]; exact own_rsS hi h) rfl rfl own_rs0).2
      omega
    have a5 : ∀ i j, i < N → j < N → (D i).1 ≠ 0 → (D j).1 ≠ 0 → (rrM r i).n = (rrM r j).n → i = j := fun i j hi hj h h' k => by
      have := (hsat.inj 0 0 (i + 1) (j + 1) _ _ r r (rrM r j).n _ _ rfl rfl (by rw [← k]; exact own_rsS hi h) rfl rfl (own_rsS hj h')).2
      omega
    have lt : ∀ {x : Nat} {p : Obj}, w.heap[x]? = some p → x < w.heap.size := fun h => (Array.getElem?_eq_some_iff.1 h).1
    obtain ⟨v', w', l', hr, hv, hh, hwhere, hgrow⟩ := app_core (ty := ty) .row R N (esG (rsC hd tl r sz D E) N fun i => i) 1 c (some ⟨tm.n, 0, none⟩) (hd x0 ++ .slice none 0 0 :: tl x0) w (rrL r) hg (esG_len (rsC_len hz r sz D E)) (by rw [List.length_append, List.length_cons, ← hz x0]; omega) (fun u hu => by
        rcases List.mem_append.1 hu with q | q
        · exact hh1 x0 u q
        · rcases List.mem_cons.1 q with rfl | q
          · rfl
          · exact hh2 x0 u q) (by simp only [maxLen]; omega) (Nat.le_trans (Nat.mul_le_mul (show N + 1 ≤ 1001000 by omega) hb) (by decide)) (fun _ => ⟨_, rfl, fun j u hj => by rw [add_off, cell_of_cells htm]; simpa using hj⟩)
    have blk : ∀ x, x < w.heap.size → x ≠ (rrL r).n → w'.heap[x]? = w.heap[x]? := fun x hx hne => hgrow.block x hx (fun e => hne (by injection e))
    have nx := rs_nextn (e := e) (B := B) (w := w) (w' := w') hmem a5 hh
      (fun i hi h => hwhere.elim (fun q => by rw [q]; exact a4 i hi h) (fun q => by have := lt (hmem i hi h); omega))
      (fun i hi h => blk _ (lt (hmem i hi h)) (a4 i hi h))
    have at3 : ∀ (j k : Nat) (o : Obj) (l : L1) (x : Nat) (p : Obj), ([unb, unb] ++ [rsO hd tl zs (rrPut r l' N (l')) e T2 f sz (N + 1) (updF D N (0, B)) (updF E N x0)])[j]? = some o → ([r, tm] ++ [rrPut r l' N (l')])[j]? = some l → own o l k = some (x, p) →
        j = 2 ∧ o = rsO hd tl zs (rrPut r l' N (l')) e T2 f sz (N + 1) (updF D N (0, B)) (updF E N x0) ∧ l = rrPut r l' N (l') := fun j k o l x p hj hl ho => by
      match j, hj, hl with
      | 0, hj, _ => obtain rfl : unb = o := by simpa using hj
                    cases ho
      | 1, hj, _ => obtain rfl : unb = o := by simpa using hj
                    cases ho
      | 2, hj, hl => exact ⟨rfl, by simpa using hj.symm, by simpa using hl.symm⟩
      | q + 3, hj, _ => simp at hj
    have tg : touchF [r, tm] [rsO hd tl zs r e T2 f sz N D E, .cells ⟨hd x0 ++ .slice none 0 0 :: tl x0⟩ T'] (rrL r).n := ⟨0, 0, _, r, _, rfl, rfl, own_rs0⟩
    refine ⟨v', w', .inl (run_blt_append hr), ⟨[rrPut r l' N (l')], rfl, ?_, ⟨hgrow.os, hgrow.tape, hgrow.output, hgrow.size, fun x hx ht => blk x hx (fun q => ht (q ▸ tg))⟩, fun _ => ⟨⟨fun j k o l x p hj hl ho => ?_, fun j j' k k' o o' l l1 x p p' hj hl ho hj' hl1 ho' => ?_⟩, fun j k o l x p hj hl ho => ?_⟩⟩⟩
    · rw [hv]; rfl
    · obtain ⟨rfl, rfl, rfl⟩ := at3 j k o l x p hj hl ho
      exact nx.1 k x p ho
    · obtain ⟨rfl, rfl, rfl⟩ := at3 j k o l x p hj hl ho
      obtain ⟨rfl, rfl, rfl⟩ := at3 j' k' o' l1 x p' hj' hl1 ho'
      exact ⟨rfl, nx.2.1 k k' x p p' ho ho'⟩
    · obtain ⟨rfl, rfl, rfl⟩ := at3 j k o l x p hj hl ho
      rcases nx.2.2 k x p ho with rfl | ⟨i, hi, h, rfl⟩
      · rcases hwhere with q | q
        · exact .inr (q ▸ tg)
        · exact .inl q
      · exact .inr ⟨0, i + 1, _, r, _, rfl, rfl, own_rsS hi h⟩
theorem sqApRSn0_ok {σ : Type} {hd tl : σ → List Value} {zs : Nat} {E : Nat → σ} {x0 : σ} (hz : ∀ x, (hd x).length + 1 + (tl x).length = zs) (hh1 : ∀ x, ∀ u ∈ hd x, u.oneCell' = true) (hh2 : ∀ x, ∀ u ∈ tl x, u.oneCell' = true) (R : RowT P t e i z zs bytes) (consts : Array Bool) {τ : Type} {f : τ → List Value} {sz : Nat} {B : Nat → τ} {c : Nat} {T' : TypeId}
    (hb : bytes ≤ 1000000) : SpcG P M B0 S (sqApRSn0 hd tl zs E x0 t ty e T2 consts f sz B c T') := by
  intro ls w hlen hsat htb hS
  match ls, hlen with
  | [tm], _ =>
    have htm : w.heap[tm.n]? = some (.cells ⟨hd x0 ++ .slice none 0 0 :: tl x0⟩ T') := hsat.hold 0 0 _ tm _ _ rfl rfl rfl
    have lt : ∀ {x : Nat} {p : Obj}, w.heap[x]? = some p → x < w.heap.size := fun h => (Array.getElem?_eq_some_iff.1 h).1
    obtain ⟨v', w', hr, hown, hgrow, hnil⟩ := run_append_own (P := P) w w.heap.size t ty e i z zs bytes R.ht R.hi R.hz R.hsize R.hby R.hzs R.hsz (.slice none 0 0) 0 [] (World.ownsRow_nil w _ e zs) ⟨tm.n, 0, none⟩ 1 c (hd x0 ++ .slice none 0 0 :: tl x0) (by rw [List.length_append, List.length_cons, ← hz x0]; omega)
      (fun j u hj => by rw [add_off, cell_of_cells htm]; simpa using hj) (fun u hu => by
        rcases List.mem_append.1 hu with q | q
        · exact hh1 x0 u q
        · rcases List.mem_cons.1 q with rfl | q
          · rfl
          · exact hh2 x0 u q) (by simp only [maxLen]; omega) (Nat.le_trans (Nat.mul_le_mul (show 0 + 1 ≤ 1 by omega) hb) (by decide)) (Nat.le_refl _)
    rw [Nat.zero_add, List.nil_append] at hown
    obtain ⟨l', hv, hh, hob, hbase⟩ := owned_row R.hsz hown (fun k => by have := (hnil.1 k).2; omega)
    have blk : ∀ x, x < w.heap.size → w'.heap[x]? = w.heap[x]? := fun x hx => hgrow.block x hx (by simp [Value.ownBlock])
    let r : L1 := ⟨0, fun _ => undef⟩
    have nx := rs_nextn (e := e) (T2 := T2) (f := f) (sz := sz) (N := 0) (r := r) (D := fun _ => (0, B)) (B := B) (hd := hd) (tl := tl) (zs := zs) (E := fun _ => x0) (x0 := x0) (w := w) (w' := w') (fun i hi => by omega) (fun i j hi => by omega) hh
      (fun i hi => by omega) (fun i hi => by omega)
    have eD : updF (fun _ => (0, B)) 0 (0, B) = (fun _ => (0, B) : Nat → Nat × (Nat → τ)) := by funext k; unfold updF; split <;> rfl
    have eE : updF (fun _ => x0) 0 x0 = (fun _ => x0 : Nat → σ) := by funext k; unfold updF; split <;> rfl
    rw [eD, eE] at nx
    have at3 : ∀ (j k : Nat) (o : Obj) (l : L1) (x : Nat) (p : Obj), ([unb] ++ [rsO hd tl zs (rrPut r l' 0 (l')) e T2 f sz (0 + 1) (fun _ => (0, B)) (fun _ => x0)])[j]? = some o → ([tm] ++ [rrPut r l' 0 (l')])[j]? = some l → own o l k = some (x, p) →
        j = 1 ∧ o = rsO hd tl zs (rrPut r l' 0 (l')) e T2 f sz (0 + 1) (fun _ => (0, B)) (fun _ => x0) ∧ l = rrPut r l' 0 (l') := fun j k o l x p hj hl ho => by
      match j, hj, hl with
      | 0, hj, _ => obtain rfl : unb = o := by simpa using hj
                    cases ho
      | 1, hj, hl => exact ⟨rfl, by simpa using hj.symm, by simpa using hl.symm⟩
      | q + 2, hj, _ => simp at hj
    refine ⟨v', w', .inl (run_blt_append hr), ⟨[rrPut r l' 0 (l')], rfl, ?_, ⟨hgrow.os, hgrow.tape, hgrow.output, hgrow.size, fun x hx ht => blk x hx⟩, fun _ => ⟨⟨fun j k o l x p hj hl ho => ?_, fun j j' k k' o o' l l1 x p p' hj hl ho hj' hl1 ho' => ?_⟩, fun j k o l x p hj hl ho => ?_⟩⟩⟩
    · rw [hv]; rfl
    · obtain ⟨rfl, rfl, rfl⟩ := at3 j k o l x p hj hl ho
      exact nx.1 k x p ho
    · obtain ⟨rfl, rfl, rfl⟩ := at3 j k o l x p hj hl ho
      obtain ⟨rfl, rfl, rfl⟩ := at3 j' k' o' l1 x p' hj' hl1 ho'
      exact ⟨rfl, nx.2.1 k k' x p p' ho ho'⟩
    · obtain ⟨rfl, rfl, rfl⟩ := at3 j k o l x p hj hl ho
      rcases nx.2.2 k x p ho with rfl | ⟨i, hi, h, rfl⟩
      · exact .inl hbase
      · omega
end
end Go.Proofs.YtnlnldpolaodbaaDoor
