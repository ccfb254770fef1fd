/-
  Rows of rows at two places: the row, and an entry for all that its elements point to. Nothing of the program stands here.
-/
import Derived.Test.YtnlnldpolaodbaaDoorRyD
namespace Go.Proofs.YtnlnldpolaodbaaDoor
open Go.RowKit
set_option linter.unusedVariables false
set_option linter.unusedSimpArgs false
/-! ### The same blocks, told by other entries -/
def At (ls : List L1) (H : List Obj) (j k x : Nat) (p : Obj) : Prop := ∃ o l, H[j]? = some o ∧ ls[j]? = some l ∧ own o l k = some (x, p)
def Maps (ls : List L1) (H : List Obj) (ls' : List L1) (H' : List Obj) (φ : Nat → Nat → Nat × Nat) : Prop :=
  (∀ j k x p, At ls H j k x p → At ls' H' (φ j k).1 (φ j k).2 x p) ∧ ∀ j k j' k' x p p', At ls H j k x p → At ls H j' k' x p' → φ j k = φ j' k' → j = j' ∧ k = k'
theorem Maps.sat {ls ls' : List L1} {H H' : List Obj} {φ : Nat → Nat → Nat × Nat} {w : World} (h : Maps ls H ls' H' φ) (hs : SatF ls' H' w) : SatF ls H w := by
  refine ⟨fun j k o l x p hj hl ho => ?_, fun j j' k k' o o' l l' x p p' hj hl ho hj' hl' ho' => ?_⟩
  · obtain ⟨o', l', h1, h2, h3⟩ := h.1 j k x p ⟨o, l, hj, hl, ho⟩
    exact hs.hold _ _ o' l' x p h1 h2 h3
  · obtain ⟨o1, l1, h1, h2, h3⟩ := h.1 j k x p ⟨o, l, hj, hl, ho⟩
    obtain ⟨o2, l2, h4, h5, h6⟩ := h.1 j' k' x p' ⟨o', l', hj', hl', ho'⟩
    obtain ⟨e1, e2⟩ := hs.inj _ _ _ _ o1 o2 l1 l2 x p p' h1 h2 h3 h4 h5 h6
    exact h.2 j k j' k' x p p' ⟨o, l, hj, hl, ho⟩ ⟨o', l', hj', hl', ho'⟩ (Prod.ext e1 e2)
theorem Maps.touch {ls ls' : List L1} {H H' : List Obj} {φ : Nat → Nat → Nat × Nat} {x : Nat} (h : Maps ls H ls' H' φ) (ht : touchF ls H x) : touchF ls' H' x := by
  obtain ⟨j, k, o, l, p, h1, h2, h3⟩ := ht
  obtain ⟨o', l', h4, h5, h6⟩ := h.1 j k x p ⟨o, l, h1, h2, h3⟩
  exact ⟨_, _, o', l', p, h4, h5, h6⟩
/-- What is told of one list of entries is told of another that stands for the same blocks. -/
theorem SpcG.two {P : Program} {M : Nat → Prop} {B0 : Nat} {S : World → Prop} {sp sp2 : Spc} (h : SpcG P M B0 S sp) (tr : List L1 → List L1) (back : List L1 → List L1 → List L1)
    (hex : sp2.ex = sp.ex)
    (hpre : ∀ ls, (sp2.pre ls).length = ls.length → (sp.pre (tr ls)).length = (tr ls).length ∧ sp2.wh ls = sp.wh (tr ls) ∧ ∃ φ, Maps (tr ls) (sp.pre (tr ls)) ls (sp2.pre ls) φ)
    (hres : ∀ ls ms w, (sp2.pre ls).length = ls.length → ms.length = sp.m → SatF (tr ls ++ ms) (sp.post (tr ls ++ ms) ++ sp.new (tr ls ++ ms)) w → (back ls ms).length = sp2.m ∧ sp.val (tr ls ++ ms) = sp2.val (ls ++ back ls ms) ∧
      ∃ φ, Maps (ls ++ back ls ms) (sp2.post (ls ++ back ls ms) ++ sp2.new (ls ++ back ls ms)) (tr ls ++ ms) (sp.post (tr ls ++ ms) ++ sp.new (tr ls ++ ms)) φ) :
    SpcG P M B0 S sp2 := by
  intro ls w hlen hsat htb hS
  obtain ⟨h1, h2, φ, h3⟩ := hpre ls hlen
  have hd := h (tr ls) w h1 (h3.sat hsat) (fun x hx => htb x (h3.touch hx)) hS
  rw [h2, hex]
  refine hd.mono fun vs w' ⟨ms, hms, hv, hch, hfs⟩ => ?_
  obtain ⟨hsl, hnew⟩ := hfs (.inl rfl)
  obtain ⟨h4, h5, ψ, h6⟩ := hres ls ms w' hlen hms hsl
  refine ⟨back ls ms, h4, hv.trans h5, ⟨hch.os, hch.tape, hch.output, hch.size, fun x hx ht => hch.block x hx fun q => ht (h3.touch q)⟩, fun _ => ⟨h6.sat hsl, fun j k o l x p hj hl ho => ?_⟩⟩
  obtain ⟨j', k', o', l', p', h7, h8, h9⟩ := h6.touch ⟨j, k, o, l, p, hj, hl, ho⟩
  rcases hnew j' k' o' l' x p' h7 h8 h9 with q | q
  · exact .inl q
  · exact .inr (h3.touch q)
/-! ### The two places -/
def rfC {τ : Type} (l : L1) (sz : Nat) (D : Nat → Nat × (Nat → τ)) (i : Nat) : List Value := [if (D i).1 = 0 then .slice none 0 0 else rowV (mfl l i) (D i).1 sz]
/-- The row itself: its letter q, and the letter l of what it points to. -/
def rfR {τ : Type} (q l : L1) (e : TypeId) (sz N : Nat) (D : Nat → Nat × (Nat → τ)) : Obj := rowO q (esG (rfC l sz D) N fun i => i) e N 1
/-- What its elements point to. -/
def rfO {τ : Type} (T2 : TypeId) (f : τ → List Value) (sz N : Nat) (D : Nat → Nat × (Nat → τ)) : Obj := .pending ⟨(List.range N).map fun i => rrB T2 f sz (D i)⟩ 0
def cmb (q l : L1) : L1 := ⟨0, fun k => if k = 0 then rrE q else l.u (k - 1)⟩
def rfS (L : L1) : L1 := ⟨0, fun k => L.u (k + 1)⟩
theorem cmb_L (q l : L1) : rrL (cmb q l) = bare q := rfl
theorem cmb_M (q l : L1) (i : Nat) : rrM (cmb q l) i = mfl l i := by
  have e : (cmb q l).u (i + 1) = l.u i := by
    show (if i + 1 = 0 then rrE q else l.u (i + 1 - 1)) = l.u i
    rw [if_neg (by omega), Nat.add_sub_cancel]
  unfold rrM mfl
  rw [e]
theorem rfS_M (L : L1) (i : Nat) : mfl (rfS L) i = rrM L i := rfl
theorem rrC_cmb {τ : Type} (q l : L1) (sz : Nat) (D : Nat → Nat × (Nat → τ)) (i : Nat) : rrC (cmb q l) sz D i = rfC l sz D i := by
  unfold rrC rfC
  rw [cmb_M]
theorem rrC_rfS {τ : Type} (L : L1) (sz : Nat) (D : Nat → Nat × (Nat → τ)) (i : Nat) : rfC (rfS L) sz D i = rrC L sz D i := rfl
section
variable {τ : Type} {q l : L1} {e T2 : TypeId} {f : τ → List Value} {sz N : Nat} {D : Nat → Nat × (Nat → τ)}
theorem own_rf {i : Nat} : own (rfO T2 f sz N D) l i = if i < N ∧ (D i).1 ≠ 0 then some ((mfl l i).n, rowO (mfl l i) (esG f (D i).1 (D i).2) T2 (D i).1 sz) else none := by
  by_cases hi : i < N
  · have e1 : ((⟨(List.range N).map fun i => rrB T2 f sz (D i)⟩ : Array Value))[i]? = some (rrB T2 f sz (D i)) := by
      simp [hi]
    unfold own rfO
    simp only [e1]
    unfold rrB
    by_cases h0 : (D i).1 = 0
    · rw [if_pos h0, if_neg (fun h => h.2 h0)]; rfl
    · rw [if_neg h0, objOf_row, if_pos ⟨hi, h0⟩]
  · have e1 : ((⟨(List.range N).map fun i => rrB T2 f sz (D i)⟩ : Array Value))[i]? = none := by
      simp; omega
    unfold own rfO
    simp only [e1]
    rw [if_neg (fun h => hi h.1)]
/-- One entry's blocks are the two entries' blocks. -/
theorem own_cmb {k x : Nat} {p : Obj} : own (rrO (cmb q l) e T2 f sz N D) (cmb q l) k = some (x, p) ↔ (k = 0 ∧ own (rfR q l e sz N D) q 0 = some (x, p)) ∨ ∃ i, k = i + 1 ∧ own (rfO T2 f sz N D) l i = some (x, p) := by
  have eo : own (rfR q l e sz N D) q 0 = some (q.n, rfR q l e sz N D) := rfl
  have es : esG (rrC (cmb q l) sz D) N (fun i => i) = esG (rfC l sz D) N (fun i => i) := esG_map fun j hj => rrC_cmb q l sz D j
  constructor
  · intro h
    rcases own_rr h with ⟨rfl, rfl, rfl⟩ | ⟨i, rfl, hi, h0, rfl, rfl⟩
    · refine .inl ⟨rfl, ?_⟩
      rw [eo, es]
      rfl
    · refine .inr ⟨i, rfl, ?_⟩
      rw [own_rf, if_pos ⟨hi, h0⟩, cmb_M]
  · rintro (⟨rfl, h⟩ | ⟨i, rfl, h⟩)
    · rw [eo] at h
      rw [own_rr0, es]
      exact h
    · rw [own_rf] at h
      split at h
      · rename_i hc
        rw [own_rrS hc.1 hc.2, cmb_M]
        exact h
      · cases h
end
/-! ### A row in another's place -/
def rfS1 {τ : Type} (l : L1) (sz : Nat) (D : Nat → Nat × (Nat → τ)) (i : Nat) : Option Addr × Nat × Nat :=
  if (D i).1 = 0 then (none, 0, 0) else (some ⟨(mfl l i).n, 0, none⟩, (D i).1, (D i).1 + (padL (mfl l i) (D i).1 sz).length / sz)
theorem rfC_S {τ : Type} (l : L1) (sz : Nat) (D : Nat → Nat × (Nat → τ)) (i : Nat) : rfC l sz D i = fSl (rfS1 l sz D i) := by
  unfold rfC fSl rfS1
  by_cases h : (D i).1 = 0
  · rw [if_pos h, if_pos h]
  · rw [if_neg h, if_neg h]; rfl
def rfSet (l : L1) (k : Nat) (m : L1) : L1 := ⟨0, fun j => if j = k then rrE m else l.u j⟩
theorem rfSet_K (l : L1) (k : Nat) (m : L1) : mfl (rfSet l k m) k = bare m := by
  have e : (rfSet l k m).u k = rrE m := if_pos rfl
  unfold mfl
  rw [e]
  rfl
theorem rfSet_M (l : L1) {k i : Nat} (m : L1) (h : i ≠ k) : mfl (rfSet l k m) i = mfl l i := by
  have e : (rfSet l k m).u i = l.u i := if_neg h
  unfold mfl
  rw [e]
theorem own_rf1 {τ : Type} {l : L1} {T2 : TypeId} {f : τ → List Value} {sz N : Nat} {D : Nat → Nat × (Nat → τ)} {i : Nat} (hi : i < N) (h0 : (D i).1 ≠ 0) : own (rfO T2 f sz N D) l i = some ((mfl l i).n, rowO (mfl l i) (esG f (D i).1 (D i).2) T2 (D i).1 sz) := by
  rw [own_rf, if_pos ⟨hi, h0⟩]
theorem own_rf2 {τ : Type} {l : L1} {T2 : TypeId} {f : τ → List Value} {sz N : Nat} {D : Nat → Nat × (Nat → τ)} {i x : Nat} {p : Obj} (h : own (rfO T2 f sz N D) l i = some (x, p)) : i < N ∧ (D i).1 ≠ 0 ∧ x = (mfl l i).n ∧ p = rowO (mfl l i) (esG f (D i).1 (D i).2) T2 (D i).1 sz := by
  rw [own_rf] at h
  split at h
  · rename_i hc
    injection h with h
    injection h with h1 h2
    exact ⟨hc.1, hc.2, h1.symm, h2.symm⟩
  · cases h
section
variable {P : Program} {M : Nat → Prop} {B0 : Nat} {S : World → Prop} {e T2 T : TypeId}
def sqStRF {τ : Type} (dk : DK) (T e T2 : TypeId) (f : τ → List Value) (sz N k : Nat) (D : Nat → Nat × (Nat → τ)) (m : Nat) (B : Nat → τ) : Spc :=
  ⟨fun ls => .op (.st T (.pointer (some ⟨(lget ls 0).n, 0 + k * 1, none⟩)) (rowW dk (lget ls 2) m sz)), fun ls => [rfR (lget ls 0) (lget ls 1) e sz N D, rfO T2 f sz N D, rowD dk (lget ls 2) (esG f m B) T2 m sz], 1, .normal,
   fun _ => [undef], fun ls => [rfR (lget ls 0) (lget ls 3) e sz N (updF D k (m, B)), unb, unb], fun ls => [rfO T2 f sz N (updF D k (m, B))]⟩
theorem sqStRF_ok (dk : DK) {τ : Type} {f : τ → List Value} {sz N k : Nat} {D : Nat → Nat × (Nat → τ)} {m : Nat} {B : Nat → τ} (hz : ∀ w, (sizeOf T).run P w = .ok 1 w) (hk : k < N) (h0 : decide (0 < m) = true) (hm : decide (m ≤ 1000000) = true) :
    SpcG P M B0 S (sqStRF dk T e T2 f sz N k D m B) := by
  have h0 := of_decide_eq_true h0
  have hm := of_decide_eq_true hm
  have hmx : m ≤ maxLen := by simp only [maxLen]; omega
  intro ls w hlen hsat htb hS
  match ls, hlen with
  | [q, l, mb], _ =>
    have hg : w.heap[q.n]? = some (rfR q l e sz N D) := hsat.hold 0 0 _ q _ _ rfl rfl rfl
    have hmb : w.heap[mb.n]? = some (rowD dk mb (esG f m B) T2 m sz) := hsat.hold 2 0 _ mb _ _ rfl rfl rfl
    have hmem : ∀ i, i < N → (D i).1 ≠ 0 → w.heap[(mfl l i).n]? = some (rowO (mfl l i) (esG f (D i).1 (D i).2) T2 (D i).1 sz) := fun i hi h => hsat.hold 1 i _ l _ _ rfl rfl (own_rf1 hi h)
    have a2 : q.n ≠ mb.n := fun c => by
      have := (hsat.inj 0 2 0 0 _ _ q mb mb.n (rfR q l e sz N D) _ rfl rfl (by rw [← c]; rfl) rfl rfl rfl).1
      omega
    have a3 : ∀ i, i < N → (D i).1 ≠ 0 → (mfl l i).n ≠ mb.n := fun i hi h c => by
      have := (hsat.inj 1 2 i 0 _ _ l mb mb.n _ _ rfl rfl (by rw [← c]; exact own_rf1 hi h) rfl rfl rfl).1
      omega
    have a4 : ∀ i, i < N → (D i).1 ≠ 0 → (mfl l i).n ≠ q.n := fun i hi h c => by
      have := (hsat.inj 1 0 i 0 _ _ l q q.n _ (rfR q l e sz N D) rfl rfl (by rw [← c]; exact own_rf1 hi h) rfl rfl rfl).1
      omega
    have a5 : ∀ i j, i < N → j < N → (D i).1 ≠ 0 → (D j).1 ≠ 0 → (mfl l i).n = (mfl l j).n → i = j := fun i j hi hj h h' c =>
      (hsat.inj 1 1 i j _ _ l l (mfl l j).n _ _ rfl rfl (by rw [← c]; exact own_rf1 hi h) rfl rfl (own_rf1 hj h')).2
    have lt : ∀ {x : Nat} {p : Obj}, w.heap[x]? = some p → x < w.heap.size := fun h => (Array.getElem?_eq_some_iff.1 h).1
    have es0 : esG (rfC l sz D) N (fun i => i) = esG fSl N (rfS1 l sz D) := esG_map fun j hj => rfC_S l sz D j
    let v0 : Option Addr × Nat × Nat := (some ⟨mb.n, 0, none⟩, m, m + (padD dk mb m sz).length / sz)
    have hst := sqStG_ok (P := P) (S := S) (T := T) (e := e) (f := fSl) (N := N) (k := k) (sz := 1) (A := rfS1 l sz D) (v := v0) 0 (rowW dk mb m sz) fSl_len fSl_one rfl rfl hz hk
    have hd := hst [q] w rfl ⟨fun j o x hj hr hx => by
      match j, hj, hx with
      | 0, hj, hx =>
        obtain rfl : Obj.cells ⟨esG fSl N (rfS1 l sz D) ++ padL q N 1⟩ e = o := by simpa [sqSt, lget] using hj
        obtain rfl : q = x := by simpa using hx
        rw [← es0]
        exact hg
      | c + 1, hj, _ => simp [sqSt] at hj, fun i j o p x y hi _ hj _ hx hy _ => by
      match i, j, hx, hy with
      | 0, 0, _, _ => rfl
      | c + 1, _, hx, _ => simp at hx
      | 0, c + 1, _, hy => simp at hy⟩ hS
    obtain ⟨v, w', hr, ms, hms, hv, hsl, hnew, hch⟩ := hd
    obtain rfl : ms = [] := List.eq_nil_of_length_eq_zero hms
    have hh : w'.heap[q.n]? = some (.cells ⟨esG fSl N (updF (rfS1 l sz D) k v0) ++ padL q N 1⟩ e) := hsl.holds 0 _ q rfl rfl rfl
    have blk : ∀ x, x < w.heap.size → x ≠ q.n → w'.heap[x]? = w.heap[x]? := fun x hx hne => hch.block x hx fun ⟨j, o, y, h1, h2, h3, h4⟩ => by
      match j, h3 with
      | 0, h3 =>
        obtain rfl : q = y := by simpa using h3
        exact hne h4.symm
      | c + 1, h3 => simp at h3
    generalize hL : rfSet l k (rrIn dk mb m sz) = L
    have eK : mfl L k = bare (rrIn dk mb m sz) := by rw [← hL]; exact rfSet_K ..
    have eM : ∀ i, i ≠ k → mfl L i = mfl l i := fun i h => by rw [← hL]; exact rfSet_M _ _ h
    have dK : updF D k (m, B) k = (m, B) := updF_at ..
    have dM : ∀ i, i ≠ k → updF D k (m, B) i = D i := fun i h => updF_ne _ _ h
    have es : esG (rfC L sz (updF D k (m, B))) N (fun i => i) = esG fSl N (updF (rfS1 l sz D) k v0) := esG_map fun j hj => by
      by_cases hjk : j = k
      · subst hjk
        rw [updF_at]
        unfold rfC
        rw [dK, eK, if_neg (by show m ≠ 0; omega), rowV_rrIn dk mb hmx]
        rfl
      · rw [updF_ne _ _ hjk, ← rfC_S]
        unfold rfC
        rw [dM j hjk, eM j hjk]
    have hq : w'.heap[q.n]? = some (rfR q L e sz N (updF D k (m, B))) := by
      unfold rfR
      rw [es]
      exact hh
    have key : ∀ i x p, own (rfO T2 f sz N (updF D k (m, B))) L i = some (x, p) → w'.heap[x]? = some p ∧ ((i = k ∧ x = mb.n) ∨ (i < N ∧ (D i).1 ≠ 0 ∧ i ≠ k ∧ x = (mfl l i).n)) := fun i x p h => by
      obtain ⟨hi, hn, rfl, rfl⟩ := own_rf2 h
      by_cases hik : i = k
      · subst hik
        refine ⟨?_, .inl ⟨rfl, by rw [eK]; rfl⟩⟩
        rw [dK, eK, rowO_rrIn dk mb _ _ hmx]
        exact (blk _ (lt hmb) a2.symm).trans hmb
      · rw [dM i hik] at hn
        refine ⟨?_, .inr ⟨hi, hn, hik, by rw [eM i hik]⟩⟩
        rw [dM i hik, eM i hik]
        exact (blk _ (lt (hmem i hi hn)) (a4 i hi hn)).trans (hmem i hi hn)
    have at_ : ∀ (j c : Nat) (o : Obj) (y : L1) (x : Nat) (p : Obj), ([rfR q L e sz N (updF D k (m, B)), unb, unb] ++ [rfO T2 f sz N (updF D k (m, B))])[j]? = some o → ([q, l, mb] ++ [L])[j]? = some y → own o y c = some (x, p) →
        (j = 0 ∧ c = 0 ∧ x = q.n ∧ p = rfR q L e sz N (updF D k (m, B))) ∨ (j = 3 ∧ own (rfO T2 f sz N (updF D k (m, B))) L c = some (x, p)) := fun j c o y x p hj hl ho => by
      match j, hj, hl with
      | 0, hj, hl =>
        obtain rfl : rfR q L e sz N (updF D k (m, B)) = o := by simpa using hj
        obtain rfl : q = y := by simpa using hl
        obtain ⟨h1, h2, h3, _⟩ := own_plain (rfl : isPend (rfR q L e sz N (updF D k (m, B))) = false) ho
        exact .inl ⟨rfl, h1, h2, h3⟩
      | 1, hj, _ => obtain rfl : unb = o := by simpa using hj
                    cases ho
      | 2, hj, _ => obtain rfl : unb = o := by simpa using hj
                    cases ho
      | 3, hj, hl =>
        obtain rfl : rfO T2 f sz N (updF D k (m, B)) = o := by simpa using hj
        obtain rfl : L = y := by simpa using hl
        exact .inr ⟨rfl, ho⟩
      | c + 4, hj, _ => simp at hj
    have hr' : (Q.sem (.st T (.pointer (some ⟨q.n, 0 + k * 1, none⟩)) (rowW dk mb m sz))).run P w = .ok (.value v) w' ∨ (Q.sem (.st T (.pointer (some ⟨q.n, 0 + k * 1, none⟩)) (rowW dk mb m sz))).run P w = .ok .skip w' ∧ v = undef := hr
    refine ⟨v, w', hr', [L], rfl, hv, ⟨hch.os, hch.tape, hch.output, hch.size, fun x hx ht => blk x hx fun c => ht (c ▸ ⟨0, 0, _, q, _, rfl, rfl, rfl⟩)⟩, fun _ => ⟨⟨fun j c o y x p hj hl ho => ?_, fun j j' c c' o o' y y' x p p' hj hl ho hj' hl' ho' => ?_⟩, fun j c o y x p hj hl ho => ?_⟩⟩
    · rcases at_ j c o y x p hj hl ho with ⟨_, _, rfl, rfl⟩ | ⟨_, h1⟩
      · exact hq
      · exact (key c x p h1).1
    · rcases at_ j c o y x p hj hl ho with ⟨rfl, rfl, rfl, _⟩ | ⟨rfl, h1⟩ <;> rcases at_ j' c' o' y' _ p' hj' hl' ho' with ⟨rfl, rfl, e2, _⟩ | ⟨rfl, h2⟩
      · exact ⟨rfl, rfl⟩
      · rcases (key c' _ p' h2).2 with ⟨_, e2⟩ | ⟨hi, hn, _, e2⟩
        · exact absurd e2 a2
        · exact absurd e2.symm (a4 c' hi hn)
      · rcases (key c _ p h1).2 with ⟨_, e3⟩ | ⟨hi, hn, _, e3⟩
        · exact absurd (e2.symm.trans e3) a2
        · exact absurd (e3.symm.trans e2) (a4 c hi hn)
      · refine ⟨rfl, ?_⟩
        rcases (key c _ p h1).2 with ⟨rfl, e3⟩ | ⟨hi, hn, _, e3⟩ <;> rcases (key c' _ p' h2).2 with ⟨rfl, e4⟩ | ⟨hi', hn', _, e4⟩
        · rfl
        · exact absurd (e4.symm.trans e3) (a3 c' hi' hn')
        · exact absurd (e3.symm.trans e4) (a3 c hi hn)
        · exact a5 c c' hi hi' hn hn' (e3.symm.trans e4)
    · rcases at_ j c o y x p hj hl ho with ⟨_, _, rfl, _⟩ | ⟨_, h1⟩
      · exact .inr ⟨0, 0, _, q, _, rfl, rfl, rfl⟩
      · rcases (key c x p h1).2 with ⟨_, rfl⟩ | ⟨hi, hn, _, rfl⟩
        · exact .inr ⟨2, 0, _, mb, _, rfl, rfl, rfl⟩
        · exact .inr ⟨1, c, _, l, _, rfl, rfl, own_rf1 hi hn⟩
end
end Go.Proofs.YtnlnldpolaodbaaDoor
