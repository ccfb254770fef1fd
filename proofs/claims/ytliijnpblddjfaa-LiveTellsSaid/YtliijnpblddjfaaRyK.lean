/-
  Rows whose elements are rows: one entry for the row itself and for all the rows that it points to. Nothing of the program stands here.
-/
import Derived.Test.YtliijnpblddjfaaRxM
import Derived.Lib.AppendStr
import Derived.ChangeKeysEq
namespace Go.Proofs.Ytliijnpblddjfaa
open Go.RowKit
set_option linter.unusedVariables false
set_option linter.unusedSimpArgs false
/-- The row itself; number i's row. -/
def rrL (l : L1) : L1 := mfl l 0
def rrM (l : L1) (i : Nat) : L1 := mfl l (i + 1)
/-- Number i's slice: a row of no elements is no block. -/
def rrC {τ : Type} (l : L1) (sz : Nat) (D : Nat → Nat × (Nat → τ)) (i : Nat) : List Value := [if (D i).1 = 0 then .slice none 0 0 else rowV (rrM l i) (D i).1 sz]
theorem zBc {τ : Type} (l : L1) (sz : Nat) (D : Nat → Nat × (Nat → τ)) (i : Nat) : (rrC l sz D i).length = 1 := rfl
def rrB {τ : Type} (T2 : TypeId) (f : τ → List Value) (sz : Nat) (x : Nat × (Nat → τ)) : Value :=
  if x.1 = 0 then .nilFunc else .tuple #[.int .u64 ((T2 : Nat) : Int), .agg ⟨esG f x.1 x.2⟩, .int .u64 (x.1 : Int), .int .u64 (sz : Int)]
def rrO {τ : Type} (l : L1) (T T2 : TypeId) (f : τ → List Value) (sz N : Nat) (D : Nat → Nat × (Nat → τ)) : Obj :=
  .pending ⟨.tuple #[.int .u64 ((T : Nat) : Int), .agg ⟨esG (rrC l sz D) N fun i => i⟩, .int .u64 (N : Int), .int .u64 1] :: (List.range N).map fun i => rrB T2 f sz (D i)⟩ 0
section
variable {τ : Type} {l : L1} {T T2 : TypeId} {f : τ → List Value} {sz N : Nat} {D : Nat → Nat × (Nat → τ)}
theorem zyR {l : L1} {T n sz : Nat} {es : List Value} : zDa l (.tuple #[.int .u64 (T : Int), .agg ⟨es⟩, .int .u64 (n : Int), .int .u64 (sz : Int)]) = some (rowO l es T n sz) := rfl
theorem zyq : own (rrO l T T2 f sz N D) l 0 = some ((rrL l).n, rowO (rrL l) (esG (rrC l sz D) N fun i => i) T N 1) := rfl
theorem zzD {i : Nat} (hi : i < N) (h0 : (D i).1 ≠ 0) : own (rrO l T T2 f sz N D) l (i + 1) = some ((rrM l i).n, rowO (rrM l i) (esG f (D i).1 (D i).2) T2 (D i).1 sz) := by
  have e : ((⟨.tuple #[.int .u64 ((T : Nat) : Int), .agg ⟨esG (rrC l sz D) N fun i => i⟩, .int .u64 (N : Int), .int .u64 1] :: (List.range N).map fun i => rrB T2 f sz (D i)⟩ : Array Value))[i + 1]? = some (rrB T2 f sz (D i)) := by
    simp [hi]
  unfold own rrO
  simp only [e]
  unfold rrB
  rw [if_neg h0, zyR]
  rfl
theorem zC6 {k x : Nat} {p : Obj} (h : own (rrO l T T2 f sz N D) l k = some (x, p)) :
    (k = 0 ∧ x = (rrL l).n ∧ p = rowO (rrL l) (esG (rrC l sz D) N fun i => i) T N 1) ∨ ∃ i, k = i + 1 ∧ i < N ∧ (D i).1 ≠ 0 ∧ x = (rrM l i).n ∧ p = rowO (rrM l i) (esG f (D i).1 (D i).2) T2 (D i).1 sz := by
  cases k with
  | zero =>
    rw [zyq] at h
    injection h with h
    injection h with h1 h2
    exact .inl ⟨rfl, h1.symm, h2.symm⟩
  | succ i =>
    by_cases hi : i < N
    · by_cases h0 : (D i).1 = 0
      · have e : ((⟨.tuple #[.int .u64 ((T : Nat) : Int), .agg ⟨esG (rrC l sz D) N fun i => i⟩, .int .u64 (N : Int), .int .u64 1] :: (List.range N).map fun i => rrB T2 f sz (D i)⟩ : Array Value))[i + 1]? = some (rrB T2 f sz (D i)) := by
          simp [hi]
        unfold own rrO at h
        simp only [e] at h
        unfold rrB at h
        rw [if_pos h0] at h
        cases h
      · rw [zzD hi h0] at h
        injection h with h
        injection h with h1 h2
        exact .inr ⟨i, rfl, hi, h0, h1.symm, h2.symm⟩
    · have e : ((⟨.tuple #[.int .u64 ((T : Nat) : Int), .agg ⟨esG (rrC l sz D) N fun i => i⟩, .int .u64 (N : Int), .int .u64 1] :: (List.range N).map fun i => rrB T2 f sz (D i)⟩ : Array Value))[i + 1]? = none := by
        simp; omega
      unfold own rrO at h
      simp only [e] at h
      cases h
end
/-! ### One row more -/
def rrE (r : L1) : Value := .tuple #[.int .u64 (r.n : Int), r.u 0]
def rrIn (dk : DK) (l : L1) (m sz : Nat) : L1 := ⟨l.n, zq0 (padD dk l m sz)⟩
def bare (l : L1) : L1 := ⟨l.n, fun _ => l.u 0⟩
theorem zBu (l : L1) (es : List Value) (T n sz : Nat) : rowO (bare l) es T n sz = rowO l es T n sz := rfl
theorem zA1 (l : L1) (n sz : Nat) : rowV (bare l) n sz = rowV l n sz := rfl
theorem zy6 (dk : DK) (l : L1) {m sz : Nat} (h : m ≤ maxLen) : padL (rrIn dk l m sz) m sz = padD dk l m sz := zBv (zyy dk l m) (zz2 dk l sz h)
theorem zA5 (dk : DK) (l : L1) {m sz : Nat} (es : List Value) (T : TypeId) (h : m ≤ maxLen) : rowO (bare (rrIn dk l m sz)) es T m sz = rowD dk l es T m sz := by
  rw [zBu]
  unfold rowO rowD
  rw [zy6 dk l h]
theorem zA2 (dk : DK) (l : L1) {m sz : Nat} (h : m ≤ maxLen) : rowV (bare (rrIn dk l m sz)) m sz = rowW dk l m sz := by
  rw [zA1]
  unfold rowV rowW
  rw [zy6 dk l h]
  rfl
theorem zxj {α β : Type} {f : α → List Value} {g : β → List Value} {N : Nat} {A : Nat → α} {B : Nat → β} (h : ∀ k, k < N → f (A k) = g (B k)) : esG f N A = esG g N B := by
  unfold esG
  congr 1
  exact List.map_congr_left fun k hk => h k (List.mem_range.1 hk)
section
variable {P : Program} {M : Nat → Prop} {B0 : Nat} {S : World → Prop} {t ty e T2 : TypeId} {i : TypeInfo} {z : Value} {bytes : Nat}
end
end Go.Proofs.Ytliijnpblddjfaa
/-
  Rows of rows that are only read; one of the call's own given to a callee that only reads it. Nothing of the program stands here.
-/
namespace Go.Proofs.Ytliijnpblddjfaa
open Go.RowKit
set_option linter.unusedVariables false
set_option linter.unusedSimpArgs false
/-- Where a row lies that is only read, and its room. -/
structure RoX where
  a : Option Addr
  p : Nat
  q : Nat
  c : Nat
def rxC {τ : Type} (X : Nat → RoX) (D : Nat → Nat × (Nat → τ)) (i : Nat) : List Value := [.slice (X i).a (D i).1 ((D i).1 + (X i).c)]
structure RoR {τ : Type} (S : World → Prop) (f : τ → List Value) (sz : Nat) (a : Option Addr) (p q n : Nat) (X : Nat → RoX) (D : Nat → Nat × (Nat → τ)) : Prop where
  row : Ro S (rxC X D) 1 a p q n (fun i => i)
  els : ∀ i, i < n → Ro S f sz (X i).a (X i).p (X i).q (D i).1 (D i).2
theorem RoR.mono {τ : Type} {S S' : World → Prop} {f : τ → List Value} {sz : Nat} {a : Option Addr} {p q n : Nat} {X : Nat → RoX} {D : Nat → Nat × (Nat → τ)} (h : RoR S f sz a p q n X D) (hs : ∀ w, S' w → S w) : RoR S' f sz a p q n X D :=
  ⟨h.row.mono hs, fun i hi => (h.els i hi).mono hs⟩
theorem RoR.nil {τ : Type} {S : World → Prop} {f : τ → List Value} {sz : Nat} {a : Option Addr} {p q : Nat} {X : Nat → RoX} {D : Nat → Nat × (Nat → τ)} : RoR S f sz a p q 0 X D := ⟨Ro.nil, fun i hi => absurd hi (by omega)⟩
end Go.Proofs.Ytliijnpblddjfaa
/-
  Rows of rows: a row's slice read, a cell of a row read and written. Nothing of the program stands here.
-/
namespace Go.Proofs.Ytliijnpblddjfaa
open Go.RowKit
set_option linter.unusedVariables false
set_option linter.unusedSimpArgs false
section
variable {P : Program} {M : Nat → Prop} {B0 : Nat} {S : World → Prop}
/-- What only reads is told by what it answers. -/
theorem zyd {q : List L1 → Q} {o : List L1 → List Obj} {v : List L1 → Value} (h : ∀ ls w, (o ls).length = ls.length → SatF ls (o ls) w → S w → (q ls).sem.run P w = .ok (.value (v ls)) w) :
    SpcG P M B0 S ⟨fun ls => .op (q ls), o, 0, .normal, fun ls => [v ls], o, fun _ => []⟩ := fun ls w hl hs ht hS =>
  ⟨v ls, w, .inl (h ls w hl hs hS), [], rfl, by simp, Chg.refl .., fun _ => ⟨by simpa using hs, fun j k o l x p hj hx ho => .inr ⟨j, k, o, l, p, by simpa using hj, by simpa using hx, ho⟩⟩⟩
theorem zBo {T : TypeId} (hA : ∀ w, (isAgg T).run P w = .ok false w) {a : Addr} {v : Value} {w : World} (h : w.cell? a = some v) : (Q.ld T (.pointer (some a))).sem.run P w = .ok (.value v) w := by
  simp [Q.sem, Instr.loadAt, Instr.sureAddr, loadVar, hA, Sem.run_bind, load, Sem.run, h]
variable {τ : Type} {e T2 T : TypeId} {f : τ → List Value} {sz N k : Nat} {D : Nat → Nat × (Nat → τ)}
def ldRR {τ : Type} (T e T2 : TypeId) (f : τ → List Value) (sz N k : Nat) (D : Nat → Nat × (Nat → τ)) (v : L1 → Value) : Spc :=
  ⟨fun ls => .op (.ld T (.pointer (some ⟨(rrL (lget ls 0)).n, 0 + k * 1, none⟩))), fun ls => [rrO (lget ls 0) e T2 f sz N D], 0, .normal, fun ls => [v (lget ls 0)], fun ls => [rrO (lget ls 0) e T2 f sz N D], fun _ => []⟩
theorem zA4 {l : L1} {w : World} (hg : w.heap[(rrL l).n]? = some (rowO (rrL l) (esG (rrC l sz D) N fun i => i) e N 1)) (hk : k < N) : w.cell? ⟨(rrL l).n, 0 + k * 1, none⟩ = (rrC l sz D k)[0]? := by
  have hg1 : w.heap[(rrL l).n]? = some (.cells ⟨esG (rrC l sz D) N (fun i => i) ++ padL (rrL l) N 1⟩ e) := hg
  have := ztR (A := fun i => i) (zBc l sz D) (show 0 < 1 by decide) hk
  rw [Nat.add_zero] at this
  rw [zfw hg1, List.getElem?_toArray, Nat.zero_add, List.getElem?_append_left ?_, this]
  rw [zkf (zBc l sz D)]
  omega
theorem zCq (hA : ∀ w, (isAgg T).run P w = .ok false w) (hk : k < N) (h0 : decide (0 < (D k).1) = true) : SpcG P M B0 S (ldRR T e T2 f sz N k D fun l => rowV (rrM l k) (D k).1 sz) := by
  have h0 := of_decide_eq_true h0
  refine zyd fun ls w hl hs hS => zBo hA ?_
  match ls, hl with
  | [l], _ =>
    have hg : w.heap[(rrL l).n]? = some (rowO (rrL l) (esG (rrC l sz D) N fun i => i) e N 1) := hs.hold 0 0 _ l _ _ rfl rfl zyq
    show w.cell? ⟨(rrL l).n, 0 + k * 1, none⟩ = _
    rw [zA4 hg hk]
    unfold rrC
    rw [if_neg (by omega)]
    rfl
theorem zBN (hA : ∀ w, (isAgg T).run P w = .ok false w) (hk : k < N) (h0 : decide (0 < (D k).1) = false) : SpcG P M B0 S (ldRR T e T2 f sz N k D fun _ => .slice none 0 0) := by
  have h0 := of_decide_eq_false h0
  refine zyd fun ls w hl hs hS => zBo hA ?_
  match ls, hl with
  | [l], _ =>
    have hg : w.heap[(rrL l).n]? = some (rowO (rrL l) (esG (rrC l sz D) N fun i => i) e N 1) := hs.hold 0 0 _ l _ _ rfl rfl zyq
    show w.cell? ⟨(rrL l).n, 0 + k * 1, none⟩ = _
    rw [zA4 hg hk]
    unfold rrC
    rw [if_pos (by omega)]
    rfl
/-- Cell j of element i of row k. -/
def ldRM {τ : Type} (T e T2 : TypeId) (f : τ → List Value) (sz N k i j : Nat) (D : Nat → Nat × (Nat → τ)) (v : Value) : Spc :=
  ⟨fun ls => .op (.ld T (.pointer (some ⟨(rrM (lget ls 0) k).n, 0 + i * sz + j, none⟩))), fun ls => [rrO (lget ls 0) e T2 f sz N D], 0, .normal, fun _ => [v], fun ls => [rrO (lget ls 0) e T2 f sz N D], fun _ => []⟩
theorem zCt (hA : ∀ w, (isAgg T).run P w = .ok false w) (hf : ∀ x, (f x).length = sz) {i : Nat} (j : Nat) {v : Value} (hk : k < N) (hi : i < (D k).1) (hj : j < sz) (hv : (f ((D k).2 i))[j]? = some v) : SpcG P M B0 S (ldRM T e T2 f sz N k i j D v) := by
  refine zyd fun ls w hl hs hS => zBo hA ?_
  match ls, hl with
  | [l], _ =>
    have hg : w.heap[(rrM l k).n]? = some (.cells ⟨esG f (D k).1 (D k).2 ++ padL (rrM l k) (D k).1 sz⟩ T2) := hs.hold 0 (k + 1) _ l _ _ rfl rfl (zzD hk (by omega))
    show w.cell? ⟨(rrM l k).n, 0 + i * sz + j, none⟩ = _
    rw [zfw hg, List.getElem?_toArray, Nat.zero_add, List.getElem?_append_left ?_, ztR hf hj hi, hv]
    rw [zkf hf]
    have := Nat.mul_le_mul_right sz (show i + 1 ≤ (D k).1 by omega)
    rw [Nat.succ_mul] at this
    omega
end
end Go.Proofs.Ytliijnpblddjfaa
/-
  Rows of rows: so many rows of nothing made; a row put in another's place. Nothing of the program stands here.
-/
namespace Go.Proofs.Ytliijnpblddjfaa
open Go.RowKit
set_option linter.unusedVariables false
set_option linter.unusedSimpArgs false
theorem AccOk.blks {S : World → Prop} (l : List Nat) : AccOk S (l.map Acc.blk) := fun x hx => by
  obtain ⟨i, _, rfl⟩ := List.mem_map.1 hx
  trivial
/-- A slice's cell. -/
def fSl (x : Option Addr × Nat × Nat) : List Value := [.slice x.1 x.2.1 x.2.2]
theorem zAO (x : Option Addr × Nat × Nat) : (fSl x).length = 1 := rfl
theorem zBn (x : Option Addr × Nat × Nat) : ((fSl x).all fun u => u.oneCell') = true := rfl
section
variable {P : Program} {M : Nat → Prop} {B0 : Nat} {S : World → Prop} {t e T2 T : TypeId} {i : TypeInfo} {z : Value} {bytes : Nat}
/-! ### make -/
/-! ### A row in another's place -/
end
end Go.Proofs.Ytliijnpblddjfaa
/-
  Rows of rows at two places: the row, and an entry for all that its elements point to. Nothing of the program stands here.
-/
namespace Go.Proofs.Ytliijnpblddjfaa
open Go.RowKit
set_option linter.unusedVariables false
set_option linter.unusedSimpArgs false
/-! ### The same blocks, told by other entries -/
def At (ls : List L1) (H : List Obj) (j k x : Nat) (p : Obj) : Prop := ∃ o l, H[j]? = some o ∧ ls[j]? = some l ∧ own o l k = some (x, p)
def Maps (ls : List L1) (H : List Obj) (ls' : List L1) (H' : List Obj) (φ : Nat → Nat → Nat × Nat) : Prop :=
  (∀ j k x p, At ls H j k x p → At ls' H' (φ j k).1 (φ j k).2 x p) ∧ ∀ j k j' k' x p p', At ls H j k x p → At ls H j' k' x p' → φ j k = φ j' k' → j = j' ∧ k = k'
theorem Maps.sat {ls ls' : List L1} {H H' : List Obj} {φ : Nat → Nat → Nat × Nat} {w : World} (h : Maps ls H ls' H' φ) (hs : SatF ls' H' w) : SatF ls H w := by
  refine ⟨fun j k o l x p hj hl ho => ?_, fun j j' k k' o o' l l' x p p' hj hl ho hj' hl' ho' => ?_⟩
  · obtain ⟨o', l', h1, h2, h3⟩ := h.1 j k x p ⟨o, l, hj, hl, ho⟩
    exact hs.hold _ _ o' l' x p h1 h2 h3
  · obtain ⟨o1, l1, h1, h2, h3⟩ := h.1 j k x p ⟨o, l, hj, hl, ho⟩
    obtain ⟨o2, l2, h4, h5, h6⟩ := h.1 j' k' x p' ⟨o', l', hj', hl', ho'⟩
    obtain ⟨e1, e2⟩ := hs.inj _ _ _ _ o1 o2 l1 l2 x p p' h1 h2 h3 h4 h5 h6
    exact h.2 j k j' k' x p p' ⟨o, l, hj, hl, ho⟩ ⟨o', l', hj', hl', ho'⟩ (Prod.ext e1 e2)
theorem Maps.touch {ls ls' : List L1} {H H' : List Obj} {φ : Nat → Nat → Nat × Nat} {x : Nat} (h : Maps ls H ls' H' φ) (ht : zmi ls H x) : zmi ls' H' x := by
  obtain ⟨j, k, o, l, p, h1, h2, h3⟩ := ht
  obtain ⟨o', l', h4, h5, h6⟩ := h.1 j k x p ⟨o, l, h1, h2, h3⟩
  exact ⟨_, _, o', l', p, h4, h5, h6⟩
/-- What is told of one list of entries is told of another that stands for the same blocks. -/
theorem SpcG.two {P : Program} {M : Nat → Prop} {B0 : Nat} {S : World → Prop} {sp sp2 : Spc} (h : SpcG P M B0 S sp) (tr : List L1 → List L1) (back : List L1 → List L1 → List L1)
    (hex : sp2.ex = sp.ex)
    (hpre : ∀ ls, (sp2.pre ls).length = ls.length → (sp.pre (tr ls)).length = (tr ls).length ∧ sp2.wh ls = sp.wh (tr ls) ∧ ∃ φ, Maps (tr ls) (sp.pre (tr ls)) ls (sp2.pre ls) φ)
    (hres : ∀ ls ms w, (sp2.pre ls).length = ls.length → ms.length = sp.m → SatF (tr ls ++ ms) (sp.post (tr ls ++ ms) ++ sp.new (tr ls ++ ms)) w → (back ls ms).length = sp2.m ∧ sp.val (tr ls ++ ms) = sp2.val (ls ++ back ls ms) ∧
      ∃ φ, Maps (ls ++ back ls ms) (sp2.post (ls ++ back ls ms) ++ sp2.new (ls ++ back ls ms)) (tr ls ++ ms) (sp.post (tr ls ++ ms) ++ sp.new (tr ls ++ ms)) φ) :
    SpcG P M B0 S sp2 := by
  intro ls w hlen hsat htb hS
  obtain ⟨h1, h2, φ, h3⟩ := hpre ls hlen
  have hd := h (tr ls) w h1 (h3.sat hsat) (fun x hx => htb x (h3.touch hx)) hS
  rw [h2, hex]
  refine hd.mono fun vs w' ⟨ms, hms, hv, hch, hfs⟩ => ?_
  obtain ⟨hsl, hnew⟩ := hfs (.inl rfl)
  obtain ⟨h4, h5, ψ, h6⟩ := hres ls ms w' hlen hms hsl
  refine ⟨back ls ms, h4, hv.trans h5, ⟨hch.os, hch.tape, hch.output, hch.size, fun x hx ht => hch.block x hx fun q => ht (h3.touch q)⟩, fun _ => ⟨h6.sat hsl, fun j k o l x p hj hl ho => ?_⟩⟩
  obtain ⟨j', k', o', l', p', h7, h8, h9⟩ := h6.touch ⟨j, k, o, l, p, hj, hl, ho⟩
  rcases hnew j' k' o' l' x p' h7 h8 h9 with q | q
  · exact .inl q
  · exact .inr (h3.touch q)
/-! ### The two places -/
def rfC {τ : Type} (l : L1) (sz : Nat) (D : Nat → Nat × (Nat → τ)) (i : Nat) : List Value := [if (D i).1 = 0 then .slice none 0 0 else rowV (mfl l i) (D i).1 sz]
/-- The row itself: its letter q, and the letter l of what it points to. -/
def rfR {τ : Type} (q l : L1) (e : TypeId) (sz N : Nat) (D : Nat → Nat × (Nat → τ)) : Obj := rowO q (esG (rfC l sz D) N fun i => i) e N 1
/-- What its elements point to. -/
def rfO {τ : Type} (T2 : TypeId) (f : τ → List Value) (sz N : Nat) (D : Nat → Nat × (Nat → τ)) : Obj := .pending ⟨(List.range N).map fun i => rrB T2 f sz (D i)⟩ 0
def cmb (q l : L1) : L1 := ⟨0, fun k => if k = 0 then rrE q else l.u (k - 1)⟩
theorem zA9 (q l : L1) (i : Nat) : rrM (cmb q l) i = mfl l i := by
  have e : (cmb q l).u (i + 1) = l.u i := by
    show (if i + 1 = 0 then rrE q else l.u (i + 1 - 1)) = l.u i
    rw [if_neg (by omega), Nat.add_sub_cancel]
  unfold rrM mfl
  rw [e]
theorem zCE {τ : Type} (q l : L1) (sz : Nat) (D : Nat → Nat × (Nat → τ)) (i : Nat) : rrC (cmb q l) sz D i = rfC l sz D i := by
  unfold rrC rfC
  rw [zA9]
section
variable {τ : Type} {q l : L1} {e T2 : TypeId} {f : τ → List Value} {sz N : Nat} {D : Nat → Nat × (Nat → τ)}
theorem zzP {i : Nat} : own (rfO T2 f sz N D) l i = if i < N ∧ (D i).1 ≠ 0 then some ((mfl l i).n, rowO (mfl l i) (esG f (D i).1 (D i).2) T2 (D i).1 sz) else none := by
  by_cases hi : i < N
  · have e1 : ((⟨(List.range N).map fun i => rrB T2 f sz (D i)⟩ : Array Value))[i]? = some (rrB T2 f sz (D i)) := by
      simp [hi]
    unfold own rfO
    simp only [e1]
    unfold rrB
    by_cases h0 : (D i).1 = 0
    · rw [if_pos h0, if_neg (fun h => h.2 h0)]; rfl
    · rw [if_neg h0, zyR, if_pos ⟨hi, h0⟩]
  · have e1 : ((⟨(List.range N).map fun i => rrB T2 f sz (D i)⟩ : Array Value))[i]? = none := by
      simp; omega
    unfold own rfO
    simp only [e1]
    rw [if_neg (fun h => hi h.1)]
/-- One entry's blocks are the two entries' blocks. -/
theorem zzy {k x : Nat} {p : Obj} : own (rrO (cmb q l) e T2 f sz N D) (cmb q l) k = some (x, p) ↔ (k = 0 ∧ own (rfR q l e sz N D) q 0 = some (x, p)) ∨ ∃ i, k = i + 1 ∧ own (rfO T2 f sz N D) l i = some (x, p) := by
  have eo : own (rfR q l e sz N D) q 0 = some (q.n, rfR q l e sz N D) := rfl
  have es : esG (rrC (cmb q l) sz D) N (fun i => i) = esG (rfC l sz D) N (fun i => i) := zxj fun j hj => zCE q l sz D j
  constructor
  · intro h
    rcases zC6 h with ⟨rfl, rfl, rfl⟩ | ⟨i, rfl, hi, h0, rfl, rfl⟩
    · refine .inl ⟨rfl, ?_⟩
      rw [eo, es]
      rfl
    · refine .inr ⟨i, rfl, ?_⟩
      rw [zzP, if_pos ⟨hi, h0⟩, zA9]
  · rintro (⟨rfl, h⟩ | ⟨i, rfl, h⟩)
    · rw [eo] at h
      rw [zyq, es]
      exact h
    · rw [zzP] at h
      split at h
      · rename_i hc
        rw [zzD hc.1 hc.2, zA9]
        exact h
      · cases h
end
/-! ### A row in another's place -/
def rfS1 {τ : Type} (l : L1) (sz : Nat) (D : Nat → Nat × (Nat → τ)) (i : Nat) : Option Addr × Nat × Nat :=
  if (D i).1 = 0 then (none, 0, 0) else (some ⟨(mfl l i).n, 0, none⟩, (D i).1, (D i).1 + (padL (mfl l i) (D i).1 sz).length / sz)
theorem zB3 {τ : Type} (l : L1) (sz : Nat) (D : Nat → Nat × (Nat → τ)) (i : Nat) : rfC l sz D i = fSl (rfS1 l sz D i) := by
  unfold rfC fSl rfS1
  by_cases h : (D i).1 = 0
  · rw [if_pos h, if_pos h]
  · rw [if_neg h, if_neg h]; rfl
def zA8 (l : L1) (k : Nat) (m : L1) : L1 := ⟨0, fun j => if j = k then rrE m else l.u j⟩
theorem zCo (l : L1) (k : Nat) (m : L1) : mfl (zA8 l k m) k = bare m := by
  have e : (zA8 l k m).u k = rrE m := if_pos rfl
  unfold mfl
  rw [e]
  rfl
theorem zCB (l : L1) {k i : Nat} (m : L1) (h : i ≠ k) : mfl (zA8 l k m) i = mfl l i := by
  have e : (zA8 l k m).u i = l.u i := if_neg h
  unfold mfl
  rw [e]
theorem znt {τ : Type} {l : L1} {T2 : TypeId} {f : τ → List Value} {sz N : Nat} {D : Nat → Nat × (Nat → τ)} {i : Nat} (hi : i < N) (h0 : (D i).1 ≠ 0) : own (rfO T2 f sz N D) l i = some ((mfl l i).n, rowO (mfl l i) (esG f (D i).1 (D i).2) T2 (D i).1 sz) := by
  rw [zzP, if_pos ⟨hi, h0⟩]
theorem zzm {τ : Type} {l : L1} {T2 : TypeId} {f : τ → List Value} {sz N : Nat} {D : Nat → Nat × (Nat → τ)} {i x : Nat} {p : Obj} (h : own (rfO T2 f sz N D) l i = some (x, p)) : i < N ∧ (D i).1 ≠ 0 ∧ x = (mfl l i).n ∧ p = rowO (mfl l i) (esG f (D i).1 (D i).2) T2 (D i).1 sz := by
  rw [zzP] at h
  split at h
  · rename_i hc
    injection h with h
    injection h with h1 h2
    exact ⟨hc.1, hc.2, h1.symm, h2.symm⟩
  · cases h
section
variable {P : Program} {M : Nat → Prop} {B0 : Nat} {S : World → Prop} {e T2 T : TypeId}
def zDd {τ : Type} (dk : DK) (T e T2 : TypeId) (f : τ → List Value) (sz N k : Nat) (D : Nat → Nat × (Nat → τ)) (m : Nat) (B : Nat → τ) : Spc :=
  ⟨fun ls => .op (.st T (.pointer (some ⟨(lget ls 0).n, 0 + k * 1, none⟩)) (rowW dk (lget ls 2) m sz)), fun ls => [rfR (lget ls 0) (lget ls 1) e sz N D, rfO T2 f sz N D, rowD dk (lget ls 2) (esG f m B) T2 m sz], 1, .normal,
   fun _ => [undef], fun ls => [rfR (lget ls 0) (lget ls 3) e sz N (updF D k (m, B)), unb, unb], fun ls => [rfO T2 f sz N (updF D k (m, B))]⟩
theorem zAB (dk : DK) {τ : Type} {f : τ → List Value} {sz N k : Nat} {D : Nat → Nat × (Nat → τ)} {m : Nat} {B : Nat → τ} (hz : ∀ w, (sizeOf T).run P w = .ok 1 w) (hk : k < N) (h0 : decide (0 < m) = true) (hm : decide (m ≤ 1000000) = true) :
    SpcG P M B0 S (zDd dk T e T2 f sz N k D m B) := by
  have h0 := of_decide_eq_true h0
  have hm := of_decide_eq_true hm
  have hmx : m ≤ maxLen := by simp only [maxLen]; omega
  intro ls w hlen hsat htb hS
  match ls, hlen with
  | [q, l, mb], _ =>
    have hg : w.heap[q.n]? = some (rfR q l e sz N D) := hsat.hold 0 0 _ q _ _ rfl rfl rfl
    have hmb : w.heap[mb.n]? = some (rowD dk mb (esG f m B) T2 m sz) := hsat.hold 2 0 _ mb _ _ rfl rfl rfl
    have hmem : ∀ i, i < N → (D i).1 ≠ 0 → w.heap[(mfl l i).n]? = some (rowO (mfl l i) (esG f (D i).1 (D i).2) T2 (D i).1 sz) := fun i hi h => hsat.hold 1 i _ l _ _ rfl rfl (znt hi h)
    have a2 : q.n ≠ mb.n := fun c => by
      have := (hsat.inj 0 2 0 0 _ _ q mb mb.n (rfR q l e sz N D) _ rfl rfl (by rw [← c]; rfl) rfl rfl rfl).1
      omega
    have a3 : ∀ i, i < N → (D i).1 ≠ 0 → (mfl l i).n ≠ mb.n := fun i hi h c => by
      have := (hsat.inj 1 2 i 0 _ _ l mb mb.n _ _ rfl rfl (by rw [← c]; exact znt hi h) rfl rfl rfl).1
      omega
    have a4 : ∀ i, i < N → (D i).1 ≠ 0 → (mfl l i).n ≠ q.n := fun i hi h c => by
      have := (hsat.inj 1 0 i 0 _ _ l q q.n _ (rfR q l e sz N D) rfl rfl (by rw [← c]; exact znt hi h) rfl rfl rfl).1
      omega
    have a5 : ∀ i j, i < N → j < N → (D i).1 ≠ 0 → (D j).1 ≠ 0 → (mfl l i).n = (mfl l j).n → i = j := fun i j hi hj h h' c =>
      (hsat.inj 1 1 i j _ _ l l (mfl l j).n _ _ rfl rfl (by rw [← c]; exact znt hi h) rfl rfl (znt hj h')).2
    have lt : ∀ {x : Nat} {p : Obj}, w.heap[x]? = some p → x < w.heap.size := fun h => (Array.getElem?_eq_some_iff.1 h).1
    have es0 : esG (rfC l sz D) N (fun i => i) = esG fSl N (rfS1 l sz D) := zxj fun j hj => zB3 l sz D j
    let v0 : Option Addr × Nat × Nat := (some ⟨mb.n, 0, none⟩, m, m + (padD dk mb m sz).length / sz)
    have hst := zd0 (P := P) (S := S) (T := T) (e := e) (f := fSl) (N := N) (k := k) (sz := 1) (A := rfS1 l sz D) (v := v0) 0 (rowW dk mb m sz) zAO zBn rfl rfl hz hk
    have hd := hst [q] w rfl ⟨fun j o x hj hr hx => by
      match j, hj, hx with
      | 0, hj, hx =>
        obtain rfl : Obj.cells ⟨esG fSl N (rfS1 l sz D) ++ padL q N 1⟩ e = o := by simpa [sqSt, lget] using hj
        obtain rfl : q = x := by simpa using hx
        rw [← es0]
        exact hg
      | c + 1, hj, _ => simp [sqSt] at hj, fun i j o p x y hi _ hj _ hx hy _ => by
      match i, j, hx, hy with
      | 0, 0, _, _ => rfl
      | c + 1, _, hx, _ => simp at hx
      | 0, c + 1, _, hy => simp at hy⟩ hS
    obtain ⟨v, w', hr, ms, hms, hv, hsl, hnew, hch⟩ := hd
    obtain rfl : ms = [] := List.eq_nil_of_length_eq_zero hms
    have hh : w'.heap[q.n]? = some (.cells ⟨esG fSl N (updF (rfS1 l sz D) k v0) ++ padL q N 1⟩ e) := hsl.holds 0 _ q rfl rfl rfl
    have blk : ∀ x, x < w.heap.size → x ≠ q.n → w'.heap[x]? = w.heap[x]? := fun x hx hne => hch.block x hx fun ⟨j, o, y, h1, h2, h3, h4⟩ => by
      match j, h3 with
      | 0, h3 =>
        obtain rfl : q = y := by simpa using h3
        exact hne h4.symm
      | c + 1, h3 => simp at h3
    generalize hL : zA8 l k (rrIn dk mb m sz) = L
    have eK : mfl L k = bare (rrIn dk mb m sz) := by rw [← hL]; exact zCo ..
    have eM : ∀ i, i ≠ k → mfl L i = mfl l i := fun i h => by rw [← hL]; exact zCB _ _ h
    have dK : updF D k (m, B) k = (m, B) := zcM ..
    have dM : ∀ i, i ≠ k → updF D k (m, B) i = D i := fun i h => zbW _ _ h
    have es : esG (rfC L sz (updF D k (m, B))) N (fun i => i) = esG fSl N (updF (rfS1 l sz D) k v0) := zxj fun j hj => by
      by_cases hjk : j = k
      · subst hjk
        rw [zcM]
        unfold rfC
        rw [dK, eK, if_neg (by show m ≠ 0; omega), zA2 dk mb hmx]
        rfl
      · rw [zbW _ _ hjk, ← zB3]
        unfold rfC
        rw [dM j hjk, eM j hjk]
    have hq : w'.heap[q.n]? = some (rfR q L e sz N (updF D k (m, B))) := by
      unfold rfR
      rw [es]
      exact hh
    have key : ∀ i x p, own (rfO T2 f sz N (updF D k (m, B))) L i = some (x, p) → w'.heap[x]? = some p ∧ ((i = k ∧ x = mb.n) ∨ (i < N ∧ (D i).1 ≠ 0 ∧ i ≠ k ∧ x = (mfl l i).n)) := fun i x p h => by
      obtain ⟨hi, hn, rfl, rfl⟩ := zzm h
      by_cases hik : i = k
      · subst hik
        refine ⟨?_, .inl ⟨rfl, by rw [eK]; rfl⟩⟩
        rw [dK, eK, zA5 dk mb _ _ hmx]
        exact (blk _ (lt hmb) a2.symm).trans hmb
      · rw [dM i hik] at hn
        refine ⟨?_, .inr ⟨hi, hn, hik, by rw [eM i hik]⟩⟩
        rw [dM i hik, eM i hik]
        exact (blk _ (lt (hmem i hi hn)) (a4 i hi hn)).trans (hmem i hi hn)
    have at_ : ∀ (j c : Nat) (o : Obj) (y : L1) (x : Nat) (p : Obj), ([rfR q L e sz N (updF D k (m, B)), unb, unb] ++ [rfO T2 f sz N (updF D k (m, B))])[j]? = some o → ([q, l, mb] ++ [L])[j]? = some y → own o y c = some (x, p) →
        (j = 0 ∧ c = 0 ∧ x = q.n ∧ p = rfR q L e sz N (updF D k (m, B))) ∨ (j = 3 ∧ own (rfO T2 f sz N (updF D k (m, B))) L c = some (x, p)) := fun j c o y x p hj hl ho => by
      match j, hj, hl with
      | 0, hj, hl =>
        obtain rfl : rfR q L e sz N (updF D k (m, B)) = o := by simpa using hj
        obtain rfl : q = y := by simpa using hl
        obtain ⟨h1, h2, h3, _⟩ := ziw (rfl : zmk (rfR q L e sz N (updF D k (m, B))) = false) ho
        exact .inl ⟨rfl, h1, h2, h3⟩
      | 1, hj, _ => obtain rfl : unb = o := by simpa using hj
                    cases ho
      | 2, hj, _ => obtain rfl : unb = o := by simpa using hj
                    cases ho
      | 3, hj, hl =>
        obtain rfl : rfO T2 f sz N (updF D k (m, B)) = o := by simpa using hj
        obtain rfl : L = y := by simpa using hl
        exact .inr ⟨rfl, ho⟩
      | c + 4, hj, _ => simp at hj
    have hr' : (Q.sem (.st T (.pointer (some ⟨q.n, 0 + k * 1, none⟩)) (rowW dk mb m sz))).run P w = .ok (.value v) w' ∨ (Q.sem (.st T (.pointer (some ⟨q.n, 0 + k * 1, none⟩)) (rowW dk mb m sz))).run P w = .ok .skip w' ∧ v = undef := hr
    refine ⟨v, w', hr', [L], rfl, hv, ⟨hch.os, hch.tape, hch.output, hch.size, fun x hx ht => blk x hx fun c => ht (c ▸ ⟨0, 0, _, q, _, rfl, rfl, rfl⟩)⟩, fun _ => ⟨⟨fun j c o y x p hj hl ho => ?_, fun j j' c c' o o' y y' x p p' hj hl ho hj' hl' ho' => ?_⟩, fun j c o y x p hj hl ho => ?_⟩⟩
    · rcases at_ j c o y x p hj hl ho with ⟨_, _, rfl, rfl⟩ | ⟨_, h1⟩
      · exact hq
      · exact (key c x p h1).1
    · rcases at_ j c o y x p hj hl ho with ⟨rfl, rfl, rfl, _⟩ | ⟨rfl, h1⟩ <;> rcases at_ j' c' o' y' _ p' hj' hl' ho' with ⟨rfl, rfl, e2, _⟩ | ⟨rfl, h2⟩
      · exact ⟨rfl, rfl⟩
      · rcases (key c' _ p' h2).2 with ⟨_, e2⟩ | ⟨hi, hn, _, e2⟩
        · exact absurd e2 a2
        · exact absurd e2.symm (a4 c' hi hn)
      · rcases (key c _ p h1).2 with ⟨_, e3⟩ | ⟨hi, hn, _, e3⟩
        · exact absurd (e2.symm.trans e3) a2
        · exact absurd (e3.symm.trans e2) (a4 c hi hn)
      · refine ⟨rfl, ?_⟩
        rcases (key c _ p h1).2 with ⟨rfl, e3⟩ | ⟨hi, hn, _, e3⟩ <;> rcases (key c' _ p' h2).2 with ⟨rfl, e4⟩ | ⟨hi', hn', _, e4⟩
        · rfl
        · exact absurd (e4.symm.trans e3) (a3 c' hi' hn')
        · exact absurd (e3.symm.trans e4) (a3 c hi hn)
        · exact a5 c c' hi hi' hn hn' (e3.symm.trans e4)
    · rcases at_ j c o y x p hj hl ho with ⟨_, _, rfl, _⟩ | ⟨_, h1⟩
      · exact .inr ⟨0, 0, _, q, _, rfl, rfl, rfl⟩
      · rcases (key c x p h1).2 with ⟨_, rfl⟩ | ⟨hi, hn, _, rfl⟩
        · exact .inr ⟨2, 0, _, mb, _, rfl, rfl, rfl⟩
        · exact .inr ⟨1, c, _, l, _, rfl, rfl, znt hi hn⟩
end
end Go.Proofs.Ytliijnpblddjfaa
/-
  Rows of rows at two places: append, make, reading, one given to a reader. Nothing of the program stands here.
-/
namespace Go.Proofs.Ytliijnpblddjfaa
open Go.RowKit
set_option linter.unusedVariables false
set_option linter.unusedSimpArgs false
section
variable {τ : Type} {q l L : L1} {e T2 : TypeId} {f : τ → List Value} {sz N : Nat} {D : Nat → Nat × (Nat → τ)} {rest xs ys : List L1} {R Hs Ks : List Obj}
def mIn (j k : Nat) : Nat × Nat := if j = 0 then (if k = 0 then (0, 0) else (1, k - 1)) else (j + 1, k)
def mRev (j k : Nat) : Nat × Nat := if j = 0 then (0, 0) else if j = 1 then (0, k + 1) else (j - 1, k)
theorem zB2 {j k j' k' : Nat} (z1 : j = 0 → k = 0) (z2 : j' = 0 → k' = 0) (he : mRev j k = mRev j' k') : j = j' ∧ k = k' := by
  unfold mRev at he
  match j, j' with
  | 0, 0 => exact ⟨rfl, (z1 rfl).trans (z2 rfl).symm⟩
  | 0, 1 => simp at he
  | 0, j' + 2 => simp at he
  | 1, 0 => simp at he
  | 1, 1 => simp at he; exact ⟨rfl, he⟩
  | 1, j' + 2 => simp at he
  | j + 2, 0 => simp at he
  | j + 2, 1 => simp at he
  | j + 2, j' + 2 => simp at he; exact ⟨by omega, he.2⟩
theorem zAT {k x : Nat} {p : Obj} (h : own (rfR q l e sz N D) q k = some (x, p)) : k = 0 := (ziw (rfl : zmk (rfR q l e sz N D) = false) h).1
theorem zCv : Maps (cmb q l :: rest) (rrO (cmb q l) e T2 f sz N D :: R) (q :: l :: rest) (rfR q l e sz N D :: rfO T2 f sz N D :: R) mIn := by
  refine ⟨fun j k x p ⟨o, y, hj, hl, ho⟩ => ?_, fun j k j' k' x p p' ⟨o, y, hj, hl, ho⟩ ⟨o', y', hj', hl', ho'⟩ he => ?_⟩
  · cases j with
    | zero =>
      obtain rfl : rrO (cmb q l) e T2 f sz N D = o := by simpa using hj
      obtain rfl : cmb q l = y := by simpa using hl
      rcases zzy.1 ho with ⟨rfl, h⟩ | ⟨i, rfl, h⟩
      · exact ⟨_, q, rfl, rfl, h⟩
      · exact ⟨_, l, rfl, rfl, h⟩
    | succ j => exact ⟨o, y, hj, hl, ho⟩
  · unfold mIn at he
    by_cases h1 : j = 0 <;> by_cases h2 : j' = 0 <;> simp only [h1, h2, if_true, if_false] at he
    · by_cases h3 : k = 0 <;> by_cases h4 : k' = 0 <;> simp only [h3, h4, if_true, if_false, Prod.mk.injEq] at he
      · exact ⟨by omega, by omega⟩
      · omega
      · omega
      · exact ⟨by omega, by omega⟩
    · by_cases h3 : k = 0 <;> simp only [h3, if_true, if_false, Prod.mk.injEq] at he <;> omega
    · by_cases h3 : k' = 0 <;> simp only [h3, if_true, if_false, Prod.mk.injEq] at he <;> omega
    · simp only [Prod.mk.injEq] at he
      exact ⟨by omega, he.2⟩
theorem zBU : Maps (q :: l :: rest) (rfR q l e sz N D :: rfO T2 f sz N D :: R) (cmb q l :: rest) (rrO (cmb q l) e T2 f sz N D :: R) mRev := by
  refine ⟨fun j k x p ⟨o, y, hj, hl, ho⟩ => ?_, fun j k j' k' x p p' ⟨o, y, hj, hl, ho⟩ ⟨o', y', hj', hl', ho'⟩ he => ?_⟩
  · match j, hj, hl with
    | 0, hj, hl =>
      obtain rfl : rfR q l e sz N D = o := by simpa using hj
      obtain rfl : q = y := by simpa using hl
      obtain rfl := zAT ho
      exact ⟨_, cmb q l, rfl, rfl, zzy.2 (.inl ⟨rfl, ho⟩)⟩
    | 1, hj, hl =>
      obtain rfl : rfO T2 f sz N D = o := by simpa using hj
      obtain rfl : l = y := by simpa using hl
      exact ⟨_, cmb q l, rfl, rfl, zzy.2 (.inr ⟨k, rfl, ho⟩)⟩
    | j + 2, hj, hl => exact ⟨o, y, hj, hl, ho⟩
  · have z : ∀ (j k : Nat) (o : Obj) (y : L1) (x : Nat) (p : Obj), (rfR q l e sz N D :: rfO T2 f sz N D :: R)[j]? = some o → (q :: l :: rest)[j]? = some y → own o y k = some (x, p) → j = 0 → k = 0 := fun j k o y x p hj hl ho h => by
      subst h
      obtain rfl : rfR q l e sz N D = o := by simpa using hj
      obtain rfl : q = y := by simpa using hl
      exact zAT ho
    have z1 := z j k o y x p hj hl ho
    have z2 := z j' k' o' y' x p' hj' hl' ho'
    exact zB2 z1 z2 he
end
section
variable {P : Program} {M : Nat → Prop} {B0 : Nat} {S : World → Prop} {t ty e T2 T : TypeId} {i : TypeInfo} {z : Value} {bytes : Nat}
variable {τ : Type} {f : τ → List Value} {sz N k : Nat} {D : Nat → Nat × (Nat → τ)}
/-- What reads is told at two places as at one. -/
theorem zxi {q : L1 → Q} {q2 : L1 → L1 → Q} {v : L1 → Value} {v2 : L1 → L1 → Value} (hq : ∀ a b, q2 a b = q (cmb a b)) (hv : ∀ a b, v2 a b = v (cmb a b))
    (h : SpcG P M B0 S ⟨fun ls => .op (q (lget ls 0)), fun ls => [rrO (lget ls 0) e T2 f sz N D], 0, .normal, fun ls => [v (lget ls 0)], fun ls => [rrO (lget ls 0) e T2 f sz N D], fun _ => []⟩) :
    SpcG P M B0 S ⟨fun ls => .op (q2 (lget ls 0) (lget ls 1)), fun ls => [rfR (lget ls 0) (lget ls 1) e sz N D, rfO T2 f sz N D], 0, .normal, fun ls => [v2 (lget ls 0) (lget ls 1)], fun ls => [rfR (lget ls 0) (lget ls 1) e sz N D, rfO T2 f sz N D], fun _ => []⟩ := by
  refine SpcG.two h (fun ls => [cmb (lget ls 0) (lget ls 1)]) (fun ls ms => []) rfl (fun ls hl => ?_) (fun ls ms w hl hms hs => ?_)
  · match ls, hl with
    | [a, b], _ => exact ⟨rfl, congrArg Wh.op (hq a b), mIn, zCv⟩
  · match ls, hl, ms, hms with
    | [a, b], _, [], _ => exact ⟨rfl, congrArg (fun x => [x]) (hv a b).symm, mRev, zBU⟩
/-- Row k's slice. -/
theorem zCL (hA : ∀ w, (isAgg T).run P w = .ok false w) (hk : k < N) (h0 : decide (0 < (D k).1) = true) :
    SpcG P M B0 S ⟨fun ls => .op (.ld T (.pointer (some ⟨(lget ls 0).n, 0 + k * 1, none⟩))), fun ls => [rfR (lget ls 0) (lget ls 1) e sz N D, rfO T2 f sz N D], 0, .normal, fun ls => [rowV (mfl (lget ls 1) k) (D k).1 sz], fun ls => [rfR (lget ls 0) (lget ls 1) e sz N D, rfO T2 f sz N D], fun _ => []⟩ :=
  zxi (q := fun L => .ld T (.pointer (some ⟨(rrL L).n, 0 + k * 1, none⟩))) (q2 := fun a b => .ld T (.pointer (some ⟨a.n, 0 + k * 1, none⟩))) (v := fun L => rowV (rrM L k) (D k).1 sz) (v2 := fun a b => rowV (mfl b k) (D k).1 sz) (fun a b => rfl) (fun a b => by rw [zA9]) (zCq hA hk h0)
theorem zBS (hA : ∀ w, (isAgg T).run P w = .ok false w) (hk : k < N) (h0 : decide (0 < (D k).1) = false) :
    SpcG P M B0 S ⟨fun ls => .op (.ld T (.pointer (some ⟨(lget ls 0).n, 0 + k * 1, none⟩))), fun ls => [rfR (lget ls 0) (lget ls 1) e sz N D, rfO T2 f sz N D], 0, .normal, fun _ => [.slice none 0 0], fun ls => [rfR (lget ls 0) (lget ls 1) e sz N D, rfO T2 f sz N D], fun _ => []⟩ :=
  zxi (q := fun L => .ld T (.pointer (some ⟨(rrL L).n, 0 + k * 1, none⟩))) (q2 := fun a b => .ld T (.pointer (some ⟨a.n, 0 + k * 1, none⟩))) (v := fun _ => .slice none 0 0) (v2 := fun _ _ => .slice none 0 0) (fun a b => rfl) (fun a b => rfl) (zBN hA hk h0)
/-- Cell j of element i of row k. -/
theorem zCl (hA : ∀ w, (isAgg T).run P w = .ok false w) (hf : ∀ x, (f x).length = sz) {i : Nat} (j : Nat) {v : Value} (hk : k < N) (hi : i < (D k).1) (hj : j < sz) (hv : (f ((D k).2 i))[j]? = some v) :
    SpcG P M B0 S ⟨fun ls => .op (.ld T (.pointer (some ⟨(mfl (lget ls 1) k).n, 0 + i * sz + j, none⟩))), fun ls => [rfR (lget ls 0) (lget ls 1) e sz N D, rfO T2 f sz N D], 0, .normal, fun _ => [v], fun ls => [rfR (lget ls 0) (lget ls 1) e sz N D, rfO T2 f sz N D], fun _ => []⟩ :=
  zxi (q := fun L => .ld T (.pointer (some ⟨(rrM L k).n, 0 + i * sz + j, none⟩))) (q2 := fun a b => .ld T (.pointer (some ⟨(mfl b k).n, 0 + i * sz + j, none⟩))) (v := fun _ => v) (v2 := fun _ _ => v) (fun a b => by rw [zA9]) (fun a b => rfl) (zCt hA hf j hk hi hj hv)
end
/-! ### One given to a reader -/
end Go.Proofs.Ytliijnpblddjfaa
/-
  Makes among other makes, an entry for blocks that aren't there yet, a row of nothing in another's place. Nothing of the program stands here.
-/
namespace Go.Proofs.Ytliijnpblddjfaa
open Go.RowKit
set_option linter.unusedVariables false
set_option linter.unusedSimpArgs false
section
variable {P : Program} {t e : TypeId} {i : TypeInfo} {z : Value} {sz bytes : Nat}
/-- A make of so many elements. -/
def zDF {α : Type} (t e : TypeId) (f : α → List Value) (N : Nat) (a0 : α) (sz : Nat) : Mk :=
  ⟨t, .int .i64 (N : Int), .int .i64 (N : Int), fun u => rowO ⟨0, u⟩ (esG f N fun _ => a0) e N sz, fun l => rowV l N sz⟩
theorem zxU (x N sz : Nat) : padL ⟨x, zgm⟩ N sz = [] := by
  have : padR ⟨x, zgm⟩ = [] := rfl
  unfold padL
  rw [this]
  split <;> rfl
theorem zwv (R : RowT P t e i z sz bytes) {α : Type} {f : α → List Value} {N : Nat} {a0 : α} (hf : ∀ x, (f x).length = sz) (hz : z.cells.toList = f a0) (h : decide (N ≤ 1000000) = true) (hb : bytes ≤ 1000000) : MkOk P (zDF t e f N a0 sz) := by
  have h := of_decide_eq_true h
  have h63 : N ≤ maxLen := by simp only [maxLen]; omega
  have hb2 : N * bytes ≤ 140737488355328 := Nat.le_trans (Nat.mul_le_mul h hb) (by decide)
  refine ⟨fun u => rfl, fun w => ?_⟩
  have hmax : (N : Int) ≤ 9223372036854775807 := by simp only [maxLen] at h63; omega
  have hby : (i.bytes : Int) * (N : Int) ≤ 281474976710656 := by
    have : ((bytes * N : Nat) : Int) ≤ 281474976710656 := by rw [Nat.mul_comm]; omega
    rw [R.hby]; rwa [Int.natCast_mul] at this
  have hr := run_make (P := P) w t e i z R.ht R.hi R.hz .i64 .i64 N N (by omega) (Int.le_refl _) hby hmax
  simp only [Int.toNat_natCast, R.hsize] at hr
  have hc : (madeCells z.cells (N * sz)) = ⟨esG f N (fun _ => a0) ++ padL ⟨0, zgm⟩ N sz⟩ := by
    rw [zxU, List.append_nil]
    exact Array.ext' (zz8 hf hz R.hsz)
  show (Q.sem (.mks t (.int .i64 (N : Int)) (.int .i64 (N : Int)))).run P w = .ok (.value (rowV ⟨w.heap.size, zgm⟩ N sz)) (w.alloc (rowO ⟨0, zgm⟩ (esG f N fun _ => a0) e N sz))
  have hv : rowV ⟨w.heap.size, zgm⟩ N sz = .slice (some ⟨w.heap.size, 0, none⟩) N N := by
    unfold rowV
    rw [zxU]
    simp
  rw [hv]
  simp only [Q.sem, Sem.run_bind, hr, Result.andThen_ok, Sem.run_pure, hc]
  first | done | rfl
/-- A make of so many rows of nothing: what they point to has no entry yet. -/
def noL : L1 := ⟨0, zgm⟩
def mkRR {τ : Type} (t e : TypeId) (sz N : Nat) (g0 : Nat → τ) : Mk :=
  ⟨t, .int .i64 (N : Int), .int .i64 (N : Int), fun u => rfR ⟨0, u⟩ noL e sz N (fun _ => (0, g0)), fun l => rowV l N 1⟩
theorem zCy {τ : Type} (q l : L1) (e : TypeId) (sz N : Nat) (g0 : Nat → τ) : rfR q l e sz N (fun _ => (0, g0)) = rowO q (esG (fun _ : Unit => [.slice none 0 0]) N fun _ => ()) e N 1 := by
  unfold rfR
  congr 1
theorem zCx (R : RowT P t e i z 1 bytes) {τ : Type} {sz N : Nat} {g0 : Nat → τ} (hz : z.cells.toList = [.slice none 0 0]) (h : decide (N ≤ 1000000) = true) (hb : bytes ≤ 1000000) : MkOk P (mkRR t e sz N g0) := by
  have hk := zwv R (f := fun _ : Unit => [.slice none 0 0]) (N := N) (a0 := ()) (fun _ => rfl) hz h hb
  refine ⟨fun u => rfl, fun w => ?_⟩
  have := hk.2 w
  show _ = Result.ok _ (w.alloc (rfR ⟨0, zgm⟩ noL e sz N (fun _ => (0, g0))))
  rw [zCy]
  exact this
end
section
variable {P : Program} {M : Nat → Prop} {B0 : Nat} {S : World → Prop} {e T2 T : TypeId}
/-- At an assignment: an entry for what a row of rows of nothing points to. -/
def ghRF {τ : Type} (X : List L1 → Value) (R : List L1 → List Obj) (n : Nat) (e T2 : TypeId) (f : τ → List Value) (sz N : Nat) (g0 : Nat → τ) : Spc :=
  ⟨fun ls => .op (.mv (X ls)), fun ls => rfR (lget ls 0) noL e sz N (fun _ => (0, g0)) :: R ls, 1, .normal, fun ls => [X ls], fun ls => rfR (lget ls 0) (lget ls n) e sz N (fun _ => (0, g0)) :: R ls, fun _ => [rfO T2 f sz N (fun _ => (0, g0))]⟩
theorem zCQ {τ : Type} {X : List L1 → Value} {R : List L1 → List Obj} {n : Nat} {f : τ → List Value} {sz N : Nat} {g0 : Nat → τ} (hn : 0 < n) (hR : ∀ ls, (R ls).length + 1 = n) (hX : ∀ ls m, ls.length = n → X (ls ++ [m]) = X ls ∧ R (ls ++ [m]) = R ls) :
    SpcG P M B0 S (ghRF X R n e T2 f sz N g0) := by
  intro ls w hlen hsat htb hS
  have hl : ls.length = n := by
    have : (rfR (lget ls 0) noL e sz N (fun _ => (0, g0)) :: R ls).length = ls.length := hlen
    rw [← this, ← hR ls]; rfl
  obtain ⟨eX, eR⟩ := hX ls noL hl
  have g0' : lget (ls ++ [noL]) 0 = lget ls 0 := by
    match ls, hl with
    | [], hl => simp at hl; omega
    | a :: r, _ => rfl
  have gn : lget (ls ++ [noL]) n = noL := by simp [lget, ← hl]
  have hpost : (ghRF X R n e T2 f sz N g0).post (ls ++ [noL]) = (ghRF X R n e T2 f sz N g0).pre ls := by
    show rfR (lget (ls ++ [noL]) 0) (lget (ls ++ [noL]) n) e sz N (fun _ => (0, g0)) :: R (ls ++ [noL]) = _
    rw [g0', gn, eR]
    rfl
  have hpl : ((ghRF X R n e T2 f sz N g0).pre ls).length = n := hlen.trans hl
  have at_ : ∀ (j k : Nat) (o : Obj) (l : L1) (x : Nat) (p : Obj), ((ghRF X R n e T2 f sz N g0).post (ls ++ [noL]) ++ (ghRF X R n e T2 f sz N g0).new (ls ++ [noL]))[j]? = some o → (ls ++ [noL])[j]? = some l → own o l k = some (x, p) →
      ((ghRF X R n e T2 f sz N g0).pre ls)[j]? = some o ∧ ls[j]? = some l := by
    intro j k o l x p hj hll ho
    rw [hpost] at hj
    rcases Nat.lt_or_ge j n with h | h
    · rw [List.getElem?_append_left (by omega)] at hj
      rw [List.getElem?_append_left (by omega)] at hll
      exact ⟨hj, hll⟩
    · rw [List.getElem?_append_right (by omega)] at hj
      rw [List.getElem?_append_right (by omega)] at hll
      rw [hpl] at hj
      rw [hl] at hll
      match hd : j - n, hj, hll with
      | 0, hj, hll =>
        obtain rfl : rfO T2 f sz N (fun _ => (0, g0)) = o := by simpa [ghRF] using hj
        exact absurd rfl (zzm ho).2.1
      | c + 1, hj, _ => simp [ghRF] at hj
  refine ⟨X ls, w, .inl rfl, [noL], rfl, ?_, ⟨rfl, rfl, rfl, Nat.le_refl _, fun _ _ _ => rfl⟩, fun _ => ⟨⟨fun j k o l x p hj hll ho => ?_, fun j j' k k' o o' l l' x p p' hj hll ho hj' hll' ho' => ?_⟩, fun j k o l x p hj hll ho => ?_⟩⟩
  · show [X ls] = [X (ls ++ [noL])]
    rw [eX]
  · obtain ⟨h1, h2⟩ := at_ j k o l x p hj hll ho
    exact hsat.hold j k o l x p h1 h2 ho
  · obtain ⟨h1, h2⟩ := at_ j k o l x p hj hll ho
    obtain ⟨h3, h4⟩ := at_ j' k' o' l' x p' hj' hll' ho'
    exact hsat.inj j j' k k' o o' l l' x p p' h1 h2 ho h3 h4 ho'
  · obtain ⟨h1, h2⟩ := at_ j k o l x p hj hll ho
    exact .inr ⟨j, k, o, l, p, h1, h2, ho⟩
/-- Nothing in a row's place. -/
def zCF {τ : Type} (T e T2 : TypeId) (f : τ → List Value) (sz N k : Nat) (D : Nat → Nat × (Nat → τ)) (g : Nat → τ) : Spc :=
  ⟨fun ls => .op (.st T (.pointer (some ⟨(lget ls 0).n, 0 + k * 1, none⟩)) (.slice none 0 0)), fun ls => [rfR (lget ls 0) (lget ls 1) e sz N D, rfO T2 f sz N D], 0, .normal,
   fun _ => [undef], fun ls => [rfR (lget ls 0) (lget ls 1) e sz N (updF D k (0, g)), rfO T2 f sz N (updF D k (0, g))], fun _ => []⟩
theorem zAv {τ : Type} {f : τ → List Value} {sz N k : Nat} {D : Nat → Nat × (Nat → τ)} {g : Nat → τ} (hz : ∀ w, (sizeOf T).run P w = .ok 1 w) (hk : k < N) : SpcG P M B0 S (zCF T e T2 f sz N k D g) := by
  intro ls w hlen hsat htb hS
  match ls, hlen with
  | [q, l], _ =>
    have hg : w.heap[q.n]? = some (rfR q l e sz N D) := hsat.hold 0 0 _ q _ _ rfl rfl rfl
    have hmem : ∀ i, i < N → (D i).1 ≠ 0 → w.heap[(mfl l i).n]? = some (rowO (mfl l i) (esG f (D i).1 (D i).2) T2 (D i).1 sz) := fun i hi h => hsat.hold 1 i _ l _ _ rfl rfl (znt hi h)
    have a4 : ∀ i, i < N → (D i).1 ≠ 0 → (mfl l i).n ≠ q.n := fun i hi h c => by
      have := (hsat.inj 1 0 i 0 _ _ l q q.n _ (rfR q l e sz N D) rfl rfl (by rw [← c]; exact znt hi h) rfl rfl rfl).1
      omega
    have a5 : ∀ i j, i < N → j < N → (D i).1 ≠ 0 → (D j).1 ≠ 0 → (mfl l i).n = (mfl l j).n → i = j := fun i j hi hj h h' c =>
      (hsat.inj 1 1 i j _ _ l l (mfl l j).n _ _ rfl rfl (by rw [← c]; exact znt hi h) rfl rfl (znt hj h')).2
    have lt : ∀ {x : Nat} {p : Obj}, w.heap[x]? = some p → x < w.heap.size := fun h => (Array.getElem?_eq_some_iff.1 h).1
    have es0 : esG (rfC l sz D) N (fun i => i) = esG fSl N (rfS1 l sz D) := zxj fun j hj => zB3 l sz D j
    let v0 : Option Addr × Nat × Nat := (none, 0, 0)
    have hst := zd0 (P := P) (S := S) (T := T) (e := e) (f := fSl) (N := N) (k := k) (sz := 1) (A := rfS1 l sz D) (v := v0) 0 (.slice none 0 0) zAO zBn rfl rfl hz hk
    have hd := hst [q] w rfl ⟨fun j o x hj hr hx => by
      match j, hj, hx with
      | 0, hj, hx =>
        obtain rfl : Obj.cells ⟨esG fSl N (rfS1 l sz D) ++ padL q N 1⟩ e = o := by simpa [sqSt, lget] using hj
        obtain rfl : q = x := by simpa using hx
        rw [← es0]
        exact hg
      | c + 1, hj, _ => simp [sqSt] at hj, fun i j o p x y hi _ hj _ hx hy _ => by
      match i, j, hx, hy with
      | 0, 0, _, _ => rfl
      | c + 1, _, hx, _ => simp at hx
      | 0, c + 1, _, hy => simp at hy⟩ hS
    obtain ⟨v, w', hr, ms, hms, hv, hsl, hnew, hch⟩ := hd
    obtain rfl : ms = [] := List.eq_nil_of_length_eq_zero hms
    have hh : w'.heap[q.n]? = some (.cells ⟨esG fSl N (updF (rfS1 l sz D) k v0) ++ padL q N 1⟩ e) := hsl.holds 0 _ q rfl rfl rfl
    have blk : ∀ x, x < w.heap.size → x ≠ q.n → w'.heap[x]? = w.heap[x]? := fun x hx hne => hch.block x hx fun ⟨j, o, y, h1, h2, h3, h4⟩ => by
      match j, h3 with
      | 0, h3 =>
        obtain rfl : q = y := by simpa using h3
        exact hne h4.symm
      | c + 1, h3 => simp at h3
    have dK : updF D k (0, g) k = (0, g) := zcM ..
    have dM : ∀ i, i ≠ k → updF D k (0, g) i = D i := fun i h => zbW _ _ h
    have es : esG (rfC l sz (updF D k (0, g))) N (fun i => i) = esG fSl N (updF (rfS1 l sz D) k v0) := zxj fun j hj => by
      by_cases hjk : j = k
      · subst hjk
        rw [zcM]
        unfold rfC
        rw [dK, if_pos rfl]
        rfl
      · rw [zbW _ _ hjk, ← zB3]
        unfold rfC
        rw [dM j hjk]
    have hq : w'.heap[q.n]? = some (rfR q l e sz N (updF D k (0, g))) := by
      unfold rfR
      rw [es]
      exact hh
    have key : ∀ i x p, own (rfO T2 f sz N (updF D k (0, g))) l i = some (x, p) → w'.heap[x]? = some p ∧ i < N ∧ (D i).1 ≠ 0 ∧ x = (mfl l i).n := fun i x p h => by
      obtain ⟨hi, hn, rfl, rfl⟩ := zzm h
      by_cases hik : i = k
      · subst hik
        rw [dK] at hn
        exact absurd rfl hn
      · rw [dM i hik] at hn
        refine ⟨?_, hi, hn, rfl⟩
        rw [dM i hik]
        exact (blk _ (lt (hmem i hi hn)) (a4 i hi hn)).trans (hmem i hi hn)
    have at_ : ∀ (j c : Nat) (o : Obj) (y : L1) (x : Nat) (p : Obj), ([rfR q l e sz N (updF D k (0, g)), rfO T2 f sz N (updF D k (0, g))] ++ ([] : List Obj))[j]? = some o → ([q, l] ++ ([] : List L1))[j]? = some y → own o y c = some (x, p) →
        (j = 0 ∧ c = 0 ∧ x = q.n ∧ p = rfR q l e sz N (updF D k (0, g))) ∨ (j = 1 ∧ own (rfO T2 f sz N (updF D k (0, g))) l c = some (x, p)) := fun j c o y x p hj hl ho => by
      match j, hj, hl with
      | 0, hj, hl =>
        obtain rfl : rfR q l e sz N (updF D k (0, g)) = o := by simpa using hj
        obtain rfl : q = y := by simpa using hl
        obtain ⟨h1, h2, h3, _⟩ := ziw (rfl : zmk (rfR q l e sz N (updF D k (0, g))) = false) ho
        exact .inl ⟨rfl, h1, h2, h3⟩
      | 1, hj, hl =>
        obtain rfl : rfO T2 f sz N (updF D k (0, g)) = o := by simpa using hj
        obtain rfl : l = y := by simpa using hl
        exact .inr ⟨rfl, ho⟩
      | c + 2, hj, _ => simp at hj
    have hr' : (Q.sem (.st T (.pointer (some ⟨q.n, 0 + k * 1, none⟩)) (.slice none 0 0))).run P w = .ok (.value v) w' ∨ (Q.sem (.st T (.pointer (some ⟨q.n, 0 + k * 1, none⟩)) (.slice none 0 0))).run P w = .ok .skip w' ∧ v = undef := hr
    refine ⟨v, w', hr', [], rfl, hv, ⟨hch.os, hch.tape, hch.output, hch.size, fun x hx ht => blk x hx fun c => ht (c ▸ ⟨0, 0, _, q, _, rfl, rfl, rfl⟩)⟩, fun _ => ⟨⟨fun j c o y x p hj hl ho => ?_, fun j j' c c' o o' y y' x p p' hj hl ho hj' hl' ho' => ?_⟩, fun j c o y x p hj hl ho => ?_⟩⟩
    · rcases at_ j c o y x p hj hl ho with ⟨_, _, rfl, rfl⟩ | ⟨_, h1⟩
      · exact hq
      · exact (key c x p h1).1
    · rcases at_ j c o y x p hj hl ho with ⟨rfl, rfl, rfl, rfl⟩ | ⟨rfl, h1⟩ <;> rcases at_ j' c' o' y' _ p' hj' hl' ho' with ⟨rfl, rfl, e2, rfl⟩ | ⟨rfl, h2⟩
      · exact ⟨rfl, rfl⟩
      · obtain ⟨_, hi, hn, e3⟩ := key _ _ _ h2
        exact absurd e3.symm (a4 c' hi hn)
      · obtain ⟨_, hi, hn, e3⟩ := key _ _ _ h1
        exact absurd (e3.symm.trans e2) (a4 c hi hn)
      · obtain ⟨_, hi, hn, e3⟩ := key _ _ _ h1
        obtain ⟨_, hi', hn', e4⟩ := key _ _ _ h2
        exact ⟨rfl, a5 c c' hi hi' hn hn' (e3.symm.trans e4)⟩
    · rcases at_ j c o y x p hj hl ho with ⟨_, _, rfl, rfl⟩ | ⟨_, h1⟩
      · exact .inr ⟨0, 0, _, q, _, rfl, rfl, rfl⟩
      · obtain ⟨_, hi, hn, rfl⟩ := key c x p h1
        exact .inr ⟨1, c, _, l, _, rfl, rfl, znt hi hn⟩
end
/-- An element of an array that is a value, at an unknown place. -/
theorem zCD {P : Program} {T e : TypeId} {n sz : Nat} {cs : Array Value} {kd : IntKind} {x : Int} {v : Value} (hT : P.underlying T = some (.array n e)) (hA : ∀ w, (isAgg e).run P w = .ok true w) (hs : ∀ w, (sizeOf e).run P w = .ok sz w) (h : inR x n = true)
    (hv : Value.agg (cs.extract (x.toNat * sz) (x.toNat * sz + sz)) = v) : ∀ w, (Q.idx T (.agg cs) (.int kd x)).sem.run P w = .ok (.value v) w := by
  intro w
  have h1 := zAK h
  have h2 := zBx h
  simp only [Q.sem, Instr.index, asIntOf, Sem.run_bind, Sem.run_pure, Result.andThen_ok, run_underlying hT, if_pos (And.intro h1 h2), hs, part, hA, if_true, hv]
theorem zCJ {P : Program} {T e : TypeId} {n : Nat} {cs : Array Value} {kd : IntKind} {x : Int} {v : Value} (hT : P.underlying T = some (.array n e)) (hA : ∀ w, (isAgg e).run P w = .ok false w) (hs : ∀ w, (sizeOf e).run P w = .ok 1 w) (h : inR x n = true)
    (hv : cs[x.toNat * 1]? = some v) : ∀ w, (Q.idx T (.agg cs) (.int kd x)).sem.run P w = .ok (.value v) w := by
  intro w
  have h1 := zAK h
  have h2 := zBx h
  simp only [Q.sem, Instr.index, asIntOf, Sem.run_bind, Sem.run_pure, Result.andThen_ok, run_underlying hT, if_pos (And.intro h1 h2), hs, part, hA, hv]
  rfl
theorem zB1 {l : List Value} {j : Nat} {v : Value} (h : (l.drop j).take 1 = [v]) : (⟨l⟩ : Array Value)[j]? = some v := by
  rw [List.getElem?_toArray]
  have : ((l.drop j).take 1)[0]? = some v := by rw [h]; rfl
  rw [List.getElem?_take_of_lt (by omega), List.getElem?_drop] at this
  simpa using this
end Go.Proofs.Ytliijnpblddjfaa
/-
  Blocks of several arrays; parts of a call's own rows and arrays, which a callee may write. Nothing of the program stands here.
-/
namespace Go.Proofs.Ytliijnpblddjfaa
open Go.RowKit
set_option linter.unusedVariables false
set_option linter.unusedSimpArgs false
/-! ### A block of several arrays -/
section
variable {P : Program} {S : World → Prop} {T e : TypeId}
variable {τ : Type} {f : τ → List Value} {N k sz o off : Nat} {A A1 : Nat → τ} {v : τ} {pre post : List (List Value)}
end
/-! ### A part of a row or of an array -/
section
variable {P : Program} {T e : TypeId} {sz : Nat}
end
end Go.Proofs.Ytliijnpblddjfaa
/-
  Bytes of a string behind a row, a row behind a block that bears a mark, parts of known rows, elements that point somewhere. Nothing of the program stands here.
-/
namespace Go.Proofs.Ytliijnpblddjfaa
open Go.RowKit
set_option linter.unusedVariables false
set_option linter.unusedSimpArgs false
/-! ### Parts at known places -/
section
variable {P : Program} {T e : TypeId} {sz n : Nat}
end
/-! ### append -/
section
variable {P : Program} {t ty e : TypeId} {i : TypeInfo} {z : Value} {size bytes : Nat}
end
section
variable {P : Program} {t ty e : TypeId} {i : TypeInfo} {z : Value} {sz bytes : Nat} {α : Type} {f : α → List Value}
end
section
variable {P : Program} {t u ty e : TypeId} {i : TypeInfo} {z : Value} {bytes : Nat} {α : Type} {f : α → List Value}
end
section
variable {P : Program} {t ty e : TypeId} {i : TypeInfo} {z : Value} {size bytes : Nat}
end
end Go.Proofs.Ytliijnpblddjfaa
/-
  Equality of arrays, shifts by what is left of a division. Nothing of the program stands here.
-/
namespace Go.Proofs.Ytliijnpblddjfaa
open Go.RowKit
set_option linter.unusedVariables false
set_option linter.unusedSimpArgs false
section
variable {P : Program} {w : World} {d : Nat} {t e : TypeId} {n c : Nat}
end
end Go.Proofs.Ytliijnpblddjfaa
/-
  At an assignment: a slice of a whole block is a row without room. Nothing of the program stands here.
-/
namespace Go.Proofs.Ytliijnpblddjfaa
open Go.RowKit
set_option linter.unusedVariables false
set_option linter.unusedSimpArgs false
section
variable {P : Program}
theorem zhr {S : World → Prop} {es : List Value} {e n sz : Nat} :
    SpcOk P S ⟨fun ls => .op (.mv (.slice (some ⟨(lget ls 0).n, 0, none⟩) n n)),
      fun ls => [.cells ⟨es⟩ e], 1, .normal, fun ls => [rowV (lget ls 1) n sz], fun _ => [unb], fun ls => [rowO (lget ls 1) es e n sz]⟩ := by
  intro ls w hlen hsat hS
  match ls, hlen with
  | [l], _ =>
    have hg : w.heap[l.n]? = some (.cells ⟨es⟩ e) := hsat.holds 0 _ l rfl rfl rfl
    have hpad : padL (⟨l.n, fun _ => .nilFunc⟩ : L1) n sz = [] := by
      unfold padL padR
      simp
    refine ⟨_, w, .inl rfl, [⟨l.n, fun _ => .nilFunc⟩], rfl, ?_, zzR ?_, ?_, ⟨rfl, rfl, rfl, Nat.le_refl _, fun _ _ _ => rfl⟩⟩
    · show [Value.slice (some ⟨l.n, 0, none⟩) n n] = [rowV ⟨l.n, fun _ => .nilFunc⟩ n sz]
      unfold rowV
      rw [hpad]
      simp
    · show w.heap[l.n]? = some (rowO ⟨l.n, fun _ => .nilFunc⟩ es e n sz)
      unfold rowO
      rw [hpad, List.append_nil]
      exact hg
    · intro j o x hj hreal hx
      match j, hx with
      | 0, hx =>
        obtain rfl : (⟨l.n, fun _ => .nilFunc⟩ : L1) = x := by simpa using hx
        exact .inr ⟨0, _, l, rfl, rfl, rfl, rfl⟩
      | k + 1, hx => simp at hx
end
end Go.Proofs.Ytliijnpblddjfaa
