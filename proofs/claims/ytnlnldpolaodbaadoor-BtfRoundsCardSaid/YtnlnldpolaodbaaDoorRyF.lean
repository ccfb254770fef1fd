/-
  Rows of rows at two places: append, make, reading, one given to a reader. Nothing of the program stands here.
-/
import Derived.Test.YtnlnldpolaodbaaDoorRyE
namespace Go.Proofs.YtnlnldpolaodbaaDoor
open Go.RowKit
set_option linter.unusedVariables false
set_option linter.unusedSimpArgs false
section
variable {τ : Type} {q l L : L1} {e T2 : TypeId} {f : τ → List Value} {sz N : Nat} {D : Nat → Nat × (Nat → τ)} {rest xs ys : List L1} {R Hs Ks : List Obj}
def mIn (j k : Nat) : Nat × Nat := if j = 0 then (if k = 0 then (0, 0) else (1, k - 1)) else (j + 1, k)
def mRev (j k : Nat) : Nat × Nat := if j = 0 then (0, 0) else if j = 1 then (0, k + 1) else (j - 1, k)
theorem mRev_inj {j k j' k' : Nat} (z1 : j = 0 → k = 0) (z2 : j' = 0 → k' = 0) (he : mRev j k = mRev j' k') : j = j' ∧ k = k' := by
  unfold mRev at he
  match j, j' with
  | 0, 0 => exact ⟨rfl, (z1 rfl).trans (z2 rfl).symm⟩
  | 0, 1 => simp at he
  | 0, j' + 2 => simp at he
  | 1, 0 => simp at he
  | 1, 1 => simp at he; exact ⟨rfl, he⟩
  | 1, j' + 2 => simp at he
  | j + 2, 0 => simp at he
  | j + 2, 1 => simp at he
  | j + 2, j' + 2 => simp at he; exact ⟨by omega, he.2⟩
theorem own_rfR {k x : Nat} {p : Obj} (h : own (rfR q l e sz N D) q k = some (x, p)) : k = 0 := (own_plain (rfl : isPend (rfR q l e sz N D) = false) h).1
theorem maps_in : Maps (cmb q l :: rest) (rrO (cmb q l) e T2 f sz N D :: R) (q :: l :: rest) (rfR q l e sz N D :: rfO T2 f sz N D :: R) mIn := by
  refine ⟨fun j k x p ⟨o, y, hj, hl, ho⟩ => ?_, fun j k j' k' x p p' ⟨o, y, hj, hl, ho⟩ ⟨o', y', hj', hl', ho'⟩ he => ?_⟩
  · cases j with
    | zero =>
      obtain rfl : rrO (cmb q l) e T2 f sz N D = o := by simpa using hj
      obtain rfl : cmb q l = y := by simpa using hl
      rcases own_cmb.1 ho with ⟨rfl, h⟩ | ⟨i, rfl, h⟩
      · exact ⟨_, q, rfl, rfl, h⟩
      · exact ⟨_, l, rfl, rfl, h⟩
    | succ j => exact ⟨o, y, hj, hl, ho⟩
  · unfold mIn at he
    by_cases h1 : j = 0 <;> by_cases h2 : j' = 0 <;> simp only [h1, h2, if_true, if_false] at he
    · by_cases h3 : k = 0 <;> by_cases h4 : k' = 0 <;> simp only [h3, h4, if_true, if_false, Prod.mk.injEq] at he
      · exact ⟨by omega, by omega⟩
      · omega
      · omega
      · exact ⟨by omega, by omega⟩
    · by_cases h3 : k = 0 <;> simp only [h3, if_true, if_false, Prod.mk.injEq] at he <;> omega
    · by_cases h3 : k' = 0 <;> simp only [h3, if_true, if_false, Prod.mk.injEq] at he <;> omega
    · simp only [Prod.mk.injEq] at he
      exact ⟨by omega, he.2⟩
theorem maps_rev : Maps (q :: l :: rest) (rfR q l e sz N D :: rfO T2 f sz N D :: R) (cmb q l :: rest) (rrO (cmb q l) e T2 f sz N D :: R) mRev := by
  refine ⟨fun j k x p ⟨o, y, hj, hl, ho⟩ => ?_, fun j k j' k' x p p' ⟨o, y, hj, hl, ho⟩ ⟨o', y', hj', hl', ho'⟩ he => ?_⟩
  · match j, hj, hl with
    | 0, hj, hl =>
      obtain rfl : rfR q l e sz N D = o := by simpa using hj
      obtain rfl : q = y := by simpa using hl
      obtain rfl := own_rfR ho
      exact ⟨_, cmb q l, rfl, rfl, own_cmb.2 (.inl ⟨rfl, ho⟩)⟩
    | 1, hj, hl =>
      obtain rfl : rfO T2 f sz N D = o := by simpa using hj
      obtain rfl : l = y := by simpa using hl
      exact ⟨_, cmb q l, rfl, rfl, own_cmb.2 (.inr ⟨k, rfl, ho⟩)⟩
    | j + 2, hj, hl => exact ⟨o, y, hj, hl, ho⟩
  · have z : ∀ (j k : Nat) (o : Obj) (y : L1) (x : Nat) (p : Obj), (rfR q l e sz N D :: rfO T2 f sz N D :: R)[j]? = some o → (q :: l :: rest)[j]? = some y → own o y k = some (x, p) → j = 0 → k = 0 := fun j k o y x p hj hl ho h => by
      subst h
      obtain rfl : rfR q l e sz N D = o := by simpa using hj
      obtain rfl : q = y := by simpa using hl
      exact own_rfR ho
    have z1 := z j k o y x p hj hl ho
    have z2 := z j' k' o' y' x p' hj' hl' ho'
    exact mRev_inj z1 z2 he
theorem maps_out (hx : xs.length = Hs.length) (hy : ys.length = Ks.length) (hu : ∀ o ∈ Hs, o = unb) :
    Maps (xs ++ [rrL L, rfS L]) (Hs ++ [rfR (rrL L) (rfS L) e sz N D, rfO T2 f sz N D]) (ys ++ [L]) (Ks ++ [rrO L e T2 f sz N D]) (fun j k => (Ks.length, if j = Hs.length then 0 else k + 1)) := by
  have at_ : ∀ (j k x : Nat) (p : Obj), At (xs ++ [rrL L, rfS L]) (Hs ++ [rfR (rrL L) (rfS L) e sz N D, rfO T2 f sz N D]) j k x p → (j = Hs.length ∧ k = 0 ∧ x = (rrL L).n ∧ p = rfR (rrL L) (rfS L) e sz N D) ∨ (j = Hs.length + 1 ∧ own (rfO T2 f sz N D) (rfS L) k = some (x, p)) := fun j k x p ⟨o, y, hj, hl, ho⟩ => by
    by_cases h1 : j < Hs.length
    · rw [List.getElem?_append_left h1] at hj
      have := hu o (List.mem_of_getElem? hj)
      subst this
      cases ho
    · rw [List.getElem?_append_right (by omega)] at hj
      rw [List.getElem?_append_right (by omega), hx] at hl
      match hd : j - Hs.length, hj, hl with
      | 0, hj, hl =>
        obtain rfl : rfR (rrL L) (rfS L) e sz N D = o := by simpa using hj
        obtain rfl : rrL L = y := by simpa using hl
        obtain ⟨h2, h3, h4, _⟩ := own_plain (rfl : isPend (rfR (rrL L) (rfS L) e sz N D) = false) ho
        exact .inl ⟨by omega, h2, h3, h4⟩
      | 1, hj, hl =>
        obtain rfl : rfO T2 f sz N D = o := by simpa using hj
        obtain rfl : rfS L = y := by simpa using hl
        exact .inr ⟨by omega, ho⟩
      | c + 2, hj, _ => simp at hj
  have to_ : (Ks ++ [rrO L e T2 f sz N D])[Ks.length]? = some (rrO L e T2 f sz N D) := by simp
  have tl_ : (ys ++ [L])[Ks.length]? = some L := by rw [← hy]; simp
  refine ⟨fun j k x p h => ?_, fun j k j' k' x p p' h h' he => ?_⟩
  · rcases at_ j k x p h with ⟨rfl, rfl, rfl, rfl⟩ | ⟨rfl, ho⟩
    · refine ⟨_, L, to_, tl_, ?_⟩
      simp only [if_true]
      rfl
    · refine ⟨_, L, to_, tl_, ?_⟩
      simp only [show ¬ (Hs.length + 1 = Hs.length) by omega, if_false]
      obtain ⟨hi, hn, rfl, rfl⟩ := own_rf2 ho
      exact own_rrS hi hn
  · simp only [Prod.mk.injEq, true_and] at he
    rcases at_ j k x p h with ⟨rfl, rfl, _⟩ | ⟨rfl, _⟩ <;> rcases at_ j' k' x p' h' with ⟨rfl, rfl, _⟩ | ⟨rfl, _⟩
    · exact ⟨rfl, rfl⟩
    · simp only [if_true, show ¬ (Hs.length + 1 = Hs.length) by omega, if_false] at he
      omega
    · simp only [if_true, show ¬ (Hs.length + 1 = Hs.length) by omega, if_false] at he
      omega
    · simp only [show ¬ (Hs.length + 1 = Hs.length) by omega, if_false] at he
      exact ⟨rfl, by omega⟩
end
section
variable {P : Program} {M : Nat → Prop} {B0 : Nat} {S : World → Prop} {t ty e T2 T : TypeId} {i : TypeInfo} {z : Value} {bytes : Nat}
/-- append of a row. -/
def sqApRF {τ : Type} (dk : DK) (t ty e T2 : TypeId) (consts : Array Bool) (f : τ → List Value) (sz N : Nat) (D : Nat → Nat × (Nat → τ)) (m : Nat) (B : Nat → τ) (c : Nat) (T' : TypeId) : Spc :=
  ⟨fun ls => .op (.blt .append #[t, t] ty consts #[rowV (lget ls 0) N 1, .slice (some ⟨(lget ls 2).n, 0, none⟩) 1 c]),
   fun ls => [rfR (lget ls 0) (lget ls 1) e sz N D, rfO T2 f sz N D, .cells ⟨[rowW dk (lget ls 3) m sz]⟩ T', rowD dk (lget ls 3) (esG f m B) T2 m sz], 2, .normal,
   fun ls => [rowV (lget ls 4) (N + 1) 1],
   fun ls => [unb, unb, unb, unb], fun ls => [rfR (lget ls 4) (lget ls 5) e sz (N + 1) (updF D N (m, B)), rfO T2 f sz (N + 1) (updF D N (m, B))]⟩
theorem sqApRF_ok (R : RowT P t e i z 1 bytes) (consts : Array Bool) (dk : DK) {τ : Type} {f : τ → List Value} {sz N : Nat} {D : Nat → Nat × (Nat → τ)} {m : Nat} {B : Nat → τ} {c : Nat} {T' : TypeId}
    (h0 : decide (0 < m) = true) (hm : decide (m ≤ 1000000) = true) (hN : decide (N ≤ 1000000) = true) (hb : bytes ≤ 1000000) : SpcG P M B0 S (sqApRF dk t ty e T2 consts f sz N D m B c T') := by
  refine SpcG.two (sqApRR_ok (M := M) (B0 := B0) (S := S) (ty := ty) (T2 := T2) R consts dk (f := f) (sz := sz) (D := D) (B := B) (c := c) (T' := T') h0 hm hN hb) (fun ls => [cmb (lget ls 0) (lget ls 1), lget ls 2, lget ls 3]) (fun ls ms => [rrL (lget ms 0), rfS (lget ms 0)]) rfl (fun ls hl => ?_) (fun ls ms w hl hms hs => ?_)
  · match ls, hl with
    | [q, l, tm, mb], _ => exact ⟨rfl, rfl, mIn, maps_in⟩
  · match ls, hl, ms, hms with
    | [q, l, tm, mb], _, [L], _ =>
      exact ⟨rfl, rfl, _, maps_out (xs := [q, l, tm, mb]) (Hs := [unb, unb, unb, unb]) (ys := [cmb q l, tm, mb]) (Ks := [unb, unb, unb]) rfl rfl (by simp)⟩
def sqApRF0 {τ : Type} (dk : DK) (t ty e T2 : TypeId) (consts : Array Bool) (f : τ → List Value) (sz : Nat) (m : Nat) (B : Nat → τ) (c : Nat) (T' : TypeId) : Spc :=
  ⟨fun ls => .op (.blt .append #[t, t] ty consts #[.slice none 0 0, .slice (some ⟨(lget ls 0).n, 0, none⟩) 1 c]),
   fun ls => [.cells ⟨[rowW dk (lget ls 1) m sz]⟩ T', rowD dk (lget ls 1) (esG f m B) T2 m sz], 2, .normal,
   fun ls => [rowV (lget ls 2) 1 1],
   fun ls => [unb, unb], fun ls => [rfR (lget ls 2) (lget ls 3) e sz 1 (fun _ => (m, B)), rfO T2 f sz 1 (fun _ => (m, B))]⟩
theorem sqApRF0_ok (R : RowT P t e i z 1 bytes) (consts : Array Bool) (dk : DK) {τ : Type} {f : τ → List Value} {sz : Nat} {m : Nat} {B : Nat → τ} {c : Nat} {T' : TypeId}
    (h0 : decide (0 < m) = true) (hm : decide (m ≤ 1000000) = true) (hb : bytes ≤ 1000000) : SpcG P M B0 S (sqApRF0 dk t ty e T2 consts f sz m B c T') := by
  refine SpcG.two (sqApRR0_ok (M := M) (B0 := B0) (S := S) (ty := ty) (T2 := T2) R consts dk (f := f) (sz := sz) (B := B) (c := c) (T' := T') h0 hm hb) (fun ls => ls) (fun ls ms => [rrL (lget ms 0), rfS (lget ms 0)]) rfl (fun ls hl => ?_) (fun ls ms w hl hms hs => ?_)
  · exact ⟨hl, rfl, fun j k => (j, k), fun j k x p h => h, fun j k j' k' x p p' _ _ he => by simpa using he⟩
  · match ls, hl, ms, hms with
    | [tm, mb], _, [L], _ =>
      exact ⟨rfl, rfl, _, maps_out (xs := [tm, mb]) (Hs := [unb, unb]) (ys := [tm, mb]) (Ks := [unb, unb]) rfl rfl (by simp)⟩
/-- make of so many rows of nothing. -/
def sqMkRF {τ : Type} (t e T2 : TypeId) (f : τ → List Value) (sz N : Nat) (g0 : Nat → τ) : Spc :=
  ⟨fun _ => .op (.mks t (.int .i64 (N : Int)) (.int .i64 (N : Int))), fun _ => [], 2, .normal, fun ls => [rowV (lget ls 0) N 1], fun _ => [], fun ls => [rfR (lget ls 0) (lget ls 1) e sz N (fun _ => (0, g0)), rfO T2 f sz N (fun _ => (0, g0))]⟩
theorem sqMkRF_ok (R : RowT P t e i z 1 bytes) {τ : Type} {f : τ → List Value} {sz N : Nat} {g0 : Nat → τ} (hz : z.cells.toList = [.slice none 0 0]) (h : decide (N ≤ 1000000) = true) (hb : bytes ≤ 1000000) : SpcG P M B0 S (sqMkRF t e T2 f sz N g0) := by
  refine SpcG.two (sqMkRR_ok (M := M) (B0 := B0) (S := S) (T2 := T2) R (f := f) (sz := sz) (g0 := g0) hz h hb) (fun ls => ls) (fun ls ms => [rrL (lget ms 0), rfS (lget ms 0)]) rfl (fun ls hl => ?_) (fun ls ms w hl hms hs => ?_)
  · exact ⟨hl, rfl, fun j k => (j, k), fun j k x p h => h, fun j k j' k' x p p' _ _ he => by simpa using he⟩
  · match ls, hl, ms, hms with
    | [], _, [L], _ => exact ⟨rfl, rfl, _, maps_out (xs := []) (Hs := []) (ys := []) (Ks := []) rfl rfl (by simp)⟩
variable {τ : Type} {f : τ → List Value} {sz N k : Nat} {D : Nat → Nat × (Nat → τ)}
/-- What reads is told at two places as at one. -/
theorem spc_read2 {q : L1 → Q} {q2 : L1 → L1 → Q} {v : L1 → Value} {v2 : L1 → L1 → Value} (hq : ∀ a b, q2 a b = q (cmb a b)) (hv : ∀ a b, v2 a b = v (cmb a b))
    (h : SpcG P M B0 S ⟨fun ls => .op (q (lget ls 0)), fun ls => [rrO (lget ls 0) e T2 f sz N D], 0, .normal, fun ls => [v (lget ls 0)], fun ls => [rrO (lget ls 0) e T2 f sz N D], fun _ => []⟩) :
    SpcG P M B0 S ⟨fun ls => .op (q2 (lget ls 0) (lget ls 1)), fun ls => [rfR (lget ls 0) (lget ls 1) e sz N D, rfO T2 f sz N D], 0, .normal, fun ls => [v2 (lget ls 0) (lget ls 1)], fun ls => [rfR (lget ls 0) (lget ls 1) e sz N D, rfO T2 f sz N D], fun _ => []⟩ := by
  refine SpcG.two h (fun ls => [cmb (lget ls 0) (lget ls 1)]) (fun ls ms => []) rfl (fun ls hl => ?_) (fun ls ms w hl hms hs => ?_)
  · match ls, hl with
    | [a, b], _ => exact ⟨rfl, congrArg Wh.op (hq a b), mIn, maps_in⟩
  · match ls, hl, ms, hms with
    | [a, b], _, [], _ => exact ⟨rfl, congrArg (fun x => [x]) (hv a b).symm, mRev, maps_rev⟩
/-- Row k's slice. -/
theorem ldRF_ok (hA : ∀ w, (isAgg T).run P w = .ok false w) (hk : k < N) (h0 : decide (0 < (D k).1) = true) :
    SpcG P M B0 S ⟨fun ls => .op (.ld T (.pointer (some ⟨(lget ls 0).n, 0 + k * 1, none⟩))), fun ls => [rfR (lget ls 0) (lget ls 1) e sz N D, rfO T2 f sz N D], 0, .normal, fun ls => [rowV (mfl (lget ls 1) k) (D k).1 sz], fun ls => [rfR (lget ls 0) (lget ls 1) e sz N D, rfO T2 f sz N D], fun _ => []⟩ :=
  spc_read2 (q := fun L => .ld T (.pointer (some ⟨(rrL L).n, 0 + k * 1, none⟩))) (q2 := fun a b => .ld T (.pointer (some ⟨a.n, 0 + k * 1, none⟩))) (v := fun L => rowV (rrM L k) (D k).1 sz) (v2 := fun a b => rowV (mfl b k) (D k).1 sz) (fun a b => rfl) (fun a b => by rw [cmb_M]) (ldRR_ok hA hk h0)
theorem ldRF0_ok (hA : ∀ w, (isAgg T).run P w = .ok false w) (hk : k < N) (h0 : decide (0 < (D k).1) = false) :
    SpcG P M B0 S ⟨fun ls => .op (.ld T (.pointer (some ⟨(lget ls 0).n, 0 + k * 1, none⟩))), fun ls => [rfR (lget ls 0) (lget ls 1) e sz N D, rfO T2 f sz N D], 0, .normal, fun _ => [.slice none 0 0], fun ls => [rfR (lget ls 0) (lget ls 1) e sz N D, rfO T2 f sz N D], fun _ => []⟩ :=
  spc_read2 (q := fun L => .ld T (.pointer (some ⟨(rrL L).n, 0 + k * 1, none⟩))) (q2 := fun a b => .ld T (.pointer (some ⟨a.n, 0 + k * 1, none⟩))) (v := fun _ => .slice none 0 0) (v2 := fun _ _ => .slice none 0 0) (fun a b => rfl) (fun a b => rfl) (ldRR0_ok hA hk h0)
/-- Cell j of element i of row k. -/
theorem ldFM_ok (hA : ∀ w, (isAgg T).run P w = .ok false w) (hf : ∀ x, (f x).length = sz) {i : Nat} (j : Nat) {v : Value} (hk : k < N) (hi : i < (D k).1) (hj : j < sz) (hv : (f ((D k).2 i))[j]? = some v) :
    SpcG P M B0 S ⟨fun ls => .op (.ld T (.pointer (some ⟨(mfl (lget ls 1) k).n, 0 + i * sz + j, none⟩))), fun ls => [rfR (lget ls 0) (lget ls 1) e sz N D, rfO T2 f sz N D], 0, .normal, fun _ => [v], fun ls => [rfR (lget ls 0) (lget ls 1) e sz N D, rfO T2 f sz N D], fun _ => []⟩ :=
  spc_read2 (q := fun L => .ld T (.pointer (some ⟨(rrM L k).n, 0 + i * sz + j, none⟩))) (q2 := fun a b => .ld T (.pointer (some ⟨(mfl b k).n, 0 + i * sz + j, none⟩))) (v := fun _ => v) (v2 := fun _ _ => v) (fun a b => by rw [cmb_M]) (fun a b => rfl) (ldRM_ok hA hf j hk hi hj hv)
end
/-! ### One given to a reader -/
def ownSpF {τ : Type} (f : τ → List Value) (sz N : Nat) (D : Nat → Nat × (Nat → τ)) (T T2 : TypeId) (sp : Option Addr → Nat → (Nat → RoX) → Spc) (m : Nat) (ex : Ex) : Spc :=
  ⟨fun ls => (ownSpR f sz N D T T2 sp m ex).wh (cmb (lget ls 0) (lget ls 1) :: ls.drop 2), fun ls => rfR (lget ls 0) (lget ls 1) T sz N D :: rfO T2 f sz N D :: ((ownSpR f sz N D T T2 sp m ex).pre (cmb (lget ls 0) (lget ls 1) :: ls.drop 2)).tail, m, ex,
   fun ls => (ownSpR f sz N D T T2 sp m ex).val (cmb (lget ls 0) (lget ls 1) :: ls.drop 2), fun ls => rfR (lget ls 0) (lget ls 1) T sz N D :: rfO T2 f sz N D :: ((ownSpR f sz N D T T2 sp m ex).post (cmb (lget ls 0) (lget ls 1) :: ls.drop 2)).tail, fun ls => (ownSpR f sz N D T T2 sp m ex).new (cmb (lget ls 0) (lget ls 1) :: ls.drop 2)⟩
theorem SpcG.ownRF {P : Program} {M : Nat → Prop} {B : Nat} {S : World → Prop} (hU : Up M B S) {τ : Type} {f : τ → List Value} {sz : Nat} (hf : ∀ x, (f x).length = sz) (N : Nat) (D : Nat → Nat × (Nat → τ)) (T T2 : TypeId) (sp : Option Addr → Nat → (Nat → RoX) → Spc) (m : Nat) (ex : Ex)
    (hm : ∀ a c X, (sp a c X).m = m) (he : ∀ a c X, (sp a c X).ex = ex)
    (h : ∀ (M' : Nat → Prop) (B' : Nat) (S' : World → Prop) (a : Option Addr) (p q c : Nat) (X : Nat → RoX), Up M' B' S' → (∀ w, S' w → S w) → RoR S' f sz a p q N X D → SpcG P M' B' S' (sp a c X)) :
    SpcG P M B S (ownSpF f sz N D T T2 sp m ex) := by
  refine SpcG.two (SpcG.ownRR hU hf N D T T2 sp m ex hm he h) (fun ls => cmb (lget ls 0) (lget ls 1) :: ls.drop 2) (fun ls ms => ms) rfl (fun ls hl => ?_) (fun ls ms w hl hms hs => ?_)
  · match ls, hl with
    | q :: l :: rest, hl =>
      refine ⟨?_, rfl, mIn, maps_in⟩
      have h1 : (((ownSpR f sz N D T T2 sp m ex).pre (cmb q l :: rest)).tail).length + 1 + 1 = rest.length + 1 + 1 := hl
      have h2 : ((ownSpR f sz N D T T2 sp m ex).pre (cmb q l :: rest)).length = (((ownSpR f sz N D T T2 sp m ex).pre (cmb q l :: rest)).tail).length + 1 := rfl
      show ((ownSpR f sz N D T T2 sp m ex).pre (cmb q l :: rest)).length = rest.length + 1
      omega
    | [_], hl =>
      have : 1 + 1 ≤ 1 := Nat.le_trans (by show 2 ≤ _ + 1 + 1; omega) (Nat.le_of_eq hl)
      omega
    | [], hl => cases hl
  · match ls, hl with
    | q :: l :: rest, hl => exact ⟨hms, rfl, mRev, maps_rev⟩
    | [_], hl =>
      have : 1 + 1 ≤ 1 := Nat.le_trans (by show 2 ≤ _ + 1 + 1; omega) (Nat.le_of_eq hl)
      omega
    | [], hl => cases hl
end Go.Proofs.YtnlnldpolaodbaaDoor
