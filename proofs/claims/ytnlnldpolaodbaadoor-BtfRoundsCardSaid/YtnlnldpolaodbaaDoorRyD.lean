/-
  Rows of rows: so many rows of nothing made; a row put in another's place. Nothing of the program stands here.
-/
import Derived.Test.YtnlnldpolaodbaaDoorRyC
namespace Go.Proofs.YtnlnldpolaodbaaDoor
open Go.RowKit
set_option linter.unusedVariables false
set_option linter.unusedSimpArgs false
theorem AccOk.blks {S : World → Prop} (l : List Nat) : AccOk S (l.map Acc.blk) := fun x hx => by
  obtain ⟨i, _, rfl⟩ := List.mem_map.1 hx
  trivial
/-- A slice's cell. -/
def fSl (x : Option Addr × Nat × Nat) : List Value := [.slice x.1 x.2.1 x.2.2]
theorem fSl_len (x : Option Addr × Nat × Nat) : (fSl x).length = 1 := rfl
theorem fSl_one (x : Option Addr × Nat × Nat) : ((fSl x).all fun u => u.oneCell') = true := rfl
def rrS {τ : Type} (l : L1) (sz : Nat) (D : Nat → Nat × (Nat → τ)) (i : Nat) : Option Addr × Nat × Nat :=
  if (D i).1 = 0 then (none, 0, 0) else (some ⟨(rrM l i).n, 0, none⟩, (D i).1, (D i).1 + (padL (rrM l i) (D i).1 sz).length / sz)
theorem rrC_S {τ : Type} (l : L1) (sz : Nat) (D : Nat → Nat × (Nat → τ)) (i : Nat) : rrC l sz D i = fSl (rrS l sz D i) := by
  unfold rrC fSl rrS
  by_cases h : (D i).1 = 0
  · rw [if_pos h, if_pos h]
  · rw [if_neg h, if_neg h]; rfl
section
variable {P : Program} {M : Nat → Prop} {B0 : Nat} {S : World → Prop} {t e T2 T : TypeId} {i : TypeInfo} {z : Value} {bytes : Nat}
/-! ### make -/
def sqMkRR {τ : Type} (t e T2 : TypeId) (f : τ → List Value) (sz N : Nat) (g0 : Nat → τ) : Spc :=
  ⟨fun _ => .op (.mks t (.int .i64 (N : Int)) (.int .i64 (N : Int))), fun _ => [], 1, .normal, fun ls => [rrV (lget ls 0) N], fun _ => [], fun ls => [rrO (lget ls 0) e T2 f sz N (fun _ => (0, g0))]⟩
theorem sqMkRR_ok (R : RowT P t e i z 1 bytes) {τ : Type} {f : τ → List Value} {sz N : Nat} {g0 : Nat → τ} (hz : z.cells.toList = [.slice none 0 0]) (h : decide (N ≤ 1000000) = true) (hb : bytes ≤ 1000000) : SpcG P M B0 S (sqMkRR t e T2 f sz N g0) := by
  have hk := sqMkN_ok (S := S) R (f := fun _ : Unit => [.slice none 0 0]) (N := N) (a0 := ()) (fun _ => rfl) hz h hb
  intro ls w hlen hsat htb hS
  match ls, hlen with
  | [], _ =>
    have hd := hk [] w rfl ⟨fun j o l h => by simp [sqMk] at h, fun i j o p l l' h => by simp [sqMk] at h⟩ hS
    obtain ⟨v, w', hr, ms, hms, hv, hsl, hnew, hch⟩ := hd
    match ms, hms with
    | [l'], _ =>
      have hh : w'.heap[l'.n]? = some (rowO l' (esG (fun _ : Unit => [.slice none 0 0]) N fun _ => ()) e N 1) := hsl.holds 0 _ l' rfl rfl rfl
      have hge : w.heap.size ≤ l'.n := by
        rcases hnew 0 _ l' rfl rfl rfl with h1 | ⟨j, o, l, h1, _⟩
        · exact h1
        · simp [sqMk] at h1
      let r : L1 := ⟨0, fun _ => undef⟩
      let L := rrPut r l' N r
      have es : esG (rrC L sz (fun _ => ((0, g0) : Nat × (Nat → τ)))) N (fun i => i) = esG (fun _ : Unit => [.slice none 0 0]) N fun _ => () := esG_map fun k hk => rfl
      have key : ∀ k x p, own (rrO L e T2 f sz N (fun _ => (0, g0))) L k = some (x, p) → k = 0 ∧ x = l'.n ∧ w'.heap[x]? = some p := fun k x p h => by
        rcases own_rr h with ⟨rfl, rfl, rfl⟩ | ⟨i, _, _, h0, _⟩
        · refine ⟨rfl, rfl, ?_⟩
          rw [es]
          exact hh
        · exact absurd rfl h0
      have at0 : ∀ (j k : Nat) (o : Obj) (l : L1) (x : Nat) (p : Obj), ([] ++ [rrO L e T2 f sz N (fun _ => (0, g0))])[j]? = some o → ([] ++ [L])[j]? = some l → own o l k = some (x, p) → j = 0 ∧ o = rrO L e T2 f sz N (fun _ => (0, g0)) ∧ l = L := fun j k o l x p hj hl ho => by
        match j, hj, hl with
        | 0, hj, hl => exact ⟨rfl, by simpa using hj.symm, by simpa using hl.symm⟩
        | q + 1, hj, _ => simp at hj
      refine ⟨v, w', hr, [L], rfl, ?_, ⟨hch.os, hch.tape, hch.output, hch.size, fun x hx ht => hch.block x hx fun ⟨j, o, l, h1, _⟩ => by simp [sqMk] at h1⟩, fun _ => ⟨⟨fun j k o l x p hj hl ho => ?_, fun j j' k k' o o' l l1 x p p' hj hl ho hj' hl1 ho' => ?_⟩, fun j k o l x p hj hl ho => ?_⟩⟩
      · rw [hv]; rfl
      · obtain ⟨rfl, rfl, rfl⟩ := at0 j k o l x p hj hl ho
        exact (key k x p ho).2.2
      · obtain ⟨rfl, rfl, rfl⟩ := at0 j k o l x p hj hl ho
        obtain ⟨rfl, rfl, rfl⟩ := at0 j' k' o' l1 x p' hj' hl1 ho'
        exact ⟨rfl, (key k x p ho).1.trans (key k' x p' ho').1.symm⟩
      · obtain ⟨rfl, rfl, rfl⟩ := at0 j k o l x p hj hl ho
        rw [(key k x p ho).2.1]
        exact .inl hge
/-! ### A row in another's place -/
def rrSet (l : L1) (k : Nat) (m : L1) : L1 := ⟨0, fun j => if j = k + 1 then rrE m else l.u j⟩
theorem rrSet_L (l : L1) (k : Nat) (m : L1) : rrL (rrSet l k m) = rrL l := by
  have e : (rrSet l k m).u 0 = l.u 0 := by
    show (if 0 = k + 1 then rrE m else l.u 0) = l.u 0
    rw [if_neg (by omega)]
  unfold rrL mfl
  rw [e]
theorem rrSet_K (l : L1) (k : Nat) (m : L1) : rrM (rrSet l k m) k = bare m := by
  have e : (rrSet l k m).u (k + 1) = rrE m := if_pos rfl
  unfold rrM mfl
  rw [e]
  rfl
theorem rrSet_M (l : L1) {k i : Nat} (m : L1) (h : i ≠ k) : rrM (rrSet l k m) i = rrM l i := by
  have e : (rrSet l k m).u (i + 1) = l.u (i + 1) := by
    show (if i + 1 = k + 1 then rrE m else l.u (i + 1)) = l.u (i + 1)
    rw [if_neg (by omega)]
  unfold rrM mfl
  rw [e]
def sqStRR {τ : Type} (dk : DK) (T e T2 : TypeId) (f : τ → List Value) (sz N k : Nat) (D : Nat → Nat × (Nat → τ)) (m : Nat) (B : Nat → τ) : Spc :=
  ⟨fun ls => .op (.st T (.pointer (some ⟨(rrL (lget ls 0)).n, 0 + k * 1, none⟩)) (rowW dk (lget ls 1) m sz)), fun ls => [rrO (lget ls 0) e T2 f sz N D, rowD dk (lget ls 1) (esG f m B) T2 m sz], 1, .normal,
   fun _ => [undef], fun ls => [unb, unb], fun ls => [rrO (lget ls 2) e T2 f sz N (updF D k (m, B))]⟩
theorem sqStRR_ok (dk : DK) {τ : Type} {f : τ → List Value} {sz N k : Nat} {D : Nat → Nat × (Nat → τ)} {m : Nat} {B : Nat → τ} (hz : ∀ w, (sizeOf T).run P w = .ok 1 w) (hk : k < N) (h0 : decide (0 < m) = true) (hm : decide (m ≤ 1000000) = true) :
    SpcG P M B0 S (sqStRR dk T e T2 f sz N k D m B) := by
  have h0 := of_decide_eq_true h0
  have hm := of_decide_eq_true hm
  have hmx : m ≤ maxLen := by simp only [maxLen]; omega
  intro ls w hlen hsat htb hS
  match ls, hlen with
  | [l, mb], _ =>
    have hg : w.heap[(rrL l).n]? = some (rowO (rrL l) (esG (rrC l sz D) N fun i => i) e N 1) := hsat.hold 0 0 _ l _ _ rfl rfl own_rr0
    have hmb : w.heap[mb.n]? = some (rowD dk mb (esG f m B) T2 m sz) := hsat.hold 1 0 _ mb _ _ rfl rfl rfl
    have hmem : ∀ i, i < N → (D i).1 ≠ 0 → w.heap[(rrM l i).n]? = some (rowO (rrM l i) (esG f (D i).1 (D i).2) T2 (D i).1 sz) := fun i hi h => hsat.hold 0 (i + 1) _ l _ _ rfl rfl (own_rrS hi h)
    have a2 : (rrL l).n ≠ mb.n := fun q => by
      have := (hsat.inj 0 1 0 0 _ _ l mb mb.n _ _ rfl rfl (by rw [← q]; exact own_rr0) rfl rfl rfl).1
      omega
    have a3 : ∀ i, i < N → (D i).1 ≠ 0 → (rrM l i).n ≠ mb.n := fun i hi h q => by
      have := (hsat.inj 0 1 (i + 1) 0 _ _ l mb mb.n _ _ rfl rfl (by rw [← q]; exact own_rrS hi h) rfl rfl rfl).1
      omega
    have a4 : ∀ i, i < N → (D i).1 ≠ 0 → (rrM l i).n ≠ (rrL l).n := fun i hi h q => by
      have := (hsat.inj 0 0 (i + 1) 0 _ _ l l (rrL l).n _ _ rfl rfl (by rw [← q]; exact own_rrS hi h) rfl rfl own_rr0).2
      omega
    have a5 : ∀ i j, i < N → j < N → (D i).1 ≠ 0 → (D j).1 ≠ 0 → (rrM l i).n = (rrM l j).n → i = j := fun i j hi hj h h' q => by
      have := (hsat.inj 0 0 (i + 1) (j + 1) _ _ l l (rrM l j).n _ _ rfl rfl (by rw [← q]; exact own_rrS hi h) rfl rfl (own_rrS hj h')).2
      omega
    have lt : ∀ {x : Nat} {p : Obj}, w.heap[x]? = some p → x < w.heap.size := fun h => (Array.getElem?_eq_some_iff.1 h).1
    have es0 : esG (rrC l sz D) N (fun i => i) = esG fSl N (rrS l sz D) := esG_map fun j hj => rrC_S l sz D j
    let v0 : Option Addr × Nat × Nat := (some ⟨mb.n, 0, none⟩, m, m + (padD dk mb m sz).length / sz)
    have hst := sqStG_ok (P := P) (S := S) (T := T) (e := e) (f := fSl) (N := N) (k := k) (sz := 1) (A := rrS l sz D) (v := v0) 0 (rowW dk mb m sz) fSl_len fSl_one rfl rfl hz hk
    have hd := hst [rrL l] w rfl ⟨fun j o x hj hr hx => by
      match j, hj, hx with
      | 0, hj, hx =>
        obtain rfl : Obj.cells ⟨esG fSl N (rrS l sz D) ++ padL (rrL l) N 1⟩ e = o := by simpa [sqSt, lget] using hj
        obtain rfl : rrL l = x := by simpa using hx
        rw [← es0]
        exact hg
      | q + 1, hj, _ => simp [sqSt] at hj, fun i j o p x y hi _ hj _ hx hy _ => by
      match i, j, hx, hy with
      | 0, 0, _, _ => rfl
      | q + 1, _, hx, _ => simp at hx
      | 0, q + 1, _, hy => simp at hy⟩ hS
    obtain ⟨v, w', hr, ms, hms, hv, hsl, hnew, hch⟩ := hd
    obtain rfl : ms = [] := List.eq_nil_of_length_eq_zero hms
    have hh : w'.heap[(rrL l).n]? = some (.cells ⟨esG fSl N (updF (rrS l sz D) k v0) ++ padL (rrL l) N 1⟩ e) := hsl.holds 0 _ (rrL l) rfl rfl rfl
    have blk : ∀ x, x < w.heap.size → x ≠ (rrL l).n → w'.heap[x]? = w.heap[x]? := fun x hx hne => hch.block x hx fun ⟨j, o, y, h1, h2, h3, h4⟩ => by
      match j, h3 with
      | 0, h3 =>
        obtain rfl : rrL l = y := by simpa using h3
        exact hne h4.symm
      | q + 1, h3 => simp at h3
    generalize hL : rrSet l k (rrIn dk mb m sz) = L
    have eL : rrL L = rrL l := by rw [← hL]; exact rrSet_L ..
    have eK : rrM L k = bare (rrIn dk mb m sz) := by rw [← hL]; exact rrSet_K ..
    have eM : ∀ i, i ≠ k → rrM L i = rrM l i := fun i h => by rw [← hL]; exact rrSet_M _ _ h
    have dK : updF D k (m, B) k = (m, B) := updF_at ..
    have dM : ∀ i, i ≠ k → updF D k (m, B) i = D i := fun i h => updF_ne _ _ h
    have es : esG (rrC L sz (updF D k (m, B))) N (fun i => i) = esG fSl N (updF (rrS l sz D) k v0) := esG_map fun j hj => by
      by_cases hjk : j = k
      · subst hjk
        rw [updF_at]
        unfold rrC
        rw [dK, eK, if_neg (by show m ≠ 0; omega), rowV_rrIn dk mb hmx]
        rfl
      · rw [updF_ne _ _ hjk, ← rrC_S]
        unfold rrC
        rw [dM j hjk, eM j hjk]
    have key : ∀ q x p, own (rrO L e T2 f sz N (updF D k (m, B))) L q = some (x, p) → (q = 0 ∧ x = (rrL l).n ∧ w'.heap[x]? = some p) ∨ (q = k + 1 ∧ x = mb.n ∧ w'.heap[x]? = some p) ∨ ∃ i, q = i + 1 ∧ i < N ∧ (D i).1 ≠ 0 ∧ x = (rrM l i).n ∧ w'.heap[x]? = some p := fun q x p h => by
      rcases own_rr h with ⟨rfl, rfl, rfl⟩ | ⟨i, rfl, hi, hn, rfl, rfl⟩
      · refine .inl ⟨rfl, by rw [eL], ?_⟩
        rw [es, eL]
        exact hh
      · by_cases hik : i = k
        · subst hik
          refine .inr (.inl ⟨rfl, by rw [eK]; rfl, ?_⟩)
          rw [dK, eK, rowO_rrIn dk mb _ _ hmx]
          exact (blk _ (lt hmb) a2.symm).trans hmb
        · rw [dM i hik] at hn
          refine .inr (.inr ⟨i, rfl, hi, hn, by rw [eM i hik], ?_⟩)
          rw [dM i hik, eM i hik]
          exact (blk _ (lt (hmem i hi hn)) (a4 i hi hn)).trans (hmem i hi hn)
    have at2 : ∀ (j q : Nat) (o : Obj) (y : L1) (x : Nat) (p : Obj), ([unb, unb] ++ [rrO L e T2 f sz N (updF D k (m, B))])[j]? = some o → ([l, mb] ++ [L])[j]? = some y → own o y q = some (x, p) → j = 2 ∧ o = rrO L e T2 f sz N (updF D k (m, B)) ∧ y = L := fun j q o y x p hj hl ho => by
      match j, hj, hl with
      | 0, hj, _ => obtain rfl : unb = o := by simpa using hj
                    cases ho
      | 1, hj, _ => obtain rfl : unb = o := by simpa using hj
                    cases ho
      | 2, hj, hl => exact ⟨rfl, by simpa using hj.symm, by simpa using hl.symm⟩
      | q + 3, hj, _ => simp at hj
    have hr' : (Q.sem (.st T (.pointer (some ⟨(rrL l).n, 0 + k * 1, none⟩)) (rowW dk mb m sz))).run P w = .ok (.value v) w' ∨ (Q.sem (.st T (.pointer (some ⟨(rrL l).n, 0 + k * 1, none⟩)) (rowW dk mb m sz))).run P w = .ok .skip w' ∧ v = undef := hr
    refine ⟨v, w', hr', [L], rfl, hv, ⟨hch.os, hch.tape, hch.output, hch.size, fun x hx ht => blk x hx fun q => ht (q ▸ ⟨0, 0, _, l, _, rfl, rfl, own_rr0⟩)⟩, fun _ => ⟨⟨fun j q o y x p hj hl ho => ?_, fun j j' q q' o o' y y' x p p' hj hl ho hj' hl' ho' => ?_⟩, fun j q o y x p hj hl ho => ?_⟩⟩
    · obtain ⟨rfl, rfl, rfl⟩ := at2 j q o y x p hj hl ho
      rcases key q x p ho with ⟨_, _, h1⟩ | ⟨_, _, h1⟩ | ⟨_, _, _, _, _, h1⟩ <;> exact h1
    · obtain ⟨rfl, rfl, rfl⟩ := at2 j q o y x p hj hl ho
      obtain ⟨rfl, rfl, rfl⟩ := at2 j' q' o' y' x p' hj' hl' ho'
      refine ⟨rfl, ?_⟩
      rcases key q x p ho with ⟨rfl, rfl, _⟩ | ⟨rfl, rfl, _⟩ | ⟨i, rfl, hi, hn, rfl, _⟩ <;> rcases key q' _ p' ho' with ⟨rfl, e2, _⟩ | ⟨rfl, e2, _⟩ | ⟨i', rfl, hi', hn', e2, _⟩
      · rfl
      · exact absurd e2 a2
      · exact absurd e2.symm (a4 i' hi' hn')
      · exact absurd e2.symm a2
      · rfl
      · exact absurd e2.symm (a3 i' hi' hn')
      · exact absurd e2 (a4 i hi hn)
      · exact absurd e2 (a3 i hi hn)
      · rw [a5 i i' hi hi' hn hn' e2]
    · obtain ⟨rfl, rfl, rfl⟩ := at2 j q o y x p hj hl ho
      rcases key q x p ho with ⟨_, rfl, _⟩ | ⟨_, rfl, _⟩ | ⟨i, _, hi, hn, rfl, _⟩
      · exact .inr ⟨0, 0, _, l, _, rfl, rfl, own_rr0⟩
      · exact .inr ⟨1, 0, _, mb, _, rfl, rfl, rfl⟩
      · exact .inr ⟨0, i + 1, _, l, _, rfl, rfl, own_rrS hi hn⟩
end
end Go.Proofs.YtnlnldpolaodbaaDoor
