/-
  Rows whose elements are structs with a slice of their own: one entry for the row itself and for all the rows that it points to. Nothing of the program stands here.
-/
import Derived.Test.YtnlnldpolaodbaaDoorRyK
namespace Go.Proofs.YtnlnldpolaodbaaDoor
open Go.RowKit
set_option linter.unusedVariables false
set_option linter.unusedSimpArgs false
/-- Element i: its cells ahead of its slice, the slice, its cells behind it. -/
def rsC {τ σ : Type} (hd tl : σ → List Value) (l : L1) (sz : Nat) (D : Nat → Nat × (Nat → τ)) (E : Nat → σ) (i : Nat) : List Value := hd (E i) ++ (if (D i).1 = 0 then .slice none 0 0 else rowV (rrM l i) (D i).1 sz) :: tl (E i)
theorem rsC_len {τ σ : Type} {hd tl : σ → List Value} {zs : Nat} (hz : ∀ x, (hd x).length + 1 + (tl x).length = zs) (l : L1) (sz : Nat) (D : Nat → Nat × (Nat → τ)) (E : Nat → σ) (i : Nat) : (rsC hd tl l sz D E i).length = zs := by
  unfold rsC
  rw [List.length_append, List.length_cons, ← hz (E i)]
  omega
def rsO {τ σ : Type} (hd tl : σ → List Value) (zs : Nat) (l : L1) (T T2 : TypeId) (f : τ → List Value) (sz N : Nat) (D : Nat → Nat × (Nat → τ)) (E : Nat → σ) : Obj :=
  .pending ⟨.tuple #[.int .u64 ((T : Nat) : Int), .agg ⟨esG (rsC hd tl l sz D E) N fun i => i⟩, .int .u64 (N : Int), .int .u64 ((zs : Nat) : Int)] :: (List.range N).map fun i => rrB T2 f sz (D i)⟩ 0
section
variable {τ σ : Type} {hd tl : σ → List Value} {zs : Nat} {E : Nat → σ} {l : L1} {T T2 : TypeId} {f : τ → List Value} {sz N : Nat} {D : Nat → Nat × (Nat → τ)}
theorem own_rs0 : own (rsO hd tl zs l T T2 f sz N D E) l 0 = some ((rrL l).n, rowO (rrL l) (esG (rsC hd tl l sz D E) N fun i => i) T N zs) := rfl
theorem own_rsS {i : Nat} (hi : i < N) (h0 : (D i).1 ≠ 0) : own (rsO hd tl zs l T T2 f sz N D E) l (i + 1) = some ((rrM l i).n, rowO (rrM l i) (esG f (D i).1 (D i).2) T2 (D i).1 sz) := by
  have e : ((⟨.tuple #[.int .u64 ((T : Nat) : Int), .agg ⟨esG (rsC hd tl l sz D E) N fun i => i⟩, .int .u64 (N : Int), .int .u64 ((zs : Nat) : Int)] :: (List.range N).map fun i => rrB T2 f sz (D i)⟩ : Array Value))[i + 1]? = some (rrB T2 f sz (D i)) := by
    simp [hi]
  unfold own rsO
  simp only [e]
  unfold rrB
  rw [if_neg h0, objOf_row]
  rfl
theorem own_rs {k x : Nat} {p : Obj} (h : own (rsO hd tl zs l T T2 f sz N D E) l k = some (x, p)) :
    (k = 0 ∧ x = (rrL l).n ∧ p = rowO (rrL l) (esG (rsC hd tl l sz D E) N fun i => i) T N zs) ∨ ∃ i, k = i + 1 ∧ i < N ∧ (D i).1 ≠ 0 ∧ x = (rrM l i).n ∧ p = rowO (rrM l i) (esG f (D i).1 (D i).2) T2 (D i).1 sz := by
  cases k with
  | zero =>
    rw [own_rs0] at h
    injection h with h
    injection h with h1 h2
    exact .inl ⟨rfl, h1.symm, h2.symm⟩
  | succ i =>
    by_cases hi : i < N
    · by_cases h0 : (D i).1 = 0
      · have e : ((⟨.tuple #[.int .u64 ((T : Nat) : Int), .agg ⟨esG (rsC hd tl l sz D E) N fun i => i⟩, .int .u64 (N : Int), .int .u64 ((zs : Nat) : Int)] :: (List.range N).map fun i => rrB T2 f sz (D i)⟩ : Array Value))[i + 1]? = some (rrB T2 f sz (D i)) := by
          simp [hi]
        unfold own rsO at h
        simp only [e] at h
        unfold rrB at h
        rw [if_pos h0] at h
        cases h
      · rw [own_rsS hi h0] at h
        injection h with h
        injection h with h1 h2
        exact .inr ⟨i, rfl, hi, h0, h1.symm, h2.symm⟩
    · have e : ((⟨.tuple #[.int .u64 ((T : Nat) : Int), .agg ⟨esG (rsC hd tl l sz D E) N fun i => i⟩, .int .u64 (N : Int), .int .u64 ((zs : Nat) : Int)] :: (List.range N).map fun i => rrB T2 f sz (D i)⟩ : Array Value))[i + 1]? = none := by
        simp; omega
      unfold own rsO at h
      simp only [e] at h
      cases h
end
theorem rs_next {τ : Type} {σ : Type} {hd tl : σ → List Value} {zs : Nat} {E : Nat → σ} {x0 : σ} {r mb l' : L1} {e T2 : TypeId} {f : τ → List Value} {sz N m : Nat} {D : Nat → Nat × (Nat → τ)} {B : Nat → τ} (dk : DK) {w w' : World} (hm0 : m ≠ 0) (hm : m ≤ maxLen)
    (hmem : ∀ i, i < N → (D i).1 ≠ 0 → w.heap[(rrM r i).n]? = some (rowO (rrM r i) (esG f (D i).1 (D i).2) T2 (D i).1 sz))
    (hinj : ∀ i j, i < N → j < N → (D i).1 ≠ 0 → (D j).1 ≠ 0 → (rrM r i).n = (rrM r j).n → i = j)
    (hmb : w.heap[mb.n]? = some (rowD dk mb (esG f m B) T2 m sz)) (hne : ∀ i, i < N → (D i).1 ≠ 0 → (rrM r i).n ≠ mb.n)
    (hl' : w'.heap[l'.n]? = some (rowO l' (esG (rsC hd tl r sz D E) N (fun i => i) ++ (hd x0 ++ rowW dk mb m sz :: tl x0)) e (N + 1) zs))
    (hl1 : ∀ i, i < N → (D i).1 ≠ 0 → (rrM r i).n ≠ l'.n) (hl2 : mb.n ≠ l'.n)
    (hk : ∀ i, i < N → (D i).1 ≠ 0 → w'.heap[(rrM r i).n]? = w.heap[(rrM r i).n]?) (hkb : w'.heap[mb.n]? = w.heap[mb.n]?) :
    (∀ k x p, own (rsO hd tl zs (rrPut r l' N (rrIn dk mb m sz)) e T2 f sz (N + 1) (updF D N (m, B)) (updF E N x0)) (rrPut r l' N (rrIn dk mb m sz)) k = some (x, p) → w'.heap[x]? = some p) ∧
    (∀ k k' x p p', own (rsO hd tl zs (rrPut r l' N (rrIn dk mb m sz)) e T2 f sz (N + 1) (updF D N (m, B)) (updF E N x0)) (rrPut r l' N (rrIn dk mb m sz)) k = some (x, p) → own (rsO hd tl zs (rrPut r l' N (rrIn dk mb m sz)) e T2 f sz (N + 1) (updF D N (m, B)) (updF E N x0)) (rrPut r l' N (rrIn dk mb m sz)) k' = some (x, p') → k = k') ∧
    (∀ k x p, own (rsO hd tl zs (rrPut r l' N (rrIn dk mb m sz)) e T2 f sz (N + 1) (updF D N (m, B)) (updF E N x0)) (rrPut r l' N (rrIn dk mb m sz)) k = some (x, p) → x = l'.n ∨ x = mb.n ∨ ∃ i, i < N ∧ (D i).1 ≠ 0 ∧ x = (rrM r i).n) := by
  generalize hL : rrPut r l' N (rrIn dk mb m sz) = L
  have eL : rrL L = bare l' := by rw [← hL]; exact rrPut_L ..
  have eN : rrM L N = bare (rrIn dk mb m sz) := by rw [← hL]; exact rrPut_N ..
  have eM : ∀ i, i ≠ N → rrM L i = rrM r i := fun i h => by rw [← hL]; exact rrPut_M _ _ _ h
  have dN : updF D N (m, B) N = (m, B) := updF_at ..
  have dM : ∀ i, i ≠ N → updF D N (m, B) i = D i := fun i h => updF_ne _ _ h
  have es : esG (rsC hd tl L sz (updF D N (m, B)) (updF E N x0)) (N + 1) (fun i => i) = esG (rsC hd tl r sz D E) N (fun i => i) ++ (hd x0 ++ rowW dk mb m sz :: tl x0) := by
    rw [esG_succ]
    congr 1
    · exact esG_map fun k hk => by
        unfold rsC
        rw [dM k (by omega), eM k (by omega), updF_ne E x0 (show k ≠ N by omega)]
    · unfold rsC
      rw [dN, eN, if_neg hm0, rowV_rrIn dk mb hm, updF_at]
  -- what lies where
  have key : ∀ k x p, own (rsO hd tl zs L e T2 f sz (N + 1) (updF D N (m, B)) (updF E N x0)) L k = some (x, p) → (k = 0 ∧ x = l'.n ∧ w'.heap[x]? = some p) ∨ (k = N + 1 ∧ x = mb.n ∧ w'.heap[x]? = some p) ∨ ∃ i, k = i + 1 ∧ i < N ∧ (D i).1 ≠ 0 ∧ x = (rrM r i).n ∧ w'.heap[x]? = some p := fun k x p h => by
    rcases own_rs h with ⟨rfl, rfl, rfl⟩ | ⟨i, rfl, hi, h0, rfl, rfl⟩
    · refine .inl ⟨rfl, by rw [eL]; rfl, ?_⟩
      rw [es, eL, bare_rowO]
      exact hl'
    · by_cases hiN : i = N
      · subst hiN
        rw [dN] at h0
        refine .inr (.inl ⟨rfl, by rw [eN]; rfl, ?_⟩)
        rw [dN, eN, rowO_rrIn dk mb _ _ hm]
        exact hkb.trans hmb
      · rw [dM i hiN] at h0
        have hi' : i < N := by omega
        refine .inr (.inr ⟨i, rfl, hi', h0, by rw [eM i hiN], ?_⟩)
        rw [dM i hiN, eM i hiN]
        exact (hk i hi' h0).trans (hmem i hi' h0)
  refine ⟨fun k x p h => ?_, fun k k' x p p' h h' => ?_, fun k x p h => ?_⟩
  · rcases key k x p h with ⟨_, _, h1⟩ | ⟨_, _, h1⟩ | ⟨_, _, _, _, _, h1⟩ <;> exact h1
  · rcases key k x p h with ⟨rfl, rfl, _⟩ | ⟨rfl, rfl, _⟩ | ⟨i, rfl, hi, h0, rfl, _⟩ <;> rcases key k' _ p' h' with ⟨rfl, e2, _⟩ | ⟨rfl, e2, _⟩ | ⟨j, rfl, hj, h0', e2, _⟩
    · rfl
    · exact absurd e2.symm hl2
    · exact absurd e2.symm (hl1 j hj h0')
    · exact absurd e2 hl2
    · rfl
    · exact absurd e2.symm (hne j hj h0')
    · exact absurd e2 (hl1 i hi h0)
    · exact absurd e2 (hne i hi h0)
    · rw [hinj i j hi hj h0 h0' e2]
  · rcases key k x p h with ⟨_, h1, _⟩ | ⟨_, h1, _⟩ | ⟨i, _, hi, h0, h1, _⟩
    · exact .inl h1
    · exact .inr (.inl h1)
    · exact .inr (.inr ⟨i, hi, h0, h1⟩)
/-- A row put behind a row of rows. -/
def sqApRS {τ : Type} {σ : Type} (hd tl : σ → List Value) (zs : Nat) (E : Nat → σ) (x0 : σ) (dk : DK) (t ty e T2 : TypeId) (consts : Array Bool) (f : τ → List Value) (sz N : Nat) (D : Nat → Nat × (Nat → τ)) (m : Nat) (B : Nat → τ) (c : Nat) (T' : TypeId) : Spc :=
  ⟨fun ls => .op (.blt .append #[t, t] ty consts #[rowV (rrL (lget ls 0)) N zs, .slice (some ⟨(lget ls 1).n, 0, none⟩) 1 c]),
   fun ls => [rsO hd tl zs (lget ls 0) e T2 f sz N D E, .cells ⟨hd x0 ++ rowW dk (lget ls 2) m sz :: tl x0⟩ T', rowD dk (lget ls 2) (esG f m B) T2 m sz], 1, .normal,
   fun ls => [rowV (rrL (lget ls 3)) (N + 1) zs],
   fun ls => [unb, unb, unb], fun ls => [rsO hd tl zs (lget ls 3) e T2 f sz (N + 1) (updF D N (m, B)) (updF E N x0)]⟩
/-- To nothing. -/
def sqApRS0 {τ : Type} {σ : Type} (hd tl : σ → List Value) (zs : Nat) (E : Nat → σ) (x0 : σ) (dk : DK) (t ty e T2 : TypeId) (consts : Array Bool) (f : τ → List Value) (sz : Nat) (m : Nat) (B : Nat → τ) (c : Nat) (T' : TypeId) : Spc :=
  ⟨fun ls => .op (.blt .append #[t, t] ty consts #[.slice none 0 0, .slice (some ⟨(lget ls 0).n, 0, none⟩) 1 c]),
   fun ls => [.cells ⟨hd x0 ++ rowW dk (lget ls 1) m sz :: tl x0⟩ T', rowD dk (lget ls 1) (esG f m B) T2 m sz], 1, .normal,
   fun ls => [rowV (rrL (lget ls 2)) 1 zs],
   fun ls => [unb, unb], fun ls => [rsO hd tl zs (lget ls 2) e T2 f sz 1 (fun _ => (m, B)) (fun _ => x0)]⟩
section
variable {P : Program} {M : Nat → Prop} {B0 : Nat} {S : World → Prop} {t ty e T2 : TypeId} {i : TypeInfo} {z : Value} {bytes : Nat}
theorem sqApRS_ok {σ : Type} {hd tl : σ → List Value} {zs : Nat} {E : Nat → σ} {x0 : σ} (hz : ∀ x, (hd x).length + 1 + (tl x).length = zs) (hh1 : ∀ x, ∀ u ∈ hd x, u.oneCell' = true) (hh2 : ∀ x, ∀ u ∈ tl x, u.oneCell' = true) (R : RowT P t e i z zs bytes) (consts : Array Bool) (dk : DK) {τ : Type} {f : τ → List Value} {sz N : Nat} {D : Nat → Nat × (Nat → τ)} {m : Nat} {B : Nat → τ} {c : Nat} {T' : TypeId}
    (h0 : decide (0 < m) = true) (hm : decide (m ≤ 1000000) = true) (hN : decide (N ≤ 1000000) = true) (hb : bytes ≤ 1000000) : SpcG P M B0 S (sqApRS hd tl zs E x0 dk t ty e T2 consts f sz N D m B c T') := by
  have h0 := of_decide_eq_true h0
  have hm := of_decide_eq_true hm
  have hN := of_decide_eq_true hN
  intro ls w hlen hsat htb hS
  match ls, hlen with
  | [r, tm, mb], _ =>
    have hg : w.heap[(rrL r).n]? = some (rowO (rrL r) (esG (rsC hd tl r sz D E) N fun i => i) e N zs) := hsat.hold 0 0 _ r _ _ rfl rfl own_rs0
    have htm : w.heap[tm.n]? = some (.cells ⟨hd x0 ++ rowW dk mb m sz :: tl x0⟩ T') := hsat.hold 1 0 _ tm _ _ rfl rfl rfl
    have hmb : w.heap[mb.n]? = some (rowD dk mb (esG f m B) T2 m sz) := hsat.hold 2 0 _ mb _ _ rfl rfl rfl
    have hmem : ∀ i, i < N → (D i).1 ≠ 0 → w.heap[(rrM r i).n]? = some (rowO (rrM r i) (esG f (D i).1 (D i).2) T2 (D i).1 sz) := fun i hi h => hsat.hold 0 (i + 1) _ r _ _ rfl rfl (own_rsS hi h)
    have a2 : (rrL r).n ≠ mb.n := fun k => by
      have := (hsat.inj 0 2 0 0 _ _ r mb mb.n _ _ rfl rfl (by rw [← k]; exact own_rs0) rfl rfl rfl).1
      omega
    have a3 : ∀ i, i < N → (D i).1 ≠ 0 → (rrM r i).n ≠ mb.n := fun i hi h k => by
      have := (hsat.inj 0 2 (i + 1) 0 _ _ r mb mb.n _ _ rfl rfl (by rw [← k]; exact own_rsS hi h) rfl rfl rfl).1
      omega
    have a4 : ∀ i, i < N → (D i).1 ≠ 0 → (rrM r i).n ≠ (rrL r).n := fun i hi h k => by
      have := (hsat.inj 0 0 (i + 1) 0 _ _ r r (rrL r).n _ _ rfl rfl (by rw [← k]; exact own_rsS hi h) rfl rfl own_rs0).2
      omega
    have a5 : ∀ i j, i < N → j < N → (D i).1 ≠ 0 → (D j).1 ≠ 0 → (rrM r i).n = (rrM r j).n → i = j := fun i j hi hj h h' k => by
      have := (hsat.inj 0 0 (i + 1) (j + 1) _ _ r r (rrM r j).n _ _ rfl rfl (by rw [← k]; exact own_rsS hi h) rfl rfl (own_rsS hj h')).2
      omega
    have lt : ∀ {x : Nat} {p : Obj}, w.heap[x]? = some p → x < w.heap.size := fun h => (Array.getElem?_eq_some_iff.1 h).1
    obtain ⟨v', w', l', hr, hv, hh, hwhere, hgrow⟩ := app_core (ty := ty) .row R N (esG (rsC hd tl r sz D E) N fun i => i) 1 c (some ⟨tm.n, 0, none⟩) (hd x0 ++ rowW dk mb m sz :: tl x0) w (rrL r) hg (esG_len (rsC_len hz r sz D E)) (by rw [List.length_append, List.length_cons, ← hz x0]; omega) (fun u hu => by
        rcases List.mem_append.1 hu with q | q
        · exact hh1 x0 u q
        · rcases List.mem_cons.1 q with rfl | q
          · rfl
          · exact hh2 x0 u q) (by simp only [maxLen]; omega) (Nat.le_trans (Nat.mul_le_mul (show N + 1 ≤ 1001000 by omega) hb) (by decide)) (fun _ => ⟨_, rfl, fun j u hj => by rw [add_off, cell_of_cells htm]; simpa using hj⟩)
    have blk : ∀ x, x < w.heap.size → x ≠ (rrL r).n → w'.heap[x]? = w.heap[x]? := fun x hx hne => hgrow.block x hx (fun e => hne (by injection e))
    have nx := rs_next (e := e) dk (w := w) (w' := w') (by omega) (by simp only [maxLen]; omega) hmem a5 hmb a3 hh
      (fun i hi h => hwhere.elim (fun q => by rw [q]; exact a4 i hi h) (fun q => by have := lt (hmem i hi h); omega))
      (hwhere.elim (fun q => by rw [q]; exact a2.symm) (fun q => by have := lt hmb; omega))
      (fun i hi h => blk _ (lt (hmem i hi h)) (a4 i hi h)) (blk _ (lt hmb) a2.symm)
    have at3 : ∀ (j k : Nat) (o : Obj) (l : L1) (x : Nat) (p : Obj), ([unb, unb, unb] ++ [rsO hd tl zs (rrPut r l' N (rrIn dk mb m sz)) e T2 f sz (N + 1) (updF D N (m, B)) (updF E N x0)])[j]? = some o → ([r, tm, mb] ++ [rrPut r l' N (rrIn dk mb m sz)])[j]? = some l → own o l k = some (x, p) →
        j = 3 ∧ o = rsO hd tl zs (rrPut r l' N (rrIn dk mb m sz)) e T2 f sz (N + 1) (updF D N (m, B)) (updF E N x0) ∧ l = rrPut r l' N (rrIn dk mb m sz) := fun j k o l x p hj hl ho => by
      match j, hj, hl with
      | 0, hj, _ => obtain rfl : unb = o := by simpa using hj
                    cases ho
      | 1, hj, _ => obtain rfl : unb = o := by simpa using hj
                    cases ho
      | 2, hj, _ => obtain rfl : unb = o := by simpa using hj
                    cases ho
      | 3, hj, hl => exact ⟨rfl, by simpa using hj.symm, by simpa using hl.symm⟩
      | q + 4, hj, _ => simp at hj
    have tg : touchF [r, tm, mb] [rsO hd tl zs r e T2 f sz N D E, .cells ⟨hd x0 ++ rowW dk mb m sz :: tl x0⟩ T', rowD dk mb (esG f m B) T2 m sz] (rrL r).n := ⟨0, 0, _, r, _, rfl, rfl, own_rs0⟩
    refine ⟨v', w', .inl (run_blt_append hr), ⟨[rrPut r l' N (rrIn dk mb m sz)], rfl, ?_, ⟨hgrow.os, hgrow.tape, hgrow.output, hgrow.size, fun x hx ht => blk x hx (fun q => ht (q ▸ tg))⟩, fun _ => ⟨⟨fun j k o l x p hj hl ho => ?_, fun j j' k k' o o' l l1 x p p' hj hl ho hj' hl1 ho' => ?_⟩, fun j k o l x p hj hl ho => ?_⟩⟩⟩
    · rw [hv]; rfl
    · obtain ⟨rfl, rfl, rfl⟩ := at3 j k o l x p hj hl ho
      exact nx.1 k x p ho
    · obtain ⟨rfl, rfl, rfl⟩ := at3 j k o l x p hj hl ho
      obtain ⟨rfl, rfl, rfl⟩ := at3 j' k' o' l1 x p' hj' hl1 ho'
      exact ⟨rfl, nx.2.1 k k' x p p' ho ho'⟩
    · obtain ⟨rfl, rfl, rfl⟩ := at3 j k o l x p hj hl ho
      rcases nx.2.2 k x p ho with rfl | rfl | ⟨i, hi, h, rfl⟩
      · rcases hwhere with q | q
        · exact .inr (q ▸ tg)
        · exact .inl q
      · exact .inr ⟨2, 0, _, mb, _, rfl, rfl, rfl⟩
      · exact .inr ⟨0, i + 1, _, r, _, rfl, rfl, own_rsS hi h⟩
theorem sqApRS0_ok {σ : Type} {hd tl : σ → List Value} {zs : Nat} {E : Nat → σ} {x0 : σ} (hz : ∀ x, (hd x).length + 1 + (tl x).length = zs) (hh1 : ∀ x, ∀ u ∈ hd x, u.oneCell' = true) (hh2 : ∀ x, ∀ u ∈ tl x, u.oneCell' = true) (R : RowT P t e i z zs bytes) (consts : Array Bool) (dk : DK) {τ : Type} {f : τ → List Value} {sz : Nat} {m : Nat} {B : Nat → τ} {c : Nat} {T' : TypeId}
    (h0 : decide (0 < m) = true) (hm : decide (m ≤ 1000000) = true) (hb : bytes ≤ 1000000) : SpcG P M B0 S (sqApRS0 hd tl zs E x0 dk t ty e T2 consts f sz m B c T') := by
  have h0 := of_decide_eq_true h0
  have hm := of_decide_eq_true hm
  intro ls w hlen hsat htb hS
  match ls, hlen with
  | [tm, mb], _ =>
    have htm : w.heap[tm.n]? = some (.cells ⟨hd x0 ++ rowW dk mb m sz :: tl x0⟩ T') := hsat.hold 0 0 _ tm _ _ rfl rfl rfl
    have hmb : w.heap[mb.n]? = some (rowD dk mb (esG f m B) T2 m sz) := hsat.hold 1 0 _ mb _ _ rfl rfl rfl
    have lt : ∀ {x : Nat} {p : Obj}, w.heap[x]? = some p → x < w.heap.size := fun h => (Array.getElem?_eq_some_iff.1 h).1
    obtain ⟨v', w', hr, hown, hgrow, hnil⟩ := run_append_own (P := P) w w.heap.size t ty e i z zs bytes R.ht R.hi R.hz R.hsize R.hby R.hzs R.hsz (.slice none 0 0) 0 [] (World.ownsRow_nil w _ e zs) ⟨tm.n, 0, none⟩ 1 c (hd x0 ++ rowW dk mb m sz :: tl x0) (by rw [List.length_append, List.length_cons, ← hz x0]; omega)
      (fun j u hj => by rw [add_off, cell_of_cells htm]; simpa using hj) (fun u hu => by
        rcases List.mem_append.1 hu with q | q
        · exact hh1 x0 u q
        · rcases List.mem_cons.1 q with rfl | q
          · rfl
          · exact hh2 x0 u q) (by simp only [maxLen]; omega) (Nat.le_trans (Nat.mul_le_mul (show 0 + 1 ≤ 1 by omega) hb) (by decide)) (Nat.le_refl _)
    rw [Nat.zero_add, List.nil_append] at hown
    obtain ⟨l', hv, hh, hob, hbase⟩ := owned_row R.hsz hown (fun k => by have := (hnil.1 k).2; omega)
    have blk : ∀ x, x < w.heap.size → w'.heap[x]? = w.heap[x]? := fun x hx => hgrow.block x hx (by simp [Value.ownBlock])
    let r : L1 := ⟨0, fun _ => undef⟩
    have nx := rs_next (e := e) (T2 := T2) (f := f) (sz := sz) (N := 0) (r := r) (D := fun _ => (m, B)) (B := B) (hd := hd) (tl := tl) (zs := zs) (E := fun _ => x0) (x0 := x0) dk (w := w) (w' := w') (by omega) (by simp only [maxLen]; omega) (fun i hi => by omega) (fun i j hi => by omega) hmb (fun i hi => by omega) hh
      (fun i hi => by omega) (by have := lt hmb; omega) (fun i hi => by omega) (blk _ (lt hmb))
    have eD : updF (fun _ => (m, B)) 0 (m, B) = (fun _ => (m, B) : Nat → Nat × (Nat → τ)) := by funext k; unfold updF; split <;> rfl
    have eE : updF (fun _ => x0) 0 x0 = (fun _ => x0 : Nat → σ) := by funext k; unfold updF; split <;> rfl
    rw [eD, eE] at nx
    have at3 : ∀ (j k : Nat) (o : Obj) (l : L1) (x : Nat) (p : Obj), ([unb, unb] ++ [rsO hd tl zs (rrPut r l' 0 (rrIn dk mb m sz)) e T2 f sz (0 + 1) (fun _ => (m, B)) (fun _ => x0)])[j]? = some o → ([tm, mb] ++ [rrPut r l' 0 (rrIn dk mb m sz)])[j]? = some l → own o l k = some (x, p) →
        j = 2 ∧ o = rsO hd tl zs (rrPut r l' 0 (rrIn dk mb m sz)) e T2 f sz (0 + 1) (fun _ => (m, B)) (fun _ => x0) ∧ l = rrPut r l' 0 (rrIn dk mb m sz) := fun j k o l x p hj hl ho => by
      match j, hj, hl with
      | 0, hj, _ => obtain rfl : unb = o := by simpa using hj
                    cases ho
      | 1, hj, _ => obtain rfl : unb = o := by simpa using hj
                    cases ho
      | 2, hj, hl => exact ⟨rfl, by simpa using hj.symm, by simpa using hl.symm⟩
      | q + 3, hj, _ => simp at hj
    refine ⟨v', w', .inl (run_blt_append hr), ⟨[rrPut r l' 0 (rrIn dk mb m sz)], rfl, ?_, ⟨hgrow.os, hgrow.tape, hgrow.output, hgrow.size, fun x hx ht => blk x hx⟩, fun _ => ⟨⟨fun j k o l x p hj hl ho => ?_, fun j j' k k' o o' l l1 x p p' hj hl ho hj' hl1 ho' => ?_⟩, fun j k o l x p hj hl ho => ?_⟩⟩⟩
    · rw [hv]; rfl
    · obtain ⟨rfl, rfl, rfl⟩ := at3 j k o l x p hj hl ho
      exact nx.1 k x p ho
    · obtain ⟨rfl, rfl, rfl⟩ := at3 j k o l x p hj hl ho
      obtain ⟨rfl, rfl, rfl⟩ := at3 j' k' o' l1 x p' hj' hl1 ho'
      exact ⟨rfl, nx.2.1 k k' x p p' ho ho'⟩
    · obtain ⟨rfl, rfl, rfl⟩ := at3 j k o l x p hj hl ho
      rcases nx.2.2 k x p ho with rfl | rfl | ⟨i, hi, h, rfl⟩
      · exact .inl hbase
      · exact .inr ⟨1, 0, _, mb, _, rfl, rfl, rfl⟩
      · omega
end
end Go.Proofs.YtnlnldpolaodbaaDoor
