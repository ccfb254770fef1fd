/-
  Rows that are cut: a row's first elements with no room behind them, what lies behind a place, one put behind the other; copy of nothing; make of a row of a natural number of elements. Nothing of the program stands here.
-/
import Derived.Test.YtnlnldpolaodbaaDoorRxN
namespace Go.Proofs.YtnlnldpolaodbaaDoor
open Go.RowKit
set_option linter.unusedVariables false
set_option linter.unusedSimpArgs false
inductive CK where
  | row
  | cap
def padC (ck : CK) (l : L1) (n sz : Nat) : List Value := match ck with
  | .row => padL l n sz
  | .cap => padR l
def capC (ck : CK) (l : L1) (n sz : Nat) : Nat := match ck with
  | .row => n + (padL l n sz).length / sz
  | .cap => n
/-- A row's block, with room behind it (row), or with something behind it that isn't the slice's (cap). -/
def rowC (ck : CK) (l : L1) (es : List Value) (T : TypeId) (n sz : Nat) : Obj := .cells ⟨es ++ padC ck l n sz⟩ T
def rowCV (ck : CK) (l : L1) (n sz : Nat) : Value := .slice (some ⟨l.n, 0, none⟩) n (capC ck l n sz)
theorem le_capC (ck : CK) (l : L1) (n sz : Nat) : n ≤ capC ck l n sz := by
  cases ck
  · exact Nat.le_add_right _ _
  · exact Nat.le_refl _
theorem sat_unb1 {w : World} {r l : L1} {o : Obj} (h : w.heap[l.n]? = some o) : SatL [r, l] [unb, o] w := by
  refine ⟨?_, ?_⟩
  · intro j o' x hj hreal hx
    match j, hj, hx with
    | 0, hj, hx =>
      obtain rfl : unb = o' := by simpa using hj
      exact absurd hreal (by decide)
    | 1, hj, hx =>
      obtain rfl : o = o' := by simpa using hj
      obtain rfl : l = x := by simpa using hx
      exact h
    | k + 2, hj, _ => simp at hj
  · intro a b o1 p x y ha har hb hbr hx hy hxy
    match a, b, ha, hb, hx, hy with
    | 0, _, ha, _, _, _ =>
      obtain rfl : unb = o1 := by simpa using ha
      exact absurd har (by decide)
    | _, 0, _, hb, _, _ =>
      obtain rfl : unb = p := by simpa using hb
      exact absurd hbr (by decide)
    | 1, 1, _, _, _, _ => rfl
    | k + 2, _, _, _, hx, _ => simp at hx
    | _, k + 2, _, _, _, hy => simp at hy
theorem sat_unb2 {w : World} {r k l : L1} {o p : Obj} (hk : w.heap[k.n]? = some p) (h : w.heap[l.n]? = some o) (hne : k.n ≠ l.n) : SatL [r, k, l] [unb, p, o] w := by
  refine ⟨?_, ?_⟩
  · intro j o' x hj hreal hx
    match j, hj, hx with
    | 0, hj, hx =>
      obtain rfl : unb = o' := by simpa using hj
      exact absurd hreal (by decide)
    | 1, hj, hx =>
      obtain rfl : p = o' := by simpa using hj
      obtain rfl : k = x := by simpa using hx
      exact hk
    | 2, hj, hx =>
      obtain rfl : o = o' := by simpa using hj
      obtain rfl : l = x := by simpa using hx
      exact h
    | k + 3, hj, _ => simp at hj
  · intro a b o1 p1 x y ha har hb hbr hx hy hxy
    match a, b, ha, hb, hx, hy with
    | 0, _, ha, _, _, _ =>
      obtain rfl : unb = o1 := by simpa using ha
      exact absurd har (by decide)
    | _, 0, _, hb, _, _ =>
      obtain rfl : unb = p1 := by simpa using hb
      exact absurd hbr (by decide)
    | 1, 1, _, _, _, _ => rfl
    | 1, 2, _, _, hx, hy =>
      obtain rfl : k = x := by simpa using hx
      obtain rfl : l = y := by simpa using hy
      exact absurd hxy hne
    | 2, 1, _, _, hx, hy =>
      obtain rfl : l = x := by simpa using hx
      obtain rfl : k = y := by simpa using hy
      exact absurd hxy.symm hne
    | 2, 2, _, _, _, _ => rfl
    | k + 3, _, _, _, hx, _ => simp at hx
    | _, k + 3, _, _, _, hy => simp at hy
/-- Told with no block, or one, that stays as it is. -/
theorem spc_same {P : Program} {S : World → Prop} {q : L1 → Q} {o : L1 → Obj} {v : L1 → Value} (h : ∀ (l : L1) (w : World), w.heap[l.n]? = some (o l) → real (o l) = true → (q l).sem.run P w = .ok (.value (v l)) w) (hr : ∀ l, real (o l) = true) :
    SpcOk P S ⟨fun ls => .op (q (lget ls 0)), fun ls => [o (lget ls 0)], 0, .normal, fun ls => [v (lget ls 0)], fun ls => [o (lget ls 0)], fun _ => []⟩ := by
  intro ls w hlen hsat hS
  match ls, hlen with
  | [l], _ =>
    have hg : w.heap[l.n]? = some (o l) := hsat.holds 0 _ l rfl (hr l) rfl
    refine ⟨v l, w, .inl (h l w hg (hr l)), [], rfl, rfl, ?_, ?_, ⟨rfl, rfl, rfl, Nat.le_refl _, fun _ _ _ => rfl⟩⟩
    · exact hsat
    · intro j o x hj hreal hx
      simp at hj
section
variable {P : Program} {S : World → Prop} {T e : TypeId} {sz : Nat}
theorem add0_off (g j : Nat) : (⟨g, 0, none⟩ : Addr).add j = ⟨g, 0 + j, none⟩ := by rw [add_off, Nat.zero_add]
/-- A row's first elements, with no room. -/
def slLow (ck : CK) (T : TypeId) (N sz : Nat) (x : Int) : Q → Option (Value × (L1 → Obl))
  | .slc T' (.slice (some ⟨b, m, none⟩) n c) none (some i) (some j) => some (.slice (some ⟨b, m, none⟩) x.toNat x.toNat, fun l => [(.n T', .n T), (.v (.slice (some ⟨b, m, none⟩) n c), .v (rowCV ck l N sz)), (.v i, .v (.int .i64 x)), (.v j, .v (.int .i64 x))])
  | _ => none
theorem slLow_ok (ck : CK) {N : Nat} (hT : P.underlying T = some (.slice e)) (hs : ∀ w, (sizeOf e).run P w = .ok sz w) {x : Int} (h : inR x (N + 1) = true) :
    ∀ q v g l, slLow ck T N sz x q = some (v, g) → okL (g l) → ∀ w, q.sem.run P w = .ok (.value v) w := by
  intro q v g l hq ho w
  obtain ⟨h0, h1⟩ := inR_iff.1 h
  unfold slLow at hq
  split at hq
  · simp only [Option.some.injEq, Prod.mk.injEq] at hq
    obtain ⟨rfl, rfl⟩ := hq
    obtain ⟨e1, ho⟩ := okL_cons.1 ho
    obtain ⟨e2, ho⟩ := okL_cons.1 ho
    obtain ⟨e3, ho⟩ := okL_cons.1 ho
    obtain ⟨e4, ho⟩ := okL_cons.1 ho
    simp only [Tok.n.injEq, Tok.v.injEq, rowCV, Value.slice.injEq, Option.some.injEq, Addr.mk.injEq, and_true] at e1 e2 e3 e4
    obtain ⟨⟨rfl, rfl⟩, hn, rfl⟩ := e2
    have hn := hn.symm
    subst hn
    subst e1 e3 e4
    have hc := le_capC ck l N sz
    obtain ⟨k, rfl⟩ := Int.eq_ofNat_of_zero_le h0
    have hle : k ≤ capC ck l N sz := by omega
    have hk : ¬ (capC ck l N sz < k) := by omega
    by_cases hz : k = 0
    · subst hz
      simp [Q.sem, Instr.sliceAt, Instr.slice, Instr.sliceBounds, Instr.sliceBound, run_underlying hT, hs, asIntOf, Sem.run_bind, Result.andThen_ok, add_off]
    · simp [Q.sem, Instr.sliceAt, Instr.slice, Instr.sliceBounds, Instr.sliceBound, run_underlying hT, hs, asIntOf, hk, hle, Sem.run_bind, Result.andThen_ok, hz, add_off]
  · cases hq
/-- What lies behind a place within a row. -/
def slTail (ck : CK) (T : TypeId) (N sz : Nat) (x : Int) : Q → Option (Value × (L1 → Obl))
  | .slc T' (.slice (some ⟨b, m, none⟩) n c) (some i) none none => some (.slice (some ⟨b, x.toNat * sz, none⟩) (n - x.toNat) (n - x.toNat + (c - n)), fun l => [(.n T', .n T), (.v (.slice (some ⟨b, m, none⟩) n c), .v (rowCV ck l N sz)), (.v i, .v (.int .i64 x))])
  | _ => none
theorem slTail_ok (ck : CK) {N : Nat} (hT : P.underlying T = some (.slice e)) (hs : ∀ w, (sizeOf e).run P w = .ok sz w) {x : Int} (h : inR x N = true) :
    ∀ q v g l, slTail ck T N sz x q = some (v, g) → okL (g l) → ∀ w, q.sem.run P w = .ok (.value v) w := by
  intro q v g l hq ho w
  obtain ⟨h0, h1⟩ := inR_iff.1 h
  unfold slTail at hq
  split at hq
  · simp only [Option.some.injEq, Prod.mk.injEq] at hq
    obtain ⟨rfl, rfl⟩ := hq
    obtain ⟨e1, ho⟩ := okL_cons.1 ho
    obtain ⟨e2, ho⟩ := okL_cons.1 ho
    obtain ⟨e3, ho⟩ := okL_cons.1 ho
    simp only [Tok.n.injEq, Tok.v.injEq, rowCV, Value.slice.injEq, Option.some.injEq, Addr.mk.injEq, and_true] at e1 e2 e3
    obtain ⟨⟨rfl, rfl⟩, hn, rfl⟩ := e2
    have hn := hn.symm
    subst hn
    subst e1 e3
    have hc := le_capC ck l N sz
    have hne : ¬ (capC ck l N sz = x.toNat) := by omega
    have hlt : ¬ ((N : Int) < x) := by omega
    have hcc : N - x.toNat + (capC ck l N sz - N) = capC ck l N sz - x.toNat := by omega
    simp [Q.sem, Instr.sliceAt, Instr.slice, Instr.sliceBounds, Instr.sliceBound, run_underlying hT, hs, asIntOf, hne, hlt, h0, Sem.run_bind, Result.andThen_ok, add_off, hcc]
  · cases hq
/-- What lies behind a row's end. -/
def slEnd (ck : CK) (T : TypeId) (N sz : Nat) (x : Int) : Q → Option (Value × (L1 → Obl))
  | .slc T' (.slice (some ⟨b, m, none⟩) n c) (some i) none none => some (.slice (some ⟨b, if c = n then 0 else n * sz, none⟩) 0 (c - n), fun l => [(.n T', .n T), (.v (.slice (some ⟨b, m, none⟩) n c), .v (rowCV ck l N sz)), (.v i, .v (.int .i64 x))])
  | _ => none
theorem slEnd_ok (ck : CK) {N : Nat} (hT : P.underlying T = some (.slice e)) (hs : ∀ w, (sizeOf e).run P w = .ok sz w) {x : Int} (h : inR x (N + 1) = true) (hx : inR x N = false) :
    ∀ q v g l, slEnd ck T N sz x q = some (v, g) → okL (g l) → ∀ w, q.sem.run P w = .ok (.value v) w := by
  intro q v g l hq ho w
  obtain ⟨h0, h1⟩ := inR_iff.1 h
  have hN : x.toNat = N := by
    have : ¬ (0 ≤ x ∧ x < N) := fun h => by rw [inR_iff.2 h] at hx; cases hx
    omega
  unfold slEnd at hq
  split at hq
  · simp only [Option.some.injEq, Prod.mk.injEq] at hq
    obtain ⟨rfl, rfl⟩ := hq
    obtain ⟨e1, ho⟩ := okL_cons.1 ho
    obtain ⟨e2, ho⟩ := okL_cons.1 ho
    obtain ⟨e3, ho⟩ := okL_cons.1 ho
    simp only [Tok.n.injEq, Tok.v.injEq, rowCV, Value.slice.injEq, Option.some.injEq, Addr.mk.injEq, and_true] at e1 e2 e3
    obtain ⟨⟨rfl, rfl⟩, hn, rfl⟩ := e2
    have hn := hn.symm
    subst hn
    subst e1 e3
    have hlt : ¬ ((N : Int) < x) := by omega
    by_cases hne : capC ck l N sz = N
    · simp [Q.sem, Instr.sliceAt, Instr.slice, Instr.sliceBounds, Instr.sliceBound, run_underlying hT, hs, asIntOf, hne, hlt, h0, hN, Sem.run_bind, Result.andThen_ok, add_off]
    · simp [Q.sem, Instr.sliceAt, Instr.slice, Instr.sliceBounds, Instr.sliceBound, run_underlying hT, hs, asIntOf, hne, hlt, h0, hN, Sem.run_bind, Result.andThen_ok, add_off]
  · cases hq
end
section
variable {P : Program} {t ty e : TypeId} {i : TypeInfo} {z : Value} {sz bytes : Nat}
/-- append that moves. -/
theorem app_moves (R : RowT P t e i z sz bytes) (w : World) (g p : Nat) (xs : List Value) (hx : xs.length = p * sz) (holds : ∀ j u, xs[j]? = some u → w.cell? ((⟨g, 0, none⟩ : Addr).add j) = some u)
    (ad : Addr) (m c : Nat) (news : List Value) (hl : news.length = m * sz) (hnews : ∀ j u, news[j]? = some u → w.cell? (ad.add j) = some u) (hm : 0 < m) (h63 : p + m ≤ maxLen) (hb : (p + m) * bytes ≤ 140737488355328) :
    ∃ v' w' l', (Builtin.append_ #[t, t] ty #[.slice (some ⟨g, 0, none⟩) p p, .slice (some ad) m c]).run P w = .ok v' w' ∧ v' = rowV l' (p + m) sz ∧ w'.heap[l'.n]? = some (rowO l' (xs ++ news) e (p + m) sz) ∧ l'.n = w.heap.size ∧ w.grownBy w' none := by
  have hr := run_append_grow (P := P) w t ty e i z R.ht R.hi R.hz ⟨g, 0, none⟩ p p xs (by rw [R.hsize]; exact hx) holds ad m c news (by rw [R.hsize]; exact hl) hnews (by omega) (by simp only [maxLen] at h63; omega) (growslice_fits (by simp only [maxLen] at h63; omega) (by rw [R.hby]; exact hb))
  have hge := grownCap_ge w (p + m) p e
  have hcm : grownCap w (p + m) p e ≤ maxLen := grownCap_le_maxLen w (p + m) p e h63
  have hlen : (xs ++ news).length = (p + m) * sz := by rw [List.length_append, hx, hl, Nat.add_mul]
  have hown : (w.drew.alloc (.cells (xs.toArray ++ news.toArray ++ Builtin.zeroCells z.cells (grownCap w (p + m) p e - (p + m))) e)).ownsRow w.heap.size e sz (.slice (some ⟨w.heap.size, 0, none⟩) (p + m) (grownCap w (p + m) p e)) (p + m) (xs ++ news) := by
    refine ⟨hlen, .inr ⟨w.heap.size, _, _, rfl, Nat.le_refl _, heap_alloc_new w.drew _, hge, hcm, ?_, ?_⟩⟩
    · simp only [Array.size_append, List.size_toArray, size_zeroCells, R.hzs, hx, hl, ← Nat.add_mul]
      congr 1
      omega
    · simp only [Array.toList_append, List.append_assoc]
      rw [← List.append_assoc, ← hlen]
      exact List.take_left
  obtain ⟨l', hv, hh, hob, _⟩ := owned_row R.hsz hown (by simp)
  have hob' : some w.heap.size = some l'.n := hob
  injection hob' with hob'
  exact ⟨_, _, l', hr, hv, hh, hob'.symm, ⟨rfl, rfl, rfl, by simp, fun k hk _ => heap_alloc_old w.drew _ (show k < w.drew.heap.size from hk)⟩⟩
theorem rowC_cell {ck : CK} {w : World} {l : L1} {α : Type} {f : α → List Value} {N : Nat} {A : Nat → α} {T : TypeId} (hg : w.heap[l.n]? = some (rowC ck l (esG f N A) T N sz)) (j : Nat) (u : Value) (hj : (esG f N A)[j]? = some u) : w.cell? ((⟨l.n, 0, none⟩ : Addr).add j) = some u := by
  have hj' := (List.getElem?_eq_some_iff.1 hj).1
  rw [add_off, cell_of_cells hg, List.getElem?_toArray, List.getElem?_append_left hj']
  exact hj
theorem esG_take {α : Type} {f : α → List Value} {A : Nat → α} {N p : Nat} (h : p ≤ N) {j : Nat} {u : Value} (hj : (esG f p A)[j]? = some u) : (esG f N A)[j]? = some u := by
  have e1 : N = p + (N - p) := by omega
  rw [e1, esG_split, List.getElem?_append_left (List.getElem?_eq_some_iff.1 hj).1]
  exact hj
theorem esG_from {α : Type} {f : α → List Value} {A : Nat → α} {N q : Nat} (hf : ∀ x, (f x).length = sz) (h : q ≤ N) {j : Nat} {u : Value} (hj : (esG f (N - q) (fun k => A (q + k)))[j]? = some u) : (esG f N A)[q * sz + j]? = some u := by
  have e1 : N = q + (N - q) := by omega
  rw [e1, esG_split, List.getElem?_append_right (by rw [esG_len hf]; omega), esG_len hf, Nat.add_sub_cancel_left]
  exact hj
/-- A row's first elements, and behind them those from a place on. -/
theorem sqCut_ok {S : World → Prop} (R : RowT P t e i z sz bytes) (consts : Array Bool) (ck : CK) {α : Type} {f : α → List Value} {N p q : Nat} {A A1 : Nat → α} (hf : ∀ x, (f x).length = sz)
    (hp : decide (p ≤ N) = true) (hq : decide (q < N) = true) (hN : decide (N ≤ 1000000) = true) (hb : bytes ≤ 1000000) (he : catF A p (fun k => A (q + k)) = A1) :
    SpcOk P S ⟨fun ls => .op (.blt .append #[t, t] ty consts #[.slice (some ⟨(lget ls 0).n, 0, none⟩) p p, .slice (some ⟨(lget ls 0).n, q * sz, none⟩) (N - q) (N - q + (capC ck (lget ls 0) N sz - N))]),
      fun ls => [rowC ck (lget ls 0) (esG f N A) e N sz], 1, .normal, fun ls => [rowV (lget ls 1) (p + (N - q)) sz], fun _ => [unb], fun ls => [rowO (lget ls 1) (esG f (p + (N - q)) A1) e (p + (N - q)) sz]⟩ := by
  subst he
  have hp := of_decide_eq_true hp
  have hq := of_decide_eq_true hq
  have hN := of_decide_eq_true hN
  intro ls w hlen hsat hS
  match ls, hlen with
  | [l], _ =>
    have hg : w.heap[l.n]? = some (rowC ck l (esG f N A) e N sz) := hsat.holds 0 _ l rfl rfl rfl
    obtain ⟨v', w', l', hr, hv, hh, hwhere, hgrow⟩ := app_moves (ty := ty) R w l.n p (esG f p A) (esG_len hf) (fun j u hj => rowC_cell hg j u (esG_take hp hj)) ⟨l.n, q * sz, none⟩ (N - q) (N - q + (capC ck l N sz - N)) (esG f (N - q) (fun k => A (q + k))) (esG_len hf)
      (fun j u hj => by
        have := rowC_cell hg _ u (esG_from hf (by omega) hj)
        rw [add_off] at this
        rw [show (⟨l.n, q * sz, none⟩ : Addr).add j = ⟨l.n, q * sz + j, none⟩ by unfold Addr.add; split <;> simp_all]
        exact this) (by omega) (by simp only [maxLen]; omega) (Nat.le_trans (Nat.mul_le_mul (show p + (N - q) ≤ 2000000 by omega) hb) (by decide))
    rw [esG_cat] at hh
    refine ⟨v', w', .inl (run_blt_append hr), [l'], rfl, by rw [hv]; rfl, sat_unb1 hh, ?_, ?_⟩
    · intro j o x hj hreal hx
      match j, hx with
      | 0, hx =>
        obtain rfl : l' = x := by simpa using hx
        exact .inl (by omega)
      | k + 1, hx => simp at hx
    · exact ⟨hgrow.os, hgrow.tape, hgrow.output, hgrow.size, fun k hk ht => hgrow.block k hk (by simp)⟩
/-- A row's first elements, and nothing behind them. -/
theorem sqCutE_ok {S : World → Prop} (R : RowT P t e i z sz bytes) (consts : Array Bool) (ck : CK) {α : Type} {f : α → List Value} {N p : Nat} {A : Nat → α} (hf : ∀ x, (f x).length = sz) (hp : decide (p ≤ N) = true) :
    SpcOk P S ⟨fun ls => .op (.blt .append #[t, t] ty consts #[.slice (some ⟨(lget ls 0).n, 0, none⟩) p p, .slice (some ⟨(lget ls 0).n, if capC ck (lget ls 0) N sz = N then 0 else N * sz, none⟩) 0 (capC ck (lget ls 0) N sz - N)]),
      fun ls => [rowC ck (lget ls 0) (esG f N A) e N sz], 1, .normal, fun ls => [rowCV .cap (lget ls 1) p sz], fun _ => [unb], fun ls => [rowC .cap (lget ls 1) (esG f p A) e p sz]⟩ := by
  have hp := of_decide_eq_true hp
  intro ls w hlen hsat hS
  match ls, hlen with
  | [l], _ =>
    have hg : w.heap[l.n]? = some (rowC ck l (esG f N A) e N sz) := hsat.holds 0 _ l rfl rfl rfl
    have hr : ∀ ad : Addr, (Builtin.append_ #[t, t] ty #[.slice (some ⟨l.n, 0, none⟩) p p, .slice (some ad) 0 (capC ck l N sz - N)]).run P w = .ok (.slice (some ⟨l.n, 0, none⟩) p p) w := fun ad => by
      simp [Builtin.append_, run_underlying R.ht, sizeOf, typeInfo, R.hi, Builtin.lenOf, Builtin.firstCells, storeCells, loadCells, loadCellsFrom]
    have e1 : esG f N A = esG f p A ++ esG f (N - p) (fun k => A (p + k)) := by
      conv => lhs; rw [show N = p + (N - p) by omega, esG_split]
    refine ⟨_, w, .inl (run_blt_append (hr _)), [⟨l.n, padOf (esG f (N - p) (fun k => A (p + k)) ++ padC ck l N sz)⟩], rfl, rfl, sat_unb1 ?_, ?_, ⟨rfl, rfl, rfl, Nat.le_refl _, fun _ _ _ => rfl⟩⟩
    · show w.heap[l.n]? = some (.cells ⟨esG f p A ++ padR ⟨l.n, padOf (esG f (N - p) (fun k => A (p + k)) ++ padC ck l N sz)⟩⟩ e)
      rw [padR_of, ← List.append_assoc, ← e1]
      exact hg
    · intro j o x hj hreal hx
      match j, hx with
      | 0, hx =>
        obtain rfl : (⟨l.n, padOf (esG f (N - p) (fun k => A (p + k)) ++ padC ck l N sz)⟩ : L1) = x := by simpa using hx
        exact .inr ⟨0, _, l, rfl, rfl, rfl, rfl⟩
      | k + 1, hx => simp at hx
/-- append to a row with no room. -/
theorem sqAppCap_ok {S : World → Prop} (R : RowT P t e i z sz bytes) (consts : Array Bool) {α : Type} {f : α → List Value} {N : Nat} {A A1 : Nat → α} {c : Nat} (els : List α) {T' : TypeId} (hf : ∀ x, (f x).length = sz)
    (hN : decide (N ≤ 1000000) = true) (h0 : Nat.ble 1 els.length = true) (hm : Nat.ble els.length 1000 = true) (hb : bytes ≤ 1000000) (he : appL A N els = A1) :
    SpcOk P S ⟨fun ls => .op (.blt .append #[t, t] ty consts #[rowCV .cap (lget ls 0) N sz, .slice (some ⟨(lget ls 1).n, 0, none⟩) els.length c]),
      fun ls => [rowC .cap (lget ls 0) (esG f N A) e N sz, .cells ⟨(els.map f).flatten⟩ T'], 1, .normal, fun ls => [rowV (lget ls 2) (N + els.length) sz],
      fun ls => [unb, .cells ⟨(els.map f).flatten⟩ T'], fun ls => [rowO (lget ls 2) (esG f (N + els.length) A1) e (N + els.length) sz]⟩ := by
  subst he
  have hN := of_decide_eq_true hN
  have h0 := ble_le h0
  have hm := ble_le hm
  intro ls w hlen hsat hS
  match ls, hlen with
  | [r, l], _ =>
    have hgr : w.heap[r.n]? = some (rowC .cap r (esG f N A) e N sz) := hsat.holds 0 _ r rfl rfl rfl
    have hg : w.heap[l.n]? = some (.cells ⟨(els.map f).flatten⟩ T') := hsat.holds 1 _ l rfl rfl rfl
    have hllt := (Array.getElem?_eq_some_iff.1 hg).1
    obtain ⟨v', w', l', hr, hv, hh, hwhere, hgrow⟩ := app_moves (ty := ty) R w r.n N (esG f N A) (esG_len hf) (rowC_cell hgr) ⟨l.n, 0, none⟩ els.length c ((els.map f).flatten) (flat_len hf els)
      (fun j u hj => by rw [add_off, cell_of_cells hg]; simpa using hj) h0 (by simp only [maxLen]; omega) (Nat.le_trans (Nat.mul_le_mul (show N + els.length ≤ 1001000 by omega) hb) (by decide))
    rw [esG_appL] at hh
    have hkept : w'.heap[l.n]? = some (.cells ⟨(els.map f).flatten⟩ T') := by rw [hgrow.block _ hllt (by simp)]; exact hg
    refine ⟨v', w', .inl (run_blt_append hr), [l'], rfl, by rw [hv]; rfl, sat_unb2 hkept hh (by omega), ?_, ?_⟩
    · intro j o x hj hreal hx
      match j, hx with
      | 0, hx =>
        obtain rfl : l' = x := by simpa using hx
        exact .inl (by omega)
      | k + 1, hx => simp at hx
    · exact ⟨hgrow.os, hgrow.tape, hgrow.output, hgrow.size, fun k hk ht => hgrow.block k hk (by simp)⟩
/-- The cells of element k of a row with no room. -/
theorem accC {S : World → Prop} {i : Nat} {α : Type} {f : α → List Value} {N sz : Nat} {A : Nat → α} {k : Nat} (j : Nat) (vs : List Value) (hf : ∀ x, (f x).length = sz) (hk : k < N) (hv : ((f (A k)).drop j).take vs.length = vs) :
    AccOk S (saidG i (fun l => ⟨esG f N A ++ padC .cap l N sz⟩) (0 + k * sz + j) vs) := by
  refine saidG_ok fun l n hn => ?_
  have hlen : vs.length ≤ (f (A k)).length - j := by
    have := congrArg List.length hv
    rw [List.length_take, List.length_drop] at this
    omega
  rw [hf] at hlen
  have hjn : j + n < sz := by omega
  have hlt : k * sz + (j + n) < N * sz := by
    have := Nat.mul_le_mul_right sz (show k + 1 ≤ N by omega)
    rw [Nat.succ_mul] at this
    omega
  show (⟨esG f N A ++ padC .cap l N sz⟩ : Array Value)[0 + k * sz + j + n]? = _
  rw [List.getElem?_toArray, show 0 + k * sz + j + n = k * sz + (j + n) by omega, List.getElem?_append_left (by rw [esG_len hf]; exact hlt), esG_get hf hjn hk]
  conv => rhs; rw [← hv]
  rw [List.getElem?_take_of_lt hn, List.getElem?_drop]
/-- make of so many elements. -/
theorem sqMkN_ok {S : World → Prop} (R : RowT P t e i z sz bytes) {α : Type} {f : α → List Value} {N : Nat} {a0 : α} (hf : ∀ x, (f x).length = sz) (hz : z.cells.toList = f a0) (h : decide (N ≤ 1000000) = true) (hb : bytes ≤ 1000000) : SpcOk P S (sqMk t e sz f N a0) :=
  have h := of_decide_eq_true h
  sqMk_ok R hf hz (by simp only [maxLen]; omega) (Nat.le_trans (Nat.mul_le_mul h hb) (by decide))
/-- copy of nothing to nothing. -/
theorem sqCpNil_ok {S : World → Prop} (R : RowT P t e i z sz bytes) (consts : Array Bool) {T' : TypeId} :
    SpcOk P S ⟨fun ls => .op (.blt .copy #[t, t] ty consts #[.slice (some ⟨(lget ls 0).n, 0, none⟩) 0 0, .slice none 0 0]), fun ls => [.cells #[] T'], 0, .normal, fun _ => [.int .i64 0], fun ls => [.cells #[] T'], fun _ => []⟩ := by
  intro ls w hlen hsat hS
  match ls, hlen with
  | [l], _ =>
    have hr : (Builtin.copy_ #[t, t] ty #[.slice (some ⟨l.n, 0, none⟩) 0 0, .slice none 0 0]).run P w = .ok (goInt 0) w := by
      simp [Builtin.copy_, run_underlying R.ht, Builtin.lenOf, sizeOf, typeInfo, R.hi, Builtin.firstCells, storeCells, loadCells, loadCellsFrom]
    refine ⟨.int .i64 0, w, .inl ?_, [], rfl, rfl, hsat, ?_, ⟨rfl, rfl, rfl, Nat.le_refl _, fun _ _ _ => rfl⟩⟩
    · show (Q.sem (.blt .copy #[t, t] ty consts #[.slice (some ⟨l.n, 0, none⟩) 0 0, .slice none 0 0])).run P w = _
      simp only [Q.sem, builtin, Sem.run_bind, hr, Result.andThen_ok, Sem.run_pure]
      rfl
    · intro j o x hj hreal hx
      simp at hj
/-- A row of the call's own that isn't empty, behind nothing. -/
theorem sqAp0S_ok {S : World → Prop} (R : RowT P t e i z sz bytes) (consts : Array Bool) (ck : CK) {α : Type} {f : α → List Value} {m : Nat} {B : Nat → α} {T' : TypeId} (hf : ∀ x, (f x).length = sz) (h1 : ∀ x, ((f x).all fun u => u.oneCell') = true)
    (h0 : decide (0 < m) = true) (hm : decide (m ≤ 1000000) = true) (hb : bytes ≤ 1000000) :
    SpcOk P S ⟨fun ls => .op (.blt .append #[t, t] ty consts #[.slice none 0 0, rowCV ck (lget ls 0) m sz]), fun ls => [rowC ck (lget ls 0) (esG f m B) T' m sz], 1, .normal,
      fun ls => [rowV (lget ls 1) m sz], fun ls => [rowC ck (lget ls 0) (esG f m B) T' m sz], fun ls => [rowO (lget ls 1) (esG f m B) e m sz]⟩ := by
  have h0 := of_decide_eq_true h0
  have hm := of_decide_eq_true hm
  intro ls w hlen hsat hS
  match ls, hlen with
  | [l], _ =>
    have hg : w.heap[l.n]? = some (rowC ck l (esG f m B) T' m sz) := hsat.holds 0 _ l rfl rfl rfl
    have hllt := (Array.getElem?_eq_some_iff.1 hg).1
    obtain ⟨v', w', hr, hown, hgrow, hnil⟩ := run_append_own (P := P) w w.heap.size t ty e i z sz bytes R.ht R.hi R.hz R.hsize R.hby R.hzs R.hsz (.slice none 0 0) 0 [] (World.ownsRow_nil w _ e sz) ⟨l.n, 0, none⟩ m (capC ck l m sz) (esG f m B) (esG_len hf)
      (rowC_cell hg) (esG_one h1) (by simp only [maxLen]; omega) (Nat.le_trans (Nat.mul_le_mul (show 0 + m ≤ 2000000 by omega) hb) (by decide)) (Nat.le_refl _)
    rw [Nat.zero_add, List.nil_append] at hown
    obtain ⟨l', hv, hh, hob, hbase⟩ := owned_row R.hsz hown (fun k => by have := (hnil.1 k).2; omega)
    have hkept : w'.heap[l.n]? = some (rowC ck l (esG f m B) T' m sz) := by rw [hgrow.block _ hllt (by simp [Value.ownBlock])]; exact hg
    have hne : l.n ≠ l'.n := by omega
    refine ⟨v', w', .inl (run_blt_append hr), [l'], rfl, by rw [hv]; rfl, ⟨?_, ?_⟩, ?_, ?_⟩
    · intro j o x hj hreal hx
      match j, hj, hx with
      | 0, hj, hx =>
        obtain rfl : rowC ck l (esG f m B) T' m sz = o := by simpa [lget] using hj
        obtain rfl : l = x := by simpa using hx
        exact hkept
      | 1, hj, hx =>
        obtain rfl : rowO l' (esG f m B) e m sz = o := by simpa [lget] using hj
        obtain rfl : l' = x := by simpa using hx
        exact hh
      | k + 2, hj, _ => simp at hj
    · intro a b o p x y ha har hb hbr hx hy hxy
      match a, b, hx, hy with
      | 0, 0, _, _ => rfl
      | 1, 1, _, _ => rfl
      | 0, 1, hx, hy =>
        obtain rfl : l = x := by simpa using hx
        obtain rfl : l' = y := by simpa using hy
        exact absurd hxy hne
      | 1, 0, hx, hy =>
        obtain rfl : l' = x := by simpa using hx
        obtain rfl : l = y := by simpa using hy
        exact absurd hxy.symm hne
      | k + 2, _, hx, _ => simp at hx
      | _, k + 2, _, hy => simp at hy
    · intro j o x hj hreal hx
      match j, hx with
      | 0, hx =>
        obtain rfl : l' = x := by simpa using hx
        exact .inl hbase
      | k + 1, hx => simp at hx
    · exact ⟨hgrow.os, hgrow.tape, hgrow.output, hgrow.size, fun k hk _ => hgrow.block k hk (by simp [Value.ownBlock])⟩
theorem padL_of {x k sz : Nat} {p : List Value} (h1 : p.length % sz = 0) (h2 : k + p.length / sz ≤ maxLen) : padL ⟨x, padOf p⟩ k sz = p := by
  unfold padL
  rw [padR_of, if_pos ⟨h1, h2⟩]
theorem esG_one' {α : Type} {f : α → List Value} {sz : Nat} {A : Nat → α} {N x : Nat} (h : x ≤ N) : esG f N A = esG f x A ++ esG f (N - x) (fun k => A (x + k)) := by
  conv => lhs; rw [show N = x + (N - x) by omega, esG_split]
/-- A row's first elements; what lies behind them is room. -/
theorem sqShr_ok {S : World → Prop} (R : RowT P t e i z sz bytes) {α : Type} {f : α → List Value} {N : Nat} {A : Nat → α} (hf : ∀ x, (f x).length = sz) (hs : ∀ w, (sizeOf e).run P w = .ok sz w) {x : Int} (h : inR x (N + 1) = true) (hN : decide (N ≤ 1000000) = true) :
    SpcOk P S ⟨fun ls => .op (.slc t (rowV (lget ls 0) N sz) none (some (.int .i64 x)) none), fun ls => [rowO (lget ls 0) (esG f N A) e N sz], 1, .normal,
      fun ls => [rowV (lget ls 1) x.toNat sz], fun _ => [unb], fun ls => [rowO (lget ls 1) (esG f x.toNat A) e x.toNat sz]⟩ := by
  have hN := of_decide_eq_true hN
  obtain ⟨h0, h1⟩ := inR_iff.1 h
  obtain ⟨k, rfl⟩ := Int.eq_ofNat_of_zero_le h0
  have hk : k ≤ N := by omega
  rw [Int.toNat_natCast]
  intro ls w hlen hsat hS
  match ls, hlen with
  | [l], _ =>
    have hg : w.heap[l.n]? = some (rowO l (esG f N A) e N sz) := hsat.holds 0 _ l rfl rfl rfl
    have hpl : (esG f (N - k) (fun j => A (k + j)) ++ padL l N sz).length = (N - k) * sz + (padL l N sz).length := by rw [List.length_append, esG_len hf]
    have hdiv : (esG f (N - k) (fun j => A (k + j)) ++ padL l N sz).length / sz = (N - k) + (padL l N sz).length / sz := by rw [hpl, Nat.mul_comm, Nat.mul_add_div R.hsz]
    have hmod : (esG f (N - k) (fun j => A (k + j)) ++ padL l N sz).length % sz = 0 := by rw [hpl, Nat.mul_comm, Nat.mul_add_mod, padL_mod]
    have hmax := padL_max l sz (show N ≤ maxLen by simp only [maxLen]; omega)
    have hpad : padL ⟨l.n, padOf (esG f (N - k) (fun j => A (k + j)) ++ padL l N sz)⟩ k sz = esG f (N - k) (fun j => A (k + j)) ++ padL l N sz := by
      exact padL_of hmod (by rw [hdiv]; omega)
    have hv : (.slice (some ⟨l.n, 0, none⟩) k (N + (padL l N sz).length / sz) : Value) = rowV ⟨l.n, padOf (esG f (N - k) (fun j => A (k + j)) ++ padL l N sz)⟩ k sz := by
      unfold rowV
      rw [hpad, hdiv]
      congr 1
      omega
    have hr : (Q.sem (.slc t (rowV l N sz) none (some (.int .i64 (k : Int))) none)).run P w = .ok (.value (.slice (some ⟨l.n, 0, none⟩) k (N + (padL l N sz).length / sz))) w := by
      show (Q.sem (.slc t (.slice (some ⟨l.n, 0, none⟩) N (N + (padL l N sz).length / sz)) none (some (.int .i64 (k : Int))) none)).run P w = _
      generalize (padL l N sz).length / sz = q
      have hlt : ¬ (N + q < k) := by omega
      by_cases hz : N + q = 0
      · obtain rfl : k = 0 := by omega
        simp [Q.sem, Instr.sliceAt, Instr.slice, Instr.sliceBounds, Instr.sliceBound, run_underlying R.ht, hs, asIntOf, Sem.run_bind, Result.andThen_ok, add_off]
      · simp [Q.sem, Instr.sliceAt, Instr.slice, Instr.sliceBounds, Instr.sliceBound, run_underlying R.ht, hs, asIntOf, hlt, Sem.run_bind, Result.andThen_ok, add_off]
    refine ⟨_, w, .inl hr, [⟨l.n, padOf (esG f (N - k) (fun j => A (k + j)) ++ padL l N sz)⟩], rfl, by rw [hv]; rfl, sat_unb1 ?_, ?_, ⟨rfl, rfl, rfl, Nat.le_refl _, fun _ _ _ => rfl⟩⟩
    · show w.heap[l.n]? = some (.cells ⟨esG f k A ++ padL ⟨l.n, padOf (esG f (N - k) (fun j => A (k + j)) ++ padL l N sz)⟩ k sz⟩ e)
      rw [hpad, ← List.append_assoc, ← esG_one' (sz := sz) hk]
      exact hg
    · intro j o x hj hreal hx
      match j, hx with
      | 0, hx =>
        obtain rfl : (⟨l.n, padOf (esG f (N - k) (fun j => A (k + j)) ++ padL l N sz)⟩ : L1) = x := by simpa using hx
        exact .inr ⟨0, _, l, rfl, rfl, rfl, rfl⟩
      | k + 1, hx => simp at hx
theorem padL_nil (x k sz : Nat) : padL ⟨x, padOf []⟩ k sz = [] := by
  unfold padL
  rw [padR_of]
  split <;> rfl
/-- The same, of a slice as long as its block. -/
theorem sqShrP_ok {S : World → Prop} (R : RowT P t e i z sz bytes) {α : Type} {f : α → List Value} {N : Nat} {A : Nat → α} (es : List Value) (hes : es = esG f N A) (hf : ∀ x, (f x).length = sz) (hs : ∀ w, (sizeOf e).run P w = .ok sz w) {x : Int} (h : inR x (N + 1) = true) (hN : decide (N ≤ 1000000) = true) :
    SpcOk P S ⟨fun ls => .op (.slc t (.slice (some ⟨(lget ls 0).n, 0, none⟩) N N) none (some (.int .i64 x)) none), fun ls => [.cells ⟨es⟩ e], 1, .normal,
      fun ls => [rowV (lget ls 1) x.toNat sz], fun _ => [unb], fun ls => [rowO (lget ls 1) (esG f x.toNat A) e x.toNat sz]⟩ := by
  subst hes
  intro ls w hlen hsat hS
  match ls, hlen with
  | [l], _ =>
    have hg : w.heap[l.n]? = some (.cells ⟨esG f N A⟩ e) := hsat.holds 0 _ l rfl rfl rfl
    have hp := padL_nil l.n N sz
    have hg' : w.heap[(⟨l.n, padOf []⟩ : L1).n]? = some (rowO ⟨l.n, padOf []⟩ (esG f N A) e N sz) := by
      unfold rowO
      rw [hp, List.append_nil]
      exact hg
    have hsat' : SatL [⟨l.n, padOf []⟩] [rowO ⟨l.n, padOf []⟩ (esG f N A) e N sz] w := by
      refine ⟨?_, ?_⟩
      · intro j o x hj hreal hx
        match j, hj, hx with
        | 0, hj, hx =>
          obtain rfl : rowO ⟨l.n, padOf []⟩ (esG f N A) e N sz = o := by simpa using hj
          obtain rfl : (⟨l.n, padOf []⟩ : L1) = x := by simpa using hx
          exact hg'
        | k + 1, hj, _ => simp at hj
      · intro a b o p x y ha har hb hbr hx hy hxy
        match a, b, hx, hy with
        | 0, 0, _, _ => rfl
        | k + 1, _, hx, _ => simp at hx
        | _, k + 1, _, hy => simp at hy
    have key := sqShr_ok (S := S) (P := P) R (f := f) (N := N) (A := A) hf hs h hN [⟨l.n, padOf []⟩] w rfl hsat' hS
    obtain ⟨v, w', hr, ms, h1, h2, h3, h4, h5⟩ := key
    have hv : (rowV ⟨l.n, padOf []⟩ N sz) = .slice (some ⟨l.n, 0, none⟩) N N := by
      unfold rowV
      rw [hp]
      simp
    refine ⟨v, w', ?_, ms, h1, h2, ?_, ?_, ?_⟩
    · have hr' := hr
      simp only [lget, List.getD_cons_zero, hv] at hr'
      exact hr'
    · match ms, h1 with
      | [m], _ => exact sat_unb1 (h3.holds 1 _ m rfl rfl rfl)
    · intro j o x hj hreal hx
      match ms, h1, j, hx with
      | [m], _, 0, hx =>
        obtain rfl : m = x := by simpa using hx
        rcases h4 0 _ m rfl rfl rfl with h | ⟨j', o', l', q1, q2, q3, q4⟩
        · exact .inl h
        · match j', q1, q3 with
          | 0, q1, q3 =>
            obtain rfl : (⟨l.n, padOf []⟩ : L1) = l' := by simpa using q3
            exact .inr ⟨0, _, l, rfl, rfl, rfl, q4⟩
          | k + 1, q1, _ => simp at q1
      | [m], _, k + 1, hx => simp at hx
    · exact ⟨h5.os, h5.tape, h5.output, h5.size, fun k hk ht => h5.block k hk fun ⟨j', o', l', q1, q2, q3, q4⟩ => ht (by
        match j', q1, q3 with
        | 0, q1, q3 =>
          obtain rfl : (⟨l.n, padOf []⟩ : L1) = l' := by simpa using q3
          exact ⟨0, _, l, rfl, rfl, rfl, q4⟩
        | k + 1, q1, _ => simp at q1)⟩
/-- copy of a slice that is only read into a row of its length. -/
theorem sqCpR_ok {S : World → Prop} (R : RowT P t e i z sz bytes) (consts : Array Bool) {α : Type} {f : α → List Value} {N c p q : Nat} {a : Option Addr} {A B : Nat → α} (hR : Ro S f sz a p q N A)
    (hf : ∀ x, (f x).length = sz) (h1 : ∀ x, ((f x).all fun u => u.oneCell') = true) :
    SpcOk P S ⟨fun ls => .op (.blt .copy #[t, t] ty consts #[rowV (lget ls 0) N sz, .slice a N c]), fun ls => [rowO (lget ls 0) (esG f N B) e N sz], 0, .normal,
      fun _ => [.int .i64 (N : Int)], fun ls => [rowO (lget ls 0) (esG f N A) e N sz], fun _ => []⟩ := by
  intro ls w hlen hsat hS
  match ls, hlen with
  | [r], _ =>
    have hgr : w.heap[r.n]? = some (.cells ⟨esG f N B ++ padL r N sz⟩ e (0, 0)) := hsat.holds 0 _ r rfl rfl rfl
    have hst := run_storeCells_at P r.n 0 e (esG f N A) 0 ⟨esG f N B ++ padL r N sz⟩ w hgr (by
      show _ ≤ (esG f N B ++ padL r N sz).length
      rw [List.length_append, esG_len hf, esG_len hf]; omega) (esG_one h1)
    have hcs : (List.take (0 + 0) (⟨esG f N B ++ padL r N sz⟩ : Array Value).toList ++ esG f N A ++ List.drop (0 + 0 + (esG f N A).length) (⟨esG f N B ++ padL r N sz⟩ : Array Value).toList).toArray = ⟨esG f N A ++ padL r N sz⟩ := by
      have hl : (esG f N A).length = (esG f N B).length := by rw [esG_len hf, esG_len hf]
      simp [hl]
    rw [hcs] at hst
    have hr : (Builtin.copy_ #[t, t] ty #[rowV r N sz, .slice a N c]).run P w = .ok (goInt N) (w.setRow r.n ⟨esG f N A ++ padL r N sz⟩) := by
      by_cases hN : 0 < N
      · obtain ⟨ad, rfl, hcell⟩ := ro_news hf R.hsz hR hS hN
        have hfc := run_firstCells_some (P := P) w sz N ad N c (esG f N A) (esG_len hf) hcell
        simp only [rowV]
        simp [Builtin.copy_, run_underlying R.ht, Builtin.lenOf, sizeOf, typeInfo, R.hi, R.hsize, hfc, hst]
      · obtain rfl : N = 0 := by omega
        have e0 : w.setRow r.n ⟨esG f 0 A ++ padL r 0 sz⟩ = w := by
          rw [esG_zero] at hgr ⊢
          exact setRow_self _ _ _ _ _ hgr
        rw [e0]
        simp only [rowV]
        cases a <;> simp [Builtin.copy_, run_underlying R.ht, Builtin.lenOf, sizeOf, typeInfo, R.hi, R.hsize, Builtin.firstCells, storeCells, loadCells, loadCellsFrom]
    refine ⟨.int .i64 (N : Int), w.setRow r.n ⟨esG f N A ++ padL r N sz⟩, .inl ?_, [], rfl, rfl, ⟨?_, ?_⟩, ?_, ?_⟩
    · show (Q.sem (.blt .copy #[t, t] ty consts #[rowV r N sz, .slice a N c])).run P w = _
      simp only [Q.sem, builtin, Sem.run_bind, hr, Result.andThen_ok, Sem.run_pure]
      rfl
    · intro j o x hj hreal hx
      match j, hj, hx with
      | 0, hj, hx =>
        obtain rfl : rowO r (esG f N A) e N sz = o := by simpa [lget] using hj
        obtain rfl : r = x := by simpa using hx
        exact setRow_heap w r.n _ _ e (0, 0) hgr
      | k + 1, hj, _ => simp at hj
    · intro a b o p x y ha har hb hbr hx hy hxy
      match a, b, hx, hy with
      | 0, 0, _, _ => rfl
      | k + 1, _, hx, _ => simp at hx
      | _, k + 1, _, hy => simp at hy
    · intro j o x hj hreal hx
      simp at hj
    · refine ⟨rfl, rfl, rfl, by simp, fun k hk ht => setRow_other _ _ _ _ fun q => ht ⟨0, _, r, rfl, rfl, rfl, q.symm⟩⟩
theorem sqAp0SZ_ok {S : World → Prop} (R : RowT P t e i z sz bytes) (consts : Array Bool) (ck : CK) {es : List Value} {m : Nat} {T' : TypeId} (h0 : decide (0 < m) = false) :
    SpcOk P S ⟨fun ls => .op (.blt .append #[t, t] ty consts #[.slice none 0 0, rowCV ck (lget ls 0) m sz]), fun ls => [rowC ck (lget ls 0) es T' m sz], 0, .normal, fun _ => [.slice none 0 0], fun ls => [rowC ck (lget ls 0) es T' m sz], fun _ => []⟩ := by
  have h0 := of_decide_eq_false h0
  obtain rfl : m = 0 := by omega
  exact spc_same (q := fun l => .blt .append #[t, t] ty consts #[.slice none 0 0, rowCV ck l 0 sz]) (o := fun l => rowC ck l es T' 0 sz) (v := fun _ => .slice none 0 0) (fun l w _ _ => run_blt_append (run_append_zero R _ _ w)) (fun _ => rfl)
end
theorem slcRo2_ok {P : Program} {T e : TypeId} {sz n k : Nat} {x y : Int} {a : Option Addr} {p q : Nat} {τ : Type} {S : World → Prop} {f : τ → List Value} {A : Nat → τ} (hR : Ro S f sz a p q n A) (hT : P.underlying T = some (.slice e)) (hs : ∀ w, (sizeOf e).run P w = .ok sz w) (h : inR x n = true) (hy : inR y (n + 1) = true) (hxy : decide (x ≤ y) = true) :
    ∀ w, (Q.slc T (.slice a n (n + k)) (some (.int .i64 x)) (some (.int .i64 y)) none).sem.run P w = .ok (.value (.slice (some ⟨p, q + x.toNat * sz, none⟩) (y.toNat - x.toNat) (y.toNat - x.toNat + (n + k - y.toNat)))) w := by
  intro w
  obtain ⟨h0, h1⟩ := inR_iff.1 h
  obtain ⟨h2, h3⟩ := inR_iff.1 hy
  have h4 := of_decide_eq_true hxy
  rw [hR.at_ (by omega)]
  obtain ⟨x, rfl⟩ := Int.eq_ofNat_of_zero_le h0
  obtain ⟨y, rfl⟩ := Int.eq_ofNat_of_zero_le h2
  have hne : ¬ (n + k = x) := by omega
  have hadd : (⟨p, q, none⟩ : Addr).add (x * sz) = ⟨p, q + x * sz, none⟩ := by unfold Addr.add; split <;> simp_all
  have e1 : y ≤ n + k := by omega
  have e2 : x ≤ y := by omega
  have hkk : y - x + (n + k - y) = n + k - x := by omega
  simp [Q.sem, Instr.sliceAt, Instr.slice, Instr.sliceBounds, Instr.sliceBound, run_underlying hT, hs, asIntOf, hne, hadd, e1, e2, Sem.run_bind, Result.andThen_ok, hkk]
theorem Ro.part {τ : Type} {S : World → Prop} {f : τ → List Value} {sz : Nat} {a : Option Addr} {p m n : Nat} {A : Nat → τ} (h : Ro S f sz a p m n A) (j n' : Nat) (hn : j + n' ≤ n) : Ro S f sz (some ⟨p, m + j * sz, none⟩) p (m + j * sz) n' (fun k => A (j + k)) :=
  ⟨fun _ => rfl, fun w hS k hk i hi => by
    have := h.cell w hS (j + k) (by omega) i hi
    rw [← this, Nat.add_mul, ← Nat.add_assoc]⟩
theorem part_le {x y : Int} {n : Nat} (h : inR x n = true) (hy : inR y (n + 1) = true) (hxy : decide (x ≤ y) = true) : x.toNat + (y.toNat - x.toNat) ≤ n := by
  obtain ⟨h0, h1⟩ := inR_iff.1 h
  obtain ⟨h2, h3⟩ := inR_iff.1 hy
  have h4 := of_decide_eq_true hxy
  omega
/-! ### A row's part, given to a callee that only reads it -/
def ownSpT {τ : Type} (f : τ → List Value) (N : Nat) (A : Nat → τ) (T : TypeId) (pad : L1 → List Value) (cap : L1 → Nat) (off : Nat) (sp : Option Addr → Nat → Spc) (m : Nat) (ex : Ex) : Spc :=
  ⟨fun ls => (sp (some ⟨(lget ls 0).n, off, none⟩) (cap (lget ls 0))).wh ls.tail, fun ls => .cells ⟨esG f N A ++ pad (lget ls 0)⟩ T :: (sp (some ⟨(lget ls 0).n, off, none⟩) (cap (lget ls 0))).pre ls.tail, m, ex,
   fun ls => (sp (some ⟨(lget ls 0).n, off, none⟩) (cap (lget ls 0))).val ls.tail, fun ls => .cells ⟨esG f N A ++ pad (lget ls 0)⟩ T :: (sp (some ⟨(lget ls 0).n, off, none⟩) (cap (lget ls 0))).post ls.tail, fun ls => (sp (some ⟨(lget ls 0).n, off, none⟩) (cap (lget ls 0))).new ls.tail⟩
/-- A callee that only reads a slice may be given one of the call's own. -/
theorem SpcG.ownT {P : Program} {M : Nat → Prop} {B : Nat} {S : World → Prop} (hU : Up M B S) {τ : Type} {f : τ → List Value} {sz : Nat} (hf : ∀ x, (f x).length = sz) (N : Nat) (A : Nat → τ) (T : TypeId) (pad : L1 → List Value) (cap : L1 → Nat) (j0 N' : Nat) (hj0 : j0 + N' ≤ N) (sp : Option Addr → Nat → Spc) (m : Nat) (ex : Ex)
    (hm : ∀ a c, (sp a c).m = m) (he : ∀ a c, (sp a c).ex = ex) (hk : ∀ a c ls ms, ((sp a c).pre ls).length = ls.length → ms.length = m → keepsReal ((sp a c).pre ls) ((sp a c).post (ls ++ ms)) = true)
    (h : ∀ (M' : Nat → Prop) (B' : Nat) (S' : World → Prop) (a : Option Addr) (p q c : Nat), Up M' B' S' → (∀ w, S' w → S w) → Ro S' f sz a p q N' (fun k => A (j0 + k)) → SpcG P M' B' S' (sp a c)) :
    SpcG P M B S (ownSpT f N A T pad cap (j0 * sz) sp m ex) := by
  intro ls w hlen hsat htb hS
  match ls, hlen with
  | l :: rest, hlen =>
    have hl0 : lget (l :: rest) 0 = l := rfl
    let a : Option Addr := some ⟨l.n, j0 * sz, none⟩
    let s := sp a (cap l)
    have hg : w.heap[l.n]? = some (.cells ⟨esG f N A ++ pad l⟩ T) := hsat.hold 0 0 _ l _ _ rfl rfl rfl
    have hlt : l.n < w.heap.size := (Array.getElem?_eq_some_iff.1 hg).1
    have hpl : (s.pre rest).length = rest.length := by simpa [ownSpT, hl0] using hlen
    have hsr : SatF rest (s.pre rest) w := ⟨fun j k o x y p hj hx hr => hsat.hold (j + 1) k o x y p hj hx hr, fun i j k k' o o' x x' y p p' hi hx hr hj hx' hr' => by
      have := hsat.inj (i + 1) (j + 1) k k' o o' x x' y p p' hi hx hr hj hx' hr'
      exact ⟨by omega, this.2⟩⟩
    have hnt : ¬ touchF rest (s.pre rest) l.n := fun ⟨j, k, o, x, p, h1, h2, h3⟩ => by
      have := hsat.inj 0 (j + 1) 0 k _ o l x l.n _ p rfl rfl rfl h1 h2 h3
      omega
    have htr : ∀ k, touchF rest (s.pre rest) k → touchF (l :: rest) ((ownSpT f N A T pad cap (j0 * sz) sp m ex).pre (l :: rest)) k := fun k ⟨j, i, o, x, p, h1, h2, h3⟩ => ⟨j + 1, i, o, x, p, h1, h2, h3⟩
    have hS' : Up (fun k => (M k ∨ B ≤ k) ∧ k ≠ l.n) w.heap.size (fun w' => S w' ∧ w'.heap[l.n]? = w.heap[l.n]? ∧ w.heap.size ≤ w'.heap.size) := by
      refine ⟨fun w1 h1 => h1.2.2, fun w1 w2 h1 hc => ⟨hU.chg (X := fun k => (M k ∨ B ≤ k) ∧ k ≠ l.n) (B' := w.heap.size) (fun k hk => hk.elim (fun h => h.1) (fun h => .inr (Nat.le_trans (hU.base w hS) h))) h1.1 hc, ?_, Nat.le_trans h1.2.2 hc.size⟩⟩
      exact (hc.block l.n hlt (fun h => h.2 rfl)).trans h1.2.1
    have hRo : Ro (fun w' => S w' ∧ w'.heap[l.n]? = w.heap[l.n]? ∧ w.heap.size ≤ w'.heap.size) f sz a l.n (j0 * sz) N' (fun k => A (j0 + k)) := by
      refine ⟨fun _ => rfl, fun w1 h1 k hk j hj => ?_⟩
      have hg1 : w1.heap[l.n]? = some (.cells ⟨esG f N A ++ pad l⟩ T) := h1.2.1.trans hg
      have e1 : j0 * sz + k * sz + j = (j0 + k) * sz + j := by rw [Nat.add_mul]
      rw [e1, cell_of_cells hg1, List.getElem?_toArray, List.getElem?_append_left ?_, esG_get hf hj (show j0 + k < N by omega)]
      rw [esG_len hf]
      have := Nat.mul_le_mul_right sz (show j0 + k + 1 ≤ N by omega)
      rw [Nat.succ_mul] at this
      omega
    have hd := h _ _ _ a l.n (j0 * sz) (cap l) hS' (fun w1 h1 => h1.1) hRo rest w hpl hsr (fun k hk => .inl ⟨htb k (htr k hk), fun e => hnt (e ▸ hk)⟩) ⟨hS, rfl, Nat.le_refl _⟩
    show Does P (s.wh rest) ex w _
    rw [← he a (cap l)]
    refine hd.mono fun vs w' ⟨ms, hms, hv, hch, hfs⟩ => ?_
    obtain ⟨hsl, hnew⟩ := hfs (.inl rfl)
    have hmm : ms.length = m := hms.trans (hm _ _)
    have hkeep : w'.heap[l.n]? = some (.cells ⟨esG f N A ++ pad l⟩ T) := (hch.block l.n hlt hnt).trans hg
    have hother : ∀ (j k : Nat) (o : Obj) (x : L1) (y : Nat) (p : Obj), (s.post (rest ++ ms) ++ s.new (rest ++ ms))[j]? = some o → (rest ++ ms)[j]? = some x → Go.Proofs.YtnlnldpolaodbaaDoor.own o x k = some (y, p) → y ≠ l.n := fun j k o x y p hj hx hr e => by
      rcases hnew j k o x y p hj hx hr with h1 | h1
      · omega
      · exact hnt (e ▸ h1)
    have hown : ∀ (k : Nat) (o : Obj) (x : L1) (y : Nat) (p : Obj), (((ownSpT f N A T pad cap (j0 * sz) sp m ex).post (l :: rest ++ ms)) ++ (ownSpT f N A T pad cap (j0 * sz) sp m ex).new (l :: rest ++ ms))[0]? = some o → (l :: rest ++ ms)[0]? = some x → Go.Proofs.YtnlnldpolaodbaaDoor.own o x k = some (y, p) → k = 0 ∧ y = l.n ∧ p = .cells ⟨esG f N A ++ pad l⟩ T := fun k o x y p hj hx hr => by
      obtain rfl : Obj.cells ⟨esG f N A ++ pad l⟩ T = o := by simpa [ownSpT, lget] using hj
      obtain rfl : l = x := by simpa using hx
      obtain ⟨h1, h2, h3, _⟩ := own_plain (rfl : isPend (.cells ⟨esG f N A ++ pad l⟩ T) = false) hr
      exact ⟨h1, h2, h3⟩
    refine ⟨ms, hmm, hv, ⟨hch.os, hch.tape, hch.output, hch.size, fun k hk ht => hch.block k hk fun h1 => ht (htr k h1)⟩, fun _ => ⟨⟨fun j k o x y p hj hx hr => ?_, fun i j k k' o o' x x' y p p' hi hx hr hj hx' hr' => ?_⟩, fun j k o x y p hj hx hr => ?_⟩⟩
    · cases j with
      | zero =>
        obtain ⟨h1, h2, h3⟩ := hown k o x y p hj hx hr
        rw [h2, h3]; exact hkeep
      | succ j => exact hsl.hold j k o x y p hj hx hr
    · cases i with
      | zero =>
        obtain ⟨h1, h2, h3⟩ := hown k o x y p hi hx hr
        cases j with
        | zero =>
          obtain ⟨h1', _, _⟩ := hown k' o' x' y p' hj hx' hr'
          exact ⟨rfl, by omega⟩
        | succ j => exact absurd h2 (hother j k' o' x' y p' hj hx' hr')
      | succ i =>
        cases j with
        | zero =>
          obtain ⟨_, h2, _⟩ := hown k' o' x' y p' hj hx' hr'
          exact absurd h2 (hother i k o x y p hi hx hr)
        | succ j =>
          obtain ⟨h1, h2⟩ := hsl.inj i j k k' o o' x x' y p p' hi hx hr hj hx' hr'
          exact ⟨by omega, h2⟩
    · cases j with
      | zero =>
        obtain ⟨_, h2, _⟩ := hown k o x y p hj hx hr
        exact .inr ⟨0, 0, _, l, _, rfl, rfl, by rw [h2]; rfl⟩
      | succ j =>
        rcases hnew j k o x y p hj hx hr with h1 | h1
        · exact .inl h1
        · exact .inr (htr _ h1)
theorem tail_le {x : Int} {N : Nat} (h : inR x N = true) : x.toNat + (N - x.toNat) ≤ N := by
  have := inR_nat h
  omega
end Go.Proofs.YtnlnldpolaodbaaDoor
