/-
  Rows that are cut: a row's first elements with no room behind them, what lies behind a place, one put behind the other; copy of nothing; make of a row of a natural number of elements. Nothing of the program stands here.
-/
import Derived.Test.YtkfmmcobmjkilaaRxN
namespace Go.Proofs.Ytkfmmcobmjkilaa
open Go.RowKit
set_option linter.unusedVariables false
set_option linter.unusedSimpArgs false
inductive CK where
  | row
  | cap
def capC (ck : CK) (l : L1) (n sz : Nat) : Nat := match ck with
  | .row => n + (padL l n sz).length / sz
  | .cap => n
def rowCV (ck : CK) (l : L1) (n sz : Nat) : Value := .slice (some ⟨l.n, 0, none⟩) n (capC ck l n sz)
theorem le_capC (ck : CK) (l : L1) (n sz : Nat) : n ≤ capC ck l n sz := by
  cases ck
  · exact Nat.le_add_right _ _
  · exact Nat.le_refl _
theorem sat_unb1 {w : World} {r l : L1} {o : Obj} (h : w.heap[l.n]? = some o) : SatL [r, l] [unb, o] w := by
  refine ⟨?_, ?_⟩
  · intro j o' x hj hreal hx
    match j, hj, hx with
    | 0, hj, hx =>
      obtain rfl : unb = o' := by simpa using hj
      exact absurd hreal (by decide)
    | 1, hj, hx =>
      obtain rfl : o = o' := by simpa using hj
      obtain rfl : l = x := by simpa using hx
      exact h
    | k + 2, hj, _ => simp at hj
  · intro a b o1 p x y ha har hb hbr hx hy hxy
    match a, b, ha, hb, hx, hy with
    | 0, _, ha, _, _, _ =>
      obtain rfl : unb = o1 := by simpa using ha
      exact absurd har (by decide)
    | _, 0, _, hb, _, _ =>
      obtain rfl : unb = p := by simpa using hb
      exact absurd hbr (by decide)
    | 1, 1, _, _, _, _ => rfl
    | k + 2, _, _, _, hx, _ => simp at hx
    | _, k + 2, _, _, _, hy => simp at hy
section
variable {P : Program} {S : World → Prop} {T e : TypeId} {sz : Nat}
/-- A row's first elements, with no room. -/
def slLow (ck : CK) (T : TypeId) (N sz : Nat) (x : Int) : Q → Option (Value × (L1 → Obl))
  | .slc T' (.slice (some ⟨b, m, none⟩) n c) none (some i) (some j) => some (.slice (some ⟨b, m, none⟩) x.toNat x.toNat, fun l => [(.n T', .n T), (.v (.slice (some ⟨b, m, none⟩) n c), .v (rowCV ck l N sz)), (.v i, .v (.int .i64 x)), (.v j, .v (.int .i64 x))])
  | _ => none
theorem slLow_ok (ck : CK) {N : Nat} (hT : P.underlying T = some (.slice e)) (hs : ∀ w, (sizeOf e).run P w = .ok sz w) {x : Int} (h : inR x (N + 1) = true) :
    ∀ q v g l, slLow ck T N sz x q = some (v, g) → okL (g l) → ∀ w, q.sem.run P w = .ok (.value v) w := by
  intro q v g l hq ho w
  obtain ⟨h0, h1⟩ := inR_iff.1 h
  unfold slLow at hq
  split at hq
  · simp only [Option.some.injEq, Prod.mk.injEq] at hq
    obtain ⟨rfl, rfl⟩ := hq
    obtain ⟨e1, ho⟩ := okL_cons.1 ho
    obtain ⟨e2, ho⟩ := okL_cons.1 ho
    obtain ⟨e3, ho⟩ := okL_cons.1 ho
    obtain ⟨e4, ho⟩ := okL_cons.1 ho
    simp only [Tok.n.injEq, Tok.v.injEq, rowCV, Value.slice.injEq, Option.some.injEq, Addr.mk.injEq, and_true] at e1 e2 e3 e4
    obtain ⟨⟨rfl, rfl⟩, hn, rfl⟩ := e2
    have hn := hn.symm
    subst hn
    subst e1 e3 e4
    have hc := le_capC ck l N sz
    obtain ⟨k, rfl⟩ := Int.eq_ofNat_of_zero_le h0
    have hle : k ≤ capC ck l N sz := by omega
    have hk : ¬ (capC ck l N sz < k) := by omega
    by_cases hz : k = 0
    · subst hz
      simp [Q.sem, Instr.sliceAt, Instr.slice, Instr.sliceBounds, Instr.sliceBound, run_underlying hT, hs, asIntOf, Sem.run_bind, Result.andThen_ok, add_off]
    · simp [Q.sem, Instr.sliceAt, Instr.slice, Instr.sliceBounds, Instr.sliceBound, run_underlying hT, hs, asIntOf, hk, hle, Sem.run_bind, Result.andThen_ok, hz, add_off]
  · cases hq
end
section
variable {P : Program} {t ty e : TypeId} {i : TypeInfo} {z : Value} {sz bytes : Nat}
/-- make of so many elements. -/
theorem sqMkN_ok {S : World → Prop} (R : RowT P t e i z sz bytes) {α : Type} {f : α → List Value} {N : Nat} {a0 : α} (hf : ∀ x, (f x).length = sz) (hz : z.cells.toList = f a0) (h : decide (N ≤ 1000000) = true) (hb : bytes ≤ 1000000) : SpcOk P S (sqMk t e sz f N a0) :=
  have h := of_decide_eq_true h
  sqMk_ok R hf hz (by simp only [maxLen]; omega) (Nat.le_trans (Nat.mul_le_mul h hb) (by decide))
theorem padL_of {x k sz : Nat} {p : List Value} (h1 : p.length % sz = 0) (h2 : k + p.length / sz ≤ maxLen) : padL ⟨x, padOf p⟩ k sz = p := by
  unfold padL
  rw [padR_of, if_pos ⟨h1, h2⟩]
theorem esG_one' {α : Type} {f : α → List Value} {sz : Nat} {A : Nat → α} {N x : Nat} (h : x ≤ N) : esG f N A = esG f x A ++ esG f (N - x) (fun k => A (x + k)) := by
  conv => lhs; rw [show N = x + (N - x) by omega, esG_split]
/-- A row's first elements; what lies behind them is room. -/
theorem sqShr_ok {S : World → Prop} (R : RowT P t e i z sz bytes) {α : Type} {f : α → List Value} {N : Nat} {A : Nat → α} (hf : ∀ x, (f x).length = sz) (hs : ∀ w, (sizeOf e).run P w = .ok sz w) {x : Int} (h : inR x (N + 1) = true) (hN : decide (N ≤ 1000000) = true) :
    SpcOk P S ⟨fun ls => .op (.slc t (rowV (lget ls 0) N sz) none (some (.int .i64 x)) none), fun ls => [rowO (lget ls 0) (esG f N A) e N sz], 1, .normal,
      fun ls => [rowV (lget ls 1) x.toNat sz], fun _ => [unb], fun ls => [rowO (lget ls 1) (esG f x.toNat A) e x.toNat sz]⟩ := by
  have hN := of_decide_eq_true hN
  obtain ⟨h0, h1⟩ := inR_iff.1 h
  obtain ⟨k, rfl⟩ := Int.eq_ofNat_of_zero_le h0
  have hk : k ≤ N := by omega
  rw [Int.toNat_natCast]
  intro ls w hlen hsat hS
  match ls, hlen with
  | [l], _ =>
    have hg : w.heap[l.n]? = some (rowO l (esG f N A) e N sz) := hsat.holds 0 _ l rfl rfl rfl
    have hpl : (esG f (N - k) (fun j => A (k + j)) ++ padL l N sz).length = (N - k) * sz + (padL l N sz).length := by rw [List.length_append, esG_len hf]
    have hdiv : (esG f (N - k) (fun j => A (k + j)) ++ padL l N sz).length / sz = (N - k) + (padL l N sz).length / sz := by rw [hpl, Nat.mul_comm, Nat.mul_add_div R.hsz]
    have hmod : (esG f (N - k) (fun j => A (k + j)) ++ padL l N sz).length % sz = 0 := by rw [hpl, Nat.mul_comm, Nat.mul_add_mod, padL_mod]
    have hmax := padL_max l sz (show N ≤ maxLen by simp only [maxLen]; omega)
    have hpad : padL ⟨l.n, padOf (esG f (N - k) (fun j => A (k + j)) ++ padL l N sz)⟩ k sz = esG f (N - k) (fun j => A (k + j)) ++ padL l N sz := by
      exact padL_of hmod (by rw [hdiv]; omega)
    have hv : (.slice (some ⟨l.n, 0, none⟩) k (N + (padL l N sz).length / sz) : Value) = rowV ⟨l.n, padOf (esG f (N - k) (fun j => A (k + j)) ++ padL l N sz)⟩ k sz := by
      unfold rowV
      rw [hpad, hdiv]
      congr 1
      omega
    have hr : (Q.sem (.slc t (rowV l N sz) none (some (.int .i64 (k : Int))) none)).run P w = .ok (.value (.slice (some ⟨l.n, 0, none⟩) k (N + (padL l N sz).length / sz))) w := by
      show (Q.sem (.slc t (.slice (some ⟨l.n, 0, none⟩) N (N + (padL l N sz).length / sz)) none (some (.int .i64 (k : Int))) none)).run P w = _
      generalize (padL l N sz).length / sz = q
      have hlt : ¬ (N + q < k) := by omega
      by_cases hz : N + q = 0
      · obtain rfl : k = 0 := by omega
        simp [Q.sem, Instr.sliceAt, Instr.slice, Instr.sliceBounds, Instr.sliceBound, run_underlying R.ht, hs, asIntOf, Sem.run_bind, Result.andThen_ok, add_off]
      · simp [Q.sem, Instr.sliceAt, Instr.slice, Instr.sliceBounds, Instr.sliceBound, run_underlying R.ht, hs, asIntOf, hlt, Sem.run_bind, Result.andThen_ok, add_off]
    refine ⟨_, w, .inl hr, [⟨l.n, padOf (esG f (N - k) (fun j => A (k + j)) ++ padL l N sz)⟩], rfl, by rw [hv]; rfl, sat_unb1 ?_, ?_, ⟨rfl, rfl, rfl, Nat.le_refl _, fun _ _ _ => rfl⟩⟩
    · show w.heap[l.n]? = some (.cells ⟨esG f k A ++ padL ⟨l.n, padOf (esG f (N - k) (fun j => A (k + j)) ++ padL l N sz)⟩ k sz⟩ e)
      rw [hpad, ← List.append_assoc, ← esG_one' (sz := sz) hk]
      exact hg
    · intro j o x hj hreal hx
      match j, hx with
      | 0, hx =>
        obtain rfl : (⟨l.n, padOf (esG f (N - k) (fun j => A (k + j)) ++ padL l N sz)⟩ : L1) = x := by simpa using hx
        exact .inr ⟨0, _, l, rfl, rfl, rfl, rfl⟩
      | k + 1, hx => simp at hx
theorem padL_nil (x k sz : Nat) : padL ⟨x, padOf []⟩ k sz = [] := by
  unfold padL
  rw [padR_of]
  split <;> rfl
/-- The same, of a slice as long as its block. -/
theorem sqShrP_ok {S : World → Prop} (R : RowT P t e i z sz bytes) {α : Type} {f : α → List Value} {N : Nat} {A : Nat → α} (es : List Value) (hes : es = esG f N A) (hf : ∀ x, (f x).length = sz) (hs : ∀ w, (sizeOf e).run P w = .ok sz w) {x : Int} (h : inR x (N + 1) = true) (hN : decide (N ≤ 1000000) = true) :
    SpcOk P S ⟨fun ls => .op (.slc t (.slice (some ⟨(lget ls 0).n, 0, none⟩) N N) none (some (.int .i64 x)) none), fun ls => [.cells ⟨es⟩ e], 1, .normal,
      fun ls => [rowV (lget ls 1) x.toNat sz], fun _ => [unb], fun ls => [rowO (lget ls 1) (esG f x.toNat A) e x.toNat sz]⟩ := by
  subst hes
  intro ls w hlen hsat hS
  match ls, hlen with
  | [l], _ =>
    have hg : w.heap[l.n]? = some (.cells ⟨esG f N A⟩ e) := hsat.holds 0 _ l rfl rfl rfl
    have hp := padL_nil l.n N sz
    have hg' : w.heap[(⟨l.n, padOf []⟩ : L1).n]? = some (rowO ⟨l.n, padOf []⟩ (esG f N A) e N sz) := by
      unfold rowO
      rw [hp, List.append_nil]
      exact hg
    have hsat' : SatL [⟨l.n, padOf []⟩] [rowO ⟨l.n, padOf []⟩ (esG f N A) e N sz] w := by
      refine ⟨?_, ?_⟩
      · intro j o x hj hreal hx
        match j, hj, hx with
        | 0, hj, hx =>
          obtain rfl : rowO ⟨l.n, padOf []⟩ (esG f N A) e N sz = o := by simpa using hj
          obtain rfl : (⟨l.n, padOf []⟩ : L1) = x := by simpa using hx
          exact hg'
        | k + 1, hj, _ => simp at hj
      · intro a b o p x y ha har hb hbr hx hy hxy
        match a, b, hx, hy with
        | 0, 0, _, _ => rfl
        | k + 1, _, hx, _ => simp at hx
        | _, k + 1, _, hy => simp at hy
    have key := sqShr_ok (S := S) (P := P) R (f := f) (N := N) (A := A) hf hs h hN [⟨l.n, padOf []⟩] w rfl hsat' hS
    obtain ⟨v, w', hr, ms, h1, h2, h3, h4, h5⟩ := key
    have hv : (rowV ⟨l.n, padOf []⟩ N sz) = .slice (some ⟨l.n, 0, none⟩) N N := by
      unfold rowV
      rw [hp]
      simp
    refine ⟨v, w', ?_, ms, h1, h2, ?_, ?_, ?_⟩
    · have hr' := hr
      simp only [lget, List.getD_cons_zero, hv] at hr'
      exact hr'
    · match ms, h1 with
      | [m], _ => exact sat_unb1 (h3.holds 1 _ m rfl rfl rfl)
    · intro j o x hj hreal hx
      match ms, h1, j, hx with
      | [m], _, 0, hx =>
        obtain rfl : m = x := by simpa using hx
        rcases h4 0 _ m rfl rfl rfl with h | ⟨j', o', l', q1, q2, q3, q4⟩
        · exact .inl h
        · match j', q1, q3 with
          | 0, q1, q3 =>
            obtain rfl : (⟨l.n, padOf []⟩ : L1) = l' := by simpa using q3
            exact .inr ⟨0, _, l, rfl, rfl, rfl, q4⟩
          | k + 1, q1, _ => simp at q1
      | [m], _, k + 1, hx => simp at hx
    · exact ⟨h5.os, h5.tape, h5.output, h5.size, fun k hk ht => h5.block k hk fun ⟨j', o', l', q1, q2, q3, q4⟩ => ht (by
        match j', q1, q3 with
        | 0, q1, q3 =>
          obtain rfl : (⟨l.n, padOf []⟩ : L1) = l' := by simpa using q3
          exact ⟨0, _, l, rfl, rfl, rfl, q4⟩
        | k + 1, q1, _ => simp at q1)⟩
/-- copy of a slice that is only read into a row of its length. -/
theorem sqCpR_ok {S : World → Prop} (R : RowT P t e i z sz bytes) (consts : Array Bool) {α : Type} {f : α → List Value} {N c p q : Nat} {a : Option Addr} {A B : Nat → α} (hR : Ro S f sz a p q N A)
    (hf : ∀ x, (f x).length = sz) (h1 : ∀ x, ((f x).all fun u => u.oneCell') = true) :
    SpcOk P S ⟨fun ls => .op (.blt .copy #[t, t] ty consts #[rowV (lget ls 0) N sz, .slice a N c]), fun ls => [rowO (lget ls 0) (esG f N B) e N sz], 0, .normal,
      fun _ => [.int .i64 (N : Int)], fun ls => [rowO (lget ls 0) (esG f N A) e N sz], fun _ => []⟩ := by
  intro ls w hlen hsat hS
  match ls, hlen with
  | [r], _ =>
    have hgr : w.heap[r.n]? = some (.cells ⟨esG f N B ++ padL r N sz⟩ e (0, 0)) := hsat.holds 0 _ r rfl rfl rfl
    have hst := run_storeCells_at P r.n 0 e (esG f N A) 0 ⟨esG f N B ++ padL r N sz⟩ w hgr (by
      show _ ≤ (esG f N B ++ padL r N sz).length
      rw [List.length_append, esG_len hf, esG_len hf]; omega) (esG_one h1)
    have hcs : (List.take (0 + 0) (⟨esG f N B ++ padL r N sz⟩ : Array Value).toList ++ esG f N A ++ List.drop (0 + 0 + (esG f N A).length) (⟨esG f N B ++ padL r N sz⟩ : Array Value).toList).toArray = ⟨esG f N A ++ padL r N sz⟩ := by
      have hl : (esG f N A).length = (esG f N B).length := by rw [esG_len hf, esG_len hf]
      simp [hl]
    rw [hcs] at hst
    have hr : (Builtin.copy_ #[t, t] ty #[rowV r N sz, .slice a N c]).run P w = .ok (goInt N) (w.setRow r.n ⟨esG f N A ++ padL r N sz⟩) := by
      by_cases hN : 0 < N
      · obtain ⟨ad, rfl, hcell⟩ := ro_news hf R.hsz hR hS hN
        have hfc := run_firstCells_some (P := P) w sz N ad N c (esG f N A) (esG_len hf) hcell
        simp only [rowV]
        simp [Builtin.copy_, run_underlying R.ht, Builtin.lenOf, sizeOf, typeInfo, R.hi, R.hsize, hfc, hst]
      · obtain rfl : N = 0 := by omega
        have e0 : w.setRow r.n ⟨esG f 0 A ++ padL r 0 sz⟩ = w := by
          rw [esG_zero] at hgr ⊢
          exact setRow_self _ _ _ _ _ hgr
        rw [e0]
        simp only [rowV]
        cases a <;> simp [Builtin.copy_, run_underlying R.ht, Builtin.lenOf, sizeOf, typeInfo, R.hi, R.hsize, Builtin.firstCells, storeCells, loadCells, loadCellsFrom]
    refine ⟨.int .i64 (N : Int), w.setRow r.n ⟨esG f N A ++ padL r N sz⟩, .inl ?_, [], rfl, rfl, ⟨?_, ?_⟩, ?_, ?_⟩
    · show (Q.sem (.blt .copy #[t, t] ty consts #[rowV r N sz, .slice a N c])).run P w = _
      simp only [Q.sem, builtin, Sem.run_bind, hr, Result.andThen_ok, Sem.run_pure]
      rfl
    · intro j o x hj hreal hx
      match j, hj, hx with
      | 0, hj, hx =>
        obtain rfl : rowO r (esG f N A) e N sz = o := by simpa [lget] using hj
        obtain rfl : r = x := by simpa using hx
        exact setRow_heap w r.n _ _ e (0, 0) hgr
      | k + 1, hj, _ => simp at hj
    · intro a b o p x y ha har hb hbr hx hy hxy
      match a, b, hx, hy with
      | 0, 0, _, _ => rfl
      | k + 1, _, hx, _ => simp at hx
      | _, k + 1, _, hy => simp at hy
    · intro j o x hj hreal hx
      simp at hj
    · refine ⟨rfl, rfl, rfl, by simp, fun k hk ht => setRow_other _ _ _ _ fun q => ht ⟨0, _, r, rfl, rfl, rfl, q.symm⟩⟩
end
theorem slcRo2_ok {P : Program} {T e : TypeId} {sz n k : Nat} {x y : Int} {a : Option Addr} {p q : Nat} {τ : Type} {S : World → Prop} {f : τ → List Value} {A : Nat → τ} (hR : Ro S f sz a p q n A) (hT : P.underlying T = some (.slice e)) (hs : ∀ w, (sizeOf e).run P w = .ok sz w) (h : inR x n = true) (hy : inR y (n + 1) = true) (hxy : decide (x ≤ y) = true) :
    ∀ w, (Q.slc T (.slice a n (n + k)) (some (.int .i64 x)) (some (.int .i64 y)) none).sem.run P w = .ok (.value (.slice (some ⟨p, q + x.toNat * sz, none⟩) (y.toNat - x.toNat) (y.toNat - x.toNat + (n + k - y.toNat)))) w := by
  intro w
  obtain ⟨h0, h1⟩ := inR_iff.1 h
  obtain ⟨h2, h3⟩ := inR_iff.1 hy
  have h4 := of_decide_eq_true hxy
  rw [hR.at_ (by omega)]
  obtain ⟨x, rfl⟩ := Int.eq_ofNat_of_zero_le h0
  obtain ⟨y, rfl⟩ := Int.eq_ofNat_of_zero_le h2
  have hne : ¬ (n + k = x) := by omega
  have hadd : (⟨p, q, none⟩ : Addr).add (x * sz) = ⟨p, q + x * sz, none⟩ := by unfold Addr.add; split <;> simp_all
  have e1 : y ≤ n + k := by omega
  have e2 : x ≤ y := by omega
  have hkk : y - x + (n + k - y) = n + k - x := by omega
  simp [Q.sem, Instr.sliceAt, Instr.slice, Instr.sliceBounds, Instr.sliceBound, run_underlying hT, hs, asIntOf, hne, hadd, e1, e2, Sem.run_bind, Result.andThen_ok, hkk]
theorem Ro.part {τ : Type} {S : World → Prop} {f : τ → List Value} {sz : Nat} {a : Option Addr} {p m n : Nat} {A : Nat → τ} (h : Ro S f sz a p m n A) (j n' : Nat) (hn : j + n' ≤ n) : Ro S f sz (some ⟨p, m + j * sz, none⟩) p (m + j * sz) n' (fun k => A (j + k)) :=
  ⟨fun _ => rfl, fun w hS k hk i hi => by
    have := h.cell w hS (j + k) (by omega) i hi
    rw [← this, Nat.add_mul, ← Nat.add_assoc]⟩
theorem part_le {x y : Int} {n : Nat} (h : inR x n = true) (hy : inR y (n + 1) = true) (hxy : decide (x ≤ y) = true) : x.toNat + (y.toNat - x.toNat) ≤ n := by
  obtain ⟨h0, h1⟩ := inR_iff.1 h
  obtain ⟨h2, h3⟩ := inR_iff.1 hy
  have h4 := of_decide_eq_true hxy
  omega
/-! ### A row's part, given to a callee that only reads it -/
end Go.Proofs.Ytkfmmcobmjkilaa

