/-
  Rows that are cut: a row's first elements with no room behind them, what lies behind a place, one put behind the other; copy of nothing; make of a row of a natural number of elements. Nothing of the program stands here.
-/
import Derived.Test.YtnoflelhkgdebaaRxN
namespace Go.Proofs.Ytnoflelhkgdebaa
open Go.RowKit
set_option linter.unusedVariables false
set_option linter.unusedSimpArgs false
inductive CK where
  | row
  | cap
def capC (ck : CK) (l : L1) (n sz : Nat) : Nat := match ck with
  | .row => n + (padL l n sz).length / sz
  | .cap => n
def rowCV (ck : CK) (l : L1) (n sz : Nat) : Value := .slice (some ⟨l.n, 0, none⟩) n (capC ck l n sz)
theorem le_capC (ck : CK) (l : L1) (n sz : Nat) : n ≤ capC ck l n sz := by
  cases ck
  · exact Nat.le_add_right _ _
  · exact Nat.le_refl _
theorem sat_unb1 {w : World} {r l : L1} {o : Obj} (h : w.heap[l.n]? = some o) : SatL [r, l] [unb, o] w := by
  refine ⟨?_, ?_⟩
  · intro j o' x hj hreal hx
    match j, hj, hx with
    | 0, hj, hx =>
      obtain rfl : unb = o' := by simpa using hj
      exact absurd hreal (by decide)
    | 1, hj, hx =>
      obtain rfl : o = o' := by simpa using hj
      obtain rfl : l = x := by simpa using hx
      exact h
    | k + 2, hj, _ => simp at hj
  · intro a b o1 p x y ha har hb hbr hx hy hxy
    match a, b, ha, hb, hx, hy with
    | 0, _, ha, _, _, _ =>
      obtain rfl : unb = o1 := by simpa using ha
      exact absurd har (by decide)
    | _, 0, _, hb, _, _ =>
      obtain rfl : unb = p := by simpa using hb
      exact absurd hbr (by decide)
    | 1, 1, _, _, _, _ => rfl
    | k + 2, _, _, _, hx, _ => simp at hx
    | _, k + 2, _, _, _, hy => simp at hy
section
variable {P : Program} {S : World → Prop} {T e : TypeId} {sz : Nat}
/-- A row's first elements, with no room. -/
def slLow (ck : CK) (T : TypeId) (N sz : Nat) (x : Int) : Q → Option (Value × (L1 → Obl))
  | .slc T' (.slice (some ⟨b, m, none⟩) n c) none (some i) (some j) => some (.slice (some ⟨b, m, none⟩) x.toNat x.toNat, fun l => [(.n T', .n T), (.v (.slice (some ⟨b, m, none⟩) n c), .v (rowCV ck l N sz)), (.v i, .v (.int .i64 x)), (.v j, .v (.int .i64 x))])
  | _ => none
theorem slLow_ok (ck : CK) {N : Nat} (hT : P.underlying T = some (.slice e)) (hs : ∀ w, (sizeOf e).run P w = .ok sz w) {x : Int} (h : inR x (N + 1) = true) :
    ∀ q v g l, slLow ck T N sz x q = some (v, g) → okL (g l) → ∀ w, q.sem.run P w = .ok (.value v) w := by
  intro q v g l hq ho w
  obtain ⟨h0, h1⟩ := inR_iff.1 h
  unfold slLow at hq
  split at hq
  · simp only [Option.some.injEq, Prod.mk.injEq] at hq
    obtain ⟨rfl, rfl⟩ := hq
    obtain ⟨e1, ho⟩ := okL_cons.1 ho
    obtain ⟨e2, ho⟩ := okL_cons.1 ho
    obtain ⟨e3, ho⟩ := okL_cons.1 ho
    obtain ⟨e4, ho⟩ := okL_cons.1 ho
    simp only [Tok.n.injEq, Tok.v.injEq, rowCV, Value.slice.injEq, Option.some.injEq, Addr.mk.injEq, and_true] at e1 e2 e3 e4
    obtain ⟨⟨rfl, rfl⟩, hn, rfl⟩ := e2
    have hn := hn.symm
    subst hn
    subst e1 e3 e4
    have hc := le_capC ck l N sz
    obtain ⟨k, rfl⟩ := Int.eq_ofNat_of_zero_le h0
    have hle : k ≤ capC ck l N sz := by omega
    have hk : ¬ (capC ck l N sz < k) := by omega
    by_cases hz : k = 0
    · subst hz
      simp [Q.sem, Instr.sliceAt, Instr.slice, Instr.sliceBounds, Instr.sliceBound, run_underlying hT, hs, asIntOf, Sem.run_bind, Result.andThen_ok, add_off]
    · simp [Q.sem, Instr.sliceAt, Instr.slice, Instr.sliceBounds, Instr.sliceBound, run_underlying hT, hs, asIntOf, hk, hle, Sem.run_bind, Result.andThen_ok, hz, add_off]
  · cases hq
end
section
variable {P : Program} {t ty e : TypeId} {i : TypeInfo} {z : Value} {sz bytes : Nat}
theorem padL_of {x k sz : Nat} {p : List Value} (h1 : p.length % sz = 0) (h2 : k + p.length / sz ≤ maxLen) : padL ⟨x, padOf p⟩ k sz = p := by
  unfold padL
  rw [padR_of, if_pos ⟨h1, h2⟩]
theorem esG_one' {α : Type} {f : α → List Value} {sz : Nat} {A : Nat → α} {N x : Nat} (h : x ≤ N) : esG f N A = esG f x A ++ esG f (N - x) (fun k => A (x + k)) := by
  conv => lhs; rw [show N = x + (N - x) by omega, esG_split]
/-- A row's first elements; what lies behind them is room. -/
theorem sqShr_ok {S : World → Prop} (R : RowT P t e i z sz bytes) {α : Type} {f : α → List Value} {N : Nat} {A : Nat → α} (hf : ∀ x, (f x).length = sz) (hs : ∀ w, (sizeOf e).run P w = .ok sz w) {x : Int} (h : inR x (N + 1) = true) (hN : decide (N ≤ 1000000) = true) :
    SpcOk P S ⟨fun ls => .op (.slc t (rowV (lget ls 0) N sz) none (some (.int .i64 x)) none), fun ls => [rowO (lget ls 0) (esG f N A) e N sz], 1, .normal,
      fun ls => [rowV (lget ls 1) x.toNat sz], fun _ => [unb], fun ls => [rowO (lget ls 1) (esG f x.toNat A) e x.toNat sz]⟩ := by
  have hN := of_decide_eq_true hN
  obtain ⟨h0, h1⟩ := inR_iff.1 h
  obtain ⟨k, rfl⟩ := Int.eq_ofNat_of_zero_le h0
  have hk : k ≤ N := by omega
  rw [Int.toNat_natCast]
  intro ls w hlen hsat hS
  match ls, hlen with
  | [l], _ =>
    have hg : w.heap[l.n]? = some (rowO l (esG f N A) e N sz) := hsat.holds 0 _ l rfl rfl rfl
    have hpl : (esG f (N - k) (fun j => A (k + j)) ++ padL l N sz).length = (N - k) * sz + (padL l N sz).length := by rw [List.length_append, esG_len hf]
    have hdiv : (esG f (N - k) (fun j => A (k + j)) ++ padL l N sz).length / sz = (N - k) + (padL l N sz).length / sz := by rw [hpl, Nat.mul_comm, Nat.mul_add_div R.hsz]
    have hmod : (esG f (N - k) (fun j => A (k + j)) ++ padL l N sz).length % sz = 0 := by rw [hpl, Nat.mul_comm, Nat.mul_add_mod, padL_mod]
    have hmax := padL_max l sz (show N ≤ maxLen by simp only [maxLen]; omega)
    have hpad : padL ⟨l.n, padOf (esG f (N - k) (fun j => A (k + j)) ++ padL l N sz)⟩ k sz = esG f (N - k) (fun j => A (k + j)) ++ padL l N sz := by
      exact padL_of hmod (by rw [hdiv]; omega)
    have hv : (.slice (some ⟨l.n, 0, none⟩) k (N + (padL l N sz).length / sz) : Value) = rowV ⟨l.n, padOf (esG f (N - k) (fun j => A (k + j)) ++ padL l N sz)⟩ k sz := by
      unfold rowV
      rw [hpad, hdiv]
      congr 1
      omega
    have hr : (Q.sem (.slc t (rowV l N sz) none (some (.int .i64 (k : Int))) none)).run P w = .ok (.value (.slice (some ⟨l.n, 0, none⟩) k (N + (padL l N sz).length / sz))) w := by
      show (Q.sem (.slc t (.slice (some ⟨l.n, 0, none⟩) N (N + (padL l N sz).length / sz)) none (some (.int .i64 (k : Int))) none)).run P w = _
      generalize (padL l N sz).length / sz = q
      have hlt : ¬ (N + q < k) := by omega
      by_cases hz : N + q = 0
      · obtain rfl : k = 0 := by omega
        simp [Q.sem, Instr.sliceAt, Instr.slice, Instr.sliceBounds, Instr.sliceBound, run_underlying R.ht, hs, asIntOf, Sem.run_bind, Result.andThen_ok, add_off]
      · simp [Q.sem, Instr.sliceAt, Instr.slice, Instr.sliceBounds, Instr.sliceBound, run_underlying R.ht, hs, asIntOf, hlt, Sem.run_bind, Result.andThen_ok, add_off]
    refine ⟨_, w, .inl hr, [⟨l.n, padOf (esG f (N - k) (fun j => A (k + j)) ++ padL l N sz)⟩], rfl, by rw [hv]; rfl, sat_unb1 ?_, ?_, ⟨rfl, rfl, rfl, Nat.le_refl _, fun _ _ _ => rfl⟩⟩
    · show w.heap[l.n]? = some (.cells ⟨esG f k A ++ padL ⟨l.n, padOf (esG f (N - k) (fun j => A (k + j)) ++ padL l N sz)⟩ k sz⟩ e)
      rw [hpad, ← List.append_assoc, ← esG_one' (sz := sz) hk]
      exact hg
    · intro j o x hj hreal hx
      match j, hx with
      | 0, hx =>
        obtain rfl : (⟨l.n, padOf (esG f (N - k) (fun j => A (k + j)) ++ padL l N sz)⟩ : L1) = x := by simpa using hx
        exact .inr ⟨0, _, l, rfl, rfl, rfl, rfl⟩
      | k + 1, hx => simp at hx
end
theorem slcRo2_ok {P : Program} {T e : TypeId} {sz n k : Nat} {x y : Int} {a : Option Addr} {p q : Nat} {τ : Type} {S : World → Prop} {f : τ → List Value} {A : Nat → τ} (hR : Ro S f sz a p q n A) (hT : P.underlying T = some (.slice e)) (hs : ∀ w, (sizeOf e).run P w = .ok sz w) (h : inR x n = true) (hy : inR y (n + 1) = true) (hxy : decide (x ≤ y) = true) :
    ∀ w, (Q.slc T (.slice a n (n + k)) (some (.int .i64 x)) (some (.int .i64 y)) none).sem.run P w = .ok (.value (.slice (some ⟨p, q + x.toNat * sz, none⟩) (y.toNat - x.toNat) (y.toNat - x.toNat + (n + k - y.toNat)))) w := by
  intro w
  obtain ⟨h0, h1⟩ := inR_iff.1 h
  obtain ⟨h2, h3⟩ := inR_iff.1 hy
  have h4 := of_decide_eq_true hxy
  rw [hR.at_ (by omega)]
  obtain ⟨x, rfl⟩ := Int.eq_ofNat_of_zero_le h0
  obtain ⟨y, rfl⟩ := Int.eq_ofNat_of_zero_le h2
  have hne : ¬ (n + k = x) := by omega
  have hadd : (⟨p, q, none⟩ : Addr).add (x * sz) = ⟨p, q + x * sz, none⟩ := by unfold Addr.add; split <;> simp_all
  have e1 : y ≤ n + k := by omega
  have e2 : x ≤ y := by omega
  have hkk : y - x + (n + k - y) = n + k - x := by omega
  simp [Q.sem, Instr.sliceAt, Instr.slice, Instr.sliceBounds, Instr.sliceBound, run_underlying hT, hs, asIntOf, hne, hadd, e1, e2, Sem.run_bind, Result.andThen_ok, hkk]
theorem Ro.part {τ : Type} {S : World → Prop} {f : τ → List Value} {sz : Nat} {a : Option Addr} {p m n : Nat} {A : Nat → τ} (h : Ro S f sz a p m n A) (j n' : Nat) (hn : j + n' ≤ n) : Ro S f sz (some ⟨p, m + j * sz, none⟩) p (m + j * sz) n' (fun k => A (j + k)) :=
  ⟨fun _ => rfl, fun w hS k hk i hi => by
    have := h.cell w hS (j + k) (by omega) i hi
    rw [← this, Nat.add_mul, ← Nat.add_assoc]⟩
theorem part_le {x y : Int} {n : Nat} (h : inR x n = true) (hy : inR y (n + 1) = true) (hxy : decide (x ≤ y) = true) : x.toNat + (y.toNat - x.toNat) ≤ n := by
  obtain ⟨h0, h1⟩ := inR_iff.1 h
  obtain ⟨h2, h3⟩ := inR_iff.1 hy
  have h4 := of_decide_eq_true hxy
  omega
/-! ### A row's part, given to a callee that only reads it -/
end Go.Proofs.Ytnoflelhkgdebaa

