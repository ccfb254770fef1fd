/-
  Rows that are cut: a row's first elements with no room behind them, what lies behind a place, one put behind the other; copy of nothing; make of a row of a natural number of elements. Nothing of the program stands here.
-/
import Derived.Test.YtliijnpblddjfaaRxN
namespace Go.Proofs.Ytliijnpblddjfaa
open Go.RowKit
set_option linter.unusedVariables false
set_option linter.unusedSimpArgs false
inductive CK where
  | row
  | cap
theorem zzR {w : World} {r l : L1} {o : Obj} (h : w.heap[l.n]? = some o) : SatL [r, l] [unb, o] w := by
  refine ⟨?_, ?_⟩
  · intro j o' x hj hreal hx
    match j, hj, hx with
    | 0, hj, hx =>
      obtain rfl : unb = o' := by simpa using hj
      exact absurd hreal (by decide)
    | 1, hj, hx =>
      obtain rfl : o = o' := by simpa using hj
      obtain rfl : l = x := by simpa using hx
      exact h
    | k + 2, hj, _ => simp at hj
  · intro a b o1 p x y ha har hb hbr hx hy hxy
    match a, b, ha, hb, hx, hy with
    | 0, _, ha, _, _, _ =>
      obtain rfl : unb = o1 := by simpa using ha
      exact absurd har (by decide)
    | _, 0, _, hb, _, _ =>
      obtain rfl : unb = p := by simpa using hb
      exact absurd hbr (by decide)
    | 1, 1, _, _, _, _ => rfl
    | k + 2, _, _, _, hx, _ => simp at hx
    | _, k + 2, _, _, _, hy => simp at hy
section
variable {P : Program} {S : World → Prop} {T e : TypeId} {sz : Nat}
end
section
variable {P : Program} {t ty e : TypeId} {i : TypeInfo} {z : Value} {sz bytes : Nat}
theorem zBv {x k sz : Nat} {p : List Value} (h1 : p.length % sz = 0) (h2 : k + p.length / sz ≤ maxLen) : padL ⟨x, zq0 p⟩ k sz = p := by
  unfold padL
  rw [zzk, if_pos ⟨h1, h2⟩]
theorem zBO {α : Type} {f : α → List Value} {sz : Nat} {A : Nat → α} {N x : Nat} (h : x ≤ N) : esG f N A = esG f x A ++ esG f (N - x) (fun k => A (x + k)) := by
  conv => lhs; rw [show N = x + (N - x) by omega, zwD]
/-- A row's first elements; what lies behind them is room. -/
theorem zz1 {S : World → Prop} (R : RowT P t e i z sz bytes) {α : Type} {f : α → List Value} {N : Nat} {A : Nat → α} (hf : ∀ x, (f x).length = sz) (hs : ∀ w, (sizeOf e).run P w = .ok sz w) {x : Int} (h : inR x (N + 1) = true) (hN : decide (N ≤ 1000000) = true) :
    SpcOk P S ⟨fun ls => .op (.slc t (rowV (lget ls 0) N sz) none (some (.int .i64 x)) none), fun ls => [rowO (lget ls 0) (esG f N A) e N sz], 1, .normal,
      fun ls => [rowV (lget ls 1) x.toNat sz], fun _ => [unb], fun ls => [rowO (lget ls 1) (esG f x.toNat A) e x.toNat sz]⟩ := by
  have hN := of_decide_eq_true hN
  obtain ⟨h0, h1⟩ := ziB.1 h
  obtain ⟨k, rfl⟩ := Int.eq_ofNat_of_zero_le h0
  have hk : k ≤ N := by omega
  rw [Int.toNat_natCast]
  intro ls w hlen hsat hS
  match ls, hlen with
  | [l], _ =>
    have hg : w.heap[l.n]? = some (rowO l (esG f N A) e N sz) := hsat.holds 0 _ l rfl rfl rfl
    have hpl : (esG f (N - k) (fun j => A (k + j)) ++ padL l N sz).length = (N - k) * sz + (padL l N sz).length := by rw [List.length_append, zkf hf]
    have hdiv : (esG f (N - k) (fun j => A (k + j)) ++ padL l N sz).length / sz = (N - k) + (padL l N sz).length / sz := by rw [hpl, Nat.mul_comm, Nat.mul_add_div R.hsz]
    have hmod : (esG f (N - k) (fun j => A (k + j)) ++ padL l N sz).length % sz = 0 := by rw [hpl, Nat.mul_comm, Nat.mul_add_mod, zzL]
    have hmax := zzU l sz (show N ≤ maxLen by simp only [maxLen]; omega)
    have hpad : padL ⟨l.n, zq0 (esG f (N - k) (fun j => A (k + j)) ++ padL l N sz)⟩ k sz = esG f (N - k) (fun j => A (k + j)) ++ padL l N sz := by
      exact zBv hmod (by rw [hdiv]; omega)
    have hv : (.slice (some ⟨l.n, 0, none⟩) k (N + (padL l N sz).length / sz) : Value) = rowV ⟨l.n, zq0 (esG f (N - k) (fun j => A (k + j)) ++ padL l N sz)⟩ k sz := by
      unfold rowV
      rw [hpad, hdiv]
      congr 1
      omega
    have hr : (Q.sem (.slc t (rowV l N sz) none (some (.int .i64 (k : Int))) none)).run P w = .ok (.value (.slice (some ⟨l.n, 0, none⟩) k (N + (padL l N sz).length / sz))) w := by
      show (Q.sem (.slc t (.slice (some ⟨l.n, 0, none⟩) N (N + (padL l N sz).length / sz)) none (some (.int .i64 (k : Int))) none)).run P w = _
      generalize (padL l N sz).length / sz = q
      have hlt : ¬ (N + q < k) := by omega
      by_cases hz : N + q = 0
      · obtain rfl : k = 0 := by omega
        simp [Q.sem, Instr.sliceAt, Instr.slice, Instr.sliceBounds, Instr.sliceBound, run_underlying R.ht, hs, asIntOf, Sem.run_bind, Result.andThen_ok, ztz]
      · simp [Q.sem, Instr.sliceAt, Instr.slice, Instr.sliceBounds, Instr.sliceBound, run_underlying R.ht, hs, asIntOf, hlt, Sem.run_bind, Result.andThen_ok, ztz]
    refine ⟨_, w, .inl hr, [⟨l.n, zq0 (esG f (N - k) (fun j => A (k + j)) ++ padL l N sz)⟩], rfl, by rw [hv]; rfl, zzR ?_, ?_, ⟨rfl, rfl, rfl, Nat.le_refl _, fun _ _ _ => rfl⟩⟩
    · show w.heap[l.n]? = some (.cells ⟨esG f k A ++ padL ⟨l.n, zq0 (esG f (N - k) (fun j => A (k + j)) ++ padL l N sz)⟩ k sz⟩ e)
      rw [hpad, ← List.append_assoc, ← zBO (sz := sz) hk]
      exact hg
    · intro j o x hj hreal hx
      match j, hx with
      | 0, hx =>
        obtain rfl : (⟨l.n, zq0 (esG f (N - k) (fun j => A (k + j)) ++ padL l N sz)⟩ : L1) = x := by simpa using hx
        exact .inr ⟨0, _, l, rfl, rfl, rfl, rfl⟩
      | k + 1, hx => simp at hx
end
theorem Ro.part {τ : Type} {S : World → Prop} {f : τ → List Value} {sz : Nat} {a : Option Addr} {p m n : Nat} {A : Nat → τ} (h : Ro S f sz a p m n A) (j n' : Nat) (hn : j + n' ≤ n) : Ro S f sz (some ⟨p, m + j * sz, none⟩) p (m + j * sz) n' (fun k => A (j + k)) :=
  ⟨fun _ => rfl, fun w hS k hk i hi => by
    have := h.cell w hS (j + k) (by omega) i hi
    rw [← this, Nat.add_mul, ← Nat.add_assoc]⟩
/-! ### A row's part, given to a callee that only reads it -/
end Go.Proofs.Ytliijnpblddjfaa

