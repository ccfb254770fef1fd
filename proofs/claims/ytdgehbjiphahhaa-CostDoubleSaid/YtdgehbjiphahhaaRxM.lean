/-
  Rows that are cut: a row's first elements with no room behind them, what lies behind a place, one put behind the other; copy of nothing; make of a row of a natural number of elements. Nothing of the program stands here.
-/
import Derived.Test.YtdgehbjiphahhaaRxN
namespace Go.Proofs.Ytdgehbjiphahhaa
open Go.RowKit
set_option linter.unusedVariables false
set_option linter.unusedSimpArgs false
inductive CK where
  | row
  | cap
theorem sat_unb1 {w : World} {r l : L1} {o : Obj} (h : w.heap[l.n]? = some o) : SatL [r, l] [unb, o] w := by
  refine ⟨?_, ?_⟩
  · intro j o' x hj hreal hx
    match j, hj, hx with
    | 0, hj, hx =>
      obtain rfl : unb = o' := by simpa using hj
      exact absurd hreal (by decide)
    | 1, hj, hx =>
      obtain rfl : o = o' := by simpa using hj
      obtain rfl : l = x := by simpa using hx
      exact h
    | k + 2, hj, _ => simp at hj
  · intro a b o1 p x y ha har hb hbr hx hy hxy
    match a, b, ha, hb, hx, hy with
    | 0, _, ha, _, _, _ =>
      obtain rfl : unb = o1 := by simpa using ha
      exact absurd har (by decide)
    | _, 0, _, hb, _, _ =>
      obtain rfl : unb = p := by simpa using hb
      exact absurd hbr (by decide)
    | 1, 1, _, _, _, _ => rfl
    | k + 2, _, _, _, hx, _ => simp at hx
    | _, k + 2, _, _, _, hy => simp at hy
section
variable {P : Program} {S : World → Prop} {T e : TypeId} {sz : Nat}
end
section
variable {P : Program} {t ty e : TypeId} {i : TypeInfo} {z : Value} {sz bytes : Nat}
/-- make of so many elements. -/
theorem sqMkN_ok {S : World → Prop} (R : RowT P t e i z sz bytes) {α : Type} {f : α → List Value} {N : Nat} {a0 : α} (hf : ∀ x, (f x).length = sz) (hz : z.cells.toList = f a0) (h : decide (N ≤ 1000000) = true) (hb : bytes ≤ 1000000) : SpcOk P S (sqMk t e sz f N a0) :=
  have h := of_decide_eq_true h
  sqMk_ok R hf hz (by simp only [maxLen]; omega) (Nat.le_trans (Nat.mul_le_mul h hb) (by decide))
theorem padL_of {x k sz : Nat} {p : List Value} (h1 : p.length % sz = 0) (h2 : k + p.length / sz ≤ maxLen) : padL ⟨x, padOf p⟩ k sz = p := by
  unfold padL
  rw [padR_of, if_pos ⟨h1, h2⟩]
theorem esG_one' {α : Type} {f : α → List Value} {sz : Nat} {A : Nat → α} {N x : Nat} (h : x ≤ N) : esG f N A = esG f x A ++ esG f (N - x) (fun k => A (x + k)) := by
  conv => lhs; rw [show N = x + (N - x) by omega, esG_split]
/-- A row's first elements; what lies behind them is room. -/
theorem sqShr_ok {S : World → Prop} (R : RowT P t e i z sz bytes) {α : Type} {f : α → List Value} {N : Nat} {A : Nat → α} (hf : ∀ x, (f x).length = sz) (hs : ∀ w, (sizeOf e).run P w = .ok sz w) {x : Int} (h : inR x (N + 1) = true) (hN : decide (N ≤ 1000000) = true) :
    SpcOk P S ⟨fun ls => .op (.slc t (rowV (lget ls 0) N sz) none (some (.int .i64 x)) none), fun ls => [rowO (lget ls 0) (esG f N A) e N sz], 1, .normal,
      fun ls => [rowV (lget ls 1) x.toNat sz], fun _ => [unb], fun ls => [rowO (lget ls 1) (esG f x.toNat A) e x.toNat sz]⟩ := by
  have hN := of_decide_eq_true hN
  obtain ⟨h0, h1⟩ := inR_iff.1 h
  obtain ⟨k, rfl⟩ := Int.eq_ofNat_of_zero_le h0
  have hk : k ≤ N := by omega
  rw [Int.toNat_natCast]
  intro ls w hlen hsat hS
  match ls, hlen with
  | [l], _ =>
    have hg : w.heap[l.n]? = some (rowO l (esG f N A) e N sz) := hsat.holds 0 _ l rfl rfl rfl
    have hpl : (esG f (N - k) (fun j => A (k + j)) ++ padL l N sz).length = (N - k) * sz + (padL l N sz).length := by rw [List.length_append, esG_len hf]
    have hdiv : (esG f (N - k) (fun j => A (k + j)) ++ padL l N sz).length / sz = (N - k) + (padL l N sz).length / sz := by rw [hpl, Nat.mul_comm, Nat.mul_add_div R.hsz]
    have hmod : (esG f (N - k) (fun j => A (k + j)) ++ padL l N sz).length % sz = 0 := by rw [hpl, Nat.mul_comm, Nat.mul_add_mod, padL_mod]
    have hmax := padL_max l sz (show N ≤ maxLen by simp only [maxLen]; omega)
    have hpad : padL ⟨l.n, padOf (esG f (N - k) (fun j => A (k + j)) ++ padL l N sz)⟩ k sz = esG f (N - k) (fun j => A (k + j)) ++ padL l N sz := by
      exact padL_of hmod (by rw [hdiv]; omega)
    have hv : (.slice (some ⟨l.n, 0, none⟩) k (N + (padL l N sz).length / sz) : Value) = rowV ⟨l.n, padOf (esG f (N - k) (fun j => A (k + j)) ++ padL l N sz)⟩ k sz := by
      unfold rowV
      rw [hpad, hdiv]
      congr 1
      omega
    have hr : (Q.sem (.slc t (rowV l N sz) none (some (.int .i64 (k : Int))) none)).run P w = .ok (.value (.slice (some ⟨l.n, 0, none⟩) k (N + (padL l N sz).length / sz))) w := by
      show (Q.sem (.slc t (.slice (some ⟨l.n, 0, none⟩) N (N + (padL l N sz).length / sz)) none (some (.int .i64 (k : Int))) none)).run P w = _
      generalize (padL l N sz).length / sz = q
      have hlt : ¬ (N + q < k) := by omega
      by_cases hz : N + q = 0
      · obtain rfl : k = 0 := by omega
        simp [Q.sem, Instr.sliceAt, Instr.slice, Instr.sliceBounds, Instr.sliceBound, run_underlying R.ht, hs, asIntOf, Sem.run_bind, Result.andThen_ok, add_off]
      · simp [Q.sem, Instr.sliceAt, Instr.slice, Instr.sliceBounds, Instr.sliceBound, run_underlying R.ht, hs, asIntOf, hlt, Sem.run_bind, Result.andThen_ok, add_off]
    refine ⟨_, w, .inl hr, [⟨l.n, padOf (esG f (N - k) (fun j => A (k + j)) ++ padL l N sz)⟩], rfl, by rw [hv]; rfl, sat_unb1 ?_, ?_, ⟨rfl, rfl, rfl, Nat.le_refl _, fun _ _ _ => rfl⟩⟩
    · show w.heap[l.n]? = some (.cells ⟨esG f k A ++ padL ⟨l.n, padOf (esG f (N - k) (fun j => A (k + j)) ++ padL l N sz)⟩ k sz⟩ e)
      rw [hpad, ← List.append_assoc, ← esG_one' (sz := sz) hk]
      exact hg
    · intro j o x hj hreal hx
      match j, hx with
      | 0, hx =>
        obtain rfl : (⟨l.n, padOf (esG f (N - k) (fun j => A (k + j)) ++ padL l N sz)⟩ : L1) = x := by simpa using hx
        exact .inr ⟨0, _, l, rfl, rfl, rfl, rfl⟩
      | k + 1, hx => simp at hx
theorem padL_nil (x k sz : Nat) : padL ⟨x, padOf []⟩ k sz = [] := by
  unfold padL
  rw [padR_of]
  split <;> rfl
/-- The same, of a slice as long as its block. -/
theorem sqShrP_ok {S : World → Prop} (R : RowT P t e i z sz bytes) {α : Type} {f : α → List Value} {N : Nat} {A : Nat → α} (es : List Value) (hes : es = esG f N A) (hf : ∀ x, (f x).length = sz) (hs : ∀ w, (sizeOf e).run P w = .ok sz w) {x : Int} (h : inR x (N + 1) = true) (hN : decide (N ≤ 1000000) = true) :
    SpcOk P S ⟨fun ls => .op (.slc t (.slice (some ⟨(lget ls 0).n, 0, none⟩) N N) none (some (.int .i64 x)) none), fun ls => [.cells ⟨es⟩ e], 1, .normal,
      fun ls => [rowV (lget ls 1) x.toNat sz], fun _ => [unb], fun ls => [rowO (lget ls 1) (esG f x.toNat A) e x.toNat sz]⟩ := by
  subst hes
  intro ls w hlen hsat hS
  match ls, hlen with
  | [l], _ =>
    have hg : w.heap[l.n]? = some (.cells ⟨esG f N A⟩ e) := hsat.holds 0 _ l rfl rfl rfl
    have hp := padL_nil l.n N sz
    have hg' : w.heap[(⟨l.n, padOf []⟩ : L1).n]? = some (rowO ⟨l.n, padOf []⟩ (esG f N A) e N sz) := by
      unfold rowO
      rw [hp, List.append_nil]
      exact hg
    have hsat' : SatL [⟨l.n, padOf []⟩] [rowO ⟨l.n, padOf []⟩ (esG f N A) e N sz] w := by
      refine ⟨?_, ?_⟩
      · intro j o x hj hreal hx
        match j, hj, hx with
        | 0, hj, hx =>
          obtain rfl : rowO ⟨l.n, padOf []⟩ (esG f N A) e N sz = o := by simpa using hj
          obtain rfl : (⟨l.n, padOf []⟩ : L1) = x := by simpa using hx
          exact hg'
        | k + 1, hj, _ => simp at hj
      · intro a b o p x y ha har hb hbr hx hy hxy
        match a, b, hx, hy with
        | 0, 0, _, _ => rfl
        | k + 1, _, hx, _ => simp at hx
        | _, k + 1, _, hy => simp at hy
    have key := sqShr_ok (S := S) (P := P) R (f := f) (N := N) (A := A) hf hs h hN [⟨l.n, padOf []⟩] w rfl hsat' hS
    obtain ⟨v, w', hr, ms, h1, h2, h3, h4, h5⟩ := key
    have hv : (rowV ⟨l.n, padOf []⟩ N sz) = .slice (some ⟨l.n, 0, none⟩) N N := by
      unfold rowV
      rw [hp]
      simp
    refine ⟨v, w', ?_, ms, h1, h2, ?_, ?_, ?_⟩
    · have hr' := hr
      simp only [lget, List.getD_cons_zero, hv] at hr'
      exact hr'
    · match ms, h1 with
      | [m], _ => exact sat_unb1 (h3.holds 1 _ m rfl rfl rfl)
    · intro j o x hj hreal hx
      match ms, h1, j, hx with
      | [m], _, 0, hx =>
        obtain rfl : m = x := by simpa using hx
        rcases h4 0 _ m rfl rfl rfl with h | ⟨j', o', l', q1, q2, q3, q4⟩
        · exact .inl h
        · match j', q1, q3 with
          | 0, q1, q3 =>
            obtain rfl : (⟨l.n, padOf []⟩ : L1) = l' := by simpa using q3
            exact .inr ⟨0, _, l, rfl, rfl, rfl, q4⟩
          | k + 1, q1, _ => simp at q1
      | [m], _, k + 1, hx => simp at hx
    · exact ⟨h5.os, h5.tape, h5.output, h5.size, fun k hk ht => h5.block k hk fun ⟨j', o', l', q1, q2, q3, q4⟩ => ht (by
        match j', q1, q3 with
        | 0, q1, q3 =>
          obtain rfl : (⟨l.n, padOf []⟩ : L1) = l' := by simpa using q3
          exact ⟨0, _, l, rfl, rfl, rfl, q4⟩
        | k + 1, q1, _ => simp at q1)⟩
end
theorem Ro.part {τ : Type} {S : World → Prop} {f : τ → List Value} {sz : Nat} {a : Option Addr} {p m n : Nat} {A : Nat → τ} (h : Ro S f sz a p m n A) (j n' : Nat) (hn : j + n' ≤ n) : Ro S f sz (some ⟨p, m + j * sz, none⟩) p (m + j * sz) n' (fun k => A (j + k)) :=
  ⟨fun _ => rfl, fun w hS k hk i hi => by
    have := h.cell w hS (j + k) (by omega) i hi
    rw [← this, Nat.add_mul, ← Nat.add_assoc]⟩
/-! ### A row's part, given to a callee that only reads it -/
end Go.Proofs.Ytdgehbjiphahhaa

