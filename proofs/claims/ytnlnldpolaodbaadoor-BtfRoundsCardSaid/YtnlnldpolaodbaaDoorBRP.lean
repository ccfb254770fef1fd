/-
  Types in a ring with a pointer in it: what they are through aliases, how large, and what the law comes to.
-/
import Derived.Test.YtnlnldpolaodbaaDoorBRO
namespace Go.Proofs.YtnlnldpolaodbaaDoor
open Go.RowKit
set_option linter.unusedVariables false
set_option linter.unusedSimpArgs false
section
variable {n : Nat} {p : Int} {A : TyL} (R : Ring n p A)
include R
theorem Ring.res {f U : Nat} (hf : f < n) (hU : U < n) (hp : ((pos n f U : Nat) : Int) = p) : ∀ m u, u + m = U → ∃ j, j < n ∧ lpO (st_btf_resolve_v2_L0 n A) (.c0 ((pos n f u + 1 : Nat) : Int)) = some (.e0 ((j + 1 : Nat) : Int)) := by
  intro m
  induction m with
  | zero =>
    intro u hu
    obtain rfl : u = U := by omega
    have hl := pos_lt hf hU
    refine ⟨pos n f u, hl, lpO_end ?_⟩
    simp only [st_btf_resolve_v2_L0, (R.id hl).1, (R.id hl).2, cond_true, R.ptr hl hp]
    rfl
  | succ m ih =>
    intro u hu
    have hl := pos_lt hf (show u < n by omega)
    have hnx := pos_nx hf (show u + 1 < n by omega)
    obtain ⟨j, hj, h'⟩ := ih (u + 1) (by omega)
    by_cases hk : (A (pos n f u)).1.fKind = 5
    · have e : (A (pos n f u)).1.fTo = ((pos n f (u + 1) + 1 : Nat) : Int) := by
        rw [← hnx]
        rcases R.el _ hl with ⟨_, e⟩ | ⟨_, e | e | e⟩ <;> rw [e] at hk ⊢ <;> simp at hk
      refine ⟨j, hj, (lpO_next ?_).trans h'⟩
      simp only [st_btf_resolve_v2_L0, (R.id hl).1, (R.id hl).2, cond_true, iq_t hk, e]
    · refine ⟨pos n f u, hl, lpO_end ?_⟩
      simp only [st_btf_resolve_v2_L0, (R.id hl).1, (R.id hl).2, cond_true, iq_f hk, cond_false]
theorem Ring.isF {q i : Nat} (hq : q < n) (hp : (q : Int) = p) (hi : i < n) : m_btf_isFunction_v1 n A ((i + 1 : Nat) : Int) = some false := by
  obtain ⟨U, hU, hUq⟩ := pos_at hi hq
  obtain ⟨j, hj, h'⟩ := R.res hi hU (by rw [hUq]; exact hp) U 0 (by omega)
  rw [pos_0 hi] at h'
  simp only [m_btf_isFunction_v1, m_btf_resolve_v2, h', Option.bind_some, (R.id hj).1, (R.id hj).2, cond_true, iq_f (R.kind hj)]
theorem Ring.holdsF {q i : Nat} (hq : q < n) (hp : (q : Int) = p) (hi : i < n) : m_btf_holdsFunction_v2 n A (A i).1 (A i).2.1 (A i).2.2 = some false := by
  have hF := R.isF hq hp (rnx_lt hi)
  have e0 : lpO (st_btf_holdsFunction_v2_L0 n A 0 D0) (.c0 0) = some .e0 := lpO_end rfl
  have e1 : lpO (st_btf_holdsFunction_v2_L0v1 n A 0 D0) (.c0 0) = some .e0 := lpO_end rfl
  have w1 : IntKind.i64.wrap ((0 : Int) + 1) = 1 := by decide
  rcases R.el i hi with ⟨_, e⟩ | ⟨_, e | e | e⟩ <;> rw [e]
  · simp only [m_btf_holdsFunction_v2, Int.reduceBEq, cond_false, cond_true, e1, Option.bind_some]
  · simp only [m_btf_holdsFunction_v2, Int.reduceBEq, cond_false, cond_true, e1, Option.bind_some]
  · simp only [m_btf_holdsFunction_v2, Int.reduceBEq, cond_false, cond_true, e0, hF, Option.bind_some]
  · have e2 : lpO (st_btf_holdsFunction_v2_L0v1 n A 1 (eSt n i).2.2) (.c0 0) = some .e0 := by
      refine (lpO_next (s' := .c0 1) ?_).trans (lpO_end rfl)
      simp only [st_btf_holdsFunction_v2_L0v1, d_t (show (0 : Int) < ((1 : Nat) : Int) by omega), inR_t (show (0 : Int) ≤ 0 by omega) (show (0 : Int) < ((1 : Nat) : Int) by omega), cond_true, hF, Option.bind_some, cond_false, w1]
    simp only [m_btf_holdsFunction_v2, Int.reduceBEq, cond_false, cond_true, e2, Option.bind_some]
theorem Ring.size {f U : Nat} (hf : f < n) (hU : U < n) (hp : ((pos n f U : Nat) : Int) = p) : ∀ m u, u + m = U → ∀ k, m < k → m_btf_sizeOf_v2_F k n A ((pos n f u + 1 : Nat) : Int) = some 8 := by
  intro m
  induction m with
  | zero =>
    intro u hu k hk
    obtain rfl : u = U := by omega
    obtain ⟨k, rfl⟩ : ∃ k', k = k' + 1 := ⟨k - 1, by omega⟩
    have hl := pos_lt hf hU
    show m_btf_sizeOf_v2 n A _ _ = _
    simp only [m_btf_sizeOf_v2, (R.id hl).1, (R.id hl).2, cond_true, R.ptr hl hp]
    rfl
  | succ m ih =>
    intro u hu k hk
    obtain ⟨k, rfl⟩ : ∃ k', k = k' + 1 := ⟨k - 1, by omega⟩
    have hl := pos_lt hf (show u < n by omega)
    have hnx := pos_nx hf (show u + 1 < n by omega)
    have h' := ih (u + 1) (by omega) k (by omega)
    rw [← hnx] at h'
    show m_btf_sizeOf_v2 n A _ _ = _
    have w8 : IntKind.i64.wrap ((1 : Int) * 8) = 8 := by decide
    rcases R.el _ hl with ⟨_, e⟩ | ⟨_, e | e | e⟩
    · simp only [m_btf_sizeOf_v2, (R.id hl).1, (R.id hl).2, cond_true, e, Int.reduceBEq, cond_false]
    · simp only [m_btf_sizeOf_v2, (R.id hl).1, (R.id hl).2, cond_true, e, Int.reduceBEq, cond_false, h', Option.bind_some]
    · simp only [m_btf_sizeOf_v2, (R.id hl).1, (R.id hl).2, cond_true, e, Int.reduceBEq, cond_false, h', Option.bind_some, w8]
      rfl
    · simp only [m_btf_sizeOf_v2, (R.id hl).1, (R.id hl).2, cond_true, e, Int.reduceBEq, cond_false]
theorem Ring.sz {q i : Nat} (hq : q < n) (hp : (q : Int) = p) (hi : i < n) : m_btf_sizeOf_v2_F 64 n A ((i + 1 : Nat) : Int) = some 8 := by
  obtain ⟨U, hU, hUq⟩ := pos_at hi hq
  have hn := R.hn
  have := R.size hi hU (by rw [hUq]; exact hp) U 0 (by omega) 64 (by omega)
  rw [pos_0 hi] at this
  exact this
theorem Ring.fit {q i : Nat} (hq : q < n) (hp : (q : Int) = p) (hi : i < n) : m_btf_fits_v2 n A ((i + 1 : Nat) : Int) = some true := by
  have h8 := R.sz hq hp hi
  have h8' := R.sz hq hp (rnx_lt hi)
  rcases R.el _ hi with ⟨_, e⟩ | ⟨_, e | e | e⟩
  · simp only [m_btf_fits_v2, (R.id hi).1, (R.id hi).2, cond_true, e, Int.reduceBEq, cond_false]
  · simp only [m_btf_fits_v2, (R.id hi).1, (R.id hi).2, cond_true, e, Int.reduceBEq, cond_false]
  · simp only [m_btf_fits_v2, (R.id hi).1, (R.id hi).2, cond_true, e, Int.reduceBEq, cond_false, h8, Option.bind_some]
    rfl
  · have z1 : zrem 0 8 = 0 := by decide
    have z2 : zquo 0 8 = 0 := by decide
    have w1 : IntKind.i64.wrap ((0 : Int) + 1) = 1 := by decide
    have w2 : IntKind.i64.wrap ((0 : Int) + 8) = 8 := by decide
    have st : ∃ r, lpO (st_btf_fits_v2_L0 n A ((i + 1 : Nat) : Int)) (.c0 0 0) = some r ∧ ∃ a b c d e f, r = .e0 a b c d e f := by
      refine ⟨_, (lpO_next (s' := .c0 8 1) ?_).trans (lpO_end (r := .e0 4 (nameA i) 8 false 0 0) ?_), _, _, _, _, _, _, rfl⟩
      · simp only [st_btf_fits_v2_L0, (R.id hi).1, (R.id hi).2, e, d_t (show (0 : Int) < ((1 : Nat) : Int) by omega), inR_t (show (0 : Int) ≤ 0 by omega) (show (0 : Int) < ((1 : Nat) : Int) by omega), cond_true, d_f (show ¬ ((0 : Int) < 0) by omega), cond_false, z1, z2, iq_t (show (0 : Int) = 0 from rfl), h8', Option.bind_some, w1, w2, d_f (show ¬ ((8 : Int) < 8) by omega)]
      · simp only [st_btf_fits_v2_L0, (R.id hi).2, e, d_f (show ¬ ((1 : Int) < ((1 : Nat) : Int)) by omega), cond_false]
    obtain ⟨_, hr, a, b, c, d, e', f, rfl⟩ := st
    simp only [m_btf_fits_v2, (R.id hi).1, (R.id hi).2, cond_true, e, Int.reduceBEq, cond_false, hr, Option.bind_some]
theorem Ring.check_ok {q : Nat} (hq : q < n) (hp : (q : Int) = p) : m_btf_Check_v1 n A = some (0, 0) := by
  have hn := R.hn
  obtain ⟨w0, w1, hT⟩ := R.types
  have k1 := lpO_ind (st := st_btf_Check_v1_L1 n A) (fun s => ∃ k : Nat, s = .c0 (k : Int) ∧ k ≤ n) (fun s => match s with | .c0 x => n - x.toNat) (fun _ r => r = .e0) (fun s ⟨k, e, hkn⟩ => by
    subst e
    by_cases hk : k < n
    · refine .inl ⟨.c0 ((k + 1 : Nat) : Int), ?_, ⟨k + 1, rfl, by omega⟩, by show n - ((k + 1 : Nat) : Int).toNat < n - ((k : Nat) : Int).toNat; omega, fun r h => h⟩
      simp only [st_btf_Check_v1_L1, d_t (show (k : Int) < (n : Int) by omega), inR_t (show (0 : Int) ≤ (k : Int) by omega) (show (k : Int) < (n : Int) by omega), cond_true, Int.toNat_natCast, R.holdsF hq hp hk, Option.bind_some, cond_false, w_succ k (by omega)]
    · exact .inr ⟨.e0, by simp only [st_btf_Check_v1_L1, d_f (show ¬ ((k : Int) < (n : Int)) by omega), cond_false], rfl⟩)
  have k2 := lpO_ind (st := st_btf_Check_v1_L2 n A) (fun s => ∃ k : Nat, s = .c0 (k : Int) ∧ k ≤ n) (fun s => match s with | .c0 x => n - x.toNat) (fun _ r => r = .e0) (fun s ⟨k, e, hkn⟩ => by
    subst e
    by_cases hk : k < n
    · refine .inl ⟨.c0 ((k + 1 : Nat) : Int), ?_, ⟨k + 1, rfl, by omega⟩, by show n - ((k + 1 : Nat) : Int).toNat < n - ((k : Nat) : Int).toNat; omega, fun r h => h⟩
      simp only [st_btf_Check_v1_L2, d_t (show (k : Int) < (n : Int) by omega), w_succ k (by omega), cond_true, R.fit hq hp hk, Option.bind_some]
    · exact .inr ⟨.e0, by simp only [st_btf_Check_v1_L2, d_f (show ¬ ((k : Int) < (n : Int)) by omega), cond_false], rfl⟩)
  obtain ⟨_, h1, rfl⟩ := k1 (.c0 0) ⟨0, rfl, by omega⟩
  obtain ⟨_, h2, rfl⟩ := k2 (.c0 0) ⟨0, rfl, by omega⟩
  simp only [m_btf_Check_v1, R.many, hT, R.itself_0 hq hp, h1, h2, Option.bind_some, cond_false, cond_true, iq_t (show (0 : Int) = 0 from rfl)]
theorem Ring.check_no (hp : ∀ i, i < n → (i : Int) ≠ p) : m_btf_Check_v1 n A = some (1, 42) := by
  obtain ⟨w0, w1, hT⟩ := R.types
  simp only [m_btf_Check_v1, R.many, hT, R.itself_1 hp, Option.bind_some, cond_false, iq_f (show (1 : Int) ≠ 0 by omega)]
end
theorem btfrounds_true (y0 : Int) (n0 : Nat) (A0 : Nat → BitVec 8) (y2 : Int) : m_barbicanlaw4_BtfRounds y0 n0 A0 y2 = some true := by
  unfold m_barbicanlaw4_BtfRounds
  by_cases h1 : y0 < 1
  · rw [d_t h1, cond_true]
  by_cases h2 : 40 < y0
  · rw [d_f h1, d_t h2, cond_true, cond_false]
  by_cases h3 : (n0 : Int) < y0
  · rw [d_f h1, d_f h2, d_t h3, cond_true, cond_false, cond_false]
  obtain ⟨n, rfl⟩ : ∃ n : Nat, y0 = (n : Int) := ⟨y0.toNat, by omega⟩
  obtain ⟨A, hA, hE⟩ := build (A0 := A0) (p := y2) (show 1 ≤ n by omega) (show n ≤ 40 by omega) (show n ≤ n0 by omega)
  have R : Ring n y2 A := ⟨by omega, by omega, hE⟩
  rw [d_f h1, d_f h2, d_f h3, cond_false, cond_false, cond_false, hA, Option.bind_some]
  by_cases hp : 0 ≤ y2 ∧ y2 < (n : Int)
  · have hc := R.check_ok (q := y2.toNat) (by omega) (by omega)
    simp only [hc, Option.bind_some, d_t hp.1, d_t hp.2, cond_true, iq_t (show (0 : Int) = 0 from rfl)]
  · have hc := R.check_no (fun i hi e => hp ⟨by omega, by omega⟩)
    simp only [hc, Option.bind_some, iq_t (show (42 : Int) = 42 from rfl), iq_t (show (1 : Int) = 1 from rfl), cond_true]
    by_cases h4 : 0 ≤ y2
    · rw [d_t h4, d_f (fun h => hp ⟨h4, h⟩)]; rfl
    · rw [d_f h4]; rfl
end Go.Proofs.YtnlnldpolaodbaaDoor
