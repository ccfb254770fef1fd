/-
  Types in a ring: whether one holds itself, what they are and how large, and what the law comes to.
-/
import Derived.Test.YtnlnldpolaodbaaDoorBRN
namespace Go.Proofs.YtnlnldpolaodbaaDoor
open Go.RowKit
set_option linter.unusedVariables false
set_option linter.unusedSimpArgs false
structure Ring (n : Nat) (p : Int) (A : TyL) : Prop where
  h1 : 1 ≤ n
  hn : n ≤ 40
  el : ∀ i, i < n → El n p i (A i)
/-- The one u behind f. -/
def pos (n f u : Nat) : Nat := if f + u < n then f + u else f + u - n
theorem pos_lt {n f u : Nat} (hf : f < n) (hu : u < n) : pos n f u < n := by unfold pos; split <;> omega
theorem pos_nx {n f u : Nat} (hf : f < n) (hu : u + 1 < n) : rnx n (pos n f u) = pos n f (u + 1) := by
  unfold pos rnx; split <;> split <;> split <;> omega
theorem pos_ne {n f u v : Nat} (hf : f < n) (hu : u < n) (hv : v < n) (h : u ≠ v) : pos n f u ≠ pos n f v := by
  unfold pos; split <;> split <;> omega
theorem pos_0 {n f : Nat} (hf : f < n) : pos n f 0 = f := by unfold pos; split <;> omega
theorem pos_at {n f q : Nat} (hf : f < n) (hq : q < n) : ∃ U, U < n ∧ pos n f U = q := by
  by_cases h : f ≤ q
  · exact ⟨q - f, by omega, by unfold pos; split <;> omega⟩
  · exact ⟨q + n - f, by omega, by unfold pos; split <;> omega⟩
theorem held_ptr (n i : Nat) : m_btf_held_v2 (ePtr n i).1 (ePtr n i).2.1 (ePtr n i).2.2 = some .e1 := rfl
section
variable {n : Nat} {p : Int} {A : TyL} (R : Ring n p A)
include R
theorem Ring.ptr {i : Nat} (hi : i < n) (h : (i : Int) = p) : A i = ePtr n i := by
  rcases R.el i hi with ⟨_, e⟩ | ⟨k, _⟩
  · exact e
  · exact absurd h k
theorem Ring.kind {i : Nat} (hi : i < n) : (A i).1.fKind ≠ 6 := by
  rcases R.el i hi with ⟨_, e⟩ | ⟨_, e | e | e⟩ <;> rw [e] <;> simp
theorem Ring.held {i : Nat} (hi : i < n) (h : (i : Int) ≠ p) : ∃ V, m_btf_held_v2 (A i).1 (A i).2.1 (A i).2.2 = some (.e0 1 V) ∧ V 0 = ((rnx n i + 1 : Nat) : Int) := by
  rcases R.el i hi with ⟨k, _⟩ | ⟨_, e | e | e⟩
  · exact absurd k h
  · rw [e]; exact ⟨_, rfl, rfl⟩
  · rw [e]; exact ⟨_, rfl, rfl⟩
  · rw [e]
    refine ⟨fun _ => ((rnx n i + 1 : Nat) : Int), ?_, rfl⟩
    show m_btf_held_v2 (eSt n i).1 1 (eSt n i).2.2 = _
    have h0 : lpO (st_btf_held_v2_L0 1 (eSt n i).2.2) .c0 = some (.e1 1 fun _ => ((rnx n i + 1 : Nat) : Int)) := (lpO_next (s' := .c1 1 (fun _ => ((rnx n i + 1 : Nat) : Int)) 1) rfl).trans (lpO_end rfl)
    simp only [m_btf_held_v2, Int.reduceBEq, cond_false, cond_true, h0, Option.bind_some]
theorem Ring.id {i : Nat} (hi : i < n) : inR (IntKind.i64.wrap (((i + 1 : Nat) : Int) - 1)) n = true ∧ (IntKind.i64.wrap (((i + 1 : Nat) : Int) - 1)).toNat = i := by
  have := R.hn
  rw [w_pred i (by omega)]
  exact ⟨inR_t (by omega) (by omega), Int.toNat_natCast i⟩
/-- One step on the way. -/
theorem Ring.step {i : Nat} (hi : i < n) (h : (i : Int) ≠ p) {w : Int} {w1 : Nat → Bool} {mr : Int → Nat → TyL → Int → (Nat → Bool) → Option R_btf_holdsItself_1_v3} (hw : ((rnx n i + 1 : Nat) : Int) ≠ w) (hs : w1 (rnx n i + 1) = false) {w2 : Nat → Bool} {b : Bool}
    (hm : mr ((rnx n i + 1 : Nat) : Int) n A w (updF w1 (rnx n i + 1) true) = some (.e0 w2 b)) : m_btf_holdsItself_1_v3 ((i + 1 : Nat) : Int) n A w w1 mr = some (.e0 w2 b) := by
  obtain ⟨V, hV, hV0⟩ := R.held hi h
  have hx := rnx_lt hi
  have hn := R.hn
  have w0 : IntKind.i64.wrap ((0 : Int) + 1) = 1 := by decide
  have st : st_btf_holdsItself_1_v3_L0 n A w mr 1 V (.c0 w1 0) = (if b then some (.inr (.e1 w2)) else some (.inl (.c0 w2 1))) := by
    simp only [st_btf_holdsItself_1_v3_L0, d_t (show (0 : Int) < ((1 : Nat) : Int) by omega), inR_t (show (0 : Int) ≤ 0 by omega) (show (0 : Int) < ((1 : Nat) : Int) by omega), Int.toNat_zero, hV0, iq_f hw, inR_t (show (0 : Int) ≤ ((rnx n i + 1 : Nat) : Int) by omega) (show ((rnx n i + 1 : Nat) : Int) < ((257 : Nat) : Int) by omega), cond_true, cond_false, Int.toNat_natCast, hs, hm, Option.bind_some, w0]
    cases b <;> rfl
  simp only [m_btf_holdsItself_1_v3, (R.id hi).1, (R.id hi).2, cond_true, hV, Option.bind_some]
  cases b with
  | true => rw [lpO_end (st.trans (if_pos rfl))]; rfl
  | false => rw [lpO_next (st.trans (if_neg (by simp))), lpO_end (r := .e0 w2) rfl]; rfl
theorem Ring.noway {f U : Nat} (hf : f < n) (hU : U < n) (hp : ((pos n f U : Nat) : Int) = p) : ∀ m u, u + m = U → ∀ k, m < k → ∀ w1 : Nat → Bool, (∀ v, u < v → v ≤ U → w1 (pos n f v + 1) = false) →
    ∃ w', m_btf_holdsItself_1_v3_F k ((pos n f u + 1 : Nat) : Int) n A ((f + 1 : Nat) : Int) w1 = some (.e0 w' false) := by
  intro m
  induction m with
  | zero =>
    intro u hu k hk w1 _
    obtain rfl : u = U := by omega
    obtain ⟨k, rfl⟩ : ∃ k', k = k' + 1 := ⟨k - 1, by omega⟩
    refine ⟨w1, ?_⟩
    show m_btf_holdsItself_1_v3 _ n A _ w1 _ = _
    have hl := pos_lt hf hU
    simp only [m_btf_holdsItself_1_v3, (R.id hl).1, (R.id hl).2, cond_true, R.ptr hl hp]
    rfl
  | succ m ih =>
    intro u hu k hk w1 hw
    obtain ⟨k, rfl⟩ : ∃ k', k = k' + 1 := ⟨k - 1, by omega⟩
    have hl := pos_lt hf (show u < n by omega)
    have hnx := pos_nx hf (show u + 1 < n by omega)
    obtain ⟨w', h'⟩ := ih (u + 1) (by omega) k (by omega) (updF w1 (pos n f (u + 1) + 1) true) (fun v h1 h2 => by
      have := pos_ne hf (show v < n by omega) (show u + 1 < n by omega) (by omega)
      rw [updF_ne _ _ (by omega)]
      exact hw v (by omega) h2)
    refine ⟨w', R.step hl (fun e => ?_) ?_ ?_ (by rw [hnx]; exact h')⟩
    · have := pos_ne hf (show u < n by omega) hU (by omega)
      omega
    · have := pos_ne hf (show u + 1 < n by omega) (show 0 < n by omega) (by omega)
      rw [pos_0 hf] at this
      rw [hnx]; omega
    · rw [hnx]; exact hw (u + 1) (by omega) (by omega)
theorem Ring.way (hp : ∀ i, i < n → (i : Int) ≠ p) : ∀ m u, u + m + 1 = n → ∀ k, m < k → ∀ w1 : Nat → Bool, (∀ v, u < v → v < n → w1 (v + 1) = false) →
    ∃ w', m_btf_holdsItself_1_v3_F k ((u + 1 : Nat) : Int) n A 1 w1 = some (.e0 w' true) := by
  intro m
  induction m with
  | zero =>
    intro u hu k hk w1 _
    obtain ⟨k, rfl⟩ : ∃ k', k = k' + 1 := ⟨k - 1, by omega⟩
    refine ⟨w1, ?_⟩
    show m_btf_holdsItself_1_v3 _ n A _ w1 _ = _
    have hl : u < n := by omega
    obtain ⟨V, hV, hV0⟩ := R.held hl (hp u hl)
    have e : rnx n u = 0 := by unfold rnx; split <;> omega
    have st : st_btf_holdsItself_1_v3_L0 n A 1 (m_btf_holdsItself_1_v3_F k) 1 V (.c0 w1 0) = some (.inr (.e1 w1)) := by
      simp only [st_btf_holdsItself_1_v3_L0, d_t (show (0 : Int) < ((1 : Nat) : Int) by omega), inR_t (show (0 : Int) ≤ 0 by omega) (show (0 : Int) < ((1 : Nat) : Int) by omega), Int.toNat_zero, hV0, e, iq_t (show ((0 + 1 : Nat) : Int) = 1 by omega), cond_true]
    simp only [m_btf_holdsItself_1_v3, (R.id hl).1, (R.id hl).2, cond_true, hV, Option.bind_some, lpO_end st]
  | succ m ih =>
    intro u hu k hk w1 hw
    obtain ⟨k, rfl⟩ : ∃ k', k = k' + 1 := ⟨k - 1, by omega⟩
    have hl : u < n := by omega
    have hnx : rnx n u = u + 1 := by unfold rnx; split <;> omega
    obtain ⟨w', h'⟩ := ih (u + 1) (by omega) k (by omega) (updF w1 (u + 1 + 1) true) (fun v h1 h2 => by
      rw [updF_ne _ _ (by omega)]
      exact hw v (by omega) h2)
    exact ⟨w', R.step hl (hp u hl) (by rw [hnx]; omega) (by rw [hnx]; exact hw (u + 1) (by omega) (by omega)) (by rw [hnx]; exact h')⟩
theorem Ring.itself_0 {q : Nat} (hq : q < n) (hp : (q : Int) = p) : m_btf_holdsItself_v1 n A = some 0 := by
  have hn := R.hn
  have key := lpO_ind (st := st_btf_holdsItself_v1_L0 n A) (fun s => ∃ f : Nat, s = .c0 ((f + 1 : Nat) : Int) ∧ f ≤ n) (fun s => match s with | .c0 x => n + 1 - x.toNat) (fun _ r => r = .e0) (fun s ⟨f, e, hfn⟩ => by
    subst e
    by_cases hf : f < n
    · obtain ⟨U, hU, hUq⟩ := pos_at hf hq
      obtain ⟨w', h'⟩ := R.noway hf hU (by rw [hUq]; exact hp) U 0 (by omega) 64 (by omega) (fun _ => false) (fun _ _ _ => rfl)
      rw [pos_0 hf] at h'
      refine .inl ⟨.c0 ((f + 1 + 1 : Nat) : Int), ?_, ⟨f + 1, rfl, by omega⟩, by show n + 1 - ((f + 1 + 1 : Nat) : Int).toNat < n + 1 - ((f + 1 : Nat) : Int).toNat; omega, fun r h => h⟩
      simp only [st_btf_holdsItself_v1_L0, d_t (show ((f + 1 : Nat) : Int) ≤ (n : Int) by omega), cond_true, h', Option.bind_some, cond_false, w_succ (f + 1) (by omega)]
    · exact .inr ⟨.e0, by simp only [st_btf_holdsItself_v1_L0, d_f (show ¬ (((f + 1 : Nat) : Int) ≤ (n : Int)) by omega), cond_false], rfl⟩)
  obtain ⟨r, hr, rfl⟩ := key (.c0 1) ⟨0, rfl, by omega⟩
  unfold m_btf_holdsItself_v1
  rw [hr]
  rfl
theorem Ring.itself_1 (hp : ∀ i, i < n → (i : Int) ≠ p) : m_btf_holdsItself_v1 n A = some 1 := by
  have hn := R.hn
  have h1 := R.h1
  obtain ⟨w', h'⟩ := R.way hp (n - 1) 0 (by omega) 64 (by omega) (fun _ => false) (fun _ _ _ => rfl)
  have h' : m_btf_holdsItself_1_v3_F 64 1 n A 1 (fun _ => false) = some (.e0 w' true) := h'
  have st : st_btf_holdsItself_v1_L0 n A (.c0 1) = some (.inr (.e1 1)) := by
    simp only [st_btf_holdsItself_v1_L0, d_t (show (1 : Int) ≤ (n : Int) by omega), cond_true, h', Option.bind_some]
  unfold m_btf_holdsItself_v1
  rw [lpO_end st]
  rfl
theorem Ring.many : m_btf_tooMany_v1 n A = some false := by
  have hn := R.hn
  have key := lpO_ind (st := st_btf_tooMany_v1_L0 n A) (fun s => ∃ k : Nat, s = .c0 (k : Int) ∧ k ≤ n) (fun s => match s with | .c0 x => n - x.toNat) (fun _ r => r = .e0) (fun s ⟨k, e, hkn⟩ => by
    subst e
    by_cases hk : k < n
    · refine .inl ⟨.c0 ((k + 1 : Nat) : Int), ?_, ⟨k + 1, rfl, by omega⟩, by show n - ((k + 1 : Nat) : Int).toNat < n - ((k : Nat) : Int).toNat; omega, fun r h => h⟩
      have hm : ¬ ((64 : Int) < (((A k).2.1 : Nat) : Int)) := by
        rcases R.el k hk with ⟨_, e⟩ | ⟨_, e | e | e⟩ <;> rw [e] <;> simp
      simp only [st_btf_tooMany_v1_L0, d_t (show (k : Int) < (n : Int) by omega), inR_t (show (0 : Int) ≤ (k : Int) by omega) (show (k : Int) < (n : Int) by omega), cond_true, Int.toNat_natCast, d_f hm, cond_false, w_succ k (by omega)]
    · exact .inr ⟨.e0, by simp only [st_btf_tooMany_v1_L0, d_f (show ¬ ((k : Int) < (n : Int)) by omega), cond_false], rfl⟩)
  obtain ⟨r, hr, rfl⟩ := key (.c0 0) ⟨0, rfl, by omega⟩
  simp only [m_btf_tooMany_v1, d_f (show ¬ ((256 : Int) < (n : Int)) by omega), cond_false, hr, Option.bind_some]
theorem Ring.types : ∃ w0 w1, lpO (st_btf_Check_v1_L0 n A) (.c0 0 (fun _ => (⟨(⟨0, ByteArray.empty⟩ : Named), 0⟩ : Me39)) 0) = some (.e0 w0 w1) := by
  have hn := R.hn
  have key := lpO_ind (st := st_btf_Check_v1_L0 n A) (fun s => ∃ (k w0 : Nat) (w1 : Nat → Me39), s = .c0 w0 w1 (k : Int) ∧ k ≤ n ∧ KI k w0 w1) (fun s => match s with | .c0 _ _ x => n - x.toNat) (fun _ r => ∃ w0 w1, r = .e0 w0 w1) (fun s ⟨k, w0, w1, e, hkn, hK⟩ => by
    subst e
    by_cases hk : k < n
    · obtain ⟨v0, v1, hc, hK'⟩ := check_El hn hk (R.el k hk) hK
      refine .inl ⟨.c0 v0 v1 ((k + 1 : Nat) : Int), ?_, ⟨k + 1, v0, v1, rfl, by omega, hK'⟩, by show n - ((k + 1 : Nat) : Int).toNat < n - ((k : Nat) : Int).toNat; omega, fun r h => h⟩
      simp only [st_btf_Check_v1_L0, d_t (show (k : Int) < (n : Int) by omega), inR_t (show (0 : Int) ≤ (k : Int) by omega) (show (k : Int) < (n : Int) by omega), cond_true, Int.toNat_natCast, hc, Option.bind_some, iq_t (show (0 : Int) = 0 from rfl), w_succ k (by omega)]
    · exact .inr ⟨.e0 w0 w1, by simp only [st_btf_Check_v1_L0, d_f (show ¬ ((k : Int) < (n : Int)) by omega), cond_false], w0, w1, rfl⟩)
  obtain ⟨r, hr, w0, w1, rfl⟩ := key (.c0 0 _ 0) ⟨0, 0, _, rfl, by omega, fun j hj => by omega⟩
  exact ⟨w0, w1, hr⟩
end
end Go.Proofs.YtnlnldpolaodbaaDoor
