/-
  Types that hold types: a walk that comes not back says that there is no round; how deep they lie.
-/
import Derived.Test.YtlpjdjbophcomaaDoorBWAd
namespace Go.Proofs.YtlpjdjbophcomaaDoor
open Go.RowKit
set_option linter.unusedVariables false
set_option linter.unusedSimpArgs false
theorem wr {x : Int} (h0 : -9223372036854775808 ≤ x) (h1 : x < 9223372036854775808) : IntKind.i64.wrap x = x := z_wrap h0 h1
theorem inR_t {x : Int} {n : Nat} (h0 : 0 ≤ x) (h1 : x < n) : inR x n = true := inR_iff.2 ⟨h0, h1⟩
theorem d_t {p : Prop} [Decidable p] (h : p) : decide p = true := decide_eq_true h
theorem d_f {p : Prop} [Decidable p] (h : ¬ p) : decide p = false := decide_eq_false h
theorem iq_t {a b : Int} (h : a = b) : (a == b) = true := by simp [h]
theorem iq_f {a b : Int} (h : a ≠ b) : (a == b) = false := by simp [h]
theorem w_succ (k : Nat) (h : k ≤ 1000000) : IntKind.i64.wrap ((k : Int) + 1) = ((k + 1 : Nat) : Int) := by rw [wr] <;> omega
theorem w_pred (k : Nat) (h : k ≤ 1000000) : IntKind.i64.wrap (((k + 1 : Nat) : Int) - 1) = (k : Int) := by rw [wr] <;> omega
abbrev MemL := Nat → Member
abbrev TyL := Nat → (Xs35 × (Nat × (Nat → Member)))
/-- How many of the first n are not seen. -/
def cntU (w : Nat → Bool) : Nat → Nat
  | 0 => 0
  | n + 1 => cntU w n + (if w (n + 1) then 0 else 1)
theorem cntU_le (w : Nat → Bool) : ∀ n, cntU w n ≤ n
  | 0 => Nat.le_refl _
  | n + 1 => by have := cntU_le w n; unfold cntU; split <;> omega
theorem cntU_mono {w w' : Nat → Bool} (h : ∀ x, w x = true → w' x = true) : ∀ n, cntU w' n ≤ cntU w n
  | 0 => Nat.le_refl _
  | n + 1 => by
    have := cntU_mono h n
    unfold cntU
    split
    · split <;> omega
    · rename_i h2
      split
      · rename_i h1; exact absurd (h _ h1) h2
      · omega
theorem cntU_put {w : Nat → Bool} {j : Nat} (hw : w (j + 1) = false) : ∀ n, j < n → cntU (updF w (j + 1) true) n < cntU w n
  | 0, h => absurd h (Nat.not_lt_zero _)
  | n + 1, h => by
    have hm := cntU_mono (w := w) (w' := updF w (j + 1) true) (fun x hx => by
      by_cases e : x = j + 1
      · rw [e, updF_at]
      · rw [updF_ne _ _ e]; exact hx) n
    by_cases e : j = n
    · subst e
      unfold cntU
      rw [updF_at, hw, if_pos rfl, if_neg (by simp)]
      omega
    · have := cntU_put hw n (by omega)
      unfold cntU
      rw [updF_ne _ _ (show n + 1 ≠ j + 1 by omega)]
      split <;> omega
/-- What is held, of types that name only types that there are. -/
structure Refs (n : Nat) (A : TyL) : Prop where
  hn : n ≤ 256
  held : ∀ i, i < n → m_btf_held_v2 (A i).1 (A i).2.1 (A i).2.2 = some .e1 ∨ ∃ m V, m ≤ 100000 ∧ m_btf_held_v2 (A i).1 (A i).2.1 (A i).2.2 = some (.e0 m V) ∧ ∀ t, t < m → ∃ j, j < n ∧ V t = ((j + 1 : Nat) : Int)
def Holds (A : TyL) (i j : Nat) : Prop := ∃ m V t, m_btf_held_v2 (A i).1 (A i).2.1 (A i).2.2 = some (.e0 m V) ∧ t < m ∧ V t = ((j + 1 : Nat) : Int)
section
variable {n : Nat} {A : TyL} (R : Refs n A)
include R
theorem Refs.id {i : Nat} (hi : i < n) : inR (IntKind.i64.wrap (((i + 1 : Nat) : Int) - 1)) n = true ∧ (IntKind.i64.wrap (((i + 1 : Nat) : Int) - 1)).toNat = i := by
  have := R.hn
  rw [w_pred i (by omega)]
  exact ⟨inR_t (by omega) (by omega), Int.toNat_natCast i⟩
theorem Refs.lt {i j : Nat} (hi : i < n) (h : Holds A i j) : j < n := by
  obtain ⟨m, V, t, hm, ht, hj⟩ := h
  rcases R.held i hi with e | ⟨m', V', _, e, hV⟩
  · rw [e] at hm; cases hm
  · rw [e] at hm
    injection hm with hm
    injection hm with h1 h2
    subst h1 h2
    obtain ⟨j', hj', e'⟩ := hV t ht
    omega
/-- The walk from i: it ends; if it comes not to f, all that lies on it is seen, and none of it holds f. -/
theorem Refs.walk (f : Nat) : ∀ k i, i < n → ∀ w1 : Nat → Bool, cntU w1 n < k → ∃ w2 b, m_btf_holdsItself_1_v3_F k ((i + 1 : Nat) : Int) n A ((f + 1 : Nat) : Int) w1 = some (.e0 w2 b) ∧ (∀ x, w1 x = true → w2 x = true) ∧
    (b = false → (∀ j, Holds A i j → w2 (j + 1) = true ∧ j ≠ f) ∧ ∀ x, x < n → w2 (x + 1) = true → w1 (x + 1) = false → ∀ j, Holds A x j → w2 (j + 1) = true ∧ j ≠ f) := by
  intro k
  have hn := R.hn
  induction k with
  | zero => intro i _ w1 h; omega
  | succ k ih =>
    intro i hi w1 hc
    have hstart : ∀ r, m_btf_holdsItself_1_v3 ((i + 1 : Nat) : Int) n A ((f + 1 : Nat) : Int) w1 (m_btf_holdsItself_1_v3_F k) = r → m_btf_holdsItself_1_v3_F (k + 1) ((i + 1 : Nat) : Int) n A ((f + 1 : Nat) : Int) w1 = r := fun r h => h
    rcases R.held i hi with e | ⟨m, V, hm, e, hV⟩
    · refine ⟨w1, false, hstart _ ?_, fun x h => h, fun _ => ⟨fun j ⟨m, V, t, h, _⟩ => ?_, fun x hx h1 h2 => ?_⟩⟩
      · simp only [m_btf_holdsItself_1_v3, (R.id hi).1, (R.id hi).2, cond_true, e, Option.bind_some]
      · rw [e] at h; cases h
      · rw [h1] at h2; cases h2
    · -- the loop over what is held
      have key := lpO_ind (st := st_btf_holdsItself_1_v3_L0 n A ((f + 1 : Nat) : Int) (m_btf_holdsItself_1_v3_F k) m V)
        (fun s => ∃ (t : Nat) (w : Nat → Bool), s = .c0 w (t : Int) ∧ t ≤ m ∧ (∀ x, w1 x = true → w x = true) ∧ (∀ u, u < t → ∀ j, V u = ((j + 1 : Nat) : Int) → w (j + 1) = true ∧ j ≠ f) ∧ ∀ x, x < n → w (x + 1) = true → w1 (x + 1) = false → ∀ j, Holds A x j → w (j + 1) = true ∧ j ≠ f)
        (fun s => match s with | .c0 _ x => m - x.toNat)
        (fun _ r => (∃ w, r = .e1 w ∧ ∀ x, w1 x = true → w x = true) ∨ ∃ w, r = .e0 w ∧ (∀ x, w1 x = true → w x = true) ∧ (∀ u, u < m → ∀ j, V u = ((j + 1 : Nat) : Int) → w (j + 1) = true ∧ j ≠ f) ∧ ∀ x, x < n → w (x + 1) = true → w1 (x + 1) = false → ∀ j, Holds A x j → w (j + 1) = true ∧ j ≠ f)
        (fun s ⟨t, w, es, htm, hw1, hw2, hw3⟩ => by
          subst es
          by_cases ht : t < m
          · obtain ⟨j, hj, hVj⟩ := hV t ht
            have b1 : decide ((t : Int) < (m : Int)) = true := d_t (by omega)
            have b2 : inR (t : Int) m = true := inR_t (by omega) (by omega)
            have b3 : inR ((j + 1 : Nat) : Int) 257 = true := inR_t (by omega) (by omega)
            by_cases hjf : j = f
            · exact .inr ⟨.e1 w, by simp only [st_btf_holdsItself_1_v3_L0, b1, b2, cond_true, Int.toNat_natCast, hVj, iq_t (show ((j + 1 : Nat) : Int) = ((f + 1 : Nat) : Int) by omega)], .inl ⟨w, rfl, hw1⟩⟩
            · have b4 : (((j + 1 : Nat) : Int) == ((f + 1 : Nat) : Int)) = false := iq_f (by omega)
              cases hs : w (j + 1) with
              | true =>
                refine .inl ⟨.c0 w ((t + 1 : Nat) : Int), ?_, ⟨t + 1, w, rfl, by omega, hw1, fun u hu j' hj' => ?_, hw3⟩, by show m - ((t + 1 : Nat) : Int).toNat < m - ((t : Nat) : Int).toNat; omega, fun r h => h⟩
                · simp only [st_btf_holdsItself_1_v3_L0, b1, b2, b3, b4, cond_true, cond_false, Int.toNat_natCast, hVj, hs, w_succ t (by omega)]
                · by_cases hut : u = t
                  · subst hut
                    obtain rfl : j' = j := by omega
                    exact ⟨hs, hjf⟩
                  · exact hw2 u (by omega) j' hj'
              | false =>
                have hw' : ∀ x, w x = true → updF w (j + 1) true x = true := fun x hx => by
                  by_cases ex : x = j + 1
                  · rw [ex, updF_at]
                  · rw [updF_ne _ _ ex]; exact hx
                have hcn : cntU (updF w (j + 1) true) n < k := by
                  have h1 := cntU_put hs n hj
                  have h2 := cntU_mono hw1 n
                  omega
                obtain ⟨w3, b, hr, hm3, hb⟩ := ih j hj (updF w (j + 1) true) hcn
                have hup : ∀ x, w x = true → w3 x = true := fun x hx => hm3 x (hw' x hx)
                have hj3 : w3 (j + 1) = true := hm3 _ (updF_at ..)
                cases b with
                | true =>
                  exact .inr ⟨.e1 w3, by simp only [st_btf_holdsItself_1_v3_L0, b1, b2, b3, b4, cond_true, cond_false, Int.toNat_natCast, hVj, hs, hr, Option.bind_some], .inl ⟨w3, rfl, fun x hx => hup x (hw1 x hx)⟩⟩
                | false =>
                  obtain ⟨hb1, hb2⟩ := hb rfl
                  refine .inl ⟨.c0 w3 ((t + 1 : Nat) : Int), ?_, ⟨t + 1, w3, rfl, by omega, fun x hx => hup x (hw1 x hx), fun u hu j' hj' => ?_, fun x hx h1 h2 j' hj' => ?_⟩, by show m - ((t + 1 : Nat) : Int).toNat < m - ((t : Nat) : Int).toNat; omega, fun r h => h⟩
                  · simp only [st_btf_holdsItself_1_v3_L0, b1, b2, b3, b4, cond_true, cond_false, Int.toNat_natCast, hVj, hs, hr, Option.bind_some, w_succ t (by omega)]
                  · by_cases hut : u = t
                    · subst hut
                      obtain rfl : j' = j := by omega
                      exact ⟨hj3, hjf⟩
                    · have := hw2 u (by omega) j' hj'
                      exact ⟨hup _ this.1, this.2⟩
                  · cases hwx : w (x + 1) with
                    | true =>
                      have := hw3 x hx hwx h2 j' hj'
                      exact ⟨hup _ this.1, this.2⟩
                    | false =>
                      by_cases exj : x = j
                      · subst exj; exact hb1 j' hj'
                      · exact hb2 x hx h1 (by rw [updF_ne _ _ (by omega)]; exact hwx) j' hj'
          · obtain rfl : t = m := by omega
            exact .inr ⟨.e0 w, by simp only [st_btf_holdsItself_1_v3_L0, d_f (show ¬ ((t : Int) < (t : Int)) by omega), cond_false], .inr ⟨w, rfl, hw1, hw2, hw3⟩⟩)
      obtain ⟨r, hr, hP⟩ := key (.c0 w1 0) ⟨0, w1, rfl, by omega, fun x h => h, fun u hu => by omega, fun x hx h1 h2 => by rw [h1] at h2; cases h2⟩
      rcases hP with ⟨w, rfl, h1⟩ | ⟨w, rfl, h1, h2, h3⟩
      · refine ⟨w, true, hstart _ ?_, h1, fun h => by cases h⟩
        simp only [m_btf_holdsItself_1_v3, (R.id hi).1, (R.id hi).2, cond_true, e, Option.bind_some, hr]
      · refine ⟨w, false, hstart _ ?_, h1, fun _ => ⟨fun j ⟨m', V', t, h, ht, hj⟩ => ?_, h3⟩⟩
        · simp only [m_btf_holdsItself_1_v3, (R.id hi).1, (R.id hi).2, cond_true, e, Option.bind_some, hr]
        · rw [e] at h
          injection h with h
          injection h with e1 e2
          subst e1 e2
          exact h2 t ht j hj
end
/-- One comes from i to j. -/
inductive Reach (A : TyL) (i : Nat) : Nat → Prop
  | one {j : Nat} (h : Holds A i j) : Reach A i j
  | more {j k : Nat} (h : Reach A i j) (h2 : Holds A j k) : Reach A i k
theorem Refs.noround {n : Nat} {A : TyL} (R : Refs n A) {f : Nat} (hf : f < n) {w2 : Nat → Bool} (h : m_btf_holdsItself_1_v3_F 300 ((f + 1 : Nat) : Int) n A ((f + 1 : Nat) : Int) (fun _ => false) = some (.e0 w2 false)) : ¬ Reach A f f := by
  have hn := R.hn
  obtain ⟨w3, b, hr, _, hb⟩ := R.walk f 300 f hf (fun _ => false) (by have := cntU_le (fun _ => false) n; omega)
  rw [h] at hr
  injection hr with hr
  injection hr with e1 e2
  subst e1 e2
  obtain ⟨h1, h2⟩ := hb rfl
  have key : ∀ j, Reach A f j → j < n ∧ w2 (j + 1) = true ∧ j ≠ f := fun j hj => by
    induction hj with
    | one h => exact ⟨R.lt hf h, (h1 _ h).1, (h1 _ h).2⟩
    | more _ h3 ih => exact ⟨R.lt ih.1 h3, h2 _ ih.1 ih.2.1 rfl _ h3⟩
  exact fun k => (key f k).2.2 rfl
/-- What i holds lies less than m deep. -/
def Dpt (A : TyL) : Nat → Nat → Prop
  | 0, _ => False
  | m + 1, i => ∀ j, Holds A i j → Dpt A m j
theorem Dpt.up {A : TyL} : ∀ {m m' i : Nat}, m ≤ m' → Dpt A m i → Dpt A m' i
  | 0, _, _, _, h => h.elim
  | m + 1, 0, _, hm, _ => by omega
  | m + 1, m' + 1, _, hm, h => fun j hj => Dpt.up (by omega) (h j hj)
theorem Refs.deep {n : Nat} {A : TyL} (R : Refs n A) (hc : ∀ i, i < n → ¬ Reach A i i) : ∀ i, i < n → Dpt A n i := by
  have key : ∀ m i, i < n → ∀ w : Nat → Bool, w (i + 1) = false → (∀ v, v < n → w (v + 1) = true → Reach A v i) → cntU w n ≤ m → Dpt A m i := by
    intro m
    induction m with
    | zero =>
      intro i hi w hw _ hm
      have := cntU_put hw n hi
      omega
    | succ m ih =>
      intro i hi w hw hv hm j hj
      have hjn := R.lt hi hj
      refine ih j hjn (updF w (i + 1) true) ?_ (fun v hvn h => ?_) (by have := cntU_put hw n hi; omega)
      · by_cases e : j = i
        · subst e; exact absurd (.one hj) (hc j hi)
        · rw [updF_ne _ _ (by omega)]
          cases hwj : w (j + 1) with
          | false => rfl
          | true => exact absurd (.more (hv j hjn hwj) hj) (hc j hjn)
      · by_cases e : v = i
        · subst e; exact .one hj
        · rw [updF_ne _ _ (by omega)] at h
          exact .more (hv v hvn h) hj
  exact fun i hi => key n i hi (fun _ => false) rfl (fun v _ h => by cases h) (cntU_le _ n)
/-- What is told of rounds. -/
theorem Refs.itself {n : Nat} {A : TyL} (R : Refs n A) : ∃ r, m_btf_holdsItself_v1 n A = some r ∧ (r = 0 → ∀ i, i < n → Dpt A n i) := by
  have hn := R.hn
  have key := lpO_ind (st := st_btf_holdsItself_v1_L0 n A) (fun s => ∃ f : Nat, s = .c0 ((f + 1 : Nat) : Int) ∧ f ≤ n ∧ ∀ i, i < f → ¬ Reach A i i) (fun s => match s with | .c0 x => n + 1 - x.toNat) (fun _ r => (∃ x, r = .e1 x ∧ x ≠ 0) ∨ (r = .e0 ∧ ∀ i, i < n → ¬ Reach A i i)) (fun s ⟨f, e, hfn, hR⟩ => by
    subst e
    by_cases hf : f < n
    · obtain ⟨w', b, h', _, _⟩ := R.walk f 300 f hf (fun _ => false) (by have := cntU_le (fun _ => false) n; omega)
      cases b with
      | true =>
        exact .inr ⟨.e1 ((f + 1 : Nat) : Int), by simp only [st_btf_holdsItself_v1_L0, d_t (show ((f + 1 : Nat) : Int) ≤ (n : Int) by omega), cond_true, h', Option.bind_some], .inl ⟨_, rfl, by omega⟩⟩
      | false =>
        refine .inl ⟨.c0 ((f + 1 + 1 : Nat) : Int), ?_, ⟨f + 1, rfl, by omega, fun i hi => ?_⟩, by show n + 1 - ((f + 1 + 1 : Nat) : Int).toNat < n + 1 - ((f + 1 : Nat) : Int).toNat; omega, fun r h => h⟩
        · simp only [st_btf_holdsItself_v1_L0, d_t (show ((f + 1 : Nat) : Int) ≤ (n : Int) by omega), cond_true, h', Option.bind_some, cond_false, w_succ (f + 1) (by omega)]
        · by_cases e : i = f
          · subst e; exact R.noround hf h'
          · exact hR i (by omega)
    · obtain rfl : f = n := by omega
      exact .inr ⟨.e0, by simp only [st_btf_holdsItself_v1_L0, d_f (show ¬ (((f + 1 : Nat) : Int) ≤ (f : Int)) by omega), cond_false], .inr ⟨rfl, hR⟩⟩)
  obtain ⟨r, hr, hP⟩ := key (.c0 1) ⟨0, rfl, by omega, fun i hi => by omega⟩
  unfold m_btf_holdsItself_v1
  rw [hr]
  rcases hP with ⟨x, rfl, hx⟩ | ⟨rfl, hR⟩
  · exact ⟨x, rfl, fun e => absurd e hx⟩
  · exact ⟨0, rfl, fun _ => R.deep hR⟩
end Go.Proofs.YtlpjdjbophcomaaDoor

