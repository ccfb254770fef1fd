/-
  Types of which nothing is told: what they hold, how large they are, what they are through aliases.
-/
import Derived.Test.YtlpjdjbophcomaaDoorBWI
namespace Go.Proofs.YtlpjdjbophcomaaDoor
open Go.RowKit
set_option linter.unusedVariables false
set_option linter.unusedSimpArgs false
/-- What is held, of a struct. -/
theorem held_loop (m : Nat) (M : MemL) (hm : m ≤ 64) : (m = 0 ∧ lpO (st_btf_held_v2_L0 m M) .c0 = some .e0) ∨ ∃ V, lpO (st_btf_held_v2_L0 m M) .c0 = some (.e1 m V) ∧ ∀ u, u < m → V u = (M u).fType := by
  by_cases h0 : m = 0
  · subst h0; exact .inl ⟨rfl, lpO_end rfl⟩
  · right
    have st0 : st_btf_held_v2_L0 m M .c0 = some (.inl (.c1 1 (fun _ => (M 0).fType) ((1 : Nat) : Int))) := by
      simp only [st_btf_held_v2_L0, d_t (show (0 : Int) < (m : Int) by omega), inR_t (show (0 : Int) ≤ 0 by omega) (show (0 : Int) < (m : Int) by omega), cond_true]
      rfl
    have key := lpO_ind (st := st_btf_held_v2_L0 m M) (fun q => ∃ (t : Nat) (V : Nat → Int), q = .c1 t V (t : Int) ∧ t ≤ m ∧ ∀ u, u < t → V u = (M u).fType) (fun q => match q with | .c1 _ _ x => m - x.toNat | .c0 => 0) (fun _ r => ∃ V, r = .e1 m V ∧ ∀ u, u < m → V u = (M u).fType) (fun q ⟨t, V, e, htm, hV⟩ => by
      subst e
      by_cases ht : t < m
      · refine .inl ⟨.c1 (t + 1) (updF V t (M t).fType) ((t + 1 : Nat) : Int), by simp only [st_btf_held_v2_L0, d_t (show (t : Int) < (m : Int) by omega), inR_t (show (0 : Int) ≤ (t : Int) by omega) (show (t : Int) < (m : Int) by omega), d_t (show t ≤ 1000000 by omega), cond_true, Int.toNat_natCast, w_succ t (by omega)], ⟨t + 1, _, rfl, by omega, fun u hu => ?_⟩, by show m - ((t + 1 : Nat) : Int).toNat < m - ((t : Nat) : Int).toNat; omega, fun r h => h⟩
        by_cases e : u = t
        · rw [e, updF_at]
        · rw [updF_ne _ _ e]; exact hV u (by omega)
      · obtain rfl : t = m := by omega
        exact .inr ⟨.e1 t V, by simp only [st_btf_held_v2_L0, d_f (show ¬ ((t : Int) < (t : Int)) by omega), cond_false], V, rfl, hV⟩)
    have hV0 : ∀ u, u < 1 → (fun _ : Nat => (M 0).fType) u = (M u).fType := fun u hu => by
      obtain rfl : u = 0 := by omega
      rfl
    obtain ⟨r, hr, V, rfl, hV⟩ := key (.c1 1 (fun _ => (M 0).fType) ((1 : Nat) : Int)) ⟨1, _, rfl, by omega, hV0⟩
    exact ⟨V, (lpO_next st0).trans hr, hV⟩
theorem held_to (x : Xs35) (m : Nat) (M : MemL) (h : x.fKind = 5 ∨ x.fKind = 3) : m_btf_held_v2 x m M = some (.e0 1 fun _ => x.fTo) := by
  unfold m_btf_held_v2
  rcases h with h | h
  · rw [iq_t h, cond_true]
  · rw [iq_f (show x.fKind ≠ 5 by omega), cond_false, iq_t h, cond_true]
theorem held_st (x : Xs35) (m : Nat) (M : MemL) (hm : m ≤ 64) (h : x.fKind = 4) : (m = 0 ∧ m_btf_held_v2 x m M = some .e1) ∨ ∃ V, m_btf_held_v2 x m M = some (.e0 m V) ∧ ∀ u, u < m → V u = (M u).fType := by
  unfold m_btf_held_v2
  rw [iq_f (show x.fKind ≠ 5 by omega), cond_false, iq_f (show x.fKind ≠ 3 by omega), cond_false, iq_t h, cond_true]
  rcases held_loop m M hm with ⟨h0, e⟩ | ⟨V, e, hV⟩
  · exact .inl ⟨h0, by rw [e]; rfl⟩
  · exact .inr ⟨V, by rw [e]; rfl, hV⟩
theorem held_no (x : Xs35) (m : Nat) (M : MemL) (h5 : x.fKind ≠ 5) (h3 : x.fKind ≠ 3) (h4 : x.fKind ≠ 4) : m_btf_held_v2 x m M = some .e1 := by
  unfold m_btf_held_v2
  rw [iq_f h5, cond_false, iq_f h3, cond_false, iq_f h4, cond_false]
/-- Types each of which is well by itself. -/
structure Each (n : Nat) (A : TyL) : Prop where
  hn : n ≤ 256
  mem : ∀ i, i < n → (A i).2.1 ≤ 64
  ok : ∀ i, i < n → TypeOk (A i).1 (A i).2.1 (A i).2.2 (n : Int)
section
variable {n : Nat} {A : TyL} (E : Each n A)
include E
theorem Each.to {i : Nat} (hi : i < n) (h : (A i).1.fKind = 5 ∨ (A i).1.fKind = 3) : ∃ j, j < n ∧ (A i).1.fTo = ((j + 1 : Nat) : Int) ∧ Holds A i j := by
  obtain ⟨h1, h2⟩ := (E.ok i hi).to h
  have e : (A i).1.fTo = (((A i).1.fTo.toNat - 1 + 1 : Nat) : Int) := by omega
  exact ⟨(A i).1.fTo.toNat - 1, by omega, e, 1, _, 0, held_to _ _ _ h, by omega, e⟩
theorem Each.st {i : Nat} (hi : i < n) (h : (A i).1.fKind = 4) {u : Nat} (hu : u < (A i).2.1) : ∃ j, j < n ∧ ((A i).2.2 u).fType = ((j + 1 : Nat) : Int) ∧ Holds A i j := by
  obtain ⟨h1, h2⟩ := (E.ok i hi).mems u hu
  have e : ((A i).2.2 u).fType = ((((A i).2.2 u).fType.toNat - 1 + 1 : Nat) : Int) := by omega
  rcases held_st _ _ (A i).2.2 (E.mem i hi) h with ⟨h0, _⟩ | ⟨V, hV, hVu⟩
  · omega
  · exact ⟨((A i).2.2 u).fType.toNat - 1, by omega, e, _, V, u, hV, hu, (hVu u hu).trans e⟩
theorem Each.refs : Refs n A := by
  refine ⟨E.hn, fun i hi => ?_⟩
  by_cases h53 : (A i).1.fKind = 5 ∨ (A i).1.fKind = 3
  · obtain ⟨j, hj, e, _⟩ := E.to hi h53
    exact .inr ⟨1, _, by omega, held_to _ _ _ h53, fun t _ => ⟨j, hj, e⟩⟩
  · by_cases h4 : (A i).1.fKind = 4
    · rcases held_st _ _ (A i).2.2 (E.mem i hi) h4 with ⟨_, e⟩ | ⟨V, hV, hVu⟩
      · exact .inl e
      · refine .inr ⟨_, V, by have := E.mem i hi; omega, hV, fun t ht => ?_⟩
        obtain ⟨j, hj, e, _⟩ := E.st hi h4 ht
        exact ⟨j, hj, (hVu t ht).trans e⟩
    · exact .inl (held_no _ _ _ (fun k => h53 (.inl k)) (fun k => h53 (.inr k)) h4)
theorem Each.id {i : Nat} (hi : i < n) : inR (IntKind.i64.wrap (((i + 1 : Nat) : Int) - 1)) n = true ∧ (IntKind.i64.wrap (((i + 1 : Nat) : Int) - 1)).toNat = i := E.refs.id hi
/-- What a right size says. -/
theorem Each.sizes {i : Nat} (hi : i < n) : ((A i).1.fKind = 1 → (A i).1.fSize = 1 ∨ (A i).1.fSize = 2 ∨ (A i).1.fSize = 4 ∨ (A i).1.fSize = 8) ∧ ((A i).1.fKind = 3 → 0 ≤ (A i).1.fCount ∧ (A i).1.fCount ≤ 65536) ∧ ((A i).1.fKind = 4 → 0 ≤ (A i).1.fSize ∧ (A i).1.fSize ≤ 65536) := by
  have h := (E.ok i hi).size
  unfold m_btf_rightSize_v2 at h
  refine ⟨fun k => ?_, fun k => ?_, fun k => ?_⟩
  · rw [iq_t k, cond_true] at h
    by_cases a1 : (A i).1.fSize = 1
    · exact .inl a1
    by_cases a2 : (A i).1.fSize = 2
    · exact .inr (.inl a2)
    by_cases a4 : (A i).1.fSize = 4
    · exact .inr (.inr (.inl a4))
    rw [iq_f a1, iq_f a2, iq_f a4, cond_false, cond_false, cond_false] at h
    exact .inr (.inr (.inr (by simpa using h)))
  · rw [iq_f (show (A i).1.fKind ≠ 1 by omega), cond_false, iq_t k, cond_true] at h
    by_cases a1 : 0 ≤ (A i).1.fCount
    · rw [d_t a1, cond_true] at h
      exact ⟨a1, of_decide_eq_true h⟩
    · rw [d_f a1, cond_false] at h; cases h
  · rw [iq_f (show (A i).1.fKind ≠ 1 by omega), cond_false, iq_f (show (A i).1.fKind ≠ 3 by omega), cond_false, iq_t k, cond_true] at h
    by_cases a1 : 0 ≤ (A i).1.fSize
    · rw [d_t a1, cond_true] at h
      exact ⟨a1, of_decide_eq_true h⟩
    · rw [d_f a1, cond_false] at h; cases h
/-- One step of the size. -/
theorem Each.size1 {i : Nat} (hi : i < n) (mr : Nat → TyL → Int → Option Int) :
    (((A i).1.fKind = 5 ∨ (A i).1.fKind = 3) ∧ m_btf_sizeOf_v2 n A ((i + 1 : Nat) : Int) mr = (mr n A (A i).1.fTo).bind fun r => some (if (A i).1.fKind = 5 then r else if 65537 < IntKind.i64.wrap ((A i).1.fCount * r) then 65537 else IntKind.i64.wrap ((A i).1.fCount * r))) ∨
    ((A i).1.fKind ≠ 5 ∧ (A i).1.fKind ≠ 3 ∧ m_btf_sizeOf_v2 n A ((i + 1 : Nat) : Int) mr = some (if (A i).1.fKind = 2 then 8 else if (A i).1.fKind = 1 then (A i).1.fSize else if (A i).1.fKind = 4 then (A i).1.fSize else 0)) := by
  simp only [m_btf_sizeOf_v2, (E.id hi).1, (E.id hi).2, cond_true]
  by_cases k5 : (A i).1.fKind = 5
  · left; exact ⟨.inl k5, by rw [iq_t k5, cond_true]; simp only [k5, if_true]⟩
  rw [iq_f k5, cond_false]
  by_cases k3 : (A i).1.fKind = 3
  · left; exact ⟨.inr k3, by rw [iq_t k3, cond_true]; simp only [if_neg k5]⟩
  rw [iq_f k3, cond_false]
  right
  refine ⟨k5, k3, ?_⟩
  by_cases k2 : (A i).1.fKind = 2
  · rw [iq_t k2, cond_true, if_pos k2]
  rw [iq_f k2, cond_false, if_neg k2]
  by_cases k1 : (A i).1.fKind = 1
  · rw [iq_t k1, cond_true, if_pos k1]
  rw [iq_f k1, cond_false, if_neg k1]
  by_cases k4 : (A i).1.fKind = 4
  · rw [iq_t k4, cond_true, if_pos k4]
  rw [iq_f k4, cond_false, if_neg k4]
theorem Each.size : ∀ d i, i < n → Dpt A d i → ∃ s, 0 ≤ s ∧ s ≤ 65537 ∧ ∀ k, d ≤ k → m_btf_sizeOf_v2_F k n A ((i + 1 : Nat) : Int) = some s := by
  intro d
  induction d with
  | zero => intro i _ h; exact h.elim
  | succ d ih =>
    intro i hi hD
    obtain ⟨z1, z3, z4⟩ := E.sizes hi
    by_cases h53 : (A i).1.fKind = 5 ∨ (A i).1.fKind = 3
    · obtain ⟨j, hj, e, hH⟩ := E.to hi h53
      obtain ⟨s, s0, s1, hs⟩ := ih j hj (hD j hH)
      have step : ∀ k, d + 1 ≤ k → m_btf_sizeOf_v2_F k n A ((i + 1 : Nat) : Int) = some (if (A i).1.fKind = 5 then s else if 65537 < IntKind.i64.wrap ((A i).1.fCount * s) then 65537 else IntKind.i64.wrap ((A i).1.fCount * s)) := fun k hk => by
        obtain ⟨k, rfl⟩ : ∃ k', k = k' + 1 := ⟨k - 1, by omega⟩
        show m_btf_sizeOf_v2 n A _ (m_btf_sizeOf_v2_F k) = _
        rcases E.size1 hi (m_btf_sizeOf_v2_F k) with ⟨_, h⟩ | ⟨a, b, _⟩
        · rw [h, e, hs k (by omega)]; rfl
        · exact absurd h53 (fun q => q.elim a b)
      by_cases k5 : (A i).1.fKind = 5
      · exact ⟨s, s0, s1, fun k hk => by rw [step k hk, if_pos k5]⟩
      · have c := z3 (h53.resolve_left k5)
        have p0 : 0 ≤ (A i).1.fCount * s := Int.mul_nonneg c.1 s0
        have p1 : (A i).1.fCount * s ≤ 65536 * 65537 := Int.mul_le_mul c.2 s1 s0 (by omega)
        rw [wr (by omega) (by omega)] at step
        refine ⟨if 65537 < (A i).1.fCount * s then 65537 else (A i).1.fCount * s, by split <;> omega, by split <;> omega, fun k hk => by rw [step k hk, if_neg k5]⟩
    · refine ⟨if (A i).1.fKind = 2 then 8 else if (A i).1.fKind = 1 then (A i).1.fSize else if (A i).1.fKind = 4 then (A i).1.fSize else 0, ?_, ?_, fun k hk => ?_⟩
      · split
        · omega
        · split
          · rename_i k1; have := z1 k1; omega
          · split
            · rename_i k4; have := z4 k4; omega
            · omega
      · split
        · omega
        · split
          · rename_i k1; have := z1 k1; omega
          · split
            · rename_i k4; have := z4 k4; omega
            · omega
      · obtain ⟨k, rfl⟩ : ∃ k', k = k' + 1 := ⟨k - 1, by omega⟩
        show m_btf_sizeOf_v2 n A _ (m_btf_sizeOf_v2_F k) = _
        rcases E.size1 hi (m_btf_sizeOf_v2_F k) with ⟨a, _⟩ | ⟨_, _, h⟩
        · exact absurd a h53
        · exact h
end
/-- Types of which nothing is told, none holding itself. -/
structure Good (n : Nat) (A : TyL) : Prop extends Each n A where
  dep : ∀ i, i < n → Dpt A n i
/-- How large it is. -/
def Sz (n : Nat) (A : TyL) (i : Nat) (s : Int) : Prop := ∀ k, 256 ≤ k → m_btf_sizeOf_v2_F k n A ((i + 1 : Nat) : Int) = some s
section
variable {n : Nat} {A : TyL} (G : Good n A)
include G
theorem Good.sz {i : Nat} (hi : i < n) : ∃ s, 0 ≤ s ∧ s ≤ 65537 ∧ Sz n A i s := by
  obtain ⟨s, h0, h1, h⟩ := G.toEach.size n i hi (G.dep i hi)
  exact ⟨s, h0, h1, fun k hk => h k (by have := G.hn; omega)⟩
theorem Good.sz_to {i : Nat} (hi : i < n) {s : Int} (hs : Sz n A i s) (h53 : (A i).1.fKind = 5 ∨ (A i).1.fKind = 3) : ∃ j s', j < n ∧ (A i).1.fTo = ((j + 1 : Nat) : Int) ∧ Holds A i j ∧ 0 ≤ s' ∧ s' ≤ 65537 ∧ Sz n A j s' ∧
    ((A i).1.fKind = 5 → s = s') ∧ ((A i).1.fKind = 3 → s = if 65537 < (A i).1.fCount * s' then 65537 else (A i).1.fCount * s') := by
  obtain ⟨j, hj, e, hH⟩ := G.toEach.to hi h53
  obtain ⟨s', s0, s1, hs'⟩ := G.sz hj
  refine ⟨j, s', hj, e, hH, s0, s1, hs', ?_⟩
  have h := hs 257 (by omega)
  have h : m_btf_sizeOf_v2 n A ((i + 1 : Nat) : Int) (m_btf_sizeOf_v2_F 256) = some s := h
  rcases G.toEach.size1 hi (m_btf_sizeOf_v2_F 256) with ⟨_, h2⟩ | ⟨a, b, _⟩
  · rw [h2, e, hs' 256 (by omega)] at h
    injection h with h
    refine ⟨fun k5 => by rw [if_pos k5] at h; exact h.symm, fun k3 => ?_⟩
    rw [if_neg (by omega)] at h
    have c := (G.toEach.sizes hi).2.1 k3
    have p0 : 0 ≤ (A i).1.fCount * s' := Int.mul_nonneg c.1 s0
    have p1 : (A i).1.fCount * s' ≤ 65536 * 65537 := Int.mul_le_mul c.2 s1 s0 (by omega)
    rw [wr (by omega) (by omega)] at h
    exact h.symm
  · exact absurd h53 (fun q => q.elim a b)
theorem Good.sz_leaf {i : Nat} (hi : i < n) {s : Int} (hs : Sz n A i s) (k5 : (A i).1.fKind ≠ 5) (k3 : (A i).1.fKind ≠ 3) : s = if (A i).1.fKind = 2 then 8 else if (A i).1.fKind = 1 then (A i).1.fSize else if (A i).1.fKind = 4 then (A i).1.fSize else 0 := by
  have h : m_btf_sizeOf_v2 n A ((i + 1 : Nat) : Int) (m_btf_sizeOf_v2_F 256) = some s := hs 257 (by omega)
  rcases G.toEach.size1 hi (m_btf_sizeOf_v2_F 256) with ⟨a, _⟩ | ⟨_, _, h2⟩
  · exact absurd a (fun q => q.elim k5 k3)
  · rw [h2] at h
    injection h with h
    exact h.symm
theorem Good.res : ∀ d i, i < n → Dpt A d i → ∃ j, j < n ∧ lpO (st_btf_resolve_v2_L0 n A) (.c0 ((i + 1 : Nat) : Int)) = some (.e0 ((j + 1 : Nat) : Int)) ∧ ∀ s, Sz n A i s → Sz n A j s := by
  intro d
  induction d with
  | zero => intro i _ h; exact h.elim
  | succ d ih =>
    intro i hi hD
    by_cases k5 : (A i).1.fKind = 5
    · obtain ⟨j, hj, e, hH⟩ := G.toEach.to hi (.inl k5)
      obtain ⟨j2, hj2, h, hs2⟩ := ih j hj (hD j hH)
      refine ⟨j2, hj2, (lpO_next (s' := .c0 ((j + 1 : Nat) : Int)) ?_).trans h, fun s hs => ?_⟩
      · simp only [st_btf_resolve_v2_L0, (G.toEach.id hi).1, (G.toEach.id hi).2, cond_true, iq_t k5, e]
      · obtain ⟨j', s', _, e', _, _, _, hs', h5, _⟩ := G.sz_to hi hs (.inl k5)
        obtain rfl : j' = j := by omega
        rw [h5 k5]
        exact hs2 _ hs'
    · exact ⟨i, hi, lpO_end (by simp only [st_btf_resolve_v2_L0, (G.toEach.id hi).1, (G.toEach.id hi).2, cond_true, iq_f k5, cond_false]), fun s hs => hs⟩
end
end Go.Proofs.YtlpjdjbophcomaaDoor

