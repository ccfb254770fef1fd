/-
  Ledgers: rows of events replayed, rows cut: in plain words.
-/
import Derived.Test.YtmopkmjddaaknaaT11Lb
namespace Go.Proofs.Ytmopkmjddaaknaa
open Go.RowKit
set_option linter.unusedVariables false
set_option linter.unusedSimpArgs false
theorem wr {x : Int} (h0 : -9223372036854775808 ≤ x) (h1 : x < 9223372036854775808) : IntKind.i64.wrap x = x := z_wrap h0 h1
theorem inR_nat' {k n : Nat} (h : k < n) : inR (k : Int) n = true := inR_iff.2 ⟨by omega, by omega⟩
theorem inR_t {x : Int} {n : Nat} (h0 : 0 ≤ x) (h1 : x < n) : inR x n = true := inR_iff.2 ⟨h0, h1⟩
theorem inR_f {x : Int} {n : Nat} (h : ¬ (0 ≤ x ∧ x < n)) : inR x n = false := by
  cases e : inR x n
  · rfl
  · exact absurd (inR_iff.1 e) h
theorem d_t {p : Prop} [Decidable p] (h : p) : decide p = true := decide_eq_true h
theorem d_f {p : Prop} [Decidable p] (h : ¬ p) : decide p = false := decide_eq_false h
/-! ### Rows as lists -/
def rowL {α : Type} (n : Nat) (A : Nat → α) : List α := (List.range n).map A
section
variable {α : Type} {A B : Nat → α} {n m : Nat}
theorem rowL_len : (rowL n A).length = n := by simp [rowL]
theorem rowL_zero : rowL 0 A = [] := rfl
theorem rowL_get {k : Nat} (h : k < n) : (rowL n A)[k]? = some (A k) := by simp [rowL, h]
theorem rowL_congr (h : ∀ k, k < n → A k = B k) : rowL n A = rowL n B := List.map_congr_left fun k hk => h k (List.mem_range.1 hk)
theorem rowL_app (v : α) : rowL n A ++ [v] = rowL (n + 1) (updF A n v) := by
  unfold rowL
  rw [List.range_succ, List.map_append]
  congr 1
  · exact List.map_congr_left fun k hk => (updF_ne A v (by have := List.mem_range.1 hk; omega)).symm
  · simp [updF]
theorem rowL_one (f : Nat → α) : rowL 1 f = [f 0] := rfl
theorem rowL_mem {x : α} : x ∈ rowL n A ↔ ∃ k, k < n ∧ A k = x := by simp [rowL]
theorem rowL_inj (h : rowL n A = rowL m B) : n = m ∧ ∀ k, k < n → A k = B k := by
  have h1 : n = m := by
    have := congrArg List.length h
    rwa [rowL_len, rowL_len] at this
  refine ⟨h1, fun k hk => ?_⟩
  have h2 := congrArg (fun l => l[k]?) h
  simp only [rowL_get hk, rowL_get (show k < m by omega), Option.some.injEq] at h2
  exact h2
theorem rowL_cat : rowL (n + m) (catF A n B) = rowL n A ++ rowL m B := by
  induction m with
  | zero => rw [Nat.add_zero, rowL_zero, List.append_nil]; exact rowL_congr fun k hk => catF_lo A B hk
  | succ m ih =>
    have e : ∀ (j : Nat) (F : Nat → α), rowL (j + 1) F = rowL j F ++ [F j] := fun j F => by simp [rowL, List.range_succ]
    rw [← Nat.add_assoc, e, ih, e, catF_hi, List.append_assoc]
theorem rowL_split {a : Nat} (h : a < n) : rowL n A = rowL a A ++ A a :: rowL (n - (a + 1)) (fun k => A (a + 1 + k)) := by
  have e1 : n = (a + 1) + (n - (a + 1)) := by omega
  have e2 : rowL (a + 1) A = rowL a A ++ [A a] := by simp [rowL, List.range_succ]
  have e3 : A = catF A (a + 1) (fun k => A (a + 1 + k)) := by
    funext k
    unfold catF
    split
    · rfl
    · congr 1; omega
  conv => lhs; rw [e1, e3, rowL_cat, e2]
  simp
end
theorem filter_cut {l1 l2 : List Int} {x : Int} (h : (l1 ++ x :: l2).Pairwise (· < ·)) : (l1 ++ x :: l2).filter (fun y => decide (y ≠ x)) = l1 ++ l2 := by
  rw [List.pairwise_append] at h
  obtain ⟨h1, h2, h3⟩ := h
  rw [List.pairwise_cons] at h2
  rw [List.filter_append, List.filter_cons]
  simp only [ne_eq, not_true_eq_false, decide_false, Bool.false_eq_true, if_false]
  rw [List.filter_eq_self.2 (fun a ha => ?_), List.filter_eq_self.2 (fun a ha => ?_)]
  · have := h2.1 a ha
    simp; omega
  · have := h3 a ha x (List.mem_cons_self ..)
    simp; omega
/-! ### Events replayed -/
def rep (E : Nat → Event) : Nat → Option (Int × List Int)
  | 0 => some (1, [])
  | m + 1 => match rep E m with
    | none => none
    | some (nx, l) => if (E m).fRelease then (if (E m).fId ∈ l then some (nx, l.filter (fun y => decide (y ≠ (E m).fId))) else none) else if (E m).fId = nx then some (nx + 1, l ++ [(E m).fId]) else none
theorem rep_congr {E E' : Nat → Event} : ∀ {m : Nat}, (∀ k, k < m → E k = E' k) → rep E m = rep E' m
  | 0, _ => rfl
  | m + 1, h => by
    unfold rep
    rw [rep_congr (m := m) fun k hk => h k (by omega), h m (by omega)]
theorem rep_pre {E : Nat → Event} : ∀ {m : Nat} {x : Int × List Int}, rep E m = some x → ∀ k, k ≤ m → ∃ y, rep E k = some y
  | 0, x, h, k, hk => ⟨x, by rw [show k = 0 by omega]; exact h⟩
  | m + 1, x, h, k, hk => by
    by_cases e : k = m + 1
    · exact ⟨x, e ▸ h⟩
    · cases h1 : rep E m with
      | none => unfold rep at h; rw [h1] at h; cases h
      | some y => exact rep_pre h1 k (by omega)
theorem rep_sorted {E : Nat → Event} : ∀ {m : Nat} {nx : Int} {l : List Int}, rep E m = some (nx, l) → l.Pairwise (· < ·) ∧ (∀ x ∈ l, 1 ≤ x ∧ x < nx) ∧ nx ≤ m + 1 ∧ 1 ≤ nx
  | 0, nx, l, h => by
    simp [rep] at h
    obtain ⟨rfl, rfl⟩ := h
    simp
  | m + 1, nx, l, h => by
    unfold rep at h
    split at h
    · cases h
    · rename_i nx1 l1 h1
      obtain ⟨i1, i2, i3, i4⟩ := rep_sorted h1
      split at h
      · split at h
        · injection h with h
          injection h with ha hb
          subst ha hb
          exact ⟨i1.filter _, fun x hx => i2 x (List.mem_filter.1 hx).1, by omega, i4⟩
        · cases h
      · split at h
        · rename_i hid
          injection h with h
          injection h with ha hb
          subst ha hb
          refine ⟨?_, fun x hx => ?_, by omega, by omega⟩
          · rw [List.pairwise_append]
            refine ⟨i1, by simp, fun a ha b hb => ?_⟩
            have := i2 a ha
            simp at hb
            omega
          · rcases List.mem_append.1 hx with hx | hx
            · have := i2 x hx; omega
            · simp at hx; omega
        · cases h
theorem rep_rel {E : Nat → Event} {m : Nat} {nx : Int} {l : List Int} (h : rep E m = some (nx, l)) (hr : (E m).fRelease = true) (hm : (E m).fId ∈ l) : rep E (m + 1) = some (nx, l.filter (fun y => decide (y ≠ (E m).fId))) := by
  unfold rep
  rw [h]
  simp [hr, hm]
theorem rep_acq {E : Nat → Event} {m : Nat} {nx : Int} {l : List Int} (h : rep E m = some (nx, l)) (hr : (E m).fRelease = false) (hm : (E m).fId = nx) : rep E (m + 1) = some (nx + 1, l ++ [(E m).fId]) := by
  unfold rep
  rw [h]
  simp [hr, hm]
theorem rep_inv {E : Nat → Event} {m : Nat} {nx : Int} {l : List Int} {y : Int × List Int} (h : rep E m = some (nx, l)) (h1 : rep E (m + 1) = some y) : ((E m).fRelease = true ∧ (E m).fId ∈ l ∧ y = (nx, l.filter (fun y => decide (y ≠ (E m).fId)))) ∨ ((E m).fRelease = false ∧ (E m).fId = nx ∧ y = (nx + 1, l ++ [(E m).fId])) := by
  unfold rep at h1
  rw [h] at h1
  simp only at h1
  split at h1
  · rename_i hr
    split at h1
    · rename_i hm
      injection h1 with h1
      exact .inl ⟨hr, hm, h1.symm⟩
    · cases h1
  · rename_i hr
    split at h1
    · rename_i hm
      injection h1 with h1
      exact .inr ⟨by simpa using hr, hm, h1.symm⟩
    · cases h1
/-! ### What is held -/
def hl (C : Nat → Int) (N : Nat) : List Int := ((List.range N).filter (fun k => decide (C k = 1))).map (fun (k : Nat) => (k : Int) + 1)
theorem hl_zero {C : Nat → Int} : hl C 0 = [] := rfl
theorem hl_succ {C : Nat → Int} {N : Nat} : hl C (N + 1) = if C N = 1 then hl C N ++ [(N : Int) + 1] else hl C N := by
  unfold hl
  rw [List.range_succ, List.filter_append, List.map_append]
  by_cases h : C N = 1 <;> simp [h]
theorem hl_congr {C D : Nat → Int} {N : Nat} (h : ∀ k, k < N → C k = D k) : hl C N = hl D N := by
  unfold hl
  congr 1
  exact List.filter_congr fun k hk => by rw [h k (List.mem_range.1 hk)]
theorem hl_none {C : Nat → Int} {N : Nat} (h : ∀ k, k < N → C k = 0) : hl C N = [] := by
  unfold hl
  rw [List.filter_eq_nil_iff.2 fun k hk => by rw [h k (List.mem_range.1 hk)]; decide]
  rfl
theorem hl_mem {C : Nat → Int} {N : Nat} {x : Int} : x ∈ hl C N ↔ ∃ k : Nat, k < N ∧ C k = 1 ∧ x = (k : Int) + 1 := by
  unfold hl
  simp only [List.mem_map, List.mem_filter, List.mem_range, decide_eq_true_eq]
  constructor
  · rintro ⟨k, ⟨h1, h2⟩, rfl⟩; exact ⟨k, h1, h2, rfl⟩
  · rintro ⟨k, h1, h2, rfl⟩; exact ⟨k, ⟨h1, h2⟩, rfl⟩
theorem hl_drop {C : Nat → Int} {N j : Nat} : hl (updF C j 0) N = (hl C N).filter (fun y => decide (y ≠ (j : Int) + 1)) := by
  unfold hl
  rw [List.filter_map, List.filter_filter]
  congr 1
  refine List.filter_congr fun k _ => ?_
  by_cases h : k = j
  · subst h
    simp [updF]
  · simp [updF, h]
    intro _
    omega
theorem hl_len_drop {C : Nat → Int} {j : Nat} (hj : C j = 1) : ∀ {N : Nat}, j < N → ((hl C N).length : Int) = ((hl (updF C j 0) N).length : Int) + 1
  | 0, h => by omega
  | N + 1, h => by
    rw [hl_succ, hl_succ]
    by_cases e : j = N
    · subst e
      have e1 : hl (updF C j 0) j = hl C j := hl_congr fun k hk => updF_ne C 0 (by omega)
      rw [if_pos hj, updF_at, if_neg (by decide), e1]
      simp
    · have e1 := hl_len_drop hj (N := N) (by omega)
      rw [updF_ne C 0 (show N ≠ j by omega)]
      split
      · simp; omega
      · exact e1
/-! ### What a ledger's rows say -/
structure LI (N : Nat) (C : Nat → Int) (N2 : Nat) (H O : Int) (M : Nat) (E : Nat → Event) : Prop where
  n2 : N2 = N
  c : ∀ k, k < N → C k = 0 ∨ C k = 1
  h : H = ((hl C N).length : Int)
  h256 : H ≤ 256
  o0 : 0 ≤ O
  oN : O ≤ N
  oz : ∀ k : Nat, (k : Int) < O → C k = 0
  ev : rep E M = some ((N : Int) + 1, hl C N)
theorem LI.acq {N : Nat} {C : Nat → Int} {N2 : Nat} {H O : Int} {M : Nat} {E : Nat → Event} (h : LI N C N2 H O M E) (hH : H < 256) (y : Int) : LI (N + 1) (updF C N 1) (N2 + 1) (H + 1) O (M + 1) (updF E M ⟨false, (N : Int) + 1, y⟩) := by
  have e1 : hl (updF C N 1) (N + 1) = hl C N ++ [(N : Int) + 1] := by
    rw [hl_succ, updF_at, if_pos rfl]
    congr 1
    exact hl_congr fun k hk => updF_ne C 1 (by omega)
  refine ⟨by rw [h.n2], fun k hk => ?_, ?_, by omega, h.o0, by have := h.oN; omega, fun k hk => ?_, ?_⟩
  · by_cases e : k = N
    · subst e; rw [updF_at]; exact .inr rfl
    · rw [updF_ne C 1 e]; exact h.c k (by omega)
  · rw [e1, h.h]; simp
  · have := h.oN
    rw [updF_ne C 1 (by omega)]
    exact h.oz k hk
  · have h1 : rep (updF E M ⟨false, (N : Int) + 1, y⟩) M = some ((N : Int) + 1, hl C N) := by
      rw [← h.ev]
      exact rep_congr fun k hk => updF_ne E _ (by omega)
    have := rep_acq h1 (by rw [updF_at]) (by rw [updF_at])
    rw [this, updF_at, e1]
    simp
theorem LI.rel {N : Nat} {C : Nat → Int} {N2 : Nat} {H O : Int} {M : Nat} {E : Nat → Event} (h : LI N C N2 H O M E) {j : Nat} (hj : j < N) (hc : C j = 1) (y O' : Int) (hO : 0 ≤ O') (hO2 : O' ≤ N) (hz : ∀ k : Nat, (k : Int) < O' → updF C j 0 k = 0) :
    LI N (updF C j 0) N2 (H - 1) O' (M + 1) (updF E M ⟨true, (j : Int) + 1, y⟩) := by
  have e1 := hl_len_drop hc hj
  refine ⟨h.n2, fun k hk => ?_, by rw [h.h]; omega, by have := h.h256; omega, hO, hO2, hz, ?_⟩
  · by_cases e : k = j
    · subst e; rw [updF_at]; exact .inl rfl
    · rw [updF_ne C 0 e]; exact h.c k hk
  · have h1 : rep (updF E M ⟨true, (j : Int) + 1, y⟩) M = some ((N : Int) + 1, hl C N) := by
      rw [← h.ev]
      exact rep_congr fun k hk => updF_ne E _ (by omega)
    have := rep_rel h1 (by rw [updF_at]) (by rw [updF_at]; exact hl_mem.2 ⟨j, hj, hc, rfl⟩)
    rw [this, updF_at, hl_drop]
end Go.Proofs.Ytmopkmjddaaknaa
