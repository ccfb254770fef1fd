/-
  What is asked of a type by itself: members' names and what is named.
-/
import Derived.Test.YtlpjdjbophcomaaDoorBWH
namespace Go.Proofs.YtlpjdjbophcomaaDoor
open Go.RowKit
set_option linter.unusedVariables false
set_option linter.unusedSimpArgs false
theorem fdx_last {e : Nat → Bool} {N : Nat} (h : ∀ j, j < N → e j = false) (hN : e N = true) : fdx e (N + 1) = N := by
  have h1 : (List.range N).find? e = none := List.find?_eq_none.2 fun j hj => by simp [h j (List.mem_range.1 hj)]
  unfold fdx
  rw [List.range_succ, List.find?_append, h1]
  simp [hN]
section
variable (x : Xs35) (m : Nat) (M : MemL)
def StM (t : Nat) (q : Option (Sh_btf_rightMemberNames_v2_L0 ⊕ Ex_btf_rightMemberNames_v2_L0)) : Prop := (∃ N K, q = some (.inl (.c0 N K ((t + 1 : Nat) : Int)))) ∨ ∃ N K, q = some (.inr (.e1 N K))
theorem StM.l {t N : Nat} {K : Nat → Me61} : StM t (some (.inl (.c0 N K ((t + 1 : Nat) : Int)))) := .inl ⟨_, _, rfl⟩
theorem StM.r {t N : Nat} {K : Nat → Me61} : StM t (some (.inr (.e1 N K))) := .inr ⟨_, _, rfl⟩
theorem StM.c {t : Nat} {c : Bool} {a b : Option (Sh_btf_rightMemberNames_v2_L0 ⊕ Ex_btf_rightMemberNames_v2_L0)} (ha : StM t a) (hb : StM t b) : StM t (cond c a b) := by
  cases c
  · exact hb
  · exact ha
theorem mem_any (hm : m ≤ 64) (t : Nat) (ht : t < m) (N : Nat) (K : Nat → Me61) : StM t (st_btf_rightMemberNames_v2_L0 x m M (.c0 N K (t : Int))) := by
  obtain ⟨b, hb, _⟩ := name_told (M t).fName
  simp only [st_btf_rightMemberNames_v2_L0, d_t (show (t : Int) < (m : Int) by omega), inR_t (show (0 : Int) ≤ (t : Int) by omega) (show (t : Int) < (m : Int) by omega), cond_true, Int.toNat_natCast, w_succ t (by omega), hb, Option.bind_some]
  repeat' with_reducible first
    | exact StM.l
    | exact StM.r
    | refine StM.c ?_ ?_
/-- The names of the members so far, each once. -/
structure KM (t N : Nat) (K : Nat → Me61) : Prop where
  one : ∀ j, j < N → (K j).fv = 1
  all : ∀ u, u < t → ∃ j, j < N ∧ (K j).fk = (M u).fName
theorem mem_st (hk : x.fKind = 4) (hm : m ≤ 64) (t : Nat) (ht : t < m) (N : Nat) (K : Nat → Me61) (hK : KM M t N K) :
    (∃ N' K', st_btf_rightMemberNames_v2_L0 x m M (.c0 N K (t : Int)) = some (.inl (.c0 N' K' ((t + 1 : Nat) : Int))) ∧ KM M (t + 1) N' K' ∧ IsName (M t).fName ∧ ∀ u, u < t → (M u).fName ≠ (M t).fName) ∨ ∃ N' K', st_btf_rightMemberNames_v2_L0 x m M (.c0 N K (t : Int)) = some (.inr (.e1 N' K')) := by
  obtain ⟨b, hb, hbn⟩ := name_told (M t).fName
  simp only [st_btf_rightMemberNames_v2_L0, d_t (show (t : Int) < (m : Int) by omega), inR_t (show (0 : Int) ≤ (t : Int) by omega) (show (t : Int) < (m : Int) by omega), cond_true, Int.toNat_natCast, w_succ t (by omega), hb, Option.bind_some, iq_f (show x.fKind ≠ 6 by omega), cond_false]
  cases b with
  | false =>
    right
    simp only [cond_false]
    cases decide (fdx (fun j => ((M t).fName == (K j).fk)) N < N) <;> exact ⟨_, _, rfl⟩
  | true =>
    by_cases hf : fdx (fun j => ((M t).fName == (K j).fk)) N < N
    · right
      have hk1 : (M t).fName = (K (fdx (fun j => ((M t).fName == (K j).fk)) N)).fk := ba_eq (fdx_is hf)
      have hv1 := hK.one _ hf
      have he : (fun j => ((M t).fName == ((updF K (fdx (fun j => ((M t).fName == (K j).fk)) N) (⟨(M t).fName, IntKind.i64.wrap ((K (fdx (fun j => ((M t).fName == (K j).fk)) N)).fv + 1)⟩ : Me61)) j).fk)) = (fun j => ((M t).fName == (K j).fk)) := by
        funext j
        by_cases e : j = fdx (fun j => ((M t).fName == (K j).fk)) N
        · rw [e, updF_at]; show ((M t).fName == (M t).fName) = _; rw [← hk1]
        · rw [updF_ne _ _ e]
      have h2 : fdx (fun j => ((M t).fName == ((updF K (fdx (fun j => ((M t).fName == (K j).fk)) N) (⟨(M t).fName, IntKind.i64.wrap ((K (fdx (fun j => ((M t).fName == (K j).fk)) N)).fv + 1)⟩ : Me61)) j).fk)) N < N := by rw [he]; exact hf
      have h3 : (1 : Int) < ((updF K (fdx (fun j => ((M t).fName == (K j).fk)) N) (⟨(M t).fName, IntKind.i64.wrap ((K (fdx (fun j => ((M t).fName == (K j).fk)) N)).fv + 1)⟩ : Me61)) (fdx (fun j => ((M t).fName == ((updF K (fdx (fun j => ((M t).fName == (K j).fk)) N) (⟨(M t).fName, IntKind.i64.wrap ((K (fdx (fun j => ((M t).fName == (K j).fk)) N)).fv + 1)⟩ : Me61)) j).fk)) N)).fv := by
        rw [he, updF_at]
        show (1 : Int) < IntKind.i64.wrap ((K (fdx (fun j => ((M t).fName == (K j).fk)) N)).fv + 1)
        rw [hv1]; decide
      rw [d_t hf, cond_true, cond_true, d_t h2, cond_true, d_t h3, cond_true]
      exact ⟨_, _, rfl⟩
    · left
      have hn : ∀ j, j < N → ((M t).fName == (K j).fk) = false := fun j hj => fdx_not hf hj
      have h2 : fdx (fun j => ((M t).fName == ((updF K N (⟨(M t).fName, 1⟩ : Me61)) j).fk)) (N + 1) = N := fdx_last (fun j hj => by rw [updF_ne _ _ (show j ≠ N by omega)]; exact hn j hj) (by rw [updF_at]; exact ba_refl _)
      have h3 : fdx (fun j => ((M t).fName == ((updF K N (⟨(M t).fName, 1⟩ : Me61)) j).fk)) (N + 1) < N + 1 := by rw [h2]; omega
      have h4 : ¬ ((1 : Int) < ((updF K N (⟨(M t).fName, 1⟩ : Me61)) (fdx (fun j => ((M t).fName == ((updF K N (⟨(M t).fName, 1⟩ : Me61)) j).fk)) (N + 1))).fv) := by
        rw [h2, updF_at]; show ¬ ((1 : Int) < 1); omega
      rw [d_f hf, cond_false, cond_true, d_t h3, cond_true, d_f h4, cond_false]
      refine ⟨N + 1, updF K N (⟨(M t).fName, 1⟩ : Me61), rfl, ⟨fun j hj => ?_, fun u hu => ?_⟩, hbn rfl, fun u hu e => ?_⟩
      · by_cases e : j = N
        · rw [e, updF_at]
        · rw [updF_ne _ _ e]; exact hK.one j (by omega)
      · by_cases e : u = t
        · exact ⟨N, by omega, by rw [updF_at, e]⟩
        · obtain ⟨j, hj, hj2⟩ := hK.all u (by omega)
          exact ⟨j, by omega, by rw [updF_ne _ _ (show j ≠ N by omega)]; exact hj2⟩
      · obtain ⟨j, hj, hj2⟩ := hK.all u hu
        have := hn j hj
        rw [hj2, e, ba_refl] at this
        cases this
/-- Names of members, each another one. -/
def Named4 : Prop := ∀ t, t < m → IsName (M t).fName ∧ ∀ u, u < t → (M u).fName ≠ (M t).fName
theorem mem_told (hm : m ≤ 64) : ∃ b, m_btf_rightMemberNames_v2 x m M = some b ∧ (b = true → x.fKind = 4 → Named4 m M) := by
  unfold m_btf_rightMemberNames_v2
  by_cases hk : x.fKind = 4
  · have key := lpO_ind (st := st_btf_rightMemberNames_v2_L0 x m M) (fun q => ∃ (t N : Nat) (K : Nat → Me61), q = .c0 N K (t : Int) ∧ t ≤ m ∧ KM M t N K ∧ Named4 t M) (fun q => match q with | .c0 _ _ x => m - x.toNat) (fun _ r => (∃ N K, r = .e1 N K) ∨ ((∃ N K, r = .e0 N K) ∧ Named4 m M)) (fun q ⟨t, N, K, e, htm, hK, hN⟩ => by
      subst e
      by_cases ht : t < m
      · rcases mem_st x m M hk hm t ht N K hK with ⟨N', K', h, hK', h1, h2⟩ | ⟨N', K', h⟩
        · refine .inl ⟨_, h, ⟨t + 1, N', K', rfl, by omega, hK', fun u hu => ?_⟩, by show m - ((t + 1 : Nat) : Int).toNat < m - ((t : Nat) : Int).toNat; omega, fun r h => h⟩
          by_cases e : u = t
          · rw [e]; exact ⟨h1, h2⟩
          · exact hN u (by omega)
        · exact .inr ⟨_, h, .inl ⟨_, _, rfl⟩⟩
      · obtain rfl : t = m := by omega
        exact .inr ⟨.e0 N K, by simp only [st_btf_rightMemberNames_v2_L0, d_f (show ¬ ((t : Int) < (t : Int)) by omega), cond_false], .inr ⟨⟨_, _, rfl⟩, hN⟩⟩)
    obtain ⟨r, hr, hP⟩ := key (.c0 0 _ 0) ⟨0, 0, _, rfl, by omega, ⟨fun j hj => by omega, fun u hu => by omega⟩, fun u hu => by omega⟩
    rw [hr]
    rcases hP with ⟨N, K, rfl⟩ | ⟨⟨N, K, rfl⟩, hN⟩
    · exact ⟨false, rfl, fun h => by cases h⟩
    · exact ⟨true, rfl, fun _ _ => hN⟩
  · have key := lpO_ind (st := st_btf_rightMemberNames_v2_L0 x m M) (fun q => ∃ (t N : Nat) (K : Nat → Me61), q = .c0 N K (t : Int) ∧ t ≤ m) (fun q => match q with | .c0 _ _ x => m - x.toNat) (fun _ r => (∃ N K, r = .e1 N K) ∨ ∃ N K, r = .e0 N K) (fun q ⟨t, N, K, e, htm⟩ => by
      subst e
      by_cases ht : t < m
      · rcases mem_any x m M hm t ht N K with ⟨N', K', h⟩ | ⟨N', K', h⟩
        · exact .inl ⟨_, h, ⟨t + 1, N', K', rfl, by omega⟩, by show m - ((t + 1 : Nat) : Int).toNat < m - ((t : Nat) : Int).toNat; omega, fun r h => h⟩
        · exact .inr ⟨_, h, .inl ⟨_, _, rfl⟩⟩
      · obtain rfl : t = m := by omega
        exact .inr ⟨.e0 N K, by simp only [st_btf_rightMemberNames_v2_L0, d_f (show ¬ ((t : Int) < (t : Int)) by omega), cond_false], .inr ⟨_, _, rfl⟩⟩)
    obtain ⟨r, hr, hP⟩ := key (.c0 0 _ 0) ⟨0, 0, _, rfl, by omega⟩
    rw [hr]
    rcases hP with ⟨N, K, rfl⟩ | ⟨N, K, rfl⟩
    · exact ⟨false, rfl, fun h => by cases h⟩
    · exact ⟨true, rfl, fun _ h => absurd h hk⟩
theorem refs_loop0 (hm : m ≤ 64) (y : Int) : ∃ r, lpO (st_btf_rightReferences_v2_L0 m M y) (.c0 0) = some r ∧ (r = .e0 → ∀ k, k < m → 1 ≤ (M k).fType ∧ (M k).fType ≤ y) := by
  have key := lpO_ind (st := st_btf_rightReferences_v2_L0 m M y) (fun q => ∃ t : Nat, q = .c0 (t : Int) ∧ t ≤ m ∧ ∀ k, k < t → 1 ≤ (M k).fType ∧ (M k).fType ≤ y) (fun q => match q with | .c0 x => m - x.toNat) (fun _ r => r = .e0 → ∀ k, k < m → 1 ≤ (M k).fType ∧ (M k).fType ≤ y) (fun q ⟨t, e, hts, hc⟩ => by
    subst e
    by_cases ht : t < m
    · have b1 := d_t (show (t : Int) < (m : Int) by omega)
      have b2 := inR_t (show (0 : Int) ≤ (t : Int) by omega) (show (t : Int) < (m : Int) by omega)
      by_cases h1 : (M t).fType < 1
      · exact .inr ⟨.e1, by simp only [st_btf_rightReferences_v2_L0, b1, b2, cond_true, Int.toNat_natCast, d_t h1], fun e => by cases e⟩
      by_cases h2 : y < (M t).fType
      · exact .inr ⟨.e1, by simp only [st_btf_rightReferences_v2_L0, b1, b2, cond_true, Int.toNat_natCast, d_f h1, cond_false, d_t h2], fun e => by cases e⟩
      refine .inl ⟨.c0 ((t + 1 : Nat) : Int), by simp only [st_btf_rightReferences_v2_L0, b1, b2, cond_true, Int.toNat_natCast, d_f h1, cond_false, d_f h2, w_succ t (by omega)], ⟨t + 1, rfl, by omega, fun k hk => ?_⟩, by show m - ((t + 1 : Nat) : Int).toNat < m - ((t : Nat) : Int).toNat; omega, fun r h => h⟩
      by_cases e : k = t
      · rw [e]; exact ⟨by omega, by omega⟩
      · exact hc k (by omega)
    · obtain rfl : t = m := by omega
      exact .inr ⟨.e0, by simp only [st_btf_rightReferences_v2_L0, d_f (show ¬ ((t : Int) < (t : Int)) by omega), cond_false], fun _ => hc⟩)
  exact key (.c0 0) ⟨0, rfl, by omega, fun k hk => by omega⟩
theorem refs_loop1 (hm : m ≤ 64) (y : Int) : ∃ r, lpO (st_btf_rightReferences_v2_L0v1 m M y) (.c0 0) = some r ∧ (r = .e0 → ∀ k, k < m → 1 ≤ (M k).fType ∧ (M k).fType ≤ y) := by
  have key := lpO_ind (st := st_btf_rightReferences_v2_L0v1 m M y) (fun q => ∃ t : Nat, q = .c0 (t : Int) ∧ t ≤ m ∧ ∀ k, k < t → 1 ≤ (M k).fType ∧ (M k).fType ≤ y) (fun q => match q with | .c0 x => m - x.toNat) (fun _ r => r = .e0 → ∀ k, k < m → 1 ≤ (M k).fType ∧ (M k).fType ≤ y) (fun q ⟨t, e, hts, hc⟩ => by
    subst e
    by_cases ht : t < m
    · have b1 := d_t (show (t : Int) < (m : Int) by omega)
      have b2 := inR_t (show (0 : Int) ≤ (t : Int) by omega) (show (t : Int) < (m : Int) by omega)
      by_cases h1 : (M t).fType < 1
      · exact .inr ⟨.e1, by simp only [st_btf_rightReferences_v2_L0v1, b1, b2, cond_true, Int.toNat_natCast, d_t h1], fun e => by cases e⟩
      by_cases h2 : y < (M t).fType
      · exact .inr ⟨.e1, by simp only [st_btf_rightReferences_v2_L0v1, b1, b2, cond_true, Int.toNat_natCast, d_f h1, cond_false, d_t h2], fun e => by cases e⟩
      refine .inl ⟨.c0 ((t + 1 : Nat) : Int), by simp only [st_btf_rightReferences_v2_L0v1, b1, b2, cond_true, Int.toNat_natCast, d_f h1, cond_false, d_f h2, w_succ t (by omega)], ⟨t + 1, rfl, by omega, fun k hk => ?_⟩, by show m - ((t + 1 : Nat) : Int).toNat < m - ((t : Nat) : Int).toNat; omega, fun r h => h⟩
      by_cases e : k = t
      · rw [e]; exact ⟨by omega, by omega⟩
      · exact hc k (by omega)
    · obtain rfl : t = m := by omega
      exact .inr ⟨.e0, by simp only [st_btf_rightReferences_v2_L0v1, d_f (show ¬ ((t : Int) < (t : Int)) by omega), cond_false], fun _ => hc⟩)
  exact key (.c0 0) ⟨0, rfl, by omega, fun k hk => by omega⟩
theorem refs_loop2 (hm : m ≤ 64) (y : Int) : ∃ r, lpO (st_btf_rightReferences_v2_L0v2 m M y) (.c0 0) = some r ∧ (r = .e0 → ∀ k, k < m → 1 ≤ (M k).fType ∧ (M k).fType ≤ y) := by
  have key := lpO_ind (st := st_btf_rightReferences_v2_L0v2 m M y) (fun q => ∃ t : Nat, q = .c0 (t : Int) ∧ t ≤ m ∧ ∀ k, k < t → 1 ≤ (M k).fType ∧ (M k).fType ≤ y) (fun q => match q with | .c0 x => m - x.toNat) (fun _ r => r = .e0 → ∀ k, k < m → 1 ≤ (M k).fType ∧ (M k).fType ≤ y) (fun q ⟨t, e, hts, hc⟩ => by
    subst e
    by_cases ht : t < m
    · have b1 := d_t (show (t : Int) < (m : Int) by omega)
      have b2 := inR_t (show (0 : Int) ≤ (t : Int) by omega) (show (t : Int) < (m : Int) by omega)
      by_cases h1 : (M t).fType < 1
      · exact .inr ⟨.e1, by simp only [st_btf_rightReferences_v2_L0v2, b1, b2, cond_true, Int.toNat_natCast, d_t h1], fun e => by cases e⟩
      by_cases h2 : y < (M t).fType
      · exact .inr ⟨.e1, by simp only [st_btf_rightReferences_v2_L0v2, b1, b2, cond_true, Int.toNat_natCast, d_f h1, cond_false, d_t h2], fun e => by cases e⟩
      refine .inl ⟨.c0 ((t + 1 : Nat) : Int), by simp only [st_btf_rightReferences_v2_L0v2, b1, b2, cond_true, Int.toNat_natCast, d_f h1, cond_false, d_f h2, w_succ t (by omega)], ⟨t + 1, rfl, by omega, fun k hk => ?_⟩, by show m - ((t + 1 : Nat) : Int).toNat < m - ((t : Nat) : Int).toNat; omega, fun r h => h⟩
      by_cases e : k = t
      · rw [e]; exact ⟨by omega, by omega⟩
      · exact hc k (by omega)
    · obtain rfl : t = m := by omega
      exact .inr ⟨.e0, by simp only [st_btf_rightReferences_v2_L0v2, d_f (show ¬ ((t : Int) < (t : Int)) by omega), cond_false], fun _ => hc⟩)
  exact key (.c0 0) ⟨0, rfl, by omega, fun k hk => by omega⟩
theorem refs_loop3 (hm : m ≤ 64) (y : Int) : ∃ r, lpO (st_btf_rightReferences_v2_L0v3 m M y) (.c0 0) = some r ∧ (r = .e0 → ∀ k, k < m → 1 ≤ (M k).fType ∧ (M k).fType ≤ y) := by
  have key := lpO_ind (st := st_btf_rightReferences_v2_L0v3 m M y) (fun q => ∃ t : Nat, q = .c0 (t : Int) ∧ t ≤ m ∧ ∀ k, k < t → 1 ≤ (M k).fType ∧ (M k).fType ≤ y) (fun q => match q with | .c0 x => m - x.toNat) (fun _ r => r = .e0 → ∀ k, k < m → 1 ≤ (M k).fType ∧ (M k).fType ≤ y) (fun q ⟨t, e, hts, hc⟩ => by
    subst e
    by_cases ht : t < m
    · have b1 := d_t (show (t : Int) < (m : Int) by omega)
      have b2 := inR_t (show (0 : Int) ≤ (t : Int) by omega) (show (t : Int) < (m : Int) by omega)
      by_cases h1 : (M t).fType < 1
      · exact .inr ⟨.e1, by simp only [st_btf_rightReferences_v2_L0v3, b1, b2, cond_true, Int.toNat_natCast, d_t h1], fun e => by cases e⟩
      by_cases h2 : y < (M t).fType
      · exact .inr ⟨.e1, by simp only [st_btf_rightReferences_v2_L0v3, b1, b2, cond_true, Int.toNat_natCast, d_f h1, cond_false, d_t h2], fun e => by cases e⟩
      refine .inl ⟨.c0 ((t + 1 : Nat) : Int), by simp only [st_btf_rightReferences_v2_L0v3, b1, b2, cond_true, Int.toNat_natCast, d_f h1, cond_false, d_f h2, w_succ t (by omega)], ⟨t + 1, rfl, by omega, fun k hk => ?_⟩, by show m - ((t + 1 : Nat) : Int).toNat < m - ((t : Nat) : Int).toNat; omega, fun r h => h⟩
      by_cases e : k = t
      · rw [e]; exact ⟨by omega, by omega⟩
      · exact hc k (by omega)
    · obtain rfl : t = m := by omega
      exact .inr ⟨.e0, by simp only [st_btf_rightReferences_v2_L0v3, d_f (show ¬ ((t : Int) < (t : Int)) by omega), cond_false], fun _ => hc⟩)
  exact key (.c0 0) ⟨0, rfl, by omega, fun k hk => by omega⟩
theorem refs_loop4 (hm : m ≤ 64) (y : Int) : ∃ r, lpO (st_btf_rightReferences_v2_L0v4 m M y) (.c0 0) = some r ∧ (r = .e0 → ∀ k, k < m → 1 ≤ (M k).fType ∧ (M k).fType ≤ y) := by
  have key := lpO_ind (st := st_btf_rightReferences_v2_L0v4 m M y) (fun q => ∃ t : Nat, q = .c0 (t : Int) ∧ t ≤ m ∧ ∀ k, k < t → 1 ≤ (M k).fType ∧ (M k).fType ≤ y) (fun q => match q with | .c0 x => m - x.toNat) (fun _ r => r = .e0 → ∀ k, k < m → 1 ≤ (M k).fType ∧ (M k).fType ≤ y) (fun q ⟨t, e, hts, hc⟩ => by
    subst e
    by_cases ht : t < m
    · have b1 := d_t (show (t : Int) < (m : Int) by omega)
      have b2 := inR_t (show (0 : Int) ≤ (t : Int) by omega) (show (t : Int) < (m : Int) by omega)
      by_cases h1 : (M t).fType < 1
      · exact .inr ⟨.e1, by simp only [st_btf_rightReferences_v2_L0v4, b1, b2, cond_true, Int.toNat_natCast, d_t h1], fun e => by cases e⟩
      by_cases h2 : y < (M t).fType
      · exact .inr ⟨.e1, by simp only [st_btf_rightReferences_v2_L0v4, b1, b2, cond_true, Int.toNat_natCast, d_f h1, cond_false, d_t h2], fun e => by cases e⟩
      refine .inl ⟨.c0 ((t + 1 : Nat) : Int), by simp only [st_btf_rightReferences_v2_L0v4, b1, b2, cond_true, Int.toNat_natCast, d_f h1, cond_false, d_f h2, w_succ t (by omega)], ⟨t + 1, rfl, by omega, fun k hk => ?_⟩, by show m - ((t + 1 : Nat) : Int).toNat < m - ((t : Nat) : Int).toNat; omega, fun r h => h⟩
      by_cases e : k = t
      · rw [e]; exact ⟨by omega, by omega⟩
      · exact hc k (by omega)
    · obtain rfl : t = m := by omega
      exact .inr ⟨.e0, by simp only [st_btf_rightReferences_v2_L0v4, d_f (show ¬ ((t : Int) < (t : Int)) by omega), cond_false], fun _ => hc⟩)
  exact key (.c0 0) ⟨0, rfl, by omega, fun k hk => by omega⟩
theorem refs_told (hm : m ≤ 64) (y : Int) : ∃ b, m_btf_rightReferences_v2 x m M y = some b ∧ (b = true → (∀ k, k < m → 1 ≤ (M k).fType ∧ (M k).fType ≤ y) ∧ (x.fKind = 5 ∨ x.fKind = 3 → 1 ≤ x.fTo ∧ x.fTo ≤ y)) := by
  obtain ⟨r0, e0, f0⟩ := refs_loop0 m M hm y
  obtain ⟨r1, e1, f1⟩ := refs_loop1 m M hm y
  obtain ⟨r2, e2, f2⟩ := refs_loop2 m M hm y
  obtain ⟨r3, e3, f3⟩ := refs_loop3 m M hm y
  obtain ⟨r4, e4, f4⟩ := refs_loop4 m M hm y
  unfold m_btf_rightReferences_v2
  rw [e0, e1, e2, e3, e4]
  by_cases k1 : x.fKind = 1
  · rw [iq_t k1, cond_true]
    cases h1 : decide (x.fTo < 0) with
    | true => exact ⟨false, rfl, fun h => by cases h⟩
    | false => cases h2 : decide (0 < x.fTo) with
      | true => exact ⟨false, rfl, fun h => by cases h⟩
      | false => cases r0 with
        | e0 => exact ⟨true, rfl, fun _ => ⟨f0 rfl, fun h => by omega⟩⟩
        | e1 => exact ⟨false, rfl, fun h => by cases h⟩
  rw [iq_f k1, cond_false]
  by_cases k4 : x.fKind = 4
  · rw [iq_t k4, cond_true]
    cases h1 : decide (x.fTo < 0) with
    | true => exact ⟨false, rfl, fun h => by cases h⟩
    | false => cases h2 : decide (0 < x.fTo) with
      | true => exact ⟨false, rfl, fun h => by cases h⟩
      | false => cases r1 with
        | e0 => exact ⟨true, rfl, fun _ => ⟨f1 rfl, fun h => by omega⟩⟩
        | e1 => exact ⟨false, rfl, fun h => by cases h⟩
  rw [iq_f k4, cond_false]
  by_cases k2 : x.fKind = 2
  · rw [iq_t k2, cond_true]
    cases h1 : decide (x.fTo < 0) with
    | true => exact ⟨false, rfl, fun h => by cases h⟩
    | false => cases h2 : decide (y < x.fTo) with
      | true => exact ⟨false, rfl, fun h => by cases h⟩
      | false => cases r2 with
        | e0 => exact ⟨true, rfl, fun _ => ⟨f2 rfl, fun h => by omega⟩⟩
        | e1 => exact ⟨false, rfl, fun h => by cases h⟩
  rw [iq_f k2, cond_false]
  by_cases k6 : x.fKind = 6
  · rw [iq_t k6, cond_true]
    cases h1 : decide (x.fTo < 0) with
    | true => exact ⟨false, rfl, fun h => by cases h⟩
    | false => cases h2 : decide (y < x.fTo) with
      | true => exact ⟨false, rfl, fun h => by cases h⟩
      | false => cases r3 with
        | e0 => exact ⟨true, rfl, fun _ => ⟨f3 rfl, fun h => by omega⟩⟩
        | e1 => exact ⟨false, rfl, fun h => by cases h⟩
  rw [iq_f k6, cond_false]
  by_cases h1 : x.fTo < 1
  · rw [d_t h1, cond_true]; exact ⟨false, rfl, fun h => by cases h⟩
  by_cases h2 : y < x.fTo
  · rw [d_f h1, d_t h2, cond_true, cond_false]; exact ⟨false, rfl, fun h => by cases h⟩
  rw [d_f h1, d_f h2, cond_false, cond_false]
  cases r4 with
  | e0 => exact ⟨true, rfl, fun _ => ⟨f4 rfl, fun _ => ⟨by omega, by omega⟩⟩⟩
  | e1 => exact ⟨false, rfl, fun h => by cases h⟩
theorem own_loop0 (hm : m ≤ 64) : ∃ r, lpO (st_btf_onlyOwnFields_v2_L0 m M) (.c0 0) = some r := by
  have key := lpO_ind (st := st_btf_onlyOwnFields_v2_L0 m M) (fun q => ∃ t : Nat, q = .c0 (t : Int) ∧ t ≤ m) (fun q => match q with | .c0 x => m - x.toNat) (fun _ _ => True) (fun q ⟨t, e, hts⟩ => by
    subst e
    by_cases ht : t < m
    · have b1 := d_t (show (t : Int) < (m : Int) by omega)
      have b2 := inR_t (show (0 : Int) ≤ (t : Int) by omega) (show (t : Int) < (m : Int) by omega)
      cases h1 : ((M t).fBits == 0) with
      | false => exact .inr ⟨.e1, by simp only [st_btf_onlyOwnFields_v2_L0, b1, b2, cond_true, Int.toNat_natCast, h1, cond_false], trivial⟩
      | true => exact .inl ⟨.c0 ((t + 1 : Nat) : Int), by simp only [st_btf_onlyOwnFields_v2_L0, b1, b2, cond_true, Int.toNat_natCast, h1, w_succ t (by omega)], ⟨t + 1, rfl, by omega⟩, by show m - ((t + 1 : Nat) : Int).toNat < m - ((t : Nat) : Int).toNat; omega, fun r h => h⟩
    · obtain rfl : t = m := by omega
      exact .inr ⟨.e0, by simp only [st_btf_onlyOwnFields_v2_L0, d_f (show ¬ ((t : Int) < (t : Int)) by omega), cond_false], trivial⟩)
  obtain ⟨r, hr, _⟩ := key (.c0 0) ⟨0, rfl, by omega⟩
  exact ⟨r, hr⟩
theorem own_loop1 (hm : m ≤ 64) : ∃ r, lpO (st_btf_onlyOwnFields_v2_L0v1 m M) (.c0 0) = some r := by
  have key := lpO_ind (st := st_btf_onlyOwnFields_v2_L0v1 m M) (fun q => ∃ t : Nat, q = .c0 (t : Int) ∧ t ≤ m) (fun q => match q with | .c0 x => m - x.toNat) (fun _ _ => True) (fun q ⟨t, e, hts⟩ => by
    subst e
    by_cases ht : t < m
    · have b1 := d_t (show (t : Int) < (m : Int) by omega)
      have b2 := inR_t (show (0 : Int) ≤ (t : Int) by omega) (show (t : Int) < (m : Int) by omega)
      cases h1 : ((M t).fBits == 0) with
      | false => exact .inr ⟨.e1, by simp only [st_btf_onlyOwnFields_v2_L0v1, b1, b2, cond_true, Int.toNat_natCast, h1, cond_false], trivial⟩
      | true => exact .inl ⟨.c0 ((t + 1 : Nat) : Int), by simp only [st_btf_onlyOwnFields_v2_L0v1, b1, b2, cond_true, Int.toNat_natCast, h1, w_succ t (by omega)], ⟨t + 1, rfl, by omega⟩, by show m - ((t + 1 : Nat) : Int).toNat < m - ((t : Nat) : Int).toNat; omega, fun r h => h⟩
    · obtain rfl : t = m := by omega
      exact .inr ⟨.e0, by simp only [st_btf_onlyOwnFields_v2_L0v1, d_f (show ¬ ((t : Int) < (t : Int)) by omega), cond_false], trivial⟩)
  obtain ⟨r, hr, _⟩ := key (.c0 0) ⟨0, rfl, by omega⟩
  exact ⟨r, hr⟩
theorem own_told (hm : m ≤ 64) : ∃ b, m_btf_onlyOwnFields_v2 x m M = some b := by
  obtain ⟨r0, e0⟩ := own_loop0 m M hm
  obtain ⟨r1, e1⟩ := own_loop1 m M hm
  unfold m_btf_onlyOwnFields_v2
  rw [e0, e1]
  repeat' first
    | exact ⟨_, rfl⟩
    | refine cnd (P := fun q => ∃ b : Bool, q = some b) (fun _ => ?_) (fun _ => ?_)
  · cases r0 <;> exact ⟨_, rfl⟩
  · cases r1 <;> exact ⟨_, rfl⟩
/-- What holds of a type of which nothing is told. -/
structure TypeOk (y : Int) : Prop where
  k1 : 1 ≤ x.fKind
  k6 : x.fKind ≤ 6
  size : m_btf_rightSize_v2 x m M = true
  names : x.fKind = 4 → Named4 m M
  mems : ∀ k, k < m → 1 ≤ (M k).fType ∧ (M k).fType ≤ y
  to : x.fKind = 5 ∨ x.fKind = 3 → 1 ≤ x.fTo ∧ x.fTo ≤ y
theorem type_told (hm : m ≤ 64) (y : Int) (w0 : Nat) (w1 : Nat → Me45) : ∃ v0 v1 e, m_btf_checkType_v2 x m M y w0 w1 = some (.e0 v0 v1 e) ∧ (e = 0 → TypeOk x m M y) := by
  obtain ⟨v0, v1, b0, e0⟩ := rightName_told x m M w0 w1
  obtain ⟨b1, e1, f1⟩ := mem_told x m M hm
  obtain ⟨b2, e2, f2⟩ := refs_told x m M hm y
  obtain ⟨b3, e3⟩ := own_told x m M hm
  unfold m_btf_checkType_v2
  by_cases k1 : x.fKind < 1
  · rw [d_t k1, cond_true]; exact ⟨_, _, 41, rfl, fun h => by omega⟩
  by_cases k6 : 6 < x.fKind
  · rw [d_f k1, d_t k6, cond_true, cond_false]; exact ⟨_, _, 41, rfl, fun h => by omega⟩
  rw [d_f k1, d_f k6, cond_false, cond_false, e0, e1, e2, e3]
  cases b0 with
  | false => exact ⟨_, _, 44, rfl, fun h => by omega⟩
  | true => cases hs : m_btf_rightSize_v2 x m M with
    | false => exact ⟨_, _, 43, rfl, fun h => by omega⟩
    | true => cases b1 with
      | false => exact ⟨_, _, 44, rfl, fun h => by omega⟩
      | true => cases b2 with
        | false => exact ⟨_, _, 41, rfl, fun h => by omega⟩
        | true => cases b3 with
          | false => exact ⟨_, _, 41, rfl, fun h => by omega⟩
          | true => exact ⟨_, _, 0, rfl, fun _ => ⟨by omega, by omega, hs, f1 rfl, (f2 rfl).1, (f2 rfl).2⟩⟩
end
end Go.Proofs.YtlpjdjbophcomaaDoor

