/-
  What Check, Resolve and Size tell of any list of types.
-/
import Derived.Test.YtlpjdjbophcomaaDoorBWJ
namespace Go.Proofs.YtlpjdjbophcomaaDoor
open Go.RowKit
set_option linter.unusedVariables false
set_option linter.unusedSimpArgs false
section
variable {n : Nat} {A : TyL}
section
variable (G : Good n A)
include G
theorem Good.isF {i : Nat} (hi : i < n) : ∃ b, m_btf_isFunction_v1 n A ((i + 1 : Nat) : Int) = some b := by
  obtain ⟨j, hj, h, _⟩ := G.res n i hi (G.dep i hi)
  exact ⟨_, by simp only [m_btf_isFunction_v1, m_btf_resolve_v2, h, Option.bind_some, (G.toEach.id hj).1, (G.toEach.id hj).2, cond_true]; rfl⟩
theorem Good.hF_loop0 {i : Nat} (hi : i < n) (hall : ∀ u, u < (A i).2.1 → ∃ b, m_btf_isFunction_v1 n A ((A i).2.2 u).fType = some b) : ∃ r, lpO (st_btf_holdsFunction_v2_L0 n A (A i).2.1 (A i).2.2) (.c0 0) = some r := by
  have hm := G.mem i hi
  have key := lpO_ind (st := st_btf_holdsFunction_v2_L0 n A (A i).2.1 (A i).2.2) (fun q => ∃ t : Nat, q = .c0 (t : Int) ∧ t ≤ (A i).2.1) (fun q => match q with | .c0 x => (A i).2.1 - x.toNat) (fun _ _ => True) (fun q ⟨t, e, hts⟩ => by
    subst e
    by_cases ht : t < (A i).2.1
    · have b1 := d_t (show (t : Int) < ((A i).2.1 : Int) by omega)
      have b2 := inR_t (show (0 : Int) ≤ (t : Int) by omega) (show (t : Int) < ((A i).2.1 : Int) by omega)
      obtain ⟨b, hb⟩ := hall t ht
      cases b with
      | true => exact .inr ⟨.e1, by simp only [st_btf_holdsFunction_v2_L0, b1, b2, cond_true, Int.toNat_natCast, hb, Option.bind_some], trivial⟩
      | false => exact .inl ⟨.c0 ((t + 1 : Nat) : Int), by simp only [st_btf_holdsFunction_v2_L0, b1, b2, cond_true, Int.toNat_natCast, hb, Option.bind_some, cond_false, w_succ t (by omega)], ⟨t + 1, rfl, by omega⟩, by show (A i).2.1 - ((t + 1 : Nat) : Int).toNat < (A i).2.1 - ((t : Nat) : Int).toNat; omega, fun r h => h⟩
    · obtain rfl : t = (A i).2.1 := by omega
      exact .inr ⟨.e0, by simp only [st_btf_holdsFunction_v2_L0, d_f (show ¬ (((A i).2.1 : Int) < ((A i).2.1 : Int)) by omega), cond_false], trivial⟩)
  obtain ⟨r, hr, _⟩ := key (.c0 0) ⟨0, rfl, by omega⟩
  exact ⟨r, hr⟩
theorem Good.hF_loop1 {i : Nat} (hi : i < n) (hall : ∀ u, u < (A i).2.1 → ∃ b, m_btf_isFunction_v1 n A ((A i).2.2 u).fType = some b) : ∃ r, lpO (st_btf_holdsFunction_v2_L0v1 n A (A i).2.1 (A i).2.2) (.c0 0) = some r := by
  have hm := G.mem i hi
  have key := lpO_ind (st := st_btf_holdsFunction_v2_L0v1 n A (A i).2.1 (A i).2.2) (fun q => ∃ t : Nat, q = .c0 (t : Int) ∧ t ≤ (A i).2.1) (fun q => match q with | .c0 x => (A i).2.1 - x.toNat) (fun _ _ => True) (fun q ⟨t, e, hts⟩ => by
    subst e
    by_cases ht : t < (A i).2.1
    · have b1 := d_t (show (t : Int) < ((A i).2.1 : Int) by omega)
      have b2 := inR_t (show (0 : Int) ≤ (t : Int) by omega) (show (t : Int) < ((A i).2.1 : Int) by omega)
      obtain ⟨b, hb⟩ := hall t ht
      cases b with
      | true => exact .inr ⟨.e1, by simp only [st_btf_holdsFunction_v2_L0v1, b1, b2, cond_true, Int.toNat_natCast, hb, Option.bind_some], trivial⟩
      | false => exact .inl ⟨.c0 ((t + 1 : Nat) : Int), by simp only [st_btf_holdsFunction_v2_L0v1, b1, b2, cond_true, Int.toNat_natCast, hb, Option.bind_some, cond_false, w_succ t (by omega)], ⟨t + 1, rfl, by omega⟩, by show (A i).2.1 - ((t + 1 : Nat) : Int).toNat < (A i).2.1 - ((t : Nat) : Int).toNat; omega, fun r h => h⟩
    · obtain rfl : t = (A i).2.1 := by omega
      exact .inr ⟨.e0, by simp only [st_btf_holdsFunction_v2_L0v1, d_f (show ¬ (((A i).2.1 : Int) < ((A i).2.1 : Int)) by omega), cond_false], trivial⟩)
  obtain ⟨r, hr, _⟩ := key (.c0 0) ⟨0, rfl, by omega⟩
  exact ⟨r, hr⟩
end
/-- What a type's members name, whatever it is, is there. -/
structure Names (n : Nat) (A : TyL) : Prop where
  all : ∀ i, i < n → ∀ u, u < (A i).2.1 → 1 ≤ ((A i).2.2 u).fType ∧ ((A i).2.2 u).fType ≤ (n : Int)
theorem Each.names (E : Each n A) : Names n A := ⟨fun i hi => (E.ok i hi).mems⟩
section
variable (G : Good n A) (H : Names n A)
include G H
theorem Good.memF {i : Nat} (hi : i < n) : ∀ u, u < (A i).2.1 → ∃ b, m_btf_isFunction_v1 n A ((A i).2.2 u).fType = some b := fun u hu => by
  obtain ⟨h1, h2⟩ := H.all i hi u hu
  obtain ⟨b, hb⟩ := G.isF (i := ((A i).2.2 u).fType.toNat - 1) (by omega)
  exact ⟨b, by rw [← hb]; congr 1; omega⟩
theorem Good.holdsF {i : Nat} (hi : i < n) : ∃ b, m_btf_holdsFunction_v2 n A (A i).1 (A i).2.1 (A i).2.2 = some b := by
  obtain ⟨r0, e0⟩ := G.hF_loop0 hi (G.memF H hi)
  obtain ⟨r1, e1⟩ := G.hF_loop1 hi (G.memF H hi)
  unfold m_btf_holdsFunction_v2
  rw [e0, e1]
  by_cases k3 : (A i).1.fKind = 3
  · obtain ⟨j, hj, e, _⟩ := G.toEach.to hi (.inr k3)
    obtain ⟨b, hb⟩ := G.isF hj
    rw [iq_t k3, cond_true, e, hb]
    cases b with
    | true => exact ⟨true, rfl⟩
    | false => cases r0 <;> exact ⟨_, rfl⟩
  · rw [iq_f k3, cond_false]
    cases r1 <;> exact ⟨_, rfl⟩
omit H in
theorem Good.fit {i : Nat} (hi : i < n) : ∃ b, m_btf_fits_v2 n A ((i + 1 : Nat) : Int) = some b ∧ (b = true → (A i).1.fKind = 4 → ∀ u, u < (A i).2.1 → 0 ≤ ((A i).2.2 u).fBits) := by
  obtain ⟨s, _, _, hs⟩ := G.sz hi
  have h8 := hs 300 (by omega)
  have hm := G.mem i hi
  by_cases k3 : (A i).1.fKind = 3
  · exact ⟨_, by simp only [m_btf_fits_v2, (G.toEach.id hi).1, (G.toEach.id hi).2, cond_true, iq_t k3, h8, Option.bind_some]; rfl, fun _ k => by omega⟩
  by_cases k4 : (A i).1.fKind = 4
  · have key := lpO_ind (st := st_btf_fits_v2_L0 n A ((i + 1 : Nat) : Int)) (fun q => ∃ (t : Nat) (x : Int), q = .c0 x (t : Int) ∧ t ≤ (A i).2.1 ∧ ∀ u, u < t → 0 ≤ ((A i).2.2 u).fBits) (fun q => match q with | .c0 _ x => (A i).2.1 - x.toNat) (fun _ r => (∃ a b c d e f, r = .e1 a b c d e f) ∨ ((∃ a b c d e f, r = .e0 a b c d e f) ∧ ∀ u, u < (A i).2.1 → 0 ≤ ((A i).2.2 u).fBits)) (fun q ⟨t, x, e, hts, hbt⟩ => by
      subst e
      by_cases ht : t < (A i).2.1
      · have b1 := d_t (show (t : Int) < ((A i).2.1 : Int) by omega)
        have b2 := inR_t (show (0 : Int) ≤ (t : Int) by omega) (show (t : Int) < ((A i).2.1 : Int) by omega)
        obtain ⟨j, hj, ej, _⟩ := G.toEach.st hi k4 ht
        obtain ⟨s', _, _, hs'⟩ := G.sz hj
        have h8' := hs' 300 (by omega)
        by_cases a1 : ((A i).2.2 t).fBits < 0
        · exact .inr ⟨_, by simp only [st_btf_fits_v2_L0, (G.toEach.id hi).1, (G.toEach.id hi).2, b1, b2, cond_true, Int.toNat_natCast, d_t a1]; rfl, .inl ⟨_, _, _, _, _, _, rfl⟩⟩
        cases a2 : (zrem ((A i).2.2 t).fBits 8 == 0) with
        | false => exact .inr ⟨_, by simp only [st_btf_fits_v2_L0, (G.toEach.id hi).1, (G.toEach.id hi).2, b1, b2, cond_true, Int.toNat_natCast, d_f a1, a2, cond_false]; rfl, .inl ⟨_, _, _, _, _, _, rfl⟩⟩
        | true =>
          by_cases a3 : zquo ((A i).2.2 t).fBits 8 < x
          · exact .inr ⟨_, by simp only [st_btf_fits_v2_L0, (G.toEach.id hi).1, (G.toEach.id hi).2, b1, b2, cond_true, Int.toNat_natCast, d_f a1, a2, cond_false, d_t a3]; rfl, .inl ⟨_, _, _, _, _, _, rfl⟩⟩
          by_cases a4 : (A i).1.fSize < IntKind.i64.wrap (zquo ((A i).2.2 t).fBits 8 + s')
          · exact .inr ⟨_, by simp only [st_btf_fits_v2_L0, (G.toEach.id hi).1, (G.toEach.id hi).2, b1, b2, cond_true, Int.toNat_natCast, d_f a1, a2, cond_false, d_f a3, ej, h8', Option.bind_some, d_t a4]; rfl, .inl ⟨_, _, _, _, _, _, rfl⟩⟩
          · exact .inl ⟨.c0 _ ((t + 1 : Nat) : Int), by simp only [st_btf_fits_v2_L0, (G.toEach.id hi).1, (G.toEach.id hi).2, b1, b2, cond_true, Int.toNat_natCast, d_f a1, a2, cond_false, d_f a3, ej, h8', Option.bind_some, d_f a4, w_succ t (by omega)]; rfl, ⟨t + 1, _, rfl, by omega, fun u hu => by
            by_cases e : u = t
            · rw [e]; omega
            · exact hbt u (by omega)⟩, by show (A i).2.1 - ((t + 1 : Nat) : Int).toNat < (A i).2.1 - ((t : Nat) : Int).toNat; omega, fun r h => h⟩
      · obtain rfl : t = (A i).2.1 := by omega
        exact .inr ⟨_, by simp only [st_btf_fits_v2_L0, (G.toEach.id hi).2, d_f (show ¬ (((A i).2.1 : Int) < ((A i).2.1 : Int)) by omega), cond_false]; rfl, .inr ⟨⟨_, _, _, _, _, _, rfl⟩, hbt⟩⟩)
    obtain ⟨r, hr, hP⟩ := key (.c0 0 0) ⟨0, 0, rfl, by omega, fun u hu => by omega⟩
    simp only [m_btf_fits_v2, (G.toEach.id hi).1, (G.toEach.id hi).2, cond_true, iq_f k3, cond_false, iq_t k4, hr, Option.bind_some]
    rcases hP with ⟨_, _, _, _, _, _, rfl⟩ | ⟨⟨_, _, _, _, _, _, rfl⟩, hb⟩
    · exact ⟨false, rfl, fun h => by cases h⟩
    · exact ⟨true, rfl, fun _ _ => hb⟩
  · exact ⟨true, by simp only [m_btf_fits_v2, (G.toEach.id hi).1, (G.toEach.id hi).2, cond_true, iq_f k3, cond_false, iq_f k4], fun _ k => absurd k k4⟩
end
theorem many_told : ∃ b, m_btf_tooMany_v1 n A = some b ∧ (b = false → n ≤ 256 ∧ ∀ i, i < n → (A i).2.1 ≤ 64) := by
  unfold m_btf_tooMany_v1
  by_cases h : (256 : Int) < (n : Int)
  · rw [d_t h, cond_true]; exact ⟨true, rfl, fun h => by cases h⟩
  rw [d_f h, cond_false]
  have key := lpO_ind (st := st_btf_tooMany_v1_L0 n A) (fun s => ∃ k : Nat, s = .c0 (k : Int) ∧ k ≤ n ∧ ∀ i, i < k → (A i).2.1 ≤ 64) (fun s => match s with | .c0 x => n - x.toNat) (fun _ r => r = .e1 ∨ (r = .e0 ∧ ∀ i, i < n → (A i).2.1 ≤ 64)) (fun s ⟨k, e, hkn, hK⟩ => by
    subst e
    by_cases hk : k < n
    · have b1 := d_t (show (k : Int) < (n : Int) by omega)
      have b2 := inR_t (show (0 : Int) ≤ (k : Int) by omega) (show (k : Int) < (n : Int) by omega)
      by_cases a : (64 : Int) < (((A k).2.1 : Nat) : Int)
      · exact .inr ⟨.e1, by simp only [st_btf_tooMany_v1_L0, b1, b2, cond_true, Int.toNat_natCast, d_t a], .inl rfl⟩
      · refine .inl ⟨.c0 ((k + 1 : Nat) : Int), by simp only [st_btf_tooMany_v1_L0, b1, b2, cond_true, Int.toNat_natCast, d_f a, cond_false, w_succ k (by omega)], ⟨k + 1, rfl, by omega, fun i hi => ?_⟩, by show n - ((k + 1 : Nat) : Int).toNat < n - ((k : Nat) : Int).toNat; omega, fun r h => h⟩
        by_cases e : i = k
        · rw [e]; omega
        · exact hK i (by omega)
    · obtain rfl : k = n := by omega
      exact .inr ⟨.e0, by simp only [st_btf_tooMany_v1_L0, d_f (show ¬ ((k : Int) < (k : Int)) by omega), cond_false], .inr ⟨rfl, hK⟩⟩)
  obtain ⟨r, hr, hP⟩ := key (.c0 0) ⟨0, rfl, by omega, fun i hi => by omega⟩
  rw [hr]
  rcases hP with rfl | ⟨rfl, hm⟩
  · exact ⟨true, rfl, fun h => by cases h⟩
  · exact ⟨false, rfl, fun _ => ⟨by omega, hm⟩⟩
theorem types_told (hn : n ≤ 256) (hm : ∀ i, i < n → (A i).2.1 ≤ 64) : ∃ r, lpO (st_btf_Check_v1_L0 n A) (.c0 0 (fun _ => (⟨(⟨0, ByteArray.empty⟩ : Named), 0⟩ : Me45)) 0) = some r ∧
    ((∃ a b c d, r = .e1 a b c d ∧ d ≠ 0) ∨ ((∃ a b, r = .e0 a b) ∧ ∀ i, i < n → TypeOk (A i).1 (A i).2.1 (A i).2.2 (n : Int))) := by
  have key := lpO_ind (st := st_btf_Check_v1_L0 n A) (fun s => ∃ (k w0 : Nat) (w1 : Nat → Me45), s = .c0 w0 w1 (k : Int) ∧ k ≤ n ∧ ∀ i, i < k → TypeOk (A i).1 (A i).2.1 (A i).2.2 (n : Int)) (fun s => match s with | .c0 _ _ x => n - x.toNat) (fun _ r => (∃ a b c d, r = .e1 a b c d ∧ d ≠ 0) ∨ ((∃ a b, r = .e0 a b) ∧ ∀ i, i < n → TypeOk (A i).1 (A i).2.1 (A i).2.2 (n : Int))) (fun s ⟨k, w0, w1, e, hkn, hK⟩ => by
    subst e
    by_cases hk : k < n
    · obtain ⟨v0, v1, c, hc, hok⟩ := type_told (A k).1 (A k).2.1 (A k).2.2 (hm k hk) (n : Int) w0 w1
      have b1 := d_t (show (k : Int) < (n : Int) by omega)
      have b2 := inR_t (show (0 : Int) ≤ (k : Int) by omega) (show (k : Int) < (n : Int) by omega)
      by_cases a : c = 0
      · refine .inl ⟨.c0 v0 v1 ((k + 1 : Nat) : Int), by simp only [st_btf_Check_v1_L0, b1, b2, cond_true, Int.toNat_natCast, hc, Option.bind_some, iq_t a, w_succ k (by omega)], ⟨k + 1, v0, v1, rfl, by omega, fun i hi => ?_⟩, by show n - ((k + 1 : Nat) : Int).toNat < n - ((k : Nat) : Int).toNat; omega, fun r h => h⟩
        by_cases e : i = k
        · rw [e]; exact hok a
        · exact hK i (by omega)
      · exact .inr ⟨_, by simp only [st_btf_Check_v1_L0, b1, b2, cond_true, Int.toNat_natCast, hc, Option.bind_some, iq_f a, cond_false]; rfl, .inl ⟨_, _, _, _, rfl, a⟩⟩
    · obtain rfl : k = n := by omega
      exact .inr ⟨.e0 w0 w1, by simp only [st_btf_Check_v1_L0, d_f (show ¬ ((k : Int) < (k : Int)) by omega), cond_false], .inr ⟨⟨_, _, rfl⟩, hK⟩⟩)
  obtain ⟨r, hr, hP⟩ := key (.c0 0 _ 0) ⟨0, 0, _, rfl, by omega, fun i hi => by omega⟩
  exact ⟨r, hr, hP⟩
/-- No member lies ahead of its struct. -/
def Bits (n : Nat) (A : TyL) : Prop := ∀ i, i < n → (A i).1.fKind = 4 → ∀ u, u < (A i).2.1 → 0 ≤ ((A i).2.2 u).fBits
theorem check_told (n : Nat) (A : TyL) : ∃ a e, m_btf_Check_v1 n A = some (a, e) ∧ (e = 0 → Good n A ∧ Bits n A) := by
  obtain ⟨b, hb, hB⟩ := many_told (n := n) (A := A)
  unfold m_btf_Check_v1
  rw [hb]
  cases b with
  | true => exact ⟨0, 45, rfl, fun h => by omega⟩
  | false =>
    obtain ⟨hn, hm⟩ := hB rfl
    obtain ⟨r, hr, hP⟩ := types_told hn hm
    rw [hr, Option.bind_some, cond_false, Option.bind_some]
    rcases hP with ⟨v0, v1, c, d, rfl, hd⟩ | ⟨⟨v0, v1, rfl⟩, hok⟩
    · exact ⟨c, d, rfl, fun h => absurd h hd⟩
    · have E : Each n A := ⟨hn, hm, hok⟩
      obtain ⟨f, hf, hD⟩ := E.refs.itself
      simp only [hf, Option.bind_some]
      by_cases f0 : f = 0
      · have G : Good n A := ⟨E, hD f0⟩
        rw [iq_t f0, cond_true]
        have k1 := lpO_ind (st := st_btf_Check_v1_L1 n A) (fun s => ∃ k : Nat, s = .c0 (k : Int) ∧ k ≤ n) (fun s => match s with | .c0 x => n - x.toNat) (fun _ _ => True) (fun s ⟨k, e, hkn⟩ => by
          subst e
          by_cases hk : k < n
          · have b1 := d_t (show (k : Int) < (n : Int) by omega)
            have b2 := inR_t (show (0 : Int) ≤ (k : Int) by omega) (show (k : Int) < (n : Int) by omega)
            obtain ⟨b, hb⟩ := G.holdsF E.names hk
            cases b with
            | true => exact .inr ⟨_, by simp only [st_btf_Check_v1_L1, b1, b2, cond_true, Int.toNat_natCast, hb, Option.bind_some]; rfl, trivial⟩
            | false => exact .inl ⟨.c0 ((k + 1 : Nat) : Int), by simp only [st_btf_Check_v1_L1, b1, b2, cond_true, Int.toNat_natCast, hb, Option.bind_some, cond_false, w_succ k (by omega)], ⟨k + 1, rfl, by omega⟩, by show n - ((k + 1 : Nat) : Int).toNat < n - ((k : Nat) : Int).toNat; omega, fun r h => h⟩
          · exact .inr ⟨.e0, by simp only [st_btf_Check_v1_L1, d_f (show ¬ ((k : Int) < (n : Int)) by omega), cond_false], trivial⟩)
        have k2 := lpO_ind (st := st_btf_Check_v1_L2 n A) (fun s => ∃ k : Nat, s = .c0 (k : Int) ∧ k ≤ n ∧ ∀ i, i < k → (A i).1.fKind = 4 → ∀ u, u < (A i).2.1 → 0 ≤ ((A i).2.2 u).fBits) (fun s => match s with | .c0 x => n - x.toNat) (fun _ r => r = .e0 → Bits n A) (fun s ⟨k, e, hkn, hK⟩ => by
          subst e
          by_cases hk : k < n
          · have b1 := d_t (show (k : Int) < (n : Int) by omega)
            obtain ⟨b, hb, hbb⟩ := G.fit hk
            cases b with
            | false => exact .inr ⟨.e1 ((k + 1 : Nat) : Int), by simp only [st_btf_Check_v1_L2, b1, w_succ k (by omega), cond_true, hb, Option.bind_some, cond_false], fun h => by cases h⟩
            | true =>
              refine .inl ⟨.c0 ((k + 1 : Nat) : Int), by simp only [st_btf_Check_v1_L2, b1, w_succ k (by omega), cond_true, hb, Option.bind_some], ⟨k + 1, rfl, by omega, fun i hi => ?_⟩, by show n - ((k + 1 : Nat) : Int).toNat < n - ((k : Nat) : Int).toNat; omega, fun r h => h⟩
              by_cases e : i = k
              · rw [e]; exact hbb rfl
              · exact hK i (by omega)
          · obtain rfl : k = n := by omega
            exact .inr ⟨.e0, by simp only [st_btf_Check_v1_L2, d_f (show ¬ ((k : Int) < (k : Int)) by omega), cond_false], fun _ => hK⟩)
        obtain ⟨r1, h1, _⟩ := k1 (.c0 0) ⟨0, rfl, by omega⟩
        obtain ⟨r2, h2, hB2⟩ := k2 (.c0 0) ⟨0, rfl, by omega, fun i hi => by omega⟩
        rw [h1, h2]
        cases r1 with
        | e1 x => exact ⟨x, 41, rfl, fun h => by omega⟩
        | e0 => cases r2 with
          | e1 x => exact ⟨x, 43, rfl, fun h => by omega⟩
          | e0 => exact ⟨0, 0, rfl, fun _ => ⟨G, hB2 rfl⟩⟩
      · rw [iq_f f0, cond_false]
        exact ⟨f, 42, rfl, fun h => by omega⟩
/-- Size: nothing is told, or it is the size. -/
theorem size_told (n : Nat) (A : TyL) (id : Int) : ∃ s e, m_btf_Size_v1 n A id = some (s, e) ∧ (e = 0 → Good n A ∧ Bits n A ∧ ∃ i, i < n ∧ id = ((i + 1 : Nat) : Int) ∧ 0 ≤ s ∧ s ≤ 65537 ∧ Sz n A i s) := by
  obtain ⟨a, e, hc, hG⟩ := check_told n A
  unfold m_btf_Size_v1 m_btf_Resolve_v1
  rw [hc]
  by_cases e0 : e = 0
  · obtain ⟨G, hBt⟩ := hG e0
    subst e0
    by_cases h1 : id < 1
    · exact ⟨0, 41, by simp only [Option.bind_some, iq_t (show (0 : Int) = 0 from rfl), cond_true, d_t h1]; rfl, fun h => by omega⟩
    by_cases h2 : (n : Int) < id
    · exact ⟨0, 41, by simp only [Option.bind_some, iq_t (show (0 : Int) = 0 from rfl), cond_true, d_f h1, d_t h2, cond_false]; rfl, fun h => by omega⟩
    obtain ⟨i, rfl⟩ : ∃ i : Nat, id = ((i + 1 : Nat) : Int) := ⟨id.toNat - 1, by omega⟩
    have hi : i < n := by omega
    obtain ⟨j, hj, hres, hsz⟩ := G.res n i hi (G.dep i hi)
    obtain ⟨s, s0, s1, hs⟩ := G.sz hi
    have hj8 := hsz s hs 300 (by omega)
    simp only [Option.bind_some, iq_t (show (0 : Int) = 0 from rfl), cond_true, d_f h1, d_f h2, cond_false, m_btf_resolve_v2, hres, (G.toEach.id hj).1, (G.toEach.id hj).2]
    by_cases k6 : (A j).1.fKind = 6
    · exact ⟨0, 41, by rw [iq_t k6, cond_true], fun h => by omega⟩
    · exact ⟨s, 0, by rw [iq_f k6, cond_false, hj8]; rfl, fun _ => ⟨G, hBt, i, hi, rfl, s0, s1, hs⟩⟩
  · exact ⟨0, e, by simp only [Option.bind_some, iq_f e0, cond_false], fun h => absurd h e0⟩
end
end Go.Proofs.YtlpjdjbophcomaaDoor

