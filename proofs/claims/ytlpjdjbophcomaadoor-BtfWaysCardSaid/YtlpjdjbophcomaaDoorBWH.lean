/-
  What is asked of a type by itself: it is always told, and what holds where it is told that all is well.
-/
import Derived.Test.YtlpjdjbophcomaaDoorBWG
namespace Go.Proofs.YtlpjdjbophcomaaDoor
open Go.RowKit
set_option linter.unusedVariables false
set_option linter.unusedSimpArgs false
theorem cnd {α : Type} {P : α → Prop} {c : Bool} {a b : α} (ha : c = true → P a) (hb : c = false → P b) : P (bif c then a else b) := by
  cases c
  · exact hb rfl
  · exact ha rfl
theorem ult_t {a b : BitVec 8} (h : BitVec.ult a b = true) : a.toNat < b.toNat := by simpa [BitVec.ult] using h
theorem ult_f {a b : BitVec 8} (h : BitVec.ult a b = false) : b.toNat ≤ a.toNat := by simpa [BitVec.ult] using h
theorem beq8 {a b : BitVec 8} (h : (a == b) = true) : a.toNat = b.toNat := by rw [eq_of_beq h]
theorem ba_refl : ∀ a : ByteArray, (a == a) = true
  | ⟨a⟩ => by show (a == a) = true; simp
/-- A letter, a digit or an underscore is no mark of a way. -/
def NoMark (c : BitVec 8) : Prop := c.toNat ≠ 46 ∧ c.toNat ≠ 91 ∧ c.toNat ≠ 93
structure IsName (s : ByteArray) : Prop where
  lo : 1 ≤ s.size
  hi : s.size ≤ 32
  chars : ∀ k, k < s.size → NoMark (byteAt s k)
theorem name_step0 (s : ByteArray) (hs : s.size ≤ 32) (t : Nat) (ht : t < s.size) :
    (st_btf_isName_v4_L0 s (.c0 (t : Int)) = some (.inl (.c0 ((t + 1 : Nat) : Int))) ∧ NoMark (byteAt s t)) ∨ st_btf_isName_v4_L0 s (.c0 (t : Int)) = some (.inr .e1) := by
  have w := w_succ t (by omega)
  simp only [st_btf_isName_v4_L0, d_t (show (t : Int) < (s.size : Int) by omega), inR_t (show (0 : Int) ≤ (t : Int) by omega) (show (t : Int) < (s.size : Int) by omega), cond_true, Int.toNat_natCast, w]
  generalize byteAt s t = c
  have n97 : (97#8).toNat = 97 := rfl
  have n122 : (122#8).toNat = 122 := rfl
  have n65 : (65#8).toNat = 65 := rfl
  have n90 : (90#8).toNat = 90 := rfl
  have n48 : (48#8).toNat = 48 := rfl
  have n57 : (57#8).toNat = 57 := rfl
  have n95 : (95#8).toNat = 95 := rfl
  cases h1 : BitVec.ult c (97#8) <;> cases h2 : BitVec.ult (122#8) c <;> cases h3 : BitVec.ult c (65#8) <;> cases h4 : BitVec.ult (90#8) c <;> cases h5 : BitVec.ult c (48#8) <;> cases h6 : BitVec.ult (57#8) c <;> cases h7 : (c == 95#8) <;> simp only [cond_true, cond_false, reduceCtorEq, Option.some.injEq, Sum.inl.injEq, false_and, true_and, or_false, false_or, or_true, NoMark] <;>
    (have q1 := @ult_t c (97#8); have q2 := @ult_f c (97#8); have q3 := @ult_t (122#8) c; have q4 := @ult_f (122#8) c; have q5 := @ult_t c (65#8); have q6 := @ult_f c (65#8); have q7 := @ult_t (90#8) c; have q8 := @ult_f (90#8) c; have q9 := @ult_t c (48#8); have q10 := @ult_f c (48#8); have q11 := @ult_t (57#8) c; have q12 := @ult_f (57#8) c; have q13 := @beq8 c (95#8); simp only [h1, h2, h3, h4, h5, h6, h7, forall_const, n97, n122, n65, n90, n48, n57, n95, reduceCtorEq, false_implies, true_implies] at q1 q2 q3 q4 q5 q6 q7 q8 q9 q10 q11 q12 q13; omega)
theorem name_loop0 (s : ByteArray) (hs : s.size ≤ 32) : ∃ r, lpO (st_btf_isName_v4_L0 s) (.c0 0) = some r ∧ (r = .e0 → ∀ k, k < s.size → NoMark (byteAt s k)) := by
  have key := lpO_ind (st := st_btf_isName_v4_L0 s) (fun q => ∃ t : Nat, q = .c0 (t : Int) ∧ t ≤ s.size ∧ ∀ k, k < t → NoMark (byteAt s k)) (fun q => match q with | .c0 x => s.size - x.toNat) (fun _ r => r = .e0 → ∀ k, k < s.size → NoMark (byteAt s k)) (fun q ⟨t, e, hts, hc⟩ => by
    subst e
    by_cases ht : t < s.size
    · rcases name_step0 s hs t ht with ⟨h, hg⟩ | h
      · refine .inl ⟨_, h, ⟨t + 1, rfl, by omega, fun k hk => ?_⟩, by show s.size - ((t + 1 : Nat) : Int).toNat < s.size - ((t : Nat) : Int).toNat; omega, fun r h => h⟩
        by_cases e : k = t
        · rw [e]; exact hg
        · exact hc k (by omega)
      · exact .inr ⟨.e1, h, fun e => by cases e⟩
    · obtain rfl : t = s.size := by omega
      exact .inr ⟨.e0, by simp only [st_btf_isName_v4_L0, d_f (show ¬ ((s.size : Int) < (s.size : Int)) by omega), cond_false], fun _ => hc⟩)
  exact key (.c0 0) ⟨0, rfl, by omega, fun k hk => by omega⟩
theorem name_step1 (s : ByteArray) (hs : s.size ≤ 32) (t : Nat) (ht : t < s.size) :
    (st_btf_isName_v4_L0v1 s (.c0 (t : Int)) = some (.inl (.c0 ((t + 1 : Nat) : Int))) ∧ NoMark (byteAt s t)) ∨ st_btf_isName_v4_L0v1 s (.c0 (t : Int)) = some (.inr .e1) := by
  have w := w_succ t (by omega)
  simp only [st_btf_isName_v4_L0v1, d_t (show (t : Int) < (s.size : Int) by omega), inR_t (show (0 : Int) ≤ (t : Int) by omega) (show (t : Int) < (s.size : Int) by omega), cond_true, Int.toNat_natCast, w]
  generalize byteAt s t = c
  have n97 : (97#8).toNat = 97 := rfl
  have n122 : (122#8).toNat = 122 := rfl
  have n65 : (65#8).toNat = 65 := rfl
  have n90 : (90#8).toNat = 90 := rfl
  have n48 : (48#8).toNat = 48 := rfl
  have n57 : (57#8).toNat = 57 := rfl
  have n95 : (95#8).toNat = 95 := rfl
  cases h1 : BitVec.ult c (97#8) <;> cases h2 : BitVec.ult (122#8) c <;> cases h3 : BitVec.ult c (65#8) <;> cases h4 : BitVec.ult (90#8) c <;> cases h5 : BitVec.ult c (48#8) <;> cases h6 : BitVec.ult (57#8) c <;> cases h7 : (c == 95#8) <;> simp only [cond_true, cond_false, reduceCtorEq, Option.some.injEq, Sum.inl.injEq, false_and, true_and, or_false, false_or, or_true, NoMark] <;>
    (have q1 := @ult_t c (97#8); have q2 := @ult_f c (97#8); have q3 := @ult_t (122#8) c; have q4 := @ult_f (122#8) c; have q5 := @ult_t c (65#8); have q6 := @ult_f c (65#8); have q7 := @ult_t (90#8) c; have q8 := @ult_f (90#8) c; have q9 := @ult_t c (48#8); have q10 := @ult_f c (48#8); have q11 := @ult_t (57#8) c; have q12 := @ult_f (57#8) c; have q13 := @beq8 c (95#8); simp only [h1, h2, h3, h4, h5, h6, h7, forall_const, n97, n122, n65, n90, n48, n57, n95, reduceCtorEq, false_implies, true_implies] at q1 q2 q3 q4 q5 q6 q7 q8 q9 q10 q11 q12 q13; omega)
theorem name_loop1 (s : ByteArray) (hs : s.size ≤ 32) : ∃ r, lpO (st_btf_isName_v4_L0v1 s) (.c0 0) = some r ∧ (r = .e0 → ∀ k, k < s.size → NoMark (byteAt s k)) := by
  have key := lpO_ind (st := st_btf_isName_v4_L0v1 s) (fun q => ∃ t : Nat, q = .c0 (t : Int) ∧ t ≤ s.size ∧ ∀ k, k < t → NoMark (byteAt s k)) (fun q => match q with | .c0 x => s.size - x.toNat) (fun _ r => r = .e0 → ∀ k, k < s.size → NoMark (byteAt s k)) (fun q ⟨t, e, hts, hc⟩ => by
    subst e
    by_cases ht : t < s.size
    · rcases name_step1 s hs t ht with ⟨h, hg⟩ | h
      · refine .inl ⟨_, h, ⟨t + 1, rfl, by omega, fun k hk => ?_⟩, by show s.size - ((t + 1 : Nat) : Int).toNat < s.size - ((t : Nat) : Int).toNat; omega, fun r h => h⟩
        by_cases e : k = t
        · rw [e]; exact hg
        · exact hc k (by omega)
      · exact .inr ⟨.e1, h, fun e => by cases e⟩
    · obtain rfl : t = s.size := by omega
      exact .inr ⟨.e0, by simp only [st_btf_isName_v4_L0v1, d_f (show ¬ ((s.size : Int) < (s.size : Int)) by omega), cond_false], fun _ => hc⟩)
  exact key (.c0 0) ⟨0, rfl, by omega, fun k hk => by omega⟩
theorem name_told (s : ByteArray) : ∃ b, m_btf_isName_v4 s = some b ∧ (b = true → IsName s) := by
  unfold m_btf_isName_v4
  by_cases h1 : (s.size : Int) < 1
  · exact ⟨false, by rw [d_t h1, cond_true], fun h => by cases h⟩
  by_cases h2 : 32 < (s.size : Int)
  · exact ⟨false, by rw [d_f h1, d_t h2, cond_true, cond_false], fun h => by cases h⟩
  rw [d_f h1, d_f h2, cond_false, cond_false, inR_t (show (0 : Int) ≤ 0 by omega) (show (0 : Int) < (s.size : Int) by omega), cond_true]
  obtain ⟨r0, e0, f0⟩ := name_loop0 s (by omega)
  obtain ⟨r1, e1, f1⟩ := name_loop1 s (by omega)
  rw [e0, e1]
  refine cnd (P := fun q => ∃ b, q = some b ∧ (b = true → IsName s)) (fun _ => ?_) (fun _ => cnd (P := fun q => ∃ b, q = some b ∧ (b = true → IsName s)) (fun _ => ?_) (fun _ => ⟨false, rfl, fun h => by cases h⟩))
  · cases r0 with
    | e0 => exact ⟨true, rfl, fun _ => ⟨by omega, by omega, f0 rfl⟩⟩
    | e1 => exact ⟨false, rfl, fun h => by cases h⟩
  · cases r1 with
    | e0 => exact ⟨true, rfl, fun _ => ⟨by omega, by omega, f1 rfl⟩⟩
    | e1 => exact ⟨false, rfl, fun h => by cases h⟩
theorem rightName_told (x : Xs35) (m : Nat) (M : MemL) (w0 : Nat) (w1 : Nat → Me45) : ∃ v0 v1 b, m_btf_rightName_v2 x m M w0 w1 = some (.e0 v0 v1 b) := by
  obtain ⟨b, hb, _⟩ := name_told x.fName
  simp only [m_btf_rightName_v2, hb, Option.bind_some]
  repeat' first | exact ⟨_, _, _, rfl⟩ | refine cnd (P := fun q => ∃ v0 v1 b, q = some (R_btf_rightName_v2.e0 v0 v1 b)) (fun _ => ?_) (fun _ => ?_)
end Go.Proofs.YtlpjdjbophcomaaDoor

