/-
  Types in a ring: what they are, one by one, and what is said of each by itself.
-/
import Derived.Test.YtnlnldpolaodbaaDoorBRAc
namespace Go.Proofs.YtnlnldpolaodbaaDoor
open Go.RowKit
set_option linter.unusedVariables false
set_option linter.unusedSimpArgs false
theorem wr {x : Int} (h0 : -9223372036854775808 ≤ x) (h1 : x < 9223372036854775808) : IntKind.i64.wrap x = x := z_wrap h0 h1
theorem inR_t {x : Int} {n : Nat} (h0 : 0 ≤ x) (h1 : x < n) : inR x n = true := inR_iff.2 ⟨h0, h1⟩
theorem d_t {p : Prop} [Decidable p] (h : p) : decide p = true := decide_eq_true h
theorem d_f {p : Prop} [Decidable p] (h : ¬ p) : decide p = false := decide_eq_false h
theorem iq_t {a b : Int} (h : a = b) : (a == b) = true := by simp [h]
theorem iq_f {a b : Int} (h : a ≠ b) : (a == b) = false := by simp [h]
theorem w_succ (k : Nat) (h : k ≤ 1000000) : IntKind.i64.wrap ((k : Int) + 1) = ((k + 1 : Nat) : Int) := by rw [wr] <;> omega
theorem w_pred (k : Nat) (h : k ≤ 1000000) : IntKind.i64.wrap (((k + 1 : Nat) : Int) - 1) = (k : Int) := by rw [wr] <;> omega
theorem ba_refl : ∀ a : ByteArray, (a == a) = true
  | ⟨a⟩ => by show (a == a) = true; simp
theorem ba_ne {a b : ByteArray} (h : a ≠ b) : (a == b) = false := by
  cases hb : (a == b) with
  | false => rfl
  | true => exact absurd (ba_eq hb) h
theorem fdx_last {e : Nat → Bool} {N : Nat} (h : ∀ j, j < N → e j = false) (hN : e N = true) : fdx e (N + 1) = N := by
  have h1 : (List.range N).find? e = none := List.find?_eq_none.2 fun j hj => by simp [h j (List.mem_range.1 hj)]
  unfold fdx
  rw [List.range_succ, List.find?_append, h1]
  simp [hN]
theorem fdx_out {e : Nat → Bool} {N : Nat} (h : ∀ j, j < N → e j = false) : ¬ fdx e N < N := fun k => by
  have := fdx_is k
  rw [h _ k] at this
  cases this
def lets : ByteArray := (⟨#[97, 98, 99, 100, 101, 102, 103, 104, 105, 106, 107, 108, 109, 110, 111, 112, 113, 114, 115, 116, 117, 118, 119, 120, 121, 122, 65, 66, 67, 68, 69, 70, 71, 72, 73, 74, 75, 76, 77, 78, 79, 80, 81, 82, 83, 84, 85, 86, 87, 88, 89, 90]⟩ : ByteArray)
def nameA (k : Nat) : ByteArray := lets.extract k (k + 1)
/-- A letter. -/
structure Letter (s : ByteArray) : Prop where
  one : s.size = 1
  a : BitVec.ult (byteAt s 0) (48#8) = false
  b : BitVec.ult (57#8) (byteAt s 0) = true
  c : (BitVec.ult (byteAt s 0) (97#8) = false ∧ BitVec.ult (122#8) (byteAt s 0) = false) ∨ (BitVec.ult (byteAt s 0) (97#8) = true ∧ BitVec.ult (byteAt s 0) (65#8) = false ∧ BitVec.ult (90#8) (byteAt s 0) = false)
theorem name_letters : ∀ k, k < 40 → (nameA k).size = 1 ∧ BitVec.ult (byteAt (nameA k) 0) (48#8) = false ∧ BitVec.ult (57#8) (byteAt (nameA k) 0) = true ∧ ((BitVec.ult (byteAt (nameA k) 0) (97#8) = false ∧ BitVec.ult (122#8) (byteAt (nameA k) 0) = false) ∨ (BitVec.ult (byteAt (nameA k) 0) (97#8) = true ∧ BitVec.ult (byteAt (nameA k) 0) (65#8) = false ∧ BitVec.ult (90#8) (byteAt (nameA k) 0) = false)) := by decide +kernel
theorem name_letter {k : Nat} (h : k < 40) : Letter (nameA k) := let ⟨a, b, c, d⟩ := name_letters k h; ⟨a, b, c, d⟩
theorem name_inj : ∀ i, i < 40 → ∀ j, j < 40 → byteAt (nameA i) 0 = byteAt (nameA j) 0 → i = j := by decide +kernel
theorem name_0 : nameA 0 = (⟨#[97]⟩ : ByteArray) := by decide +kernel
theorem m_letter : Letter (⟨#[109]⟩ : ByteArray) := ⟨by decide +kernel, by decide +kernel, by decide +kernel, .inl ⟨by decide +kernel, by decide +kernel⟩⟩
theorem isName_of {s : ByteArray} (h : Letter s) : m_btf_isName_v4 s = some true := by
  obtain ⟨h1, h2, h3, h4⟩ := h
  have e1 : decide ((s.size : Int) < 1) = false := d_f (by omega)
  have e2 : decide (32 < (s.size : Int)) = false := d_f (by omega)
  have e3 : inR 0 s.size = true := inR_t (by omega) (by omega)
  have e4 : decide ((0 : Int) < (s.size : Int)) = true := d_t (by omega)
  have w1 : IntKind.i64.wrap ((0 : Int) + 1) = 1 := by decide
  have e5 : decide ((1 : Int) < (s.size : Int)) = false := d_f (by omega)
  have st : st_btf_isName_v4_L0v1 s (.c0 0) = some (.inl (.c0 1)) := by
    simp only [st_btf_isName_v4_L0v1, e4, e3, cond_true, Int.toNat_zero, w1]
    rcases h4 with ⟨a, b⟩ | ⟨a, b, c⟩
    · simp only [a, b, cond_false]
    · simp only [a, b, c, cond_false, cond_true]
  have en : st_btf_isName_v4_L0v1 s (.c0 1) = some (.inr .e0) := by
    simp only [st_btf_isName_v4_L0v1, e5, cond_false]
  simp only [m_btf_isName_v4, e1, e2, e3, h2, h3, cond_true, cond_false, (lpO_next st).trans (lpO_end en), Option.bind_some]
abbrev MemL := Nat → Member
abbrev D0 : MemL := fun _ => (⟨ByteArray.empty, 0, 0⟩ : Member)
/-- The one behind i, in a ring of n. -/
def rnx (n i : Nat) : Nat := if i + 1 = n then 0 else i + 1
theorem rnx_lt {n i : Nat} (h : i < n) : rnx n i < n := by unfold rnx; split <;> omega
theorem rnx_eq {n i : Nat} (hn : n ≤ 40) (h : i < n) : IntKind.i64.wrap (zrem (IntKind.i64.wrap ((i : Int) + 1)) (n : Int) + 1) = ((rnx n i + 1 : Nat) : Int) := by
  rw [w_succ i (by omega)]
  unfold zrem
  rw [Int.tmod_eq_emod_of_nonneg (by omega)]
  unfold rnx
  split
  · rename_i e
    rw [← e, Int.emod_self]; rfl
  · rw [Int.emod_eq_of_lt (by omega) (by omega), wr] <;> omega
abbrev TyL := Nat → (Xs27 × (Nat × (Nat → Member)))
abbrev ePtr (n i : Nat) : Xs27 × (Nat × (Nat → Member)) := ((⟨2, (⟨#[]⟩ : ByteArray), 0, false, ((rnx n i + 1 : Nat) : Int), 0⟩ : Xs27), 0, D0)
abbrev eAl (n i : Nat) : Xs27 × (Nat × (Nat → Member)) := ((⟨5, nameA i, 0, false, ((rnx n i + 1 : Nat) : Int), 0⟩ : Xs27), 0, D0)
abbrev eAr (n i : Nat) : Xs27 × (Nat × (Nat → Member)) := ((⟨3, (⟨#[]⟩ : ByteArray), 0, false, ((rnx n i + 1 : Nat) : Int), 1⟩ : Xs27), 0, D0)
abbrev eSt (n i : Nat) : Xs27 × (Nat × (Nat → Member)) := ((⟨4, nameA i, 8, false, 0, 0⟩ : Xs27), 1, fun _ => (⟨(⟨#[109]⟩ : ByteArray), ((rnx n i + 1 : Nat) : Int), 0⟩ : Member))
/-- What stands at i: the pointer, or one of three that hold the one behind. -/
def El (n : Nat) (p : Int) (i : Nat) (x : Xs27 × (Nat × (Nat → Member))) : Prop := ((i : Int) = p ∧ x = ePtr n i) ∨ ((i : Int) ≠ p ∧ (x = eAl n i ∨ x = eAr n i ∨ x = eSt n i))
section
variable {n n0 : Nat} {A0 : Nat → BitVec 8} {p : Int} (h1 : 1 ≤ n) (hn : n ≤ 40) (hl : n ≤ n0)
include h1 hn hl
theorem build0 : ∃ A : TyL, st_barbicanlaw4_BtfRounds_L0 (n : Int) n0 A0 p .c0 = some (.inl (.c1 1 A 1)) ∧ El n p 0 (A 0) := by
  have hz : IntKind.i64.wrap (zrem 1 (n : Int) + 1) = ((rnx n 0 + 1 : Nat) : Int) := by
    have := rnx_eq (i := 0) hn (by omega)
    rw [← this, w_succ 0 (by omega)]; rfl
  simp only [st_barbicanlaw4_BtfRounds_L0, d_t (show (0 : Int) < (n : Int) by omega), iq_f (show (n : Int) ≠ 0 by omega), cond_true, cond_false, hz]
  by_cases hp : (0 : Int) = p
  · refine ⟨fun _ => ePtr n 0, by rw [iq_t hp, cond_true], .inl ⟨hp, rfl⟩⟩
  · rw [iq_f hp, cond_false, inR_t (show (0 : Int) ≤ 0 by omega) (show (0 : Int) < (n0 : Int) by omega), cond_true]
    cases hA : (A0 0 % 3#8 == 0#8) with
    | true => exact ⟨fun _ => eAl n 0, by rw [cond_true, ← name_0], .inr ⟨hp, .inl rfl⟩⟩
    | false =>
      cases hB : (A0 0 % 3#8 == 1#8) with
      | true => exact ⟨fun _ => eAr n 0, by rw [cond_false, cond_true], .inr ⟨hp, .inr (.inl rfl)⟩⟩
      | false => exact ⟨fun _ => eSt n 0, by rw [cond_false, cond_false, ← name_0], .inr ⟨hp, .inr (.inr rfl)⟩⟩
theorem buildS {k : Nat} (hk : k < n) (A : TyL) : ∃ x, st_barbicanlaw4_BtfRounds_L0 (n : Int) n0 A0 p (.c1 k A (k : Int)) = some (.inl (.c1 (k + 1) (updF A k x) ((k + 1 : Nat) : Int))) ∧ El n p k x := by
  have e1 := w_succ k (by omega)
  have e2 : decide (k ≤ 1000000) = true := d_t (by omega)
  have e3 : inR ((k + 1 : Nat) : Int) (52 + 1) = true := inR_t (by omega) (by omega)
  have e4 : inR (k : Int) (k + 1 + 1) = true := inR_t (by omega) (by omega)
  have e5 := rnx_eq hn hk
  rw [e1] at e5
  simp only [st_barbicanlaw4_BtfRounds_L0, d_t (show (k : Int) < (n : Int) by omega), iq_f (show (n : Int) ≠ 0 by omega), e1, e2, e3, e4, e5, cond_true, cond_false, Int.toNat_natCast]
  by_cases hp : (k : Int) = p
  · refine ⟨_, by rw [iq_t hp, cond_true], .inl ⟨hp, rfl⟩⟩
  · rw [iq_f hp, cond_false, inR_t (show (0 : Int) ≤ (k : Int) by omega) (show (k : Int) < (n0 : Int) by omega), cond_true]
    cases hA : (A0 k % 3#8 == 0#8) with
    | true => exact ⟨eAl n k, by rw [cond_true]; rfl, .inr ⟨hp, .inl rfl⟩⟩
    | false =>
      cases hB : (A0 k % 3#8 == 1#8) with
      | true => exact ⟨_, by rw [cond_false, cond_true], .inr ⟨hp, .inr (.inl rfl)⟩⟩
      | false => exact ⟨eSt n k, by rw [cond_false, cond_false]; rfl, .inr ⟨hp, .inr (.inr rfl)⟩⟩
theorem build : ∃ A : TyL, lpO (st_barbicanlaw4_BtfRounds_L0 (n : Int) n0 A0 p) .c0 = some (.e1 n A) ∧ ∀ i, i < n → El n p i (A i) := by
  obtain ⟨A, hs, hE⟩ := build0 (A0 := A0) (p := p) h1 hn hl
  have key := lpO_ind (st := st_barbicanlaw4_BtfRounds_L0 (n : Int) n0 A0 p) (fun s => ∃ k B, s = .c1 k B (k : Int) ∧ 1 ≤ k ∧ k ≤ n ∧ ∀ i, i < k → El n p i (B i)) (fun s => match s with | .c1 k _ _ => n - k | .c0 => 0) (fun _ r => ∃ B, r = .e1 n B ∧ ∀ i, i < n → El n p i (B i)) (fun s ⟨k, B, e, hk1, hkn, hB⟩ => by
    subst e
    by_cases hk : k < n
    · obtain ⟨x, hx, hEx⟩ := buildS (A0 := A0) (p := p) h1 hn hl hk B
      refine .inl ⟨_, hx, ⟨k + 1, _, rfl, by omega, by omega, fun i hi => ?_⟩, by show n - (k + 1) < n - k; omega, fun r h => h⟩
      by_cases e : i = k
      · rw [e, updF_at]; exact hEx
      · rw [updF_ne _ _ e]; exact hB i (by omega)
    · obtain rfl : k = n := by omega
      exact .inr ⟨.e1 k B, by simp only [st_barbicanlaw4_BtfRounds_L0, d_f (show ¬ ((k : Int) < (k : Int)) by omega), cond_false], B, rfl, hB⟩)
  have hE0 : ∀ i, i < 1 → El n p i (A i) := fun i hi => by
    obtain rfl : i = 0 := by omega
    exact hE
  obtain ⟨r, hr, B, rfl, hB⟩ := key (.c1 1 A 1) ⟨1, A, rfl, by omega, h1, hE0⟩
  exact ⟨B, (lpO_next hs).trans hr, hB⟩
end
end Go.Proofs.YtnlnldpolaodbaaDoor
