/-
  An array's regions: what New makes, what an update and a look at it say.
-/
import Derived.Test.YtchogpgifdkhbaaMAAb
import Derived.Test.YtchogpgifdkhbaaRyM
namespace Go.Proofs.Ytchogpgifdkhbaa
open Go.RowKit
set_option linter.unusedVariables false
set_option linter.unusedSimpArgs false
theorem wr {x : Int} (h0 : -9223372036854775808 ≤ x) (h1 : x < 9223372036854775808) : IntKind.i64.wrap x = x := z_wrap h0 h1
theorem d_t {p : Prop} [Decidable p] (h : p) : decide p = true := decide_eq_true h
theorem d_f {p : Prop} [Decidable p] (h : ¬ p) : decide p = false := decide_eq_false h
theorem bstr_inj {n : Nat} {A B : Nat → BitVec 8} (h : bstr n A = bstr n B) : ∀ k, k < n → A k = B k := by
  have h2 := congrArg (fun s : ByteArray => s.data.toList) h
  simp only [bstr, strOfNums_data, List.map_map] at h2
  intro k hk
  have h3 := List.map_inj_left.1 h2 k (List.mem_range.2 hk)
  simp only [Function.comp, nn, Int.toNat_natCast] at h3
  have h4 := congrArg UInt8.toNat h3
  rw [UInt8.toNat_ofNat', UInt8.toNat_ofNat', Nat.mod_eq_of_lt (A k).isLt, Nat.mod_eq_of_lt (B k).isLt] at h4
  exact BitVec.eq_of_toNat_eq h4
theorem ba_refl : ∀ a : ByteArray, (a == a) = true
  | ⟨a⟩ => by show (a == a) = true; simp
theorem ba_ne {a b : ByteArray} (h : a ≠ b) : (a == b) = false := by
  cases hb : (a == b) with
  | false => rfl
  | true => exact absurd (ba_eq hb) h
abbrev kA (x : Int) : Nat → BitVec 8 := fun k => if k = 0 then (BitVec.ofInt 8 x) else if k = 1 then 0#8 else if k = 2 then 0#8 else 0#8
abbrev kb (j : Nat) : ByteArray := bstr 4 (kA (j : Int))
theorem ofInt8 {j : Nat} (h : j < 256) : (BitVec.ofInt 8 (j : Int)).toNat = j := by
  rw [BitVec.toNat_ofInt]; omega
theorem ofInt32 {j : Nat} (h : j < 256) : (BitVec.ofInt 32 (j : Int)).toNat = j := by
  rw [BitVec.toNat_ofInt]; omega
theorem kb_inj {i j : Nat} (hi : i < 256) (hj : j < 256) (h : kb i = kb j) : i = j := by
  have := bstr_inj h 0 (by omega)
  have h2 : (BitVec.ofInt 8 (i : Int)).toNat = (BitVec.ofInt 8 (j : Int)).toNat := congrArg BitVec.toNat this
  rw [ofInt8 hi, ofInt8 hj] at h2; exact h2
theorem index_eq {j : Nat} (h : j < 256) : m_maps_index (j : Int) = kb j := by
  unfold m_maps_index
  have z : ∀ s, 8 ≤ s → zshr (j : Int) s = 0 := fun s hs => by
    unfold zshr
    have h1 : 8 ≤ min s 64 := by omega
    have h2 : (2 : Nat) ^ 8 ≤ 2 ^ (min s 64) := Nat.pow_le_pow_right (by omega) h1
    have h3 : ((2 ^ (min s 64) : Nat) : Int) = (2 : Int) ^ (min s 64) := by push_cast; rfl
    rw [← h3]
    exact Int.fdiv_eq_zero_of_lt (by omega) (by omega)
  rw [z 8 (by omega), z 16 (by omega), z 24 (by omega)]
  rfl
structure Made (n : Nat) (X : Nat → Xr71 × (Nat × (Nat → BitVec 8))) (K : Nat → Me42) : Prop where
  key : ∀ j, j < n → (K j).fk = kb j
  num : ∀ j, j < n → (K j).fv = ((j + 1 : Nat) : Int)
  len : ∀ j, j < n → (X j).2.1 = 2
def Zeros (n : Nat) (X : Nat → Xr71 × (Nat × (Nat → BitVec 8))) : Prop := ∀ j, j < n → (X j).2.2 0 = 0#8 ∧ (X j).2.2 1 = 0#8
/-- A number that is there is found where it is. -/
theorem Made.find {n : Nat} {X : Nat → Xr71 × (Nat × (Nat → BitVec 8))} {K : Nat → Me42} (h : Made n X K) (hn : n ≤ 64) {j : Nat} (hj : j < n) : fdx (fun i => (kb j == (K i).fk)) n = j := by
  have he : (fun i => (kb j == (K i).fk)) j = true := by show (kb j == (K j).fk) = true; rw [h.key j hj]; exact ba_refl _
  have hlt : fdx (fun i => (kb j == (K i).fk)) n < n := Decidable.byContradiction fun q => by
    have := fdx_not q hj; exact absurd (he.symm.trans this) (by simp)
  have h1 := fdx_is hlt
  have h2 : kb j = (K (fdx (fun i => (kb j == (K i).fk)) n)).fk := ba_eq h1
  rw [h.key _ hlt] at h2
  exact (kb_inj (by omega) (by omega) h2).symm
theorem Made.none {n : Nat} {X : Nat → Xr71 × (Nat × (Nat → BitVec 8))} {K : Nat → Me42} (h : Made n X K) {s : ByteArray} (hs : ∀ j, j < n → s ≠ kb j) : ¬ fdx (fun i => (s == (K i).fk)) n < n := fun hlt => by
  have h2 : s = (K (fdx (fun i => (s == (K i).fk)) n)).fk := ba_eq (fdx_is hlt)
  rw [h.key _ hlt] at h2
  exact hs _ hlt h2
theorem add_spec {w : Int} {N M : Nat} {X : Nat → Xr71 × (Nat × (Nat → BitVec 8))} {K : Nat → Me42} {B : Nat → BitVec 8} (hN : N < 1000000) : m_maps_Map_add_v2 2 B w (N : Int) N X M K = some (.e0 (updF X N (⟨true, 0, false⟩, 2, catF (fun _ => 0#8) 0 B)) ((N + 1 : Nat) : Int) ((N + 1 : Nat) : Int)) := by
  have e : IntKind.i64.wrap ((N : Int) + 1) = ((N + 1 : Nat) : Int) := by rw [wr] <;> omega
  simp [m_maps_Map_add_v2, m_region_Mem_Add_v2, m_slices_Clone_byte_byte_v2, m_region_Mem_add_v2, e]
def NewI (y : Nat) : Sh_maps_New_v1_L0 → Prop
  | .c0 N X made M K i => (N : Int) = made ∧ N = M ∧ (N : Int) = i ∧ N ≤ y ∧ Made N X K ∧ Zeros N X
def NewP (y : Nat) : Ex_maps_New_v1_L0 → Prop
  | .e0 N X made M K => y = N ∧ (y : Int) = made ∧ y = M ∧ Made y X K ∧ Zeros y X
def NewM (y : Nat) : Sh_maps_New_v1_L0 → Nat
  | .c0 N X made M K i => y - N
theorem new_loop {y : Nat} (hy : y ≤ 64) : ∀ s, NewI y s → ∃ r, lpO (st_maps_New_v1_L0 (y : Int)) s = some r ∧ NewP y r := by
  refine lpO_ind (NewI y) (NewM y) (fun _ r => NewP y r) ?_
  rintro ⟨N, X, made, M, K, i⟩ ⟨rfl, rfl, rfl, hle, hm, hz⟩
  by_cases h : N < y
  · left
    have hno : ¬ fdx (fun i => (kb N == (K i).fk)) N < N := hm.none fun j hj e => by
      have := kb_inj (by omega) (by omega) e; omega
    refine ⟨.c0 (N + 1) (updF X N (⟨true, 0, false⟩, 2, catF (fun _ => 0#8) 0 (fun k => if k = 0 then 0#8 else 0#8))) ((N + 1 : Nat) : Int) (N + 1) (updF K N ⟨kb N, ((N + 1 : Nat) : Int)⟩) ((N + 1 : Nat) : Int), ?_, ?_, ?_, fun _ h => h⟩
    · unfold st_maps_New_v1_L0
      dsimp only
      rw [d_t (p := (N : Int) < (y : Int)) (by omega), index_eq (by omega)]
      simp only [bindT, add_spec (show N < 1000000 by omega), Option.bind_some, cond_true]
      rw [d_f hno]
      have e : IntKind.i64.wrap ((N : Int) + 1) = ((N + 1 : Nat) : Int) := by rw [wr] <;> omega
      rw [e]
      rfl
    · refine ⟨rfl, rfl, rfl, by omega, ⟨fun j hj => ?_, fun j hj => ?_, fun j hj => ?_⟩, fun j hj => ?_⟩
      all_goals by_cases q : j = N
      all_goals first | subst q; rw [updF_at] | rw [updF_ne _ _ q]
      · exact hm.key j (by omega)
      · exact hm.num j (by omega)
      · exact hm.len j (by omega)
      · exact ⟨rfl, rfl⟩
      · exact hz j (by omega)
    · show y - (N + 1) < y - N; omega
  · right
    refine ⟨.e0 N X (N : Int) N K, ?_, ?_⟩
    · unfold st_maps_New_v1_L0
      dsimp only
      rw [d_f (p := (N : Int) < (y : Int)) (by omega)]
      rfl
    · obtain rfl : N = y := by omega
      exact ⟨rfl, rfl, rfl, hm, hz⟩
theorem new_spec {y : Nat} (h0 : 1 ≤ y) (hy : y ≤ 64) (X0 : Nat → Xr71 × (Nat × (Nat → BitVec 8))) : ∃ X K, m_maps_New_v1 (y : Int) X0 = some (.e0 y X (y : Int) y K) ∧ Made y X K ∧ Zeros y X := by
  obtain ⟨⟨N, X, made, M, K⟩, h1, rfl, rfl, rfl, hm, hz⟩ := new_loop hy (.c0 0 X0 0 0 (fun _ => ⟨ByteArray.empty, 0⟩) 0) ⟨rfl, rfl, rfl, by omega, ⟨fun j h => by omega, fun j h => by omega, fun j h => by omega⟩, fun j h => by omega⟩
  refine ⟨X, K, ?_, hm, hz⟩
  have hd : m_object_Def_v1 (y : Int) = 0 := by
    unfold m_object_Def_v1 m_object_rightValue_v1 m_object_within_v3
    rw [d_t (p := (1 : Int) ≤ (y : Int)) (by omega), d_t (p := (y : Int) ≤ 64) (by omega)]
    rfl
  unfold m_maps_New_v1
  simp only [bindT, hd, h1, Option.bind_some]
  rfl
end Go.Proofs.Ytchogpgifdkhbaa
