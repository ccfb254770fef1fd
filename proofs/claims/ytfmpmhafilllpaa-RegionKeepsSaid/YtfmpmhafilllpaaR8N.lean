/-
  Memory: the law on bytes.
-/
import Derived.Test.YtfmpmhafilllpaaR8M
namespace Go.Proofs.Ytfmpmhafilllpaa
open Go.RowKit
set_option linter.unusedVariables false
set_option linter.unusedSimpArgs false
theorem one_shl {m : Nat} (hm : m < 64) : (1#64 <<< m).toNat = 2 ^ m := by
  rw [BitVec.toNat_shiftLeft, Nat.shiftLeft_eq]
  simp only [BitVec.toNat_ofNat]
  rw [Nat.mod_eq_of_lt]
  · simp
  · simp
    exact Nat.pow_lt_pow_right (by omega) hm
theorem umod_bit (x : BitVec 64) {m : Nat} (hm : m < 64) (j : Nat) : (x % (1#64 <<< m)).getLsbD j = (decide (j < m) && x.getLsbD j) := by
  show (x % (1#64 <<< m)).toNat.testBit j = (decide (j < m) && x.toNat.testBit j)
  rw [BitVec.toNat_umod, one_shl hm, Nat.testBit_mod_two_pow]
theorem numv_shift (y : BitVec 64) (k s : Nat) (h : k + s ≤ 8) (j : Nat) : (numv (fun i => (y >>> (8 * (k + i))).setWidth 8) s).getLsbD j = (decide (j < 8 * s) && (y >>> (8 * k)).getLsbD j) := by
  rw [numv_bit _ s (by omega) j]
  by_cases hj : j < 8 * s
  · have e : 8 * (k + j / 8) + j % 8 = 8 * k + j := by omega
    simp only [hj, decide_true, Bool.true_and, BitVec.getLsbD_setWidth, BitVec.getLsbD_ushiftRight, e, d_t (p := j % 8 < 8) (by omega)]
  · simp [hj]
theorem read_back (A : Nat → BitVec 8) (y : BitVec 64) (w k s : Nat) (h : k + s ≤ 8) : numv (fun i => putv A w 8 y (w + k + i)) s = numv (fun i => (y >>> (8 * (k + i))).setWidth 8) s :=
  numv_congr fun i hi => by
    unfold putv
    rw [if_pos (by omega)]
    congr 3
    omega
theorem read_some (A : Nat → BitVec 8) (y : BitVec 64) (w k s : Nat) (h : k + s ≤ 8) (hs : s < 8) : numv (fun i => putv A w 8 y (w + k + i)) s = (y >>> (8 * k)) % (1#64 <<< (8 * s)) := by
  rw [read_back A y w k s h]
  apply BitVec.eq_of_getLsbD_eq
  intro j hj
  rw [numv_shift y k s h j, umod_bit _ (by omega)]
theorem read_all (A : Nat → BitVec 8) (y : BitVec 64) (w : Nat) : numv (fun i => putv A w 8 y (w + 0 + i)) 8 = y >>> (8 * 0) := by
  rw [read_back A y w 0 8 (by omega)]
  apply BitVec.eq_of_getLsbD_eq
  intro j hj
  rw [numv_shift y 0 8 (by omega) j, d_t (p := j < 8 * 8) (by omega), Bool.true_and]
section
variable {y : BitVec 64} {x : Int} {A : Nat → BitVec 8} {W : Bool}
/-- Pieces of one size. -/
theorem pieces (hx : 0 ≤ x ∧ x ≤ 20) {s : Int} (hs : okSize s) : ∃ r, lpO (st_barbicanlaw8_RegionLittle_L0_L1v2 y x 0 (putv A x.toNat 8 y) W s) (.c0 false 0) = some r ∧ ∃ a b c, r = .e0 false a b c := by
  have hl := hs.lo
  refine lpO_ind (st := st_barbicanlaw8_RegionLittle_L0_L1v2 y x 0 (putv A x.toNat 8 y) W s) (fun st => match st with | .c0 b k => b = false ∧ ∃ j : Nat, k = (j : Int) ∧ j ≤ 8 ∧ (s = 8 → j = 0 ∨ j = 8)) (fun st => match st with | .c0 b k => 16 - k.toNat) (fun _ r => ∃ a b c, r = .e0 false a b c) ?_ (.c0 false 0) ⟨rfl, 0, rfl, by omega, by omega⟩
  rintro ⟨b, k⟩ ⟨rfl, j, rfl, hj, h8⟩
  have e0 : IntKind.i64.wrap ((j : Int) + s) = (j : Int) + s := by rw [wr] <;> omega
  by_cases hle : (j : Int) + s ≤ 8
  · refine .inl ⟨.c0 false (((j + s.toNat : Nat)) : Int), ?_, ⟨rfl, j + s.toNat, rfl, by omega, by omega⟩, by show 16 - (((j + s.toNat : Nat)) : Int).toNat < 16 - (j : Int).toNat; omega, fun r hr => hr⟩
    have e1 : IntKind.i64.wrap (x + (j : Int)) = x + (j : Int) := by rw [wr] <;> omega
    have e2 : IntKind.i64.wrap (8 * (j : Int)) = ((8 * j : Nat) : Int) := by rw [wr] <;> omega
    have e3 : IntKind.i64.wrap (8 * s) = ((8 * s.toNat : Nat) : Int) := by rw [wr] <;> omega
    have e4 : (fun k => putv A x.toNat 8 y ((x + (j : Int)).toNat + k)) = fun k => putv A x.toNat 8 y (x.toNat + j + k) := by
      funext k
      congr 2
      omega
    have e5 : (j : Int) + s = ((j + s.toNat : Nat) : Int) := by omega
    simp only [st_barbicanlaw8_RegionLittle_L0_L1v2, e0, d_t hle, cond_true, e1, load_in (N := 28) hs (show 0 ≤ x + (j : Int) by omega) (show x + (j : Int) + s ≤ ((28 : Nat) : Int) by omega) (by omega), Option.bind_some, e2, d_t (p := (0 : Int) ≤ ((8 * j : Nat) : Int)) (by omega), Int.toNat_natCast, e3, d_t (p := (0 : Int) ≤ ((8 * s.toNat : Nat) : Int)) (by omega), show ((0 : Int) == 0) = true from rfl, show ((1 : Int) == 1) = true from rfl, Bool.true_and, Bool.and_true, e4]
    by_cases hs8 : s < 8
    · have hz : ((1#64 <<< (8 * s.toNat)) == 0#64) = false := by
        have : (1#64 <<< (8 * s.toNat)) ≠ 0#64 := fun h => by
          have h := congrArg BitVec.toNat h
          rw [one_shl (by omega)] at h
          have : 0 < 2 ^ (8 * s.toNat) := Nat.pow_pos (by omega)
          simp at h
        simpa using this
      have hv := read_some A y x.toNat j s.toNat (by omega) (by omega)
      simp only [d_t hs8, cond_true, hz, cond_false, hv, beq_self_eq_true, e5]
    · have h1 : s = 8 := by omega
      subst h1
      have h0 : j = 0 := by omega
      subst h0
      have hv := read_all A y x.toNat
      have e7 : (8 : Int).toNat = 8 := rfl
      simp only [d_f (p := (8 : Int) < 8) (by omega), cond_false, e7, hv, beq_self_eq_true, cond_true, e5]
  · refine .inr ⟨.e0 false (j : Int) (j : Int) ((j : Int) + s), ?_, ⟨_, _, _, rfl⟩⟩
    simp only [st_barbicanlaw8_RegionLittle_L0_L1v2, e0, d_f hle, cond_false]
theorem sizes (hx : 0 ≤ x ∧ x ≤ 20) : ∃ r, lpO (st_barbicanlaw8_RegionLittle_L0 y x 0 (putv A x.toNat 8 y) W) (.c0 false 1) = some r ∧ ∃ a, r = .e0 a := by
  refine lpO_ind (st := st_barbicanlaw8_RegionLittle_L0 y x 0 (putv A x.toNat 8 y) W) (fun st => match st with | .c0 b k => b = false ∧ (okSize k ∨ k = 16)) (fun st => match st with | .c0 b k => 17 - k.toNat) (fun _ r => ∃ a, r = .e0 a) ?_ (.c0 false 1) ⟨rfl, .inl (.inl rfl)⟩
  rintro ⟨b, k⟩ ⟨rfl, hk | rfl⟩
  · obtain ⟨r, hr, a, b, c, rfl⟩ := pieces (y := y) (A := A) (W := W) hx hk
    have hl := hk.lo
    refine .inl ⟨.c0 false (k * 2), ?_, ⟨rfl, ?_⟩, by show 17 - (k * 2).toNat < 17 - k.toNat; omega, fun r hr => hr⟩
    · have e : IntKind.i64.wrap (k * 2) = k * 2 := by rw [wr] <;> omega
      simp only [st_barbicanlaw8_RegionLittle_L0, d_t (p := k ≤ 8) (by omega), cond_true, hr, Option.bind_some, e]
    · unfold okSize at hk ⊢
      omega
  · refine .inr ⟨.e0 false, ?_, _, rfl⟩
    simp only [st_barbicanlaw8_RegionLittle_L0, d_f (p := (16 : Int) ≤ 8) (by omega), cond_false]
end
theorem little_true (y : BitVec 64) (x : Int) : m_barbicanlaw8_RegionLittle y x = some true := by
  unfold m_barbicanlaw8_RegionLittle
  by_cases h0 : x < 0
  · simp only [d_t h0, cond_true]
  by_cases h1 : 20 < x
  · simp only [d_f h0, cond_false, d_t h1, cond_true]
  have hadd : ∃ B, m_region_Mem_Add_v1 true 0 = some (.e0 B 0) := by
    unfold m_region_Mem_Add_v1 m_slices_Clone_byte_byte_v1 bindT
    exact ⟨_, rfl⟩
  obtain ⟨B, hB⟩ := hadd
  have hs : okSize 8 := .inr (.inr (.inr rfl))
  have e8 : (8 : Int).toNat = 8 := rfl
  obtain ⟨r, hr, a, rfl⟩ := sizes (y := y) (A := B) (W := true) (show 0 ≤ x ∧ x ≤ 20 by omega)
  simp only [d_f h0, d_f h1, cond_false, hB, Option.bind_some, store_in (N := 28) hs (show 0 ≤ x by omega) (show x + 8 ≤ ((28 : Nat) : Int) by omega) (by omega), e8, show ((0 : Int) == 0) = true from rfl, cond_true, hr]
end Go.Proofs.Ytfmpmhafilllpaa
