/-
  Memory: regions read and written, in plain words; the laws on ends and on bytes.
-/
import Derived.Test.YtfmpmhafilllpaaR8L
namespace Go.Proofs.Ytfmpmhafilllpaa
open Go.RowKit
set_option linter.unusedVariables false
set_option linter.unusedSimpArgs false
theorem wr {x : Int} (h0 : -9223372036854775808 ≤ x) (h1 : x < 9223372036854775808) : IntKind.i64.wrap x = x := z_wrap h0 h1
theorem inR_nat' {k n : Nat} (h : k < n) : inR (k : Int) n = true := inR_iff.2 ⟨by omega, by omega⟩
theorem inR_t {x : Int} {n : Nat} (h0 : 0 ≤ x) (h1 : x < n) : inR x n = true := inR_iff.2 ⟨h0, h1⟩
theorem inR_f {x : Int} {n : Nat} (h : ¬ (0 ≤ x ∧ x < n)) : inR x n = false := by
  cases e : inR x n
  · rfl
  · exact absurd (inR_iff.1 e) h
theorem d_t {p : Prop} [Decidable p] (h : p) : decide p = true := decide_eq_true h
theorem d_f {p : Prop} [Decidable p] (h : ¬ p) : decide p = false := decide_eq_false h
theorem beq_f {x y : Int} (h : x ≠ y) : (x == y) = false := by simpa using h
/-! ### Numbers out of bytes -/
def numv (A : Nat → BitVec 8) : Nat → BitVec 64
  | 0 => 0#64
  | k + 1 => numv A k ||| (((A k).setWidth 64) <<< (8 * k))
theorem number_is (n : Nat) (A : Nat → BitVec 8) (hn : n ≤ 600) : m_region_number n A = some (⟨1, numv A n, 0, 0⟩ : Val) := by
  unfold m_region_number
  obtain ⟨r, hr, rfl⟩ := lpO_ind (st := st_region_number_L0 n A) (fun s => match s with | .c0 v x => ∃ k : Nat, x = (k : Int) ∧ k ≤ n ∧ v = numv A k) (fun s => match s with | .c0 v x => n - x.toNat) (fun _ r => r = .e0 (numv A n)) (by
    rintro ⟨v, x⟩ ⟨k, rfl, hk, rfl⟩
    by_cases h : k < n
    · refine .inl ⟨.c0 (numv A (k + 1)) ((k + 1 : Nat) : Int), ?_, ⟨k + 1, rfl, by omega, rfl⟩, by show n - ((k + 1 : Nat) : Int).toNat < n - (k : Int).toNat; omega, fun r hr => hr⟩
      have e1 : IntKind.i64.wrap ((k : Int) + 1) = ((k + 1 : Nat) : Int) := by rw [wr] <;> omega
      have e2 : IntKind.i64.wrap (8 * (k : Int)) = ((8 * k : Nat) : Int) := by rw [wr] <;> omega
      simp only [st_region_number_L0, d_t (p := (k : Int) < (n : Int)) (by omega), cond_true, inR_nat' h, e1, e2, d_t (p := (0 : Int) ≤ ((8 * k : Nat) : Int)) (by omega), Int.toNat_natCast]
      rfl
    · obtain rfl : k = n := by omega
      refine .inr ⟨.e0 (numv A k), ?_, rfl⟩
      simp only [st_region_number_L0, d_f (p := (k : Int) < (k : Int)) (by omega), cond_false]) (.c0 0#64 0) ⟨0, rfl, by omega, rfl⟩
  rw [hr]
  rfl
theorem numv_congr {A B : Nat → BitVec 8} : ∀ {n : Nat}, (∀ k, k < n → A k = B k) → numv A n = numv B n
  | 0, _ => rfl
  | n + 1, h => by
    show numv A n ||| _ = numv B n ||| _
    rw [numv_congr fun k hk => h k (by omega), h n (by omega)]
theorem numv_bit (A : Nat → BitVec 8) : ∀ (n : Nat), n ≤ 8 → ∀ j, (numv A n).getLsbD j = (decide (j < 8 * n) && (A (j / 8)).getLsbD (j % 8))
  | 0, _, j => by simp [numv]
  | n + 1, h, j => by
    show (numv A n ||| (((A n).setWidth 64) <<< (8 * n))).getLsbD j = _
    rw [BitVec.getLsbD_or, numv_bit A n (by omega) j, BitVec.getLsbD_shiftLeft, BitVec.getLsbD_setWidth]
    by_cases h1 : j < 8 * n
    · simp [h1, show j < 8 * (n + 1) by omega]
    · by_cases h2 : j < 8 * (n + 1)
      · have e1 : j / 8 = n := by omega
        have e2 : j - 8 * n = j % 8 := by omega
        simp [h1, h2, e1, e2, show j < 64 by omega]
        intro _; omega
      · have : (A n).getLsbD (j - 8 * n) = false := BitVec.getLsbD_of_ge _ _ (by omega)
        simp [h1, h2, this]
/-! ### Bytes of numbers -/
def putv (A : Nat → BitVec 8) (w n : Nat) (y : BitVec 64) : Nat → BitVec 8 := fun j => if w ≤ j ∧ j < w + n then (y >>> (8 * (j - w))).setWidth 8 else A j
theorem putNumber_is (y : BitVec 64) (w n N u : Nat) (A : Nat → BitVec 8) (hn : n ≤ 600) : m_region_putNumber y w n N u A = some (.e0 (putv A w n y)) := by
  unfold m_region_putNumber
  obtain ⟨r, hr, rfl⟩ := lpO_ind (st := st_region_putNumber_L0 y w n) (fun s => match s with | .c0 B x => ∃ k : Nat, x = (k : Int) ∧ k ≤ n ∧ B = putv A w k y) (fun s => match s with | .c0 v x => n - x.toNat) (fun _ r => r = .e0 (putv A w n y)) (by
    rintro ⟨v, x⟩ ⟨k, rfl, hk, rfl⟩
    by_cases h : k < n
    · refine .inl ⟨.c0 (putv A w (k + 1) y) ((k + 1 : Nat) : Int), ?_, ⟨k + 1, rfl, by omega, rfl⟩, by show n - ((k + 1 : Nat) : Int).toNat < n - (k : Int).toNat; omega, fun r hr => hr⟩
      have e1 : IntKind.i64.wrap ((k : Int) + 1) = ((k + 1 : Nat) : Int) := by rw [wr] <;> omega
      have e2 : IntKind.i64.wrap (8 * (k : Int)) = ((8 * k : Nat) : Int) := by rw [wr] <;> omega
      have e3 : updF (putv A w k y) (w + k) ((y >>> (8 * k)).setWidth 8) = putv A w (k + 1) y := by
        funext j
        unfold updF putv
        by_cases hj : j = w + k
        · subst hj
          rw [if_pos rfl, if_pos (by omega)]
          congr 3; omega
        · rw [if_neg hj]
          by_cases hj2 : w ≤ j ∧ j < w + k
          · rw [if_pos hj2, if_pos (by omega)]
          · rw [if_neg hj2, if_neg (by omega)]
      simp only [st_region_putNumber_L0, d_t (p := (k : Int) < (n : Int)) (by omega), cond_true, inR_nat' h, e1, e2, d_t (p := (0 : Int) ≤ ((8 * k : Nat) : Int)) (by omega), Int.toNat_natCast, bindT, e3]
    · obtain rfl : k = n := by omega
      refine .inr ⟨.e0 (putv A w k y), ?_, rfl⟩
      simp only [st_region_putNumber_L0, d_f (p := (k : Int) < (k : Int)) (by omega), cond_false]) (.c0 A 0) ⟨0, rfl, by omega, by funext j; unfold putv; rw [if_neg (by omega)]⟩
  rw [hr]
  rfl
/-! ### A region -/
def okSize (s : Int) : Prop := s = 1 ∨ s = 2 ∨ s = 4 ∨ s = 8
theorem rightSize_is {s : Int} (h : okSize s) : m_region_rightSize_v2 s = true := by rcases h with rfl | rfl | rfl | rfl <;> rfl
theorem okSize.lo {s : Int} (h : okSize s) : 1 ≤ s ∧ s ≤ 8 := by rcases h with rfl | rfl | rfl | rfl <;> omega
section
variable {s x : Int} {N : Nat} {W : Bool} {A : Nat → BitVec 8}
theorem inside_t (hs : okSize s) (h0 : 0 ≤ x) (h1 : x + s ≤ N) (hN : N ≤ 1000000) : m_region_inside_v2 x s 0 (N : Int) = true := by
  have := hs.lo
  have e : IntKind.i64.wrap ((N : Int) - s) = (N : Int) - s := by rw [wr] <;> omega
  simp only [m_region_inside_v2, beq_f (show s ≠ 0 by omega), cond_false, d_t (p := 0 < s) (by omega), cond_true, d_t h0, e, d_t (p := x ≤ (N : Int) - s) (by omega)]
theorem inside_f (hs : okSize s) (h : ¬ (0 ≤ x ∧ x + s ≤ N)) (hN : N ≤ 1000000) : m_region_inside_v2 x s 0 (N : Int) = false := by
  have := hs.lo
  have e : IntKind.i64.wrap ((N : Int) - s) = (N : Int) - s := by rw [wr] <;> omega
  by_cases h0 : 0 ≤ x
  · simp only [m_region_inside_v2, beq_f (show s ≠ 0 by omega), cond_false, d_t (p := 0 < s) (by omega), cond_true, d_t h0, e, d_f (p := x ≤ (N : Int) - s) (by omega)]
  · simp only [m_region_inside_v2, beq_f (show s ≠ 0 by omega), cond_false, d_t (p := 0 < s) (by omega), cond_true, d_f h0]
theorem find_in (hs : okSize s) (h0 : 0 ≤ x) (h1 : x + s ≤ N) (hN : N ≤ 1000000) : m_region_Mem_find_v3 s x N W 0 false A = some (.e0 false x) := by
  have := hs.lo
  have e : IntKind.i64.wrap (x - 0) = x := by rw [wr] <;> omega
  simp only [m_region_Mem_find_v3, m_region_Mem_live_v2, cond_false, Option.bind_some, cond_true, inside_t hs h0 h1 hN, beq_f (show s ≠ 0 by omega), e]
theorem find_out (hs : okSize s) (h : ¬ (0 ≤ x ∧ x + s ≤ N)) (hN : N ≤ 1000000) : m_region_Mem_find_v3 s x N W 0 false A = some (.e1 false 3) := by
  simp only [m_region_Mem_find_v3, m_region_Mem_live_v2, cond_false, Option.bind_some, cond_true, inside_f hs h hN]
theorem find_dead : m_region_Mem_find_v3 s x N W 0 true A = some (.e1 true 4) := by
  simp only [m_region_Mem_find_v3, m_region_Mem_live_v2, cond_false, Option.bind_some, cond_true]
theorem hides_no (hs : okSize s) (h0 : 0 ≤ x) : m_region_area_hides x s N W 0 false A = some (.e0 false) := by
  have := hs.lo
  simp only [m_region_area_hides, d_t (p := 0 < s) (by omega), cond_true, d_f (p := x < 0) (by omega)]
theorem load_in (hs : okSize s) (h0 : 0 ≤ x) (h1 : x + s ≤ N) (hN : N ≤ 1000000) : m_region_Mem_Load_v2 s x N W 0 false A = some (.e0 false 1 (numv (fun k => A (x.toNat + k)) s.toNat) 0 0 0) := by
  have := hs.lo
  have e : IntKind.i64.wrap (x + s) = x + s := by rw [wr] <;> omega
  have e2 : (x + s).toNat - x.toNat = s.toNat := by omega
  simp only [m_region_Mem_Load_v2, rightSize_is hs, cond_true, find_in hs h0 h1 hN, Option.bind_some, m_region_area_load, hides_no hs h0, cond_false, inR_t h0 (show x < (N : Int) by omega), e,
    inR_t (show 0 ≤ x + s by omega) (show x + s < ((N + 1 : Nat) : Int) by omega), d_t (p := x ≤ x + s) (by omega), e2, number_is _ _ (show s.toNat ≤ 600 by omega)]
theorem load_out (hs : okSize s) (h : ¬ (0 ≤ x ∧ x + s ≤ N)) (hN : N ≤ 1000000) : m_region_Mem_Load_v2 s x N W 0 false A = some (.e0 false 0 0#64 0 0 3) := by
  simp only [m_region_Mem_Load_v2, rightSize_is hs, cond_true, find_out hs h hN, Option.bind_some, show ((3 : Int) == 0) = false from rfl, cond_false]
theorem load_dead (hs : okSize s) : m_region_Mem_Load_v2 s x N W 0 true A = some (.e0 true 0 0#64 0 0 4) := by
  simp only [m_region_Mem_Load_v2, rightSize_is hs, cond_true, find_dead, Option.bind_some, show ((4 : Int) == 0) = false from rfl, cond_false]
theorem store_in (hs : okSize s) (h0 : 0 ≤ x) (h1 : x + s ≤ N) (hN : N ≤ 1000000) (y : BitVec 64) : m_region_Mem_Store_v1 s ⟨1, y, 0, 0⟩ x N true 0 false A = some (.e0 (putv A x.toNat s.toNat y) true false 0) := by
  have := hs.lo
  have e : IntKind.i64.wrap (x + s) = x + s := by rw [wr] <;> omega
  have e2 : (x + s).toNat - x.toNat = s.toNat := by omega
  simp only [m_region_Mem_Store_v1, show ((1 : Int) == 0) = false from rfl, rightSize_is hs, cond_true, find_in hs h0 h1 hN, Option.bind_some, m_region_area_store, m_region_area_can, hides_no hs h0, cond_false, show ((0 : Int) == 0) = true from rfl, show ((1 : Int) == 1) = true from rfl, inR_t h0 (show x < (N : Int) by omega), e,
    inR_t (show 0 ≤ x + s by omega) (show x + s < ((N + 1 : Nat) : Int) by omega), d_t (p := x ≤ x + s) (by omega), e2, putNumber_is _ _ _ _ _ _ (show s.toNat ≤ 600 by omega)]
theorem store_ro (hs : okSize s) (h0 : 0 ≤ x) (h1 : x + s ≤ N) (hN : N ≤ 1000000) (y : BitVec 64) : m_region_Mem_Store_v1 s ⟨1, y, 0, 0⟩ x N false 0 false A = some (.e0 A false false 5) := by
  simp only [m_region_Mem_Store_v1, show ((1 : Int) == 0) = false from rfl, rightSize_is hs, cond_true, find_in hs h0 h1 hN, Option.bind_some, m_region_area_store, m_region_area_can, cond_false, show ((5 : Int) == 0) = false from rfl]
theorem store_out (hs : okSize s) (h : ¬ (0 ≤ x ∧ x + s ≤ N)) (hN : N ≤ 1000000) (y : BitVec 64) : m_region_Mem_Store_v1 s ⟨1, y, 0, 0⟩ x N W 0 false A = some (.e0 A W false 3) := by
  simp only [m_region_Mem_Store_v1, show ((1 : Int) == 0) = false from rfl, rightSize_is hs, cond_true, cond_false, find_out hs h hN, Option.bind_some, show ((3 : Int) == 0) = false from rfl]
theorem store_dead (hs : okSize s) (y : BitVec 64) : m_region_Mem_Store_v1 s ⟨1, y, 0, 0⟩ x N W 0 true A = some (.e0 A W true 4) := by
  simp only [m_region_Mem_Store_v1, show ((1 : Int) == 0) = false from rfl, rightSize_is hs, cond_true, cond_false, find_dead, Option.bind_some, show ((4 : Int) == 0) = false from rfl]
end
theorem add_is (W : Bool) (N : Nat) (A : Nat → BitVec 8) (hN : N ≤ 1000000) : ∃ B, m_region_Mem_Add W 0 N A = some (.e0 B 0) := by
  refine ⟨catF (fun _ => 0#8) 0 A, ?_⟩
  have e : (if (N : Int) < (if (0 : Int) < 0 then 0 else 0) then (N : Int) else (if (0 : Int) < 0 then 0 else 0)) = 0 := by
    rw [if_neg (by simp)]; rfl
  simp only [m_region_Mem_Add, m_slices_Clone_byte_byte, d_t hN, cond_true, Option.bind_some, e]
/-! ### The law on ends -/
theorem ends_true (n off s : Int) (W : Bool) : m_barbicanlaw8_RegionEnds n off s W = some true := by
  unfold m_barbicanlaw8_RegionEnds bindT
  cases hJ : jp_barbicanlaw8_RegionEnds_J0 n off s with
  | true => rfl
  | false =>
    have hb : 0 ≤ n ∧ n ≤ 300 ∧ -400 ≤ off ∧ off ≤ 400 ∧ okSize s := by
      unfold jp_barbicanlaw8_RegionEnds_J0 at hJ
      simp only [cond_eq_ite, decide_eq_true_eq, beq_iff_eq] at hJ
      unfold okSize
      split at hJ
      · cases hJ
      split at hJ
      · cases hJ
      split at hJ
      · cases hJ
      split at hJ
      · cases hJ
      refine ⟨by omega, by omega, by omega, by omega, ?_⟩
      split at hJ
      · omega
      split at hJ
      · omega
      split at hJ
      · omega
      split at hJ
      · omega
      · cases hJ
    obtain ⟨h0, h1, h2, h3, hs⟩ := hb
    have hl := hs.lo
    obtain ⟨N, rfl⟩ := Int.eq_ofNat_of_zero_le h0
    obtain ⟨B, hB⟩ := add_is W N (fun _ => 0#8) (by omega)
    have hN : N ≤ 1000000 := by omega
    have e : IntKind.i64.wrap (off + s) = off + s := by rw [wr] <;> omega
    simp only [cond_false, inR_t h0 (show ((N : Int)) < ((1000001 : Nat) : Int) by omega), cond_true, Int.toNat_natCast, hB, Option.bind_some, Nat.zero_add]
    have dead : ∀ A, (m_region_Mem_Load_v2 s off N W 0 true A).bind (fun g7 => match g7 with
        | .e0 g7_0 g7_1 g7_2 g7_3 g7_4 g7_5 => bif g7_5 == 4 then ((m_region_Mem_Store_v1 s (⟨1, 0#64, 0, 0⟩ : Val) off N W 0 g7_0 A).bind fun g8 => match g8 with | .e0 g8_0 g8_1 g8_2 g8_3 => some (g8_3 == 4)) else (some false)) = some true := by
      intro A
      simp only [load_dead hs, Option.bind_some, show ((4 : Int) == 4) = true from rfl, cond_true, store_dead hs]
    have kill : ∀ A, jp_barbicanlaw8_RegionEnds_J3 (N : Int) 0 A W false = some false := by
      intro A
      simp only [jp_barbicanlaw8_RegionEnds_J3, m_region_Mem_Kill, cond_false, Option.bind_some, cond_true]
    by_cases hin : 0 ≤ off ∧ off + s ≤ N
    · have hj1 : jp_barbicanlaw8_RegionEnds_J1 (N : Int) off s = true := by
        simp only [jp_barbicanlaw8_RegionEnds_J1, d_t hin.1, cond_true, e, d_t hin.2]
      cases W with
      | true =>
        have hj2 : jp_barbicanlaw8_RegionEnds_J2 true true 0 0 = false := rfl
        simp only [load_in hs hin.1 hin.2 hN, Option.bind_some, store_in hs hin.1 hin.2 hN, hj1, hj2, cond_false, kill, dead]
      | false =>
        have hj2 : jp_barbicanlaw8_RegionEnds_J2 false true 0 5 = false := rfl
        simp only [load_in hs hin.1 hin.2 hN, Option.bind_some, store_ro hs hin.1 hin.2 hN, hj1, hj2, cond_false, kill, dead]
    · have hj1 : jp_barbicanlaw8_RegionEnds_J1 (N : Int) off s = false := by
        by_cases h : 0 ≤ off
        · simp only [jp_barbicanlaw8_RegionEnds_J1, d_t h, cond_true, e, d_f (p := off + s ≤ (N : Int)) (by omega), cond_false]
        · simp only [jp_barbicanlaw8_RegionEnds_J1, d_f h, cond_false]
      have hj2 : jp_barbicanlaw8_RegionEnds_J2 W false 3 3 = false := by cases W <;> rfl
      simp only [load_out hs hin hN, Option.bind_some, store_out hs hin hN, hj1, hj2, cond_false, kill, dead]
end Go.Proofs.Ytfmpmhafilllpaa
