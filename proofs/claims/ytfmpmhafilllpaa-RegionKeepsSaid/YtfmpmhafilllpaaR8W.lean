/-
  Memory: the law on what is kept.
-/
import Derived.Test.YtfmpmhafilllpaaR8U
import Derived.Test.YtfmpmhafilllpaaR8Pb
namespace Go.Proofs.Ytfmpmhafilllpaa
open Go.RowKit
set_option linter.unusedVariables false
set_option linter.unusedSimpArgs false
theorem numv_bytesOf_bit (y : BitVec 64) {n : Nat} (h : n ≤ 8) (j : Nat) : (numv (bytesOf y) n).getLsbD j = (decide (j < 8 * n) && y.getLsbD j) := by
  rw [numv_congr (B := fun i => (y >>> (8 * (0 + i))).setWidth 8) (fun k hk => by rw [bytesOf_at y (by omega), Nat.zero_add]), numv_shift y 0 n (by omega) j]
  simp
theorem numv_some (y : BitVec 64) {n : Nat} (h : n < 8) : numv (bytesOf y) n = y % (1#64 <<< (8 * n)) := by
  apply BitVec.eq_of_getLsbD_eq
  intro j hj
  rw [numv_bytesOf_bit y (by omega), umod_bit _ (by omega)]
theorem numv_all (y : BitVec 64) : numv (bytesOf y) 8 = y := by
  apply BitVec.eq_of_getLsbD_eq
  intro j hj
  rw [numv_bytesOf_bit y (by omega), d_t (p := j < 8 * 8) (by omega), Bool.true_and]
theorem one_ne {n : Nat} (h : n < 8) : ((1#64 <<< (8 * n)) == 0#64) = false := by
  have : (1#64 <<< (8 * n)) ≠ 0#64 := fun h => by
    have h := congrArg BitVec.toNat h
    rw [one_shl (by omega)] at h
    have : 0 < 2 ^ (8 * n) := Nat.pow_pos (by omega)
    simp at h
  simpa using this
section
variable {a n : Nat} {B W : Nat → BitVec 8} {P : Nat → Val} {T : Nat → Int} {G : Nat → Bool} {B2 W2 : Nat → BitVec 8} {P2 : Nat → Val} {T2 : Nat → Int} {G2 : Nat → Bool} {x : Int}
theorem find5 (hs : okSize (n : Int)) (h0 : -512 ≤ x) (h1 : x ≤ -8) (ha : x + 512 = (a : Int)) : m_region_Mem_find_v5 (n : Int) x B W P T G B2 W2 P2 T2 G2 = some (.e0 (a : Int)) := by
  have hl := hs.lo
  have e : IntKind.i64.wrap (x - (-512)) = (a : Int) := by rw [wr] <;> omega
  simp only [m_region_Mem_find_v5, inside_ft (x := x) (s := (n : Int)) ⟨by omega, by omega⟩ h0 (by omega), cond_true, beq_f (show (n : Int) ≠ 0 by omega), cond_false, e]
theorem find6 (hs : okSize (n : Int)) (h0 : -512 ≤ x) (h1 : x ≤ -8) (ha : x + 512 = (a : Int)) : m_region_Mem_find_v6 (n : Int) x B W P T G B2 W2 P2 T2 G2 = some (.e0 (a : Int)) := by
  have hl := hs.lo
  have e : IntKind.i64.wrap (x - (-512)) = (a : Int) := by rw [wr] <;> omega
  simp only [m_region_Mem_find_v6, inside_ft (x := x) (s := (n : Int)) ⟨by omega, by omega⟩ h0 (by omega), cond_true, beq_f (show (n : Int) ≠ 0 by omega), cond_false, e]
theorem store3_num (hs : okSize (n : Int)) (h0 : -512 ≤ x) (h1 : x ≤ -8) (ha : x + 512 = (a : Int)) (hT : ∀ s, T s = 0) (y : BitVec 64) :
    ∃ B' W' P' T' G', m_region_Mem_Store_v3 (n : Int) ⟨1, y, 0, 0⟩ x B W P T G B2 W2 P2 T2 G2 = some (.e0 B' W' P' T' G' 0) ∧ PutOk a n (bytesOf y) B W P T G B' W' P' T' G' := by
  have hl := hs.lo
  obtain ⟨B', W', P', T', G', hp, hok⟩ := fstore_num (B := B) (W := W) (P := P) (G := G) (show a + n ≤ 512 by omega) (by omega) (by omega) (fun s _ _ => hT s) y
  refine ⟨B', W', P', T', G', ?_, hok⟩
  simp only [m_region_Mem_Store_v3, show ((1 : Int) == 0) = false from rfl, cond_false, rightSize_is hs, cond_true, find5 hs h0 h1 ha, Option.bind_some, hp]
theorem store3_ptr (h0 : -512 ≤ x) (h1 : x ≤ -8) (ha : x + 512 = (a : Int)) (h8 : a % 8 = 0) (hT : ∀ s, T s = 0) :
    m_region_Mem_Store_v3 8 ⟨4, 0#64, 3, 0⟩ x B W P T G B2 W2 P2 T2 G2 = some (.e0 B (updF W (a / 8) 0#8) (updF P (a / 8) ⟨4, 0#64, 3, 0⟩) T G 0) := by
  have hs : okSize ((8 : Nat) : Int) := .inr (.inr (.inr rfl))
  have hc := can_yes (B := B) (W := W) (P := P) (G := G) (show a + 8 ≤ 512 by omega) (by omega) (fun s _ _ => hT s)
  have hf := find5 (n := 8) (B := B) (W := W) (P := P) (T := T) (G := G) (B2 := B2) (W2 := W2) (P2 := P2) (T2 := T2) (G2 := G2) hs h0 h1 ha
  have hc' : m_region_frame_can_v1 (a : Int) 8 B W P T G = some (.e0 0) := hc
  have hf' : m_region_Mem_find_v5 8 x B W P T G B2 W2 P2 T2 G2 = some (.e0 (a : Int)) := hf
  simp only [m_region_Mem_Store_v3, show ((4 : Int) == 0) = false from rfl, cond_false, rightSize_is (.inr (.inr (.inr rfl)) : okSize 8), cond_true, hf', Option.bind_some, m_region_frame_store_v1, hc', show ((0 : Int) == 0) = true from rfl, show ((4 : Int) == 1) = false from rfl, show ((8 : Int) == 8) = true from rfl, zr, h8, show ((((0 : Nat) : Int)) == 0) = true from rfl,
    zq (a := a) (by omega), inR_nat' (show a / 8 < 64 by omega), Int.toNat_natCast]
theorem store3_spill (hs : okSize (n : Int)) (h0 : -512 ≤ x) (h1 : x ≤ -8) (ha : x + 512 = (a : Int)) (hn : ¬ (n = 8 ∧ a % 8 = 0)) (hT : ∀ s, T s = 0) :
    m_region_Mem_Store_v3 (n : Int) ⟨4, 0#64, 3, 0⟩ x B W P T G B2 W2 P2 T2 G2 = some (.e0 B W P T G 6) := by
  have hl := hs.lo
  have hc := can_yes (B := B) (W := W) (P := P) (G := G) (show a + n ≤ 512 by omega) (by omega) (fun s _ _ => hT s)
  simp only [m_region_Mem_Store_v3, show ((4 : Int) == 0) = false from rfl, cond_false, rightSize_is hs, cond_true, find5 hs h0 h1 ha, Option.bind_some, m_region_frame_store_v1, hc, show ((0 : Int) == 0) = true from rfl, show ((4 : Int) == 1) = false from rfl, zr]
  by_cases h8 : n = 8
  · have hz : ((((a % 8 : Nat) : Int)) == 0) = false := beq_f (by omega)
    simp only [hz, cond_false]
    cases ((n : Int) == 8) <;> rfl
  · simp only [beq_f (show (n : Int) ≠ 8 by omega), cond_false]
    rfl
theorem load4_of (hs : okSize (n : Int)) (h0 : -512 ≤ x) (h1 : x ≤ -8) (ha : x + 512 = (a : Int)) {k : Int} {v : BitVec 64} {i o t : Int} (h : m_region_frame_load_v2 (a : Int) (n : Int) B W P T G = some (.e0 k v i o t)) :
    m_region_Mem_Load_v4 (n : Int) x B W P T G B2 W2 P2 T2 G2 = some (.e0 k v i o t) := by
  simp only [m_region_Mem_Load_v4, rightSize_is hs, cond_true, find5 hs h0 h1 ha, Option.bind_some, h]
theorem load5_of (hs : okSize (n : Int)) (h0 : -512 ≤ x) (h1 : x ≤ -8) (ha : x + 512 = (a : Int)) {k : Int} {v : BitVec 64} {i o t : Int} (h : m_region_frame_load_v2 (a : Int) (n : Int) B2 W2 P2 T2 G2 = some (.e0 k v i o t)) :
    m_region_Mem_Load_v5 (n : Int) x B W P T G B2 W2 P2 T2 G2 = some (.e0 k v i o t) := by
  simp only [m_region_Mem_Load_v5, rightSize_is hs, cond_true, find6 hs h0 h1 ha, Option.bind_some, h]
end
theorem zrem_iff {x : Int} {a : Nat} (h : x + 512 = (a : Int)) : zrem x 8 = 0 ↔ a % 8 = 0 := by
  unfold zrem
  rw [← Int.dvd_iff_tmod_eq_zero]
  omega
/-- Of a frame as it is at first nothing is read. -/
theorem fresh_load {a n : Nat} (h : a + n ≤ 512) (h1 : 1 ≤ n) : m_region_frame_load_v2 (a : Int) (n : Int) (fun _ => 0#8) (fun _ => 0#8) (fun _ => (⟨0, 0#64, 0, 0⟩ : Val)) (fun _ => 0) (fun _ => false) = some (.e0 0 0#64 0 0 1) :=
  fload_no h h1 (fun _ _ _ => rfl) (fun _ _ _ => rfl) ⟨a, by omega, by omega, by unfold wb; simp⟩
theorem keeps_bounds {y0 y1 y2 y3 : Int} (h : jp_barbicanlaw8_RegionKeeps_J0 y0 y1 y2 y3 = false) : -512 ≤ y0 ∧ y0 ≤ -8 ∧ -512 ≤ y1 ∧ y1 ≤ -8 ∧ okSize y2 ∧ okSize y3 := by
  have e3 : ∀ z : Int, (bif z == 1 then false else (bif z == 2 then false else (bif z == 4 then false else (bif z == 8 then false else true)))) = false → okSize z := by
    intro z hz
    simp only [cond_eq_ite, beq_iff_eq] at hz
    unfold okSize
    split at hz
    · omega
    split at hz
    · omega
    split at hz
    · omega
    split at hz
    · omega
    · cases hz
  unfold jp_barbicanlaw8_RegionKeeps_J0 at h
  by_cases c1 : y0 < -512
  · rw [d_t c1] at h; cases h
  by_cases c2 : y1 < -512
  · rw [d_f c1, d_t c2] at h; cases h
  by_cases c3 : -8 < y0
  · rw [d_f c1, d_f c2, d_t c3] at h; cases h
  by_cases c4 : -8 < y1
  · rw [d_f c1, d_f c2, d_f c3, d_t c4] at h; cases h
  rw [d_f c1, d_f c2, d_f c3, d_f c4] at h
  simp only [cond_false] at h
  refine ⟨by omega, by omega, by omega, by omega, ?_⟩
  unfold okSize
  by_cases q1 : y2 = 1
  · subst q1; exact ⟨.inl rfl, e3 _ h⟩
  by_cases q2 : y2 = 2
  · subst q2; exact ⟨.inr (.inl rfl), e3 _ h⟩
  by_cases q4 : y2 = 4
  · subst q4; exact ⟨.inr (.inr (.inl rfl)), e3 _ h⟩
  by_cases q8 : y2 = 8
  · subst q8; exact ⟨.inr (.inr (.inr rfl)), e3 _ h⟩
  rw [beq_f q1, beq_f q2, beq_f q4, beq_f q8] at h
  cases h
theorem fload_ptr {a : Nat} {B W : Nat → BitVec 8} {P : Nat → Val} {T : Nat → Int} {G : Nat → Bool} (h : a + 8 ≤ 512) (h8 : a % 8 = 0) (hT : T (a / 8) = 0) (hP : P (a / 8) = ⟨4, 0#64, 3, 0⟩) : m_region_frame_load_v2 (a : Int) ((8 : Nat) : Int) B W P T G = some (.e0 4 0#64 3 0 0) := by
  simp only [m_region_frame_load_v2, zr, h8, show ((((0 : Nat) : Int)) == 0) = true from rfl, show ((((8 : Nat) : Int)) == 8) = true from rfl, cond_true, zq (a := a) (by omega), inR_nat' (show a / 8 < 64 by omega), Int.toNat_natCast, hT, show ((0 : Int) == 0) = true from rfl, hP, show ((4 : Int) == 0) = false from rfl, cond_false]
/-- What stands at the end: read again as it was written; the other frame is empty. -/
structure Last (a n : Nat) (y : BitVec 64) (B W : Nat → BitVec 8) (P : Nat → Val) (T : Nat → Int) : Prop where
  tags : ∀ s, a / 8 ≤ s → s ≤ (a + n - 1) / 8 → T s = 0
  kinds : ∀ s, a / 8 ≤ s → s ≤ (a + n - 1) / 8 → (P s).fKind = 0
  all : ∀ j, a ≤ j → j < a + n → wb W j
  bytes : ∀ k, k < n → B (a + k) = bytesOf y k
theorem tch_iff {a n s : Nat} (h : 1 ≤ n) : tch a n s ↔ a / 8 ≤ s ∧ s ≤ (a + n - 1) / 8 := by unfold tch; omega
theorem PutOk.last {a n : Nat} {y : BitVec 64} {B W : Nat → BitVec 8} {P : Nat → Val} {T : Nat → Int} {G : Nat → Bool} {B' W' : Nat → BitVec 8} {P' : Nat → Val} {T' : Nat → Int} {G' : Nat → Bool} (h : PutOk a n (bytesOf y) B W P T G B' W' P' T' G') (hn : 1 ≤ n) (hT : ∀ s, T s = 0) : Last a n y B' W' P' T' := by
  refine ⟨fun s h1 h2 => ?_, fun s h1 h2 => h.kind s ((tch_iff hn).2 ⟨h1, h2⟩), fun j h1 h2 => (h.wr j).2 (.inl ⟨h1, h2⟩), fun k hk => ?_⟩
  · by_cases hk : (P s).fKind = 0
    · rw [(h.keepT s (fun hh => hh.2 hk)).1, hT]
    · exact h.zeroT s ((tch_iff hn).2 ⟨h1, h2⟩) hk
  · rw [h.bytes, if_pos (by omega)]
    congr 1
    omega
theorem Last.load {a n : Nat} {y : BitVec 64} {B W : Nat → BitVec 8} {P : Nat → Val} {T : Nat → Int} {G : Nat → Bool} (h : Last a n y B W P T) (h1 : a + n ≤ 512) (hn : 1 ≤ n) (h8 : n ≤ 8) : m_region_frame_load_v2 (a : Int) (n : Int) B W P T G = some (.e0 1 (numv (bytesOf y) n) 0 0 0) := by
  rw [fload_yes h1 hn h8 h.tags h.kinds h.all, numv_congr h.bytes]
section
variable {y0 y1 : Int} {a0 n0 a1 n1 : Nat} {y4 y5 : BitVec 64}
theorem ptr_case (h0 : -512 ≤ y0) (h1 : y0 ≤ -8) (ha0 : y0 + 512 = (a0 : Int)) (g0 : -512 ≤ y1) (g1 : y1 ≤ -8) (ha1 : y1 + 512 = (a1 : Int)) (s0 : okSize (n0 : Int)) (s1 : okSize (n1 : Int))
    (hJ : jp_barbicanlaw8_RegionKeeps_J0 y0 y1 (n0 : Int) (n1 : Int) = false) : m_barbicanlaw8_RegionKeeps y0 y1 (n0 : Int) (n1 : Int) y4 y5 true = some true := by
  have hl0 := s0.lo
  have hl1 := s1.lo
  have z0 : ((0 : Int) == 0) = true := rfl
  unfold m_barbicanlaw8_RegionKeeps bindT
  simp only [hJ, cond_false, cond_true]
  by_cases hal : n0 = 8 ∧ a0 % 8 = 0
  · obtain ⟨rfl, h8⟩ := hal
    have hz : zrem y0 8 = 0 := (zrem_iff ha0).2 h8
    have hj1 : jp_barbicanlaw8_RegionKeeps_J1 y0 ((8 : Nat) : Int) = false := by
      simp only [jp_barbicanlaw8_RegionKeeps_J1, show ((((8 : Nat) : Int)) == 8) = true from rfl, cond_true, hz, z0]
    have st1 := store3_ptr (B := fun _ => 0#8) (W := fun _ => 0#8) (P := fun _ => (⟨0, 0#64, 0, 0⟩ : Val)) (T := fun _ => 0) (G := fun _ => false) (B2 := fun _ => 0#8) (W2 := fun _ => 0#8) (P2 := fun _ => (⟨0, 0#64, 0, 0⟩ : Val)) (T2 := fun _ => 0) (G2 := fun _ => false) h0 h1 ha0 h8 (fun _ => rfl)
    obtain ⟨B', W', P', T', G', st2, hok⟩ := store3_num (B := fun _ => 0#8) (W := updF (fun _ => 0#8) (a0 / 8) 0#8) (P := updF (fun _ => (⟨0, 0#64, 0, 0⟩ : Val)) (a0 / 8) ⟨4, 0#64, 3, 0⟩) (T := fun _ => 0) (G := fun _ => false) (B2 := fun _ => 0#8) (W2 := fun _ => 0#8) (P2 := fun _ => (⟨0, 0#64, 0, 0⟩ : Val)) (T2 := fun _ => 0) (G2 := fun _ => false) s1 g0 g1 ha1 (fun _ => rfl) y5
    have st1' : m_region_Mem_Store_v3 ((8 : Nat) : Int) ⟨4, 0#64, 3, 0⟩ y0 (fun _ => 0#8) (fun _ => 0#8) (fun _ => (⟨0, 0#64, 0, 0⟩ : Val)) (fun _ => 0) (fun _ => false) (fun _ => 0#8) (fun _ => 0#8) (fun _ => (⟨0, 0#64, 0, 0⟩ : Val)) (fun _ => 0) (fun _ => false) = _ := st1
    have hJ2 : jp_barbicanlaw8_RegionKeeps_J2 y0 y1 ((8 : Nat) : Int) (n1 : Int) y5 = some (.e0 B' W' P' T' G' false) := by
      unfold jp_barbicanlaw8_RegionKeeps_J2
      rw [st1']
      simp only [Option.bind_some, z0, cond_true, st2]
    have hlast := hok.last (by omega) (fun _ => rfl)
    have hq : ∀ B2 W2 P2 T2 G2, m_region_Mem_Load_v4 (n1 : Int) y1 B' W' P' T' G' B2 W2 P2 T2 G2 = some (.e0 1 (numv (bytesOf y5) n1) 0 0 0) := fun B2 W2 P2 T2 G2 => load4_of s1 g0 g1 ha1 (hlast.load (by omega) (by omega) (by omega))
    have hg : m_region_Mem_Load_v5 ((8 : Nat) : Int) y0 B' W' P' T' G' (fun _ => 0#8) (fun _ => 0#8) (fun _ => (⟨0, 0#64, 0, 0⟩ : Val)) (fun _ => 0) (fun _ => false) = some (.e0 0 0#64 0 0 1) := load5_of s0 h0 h1 ha0 (fresh_load (by omega) (by omega))
    have e3 : IntKind.i64.wrap (8 * (n1 : Int)) = ((8 * n1 : Nat) : Int) := by rw [wr] <;> omega
    have e5 : IntKind.i64.wrap (y0 + ((8 : Nat) : Int)) = y0 + 8 := by rw [wr] <;> omega
    have e6 : IntKind.i64.wrap (y1 + (n1 : Int)) = y1 + n1 := by rw [wr] <;> omega
    -- what the first load tells
    have hfirst : ∃ k v i o t, m_region_frame_load_v2 (a0 : Int) ((8 : Nat) : Int) B' W' P' T' G' = some (.e0 k v i o t) ∧ ((y0 + 8 ≤ y1 ∨ y1 + n1 ≤ y0) → k = 4 ∧ v = 0#64 ∧ i = 3 ∧ o = 0 ∧ t = 0) ∧ (¬ (y0 + 8 ≤ y1 ∨ y1 + n1 ≤ y0) → t = 0 → k = 1 ∧ n1 = 8) := by
      by_cases hd : y0 + 8 ≤ y1 ∨ y1 + n1 ≤ y0
      · have hnt : ¬ tch a1 n1 (a0 / 8) := by unfold tch; omega
        refine ⟨_, _, _, _, _, fload_ptr (by omega) h8 (by rw [(hok.keepT _ (fun hh => hnt hh.1)).1]) (by rw [hok.keepP _ (fun hh => hnt hh.1), updF_at]), fun _ => ⟨rfl, rfl, rfl, rfl, rfl⟩, fun h => absurd hd h⟩
      · have ht : tch a1 n1 (a0 / 8) := by unfold tch; omega
        have hk4 : (updF (fun _ => (⟨0, 0#64, 0, 0⟩ : Val)) (a0 / 8) ⟨4, 0#64, 3, 0⟩ (a0 / 8)).fKind ≠ 0 := by rw [updF_at]; decide
        have hT0 : T' (a0 / 8) = 0 := hok.zeroT _ ht hk4
        have hP0 : (P' (a0 / 8)).fKind = 0 := hok.kind _ ht
        have hT : ∀ s, a0 / 8 ≤ s → s ≤ (a0 + 8 - 1) / 8 → T' s = 0 := fun s q1 q2 => by
          obtain rfl : s = a0 / 8 := by omega
          exact hT0
        have hP : ∀ s, a0 / 8 ≤ s → s ≤ (a0 + 8 - 1) / 8 → (P' s).fKind = 0 := fun s q1 q2 => by
          obtain rfl : s = a0 / 8 := by omega
          exact hP0
        have hw : ∀ j, a0 ≤ j → j < a0 + 8 → (wb W' j ↔ (a1 ≤ j ∧ j < a1 + n1)) := fun j q1 q2 => by
          rw [hok.wr j]
          have ej : j / 8 = a0 / 8 := by omega
          rw [ej]
          exact ⟨fun h => h.elim id fun h => absurd ⟨ht, hk4⟩ h.2, .inl⟩
        by_cases hall : n1 = 8 ∧ a1 = a0
        · refine ⟨_, _, _, _, _, fload_yes (by omega) (by omega) (by omega) hT hP (fun j q1 q2 => (hw j q1 q2).2 (by omega)), fun h => absurd h hd, fun _ _ => ⟨rfl, hall.1⟩⟩
        · have hsome : ∃ j, a0 ≤ j ∧ j < a0 + 8 ∧ ¬ (a1 ≤ j ∧ j < a1 + n1) := by
            by_cases q : a1 ≤ a0
            · exact ⟨a0 + 7, by omega, by omega, by omega⟩
            · exact ⟨a0, by omega, by omega, by omega⟩
          obtain ⟨j, q1, q2, q3⟩ := hsome
          refine ⟨_, _, _, _, _, fload_no (by omega) (by omega) hT hP ⟨j, q1, q2, fun h => q3 ((hw j q1 q2).1 h)⟩, fun h => absurd h hd, fun _ h => absurd h (by omega)⟩
    obtain ⟨k, v, i, o, t, hf, hf1, hf2⟩ := hfirst
    have hp : ∀ B2 W2 P2 T2 G2, m_region_Mem_Load_v4 ((8 : Nat) : Int) y0 B' W' P' T' G' B2 W2 P2 T2 G2 = some (.e0 k v i o t) := fun B2 W2 P2 T2 G2 => load4_of s0 h0 h1 ha0 hf
    have hJ34 : jp_barbicanlaw8_RegionKeeps_J4 ((8 : Nat) : Int) (n1 : Int) true k v i o t (jp_barbicanlaw8_RegionKeeps_J3 y0 y1 ((8 : Nat) : Int) (n1 : Int)) = some (.e0 0#64) := by
      have hd : jp_barbicanlaw8_RegionKeeps_J3 y0 y1 ((8 : Nat) : Int) (n1 : Int) = decide (y0 + 8 ≤ y1 ∨ y1 + n1 ≤ y0) := by
        simp only [jp_barbicanlaw8_RegionKeeps_J3, e5, e6]
        by_cases c1 : y0 + 8 ≤ y1
        · rw [d_t c1, d_t (p := y0 + 8 ≤ y1 ∨ y1 + n1 ≤ y0) (.inl c1)]; rfl
        · by_cases c2 : y1 + n1 ≤ y0
          · rw [d_f c1, d_t c2, d_t (p := y0 + 8 ≤ y1 ∨ y1 + n1 ≤ y0) (.inr c2)]; rfl
          · rw [d_f c1, d_f c2, d_f (p := y0 + 8 ≤ y1 ∨ y1 + n1 ≤ y0) (by omega)]; rfl
      rw [hd]
      by_cases c : y0 + 8 ≤ y1 ∨ y1 + n1 ≤ y0
      · obtain ⟨rfl, rfl, rfl, rfl, rfl⟩ := hf1 c
        rw [d_t c]
        rfl
      · rw [d_f c]
        have hj : jp_barbicanlaw8_RegionKeeps_J4_J3 (n1 : Int) true k t = false := by
          simp only [jp_barbicanlaw8_RegionKeeps_J4_J3, cond_true]
          by_cases ht : t = 0
          · obtain ⟨rfl, rfl⟩ := hf2 c ht
            subst ht
            rfl
          · rw [beq_f ht]; rfl
        simp only [jp_barbicanlaw8_RegionKeeps_J4, cond_false, bindT, hj]
    rw [hj1]
    simp only [cond_false, hJ2, Option.bind_some, hp, hJ34, hq]
    by_cases q8 : n1 < 8
    · simp only [d_t (p := (n1 : Int) < 8) (by omega), cond_true, e3, d_t (p := (0 : Int) ≤ ((8 * n1 : Nat) : Int)) (by omega), Int.toNat_natCast, one_ne q8, cond_false, hg, Option.bind_some, z0, show ((1 : Int) == 1) = true from rfl, numv_some y5 q8, beq_self_eq_true, Bool.true_and, Bool.and_true]
    · obtain rfl : n1 = 8 := by omega
      simp only [d_f (p := (((8 : Nat) : Int)) < 8) (by omega), cond_false, hg, Option.bind_some, z0, cond_true, show ((1 : Int) == 1) = true from rfl, numv_all, beq_self_eq_true, Bool.true_and, Bool.and_true]
  · have hj1 : jp_barbicanlaw8_RegionKeeps_J1 y0 (n0 : Int) = true := by
      unfold jp_barbicanlaw8_RegionKeeps_J1
      by_cases q : n0 = 8
      · have hz : zrem y0 8 ≠ 0 := fun h => hal ⟨q, (zrem_iff ha0).1 h⟩
        rw [beq_f hz]
        cases ((n0 : Int) == 8) <;> rfl
      · rw [beq_f (show (n0 : Int) ≠ 8 by omega)]; rfl
    have st := store3_spill (B := fun _ => 0#8) (W := fun _ => 0#8) (P := fun _ => (⟨0, 0#64, 0, 0⟩ : Val)) (T := fun _ => 0) (G := fun _ => false) (B2 := fun _ => 0#8) (W2 := fun _ => 0#8) (P2 := fun _ => (⟨0, 0#64, 0, 0⟩ : Val)) (T2 := fun _ => 0) (G2 := fun _ => false) s0 h0 h1 ha0 hal (fun _ => rfl)
    rw [hj1]
    simp only [cond_true, st, Option.bind_some]
    rfl
theorem num_case (h0 : -512 ≤ y0) (h1 : y0 ≤ -8) (ha0 : y0 + 512 = (a0 : Int)) (g0 : -512 ≤ y1) (g1 : y1 ≤ -8) (ha1 : y1 + 512 = (a1 : Int)) (s0 : okSize (n0 : Int)) (s1 : okSize (n1 : Int))
    (hJ : jp_barbicanlaw8_RegionKeeps_J0 y0 y1 (n0 : Int) (n1 : Int) = false) : m_barbicanlaw8_RegionKeeps y0 y1 (n0 : Int) (n1 : Int) y4 y5 false = some true := by
  have hl0 := s0.lo
  have hl1 := s1.lo
  have z0 : ((0 : Int) == 0) = true := rfl
  have z1 : ((1 : Int) == 1) = true := rfl
  unfold m_barbicanlaw8_RegionKeeps bindT
  simp only [hJ, cond_false]
  obtain ⟨B1, W1, P1, T1, G1, st1, hok1⟩ := store3_num (B := fun _ => 0#8) (W := fun _ => 0#8) (P := fun _ => (⟨0, 0#64, 0, 0⟩ : Val)) (T := fun _ => 0) (G := fun _ => false) (B2 := fun _ => 0#8) (W2 := fun _ => 0#8) (P2 := fun _ => (⟨0, 0#64, 0, 0⟩ : Val)) (T2 := fun _ => 0) (G2 := fun _ => false) s0 h0 h1 ha0 (fun _ => rfl) y4
  have hT1 : ∀ s, T1 s = 0 := fun s => (hok1.keepT s (fun hh => hh.2 rfl)).1
  have hP1 : ∀ s, (P1 s).fKind = 0 := fun s => by rw [hok1.keepP s (fun hh => hh.2 rfl)]
  obtain ⟨B', W', P', T', G', st2, hok⟩ := store3_num (B := B1) (W := W1) (P := P1) (T := T1) (G := G1) (B2 := fun _ => 0#8) (W2 := fun _ => 0#8) (P2 := fun _ => (⟨0, 0#64, 0, 0⟩ : Val)) (T2 := fun _ => 0) (G2 := fun _ => false) s1 g0 g1 ha1 hT1 y5
  have hT2 : ∀ s, T' s = 0 := fun s => by rw [(hok.keepT s (fun hh => hh.2 (hP1 s))).1, hT1]
  have hP2 : ∀ s, (P' s).fKind = 0 := fun s => by rw [hok.keepP s (fun hh => hh.2 (hP1 s)), hP1]
  have hw0 : ∀ j, a0 ≤ j → j < a0 + n0 → wb W' j := fun j q1 q2 => (hok.wr j).2 (.inr ⟨(hok1.wr j).2 (.inl ⟨q1, q2⟩), fun hh => hh.2 (hP1 _)⟩)
  have hJ5 : jp_barbicanlaw8_RegionKeeps_J5 y0 y1 (n0 : Int) (n1 : Int) y4 y5 = some (.e0 B' W' P' T' G' false) := by
    unfold jp_barbicanlaw8_RegionKeeps_J5
    rw [st1]
    simp only [Option.bind_some, z0, cond_true, st2]
  have hlast := hok.last (by omega) hT1
  have hq : ∀ B2 W2 P2 T2 G2, m_region_Mem_Load_v4 (n1 : Int) y1 B' W' P' T' G' B2 W2 P2 T2 G2 = some (.e0 1 (numv (bytesOf y5) n1) 0 0 0) := fun B2 W2 P2 T2 G2 => load4_of s1 g0 g1 ha1 (hlast.load (by omega) (by omega) (by omega))
  have hg : m_region_Mem_Load_v5 (n0 : Int) y0 B' W' P' T' G' (fun _ => 0#8) (fun _ => 0#8) (fun _ => (⟨0, 0#64, 0, 0⟩ : Val)) (fun _ => 0) (fun _ => false) = some (.e0 0 0#64 0 0 1) := load5_of s0 h0 h1 ha0 (fresh_load (by omega) (by omega))
  have hp : ∀ B2 W2 P2 T2 G2, m_region_Mem_Load_v4 (n0 : Int) y0 B' W' P' T' G' B2 W2 P2 T2 G2 = some (.e0 1 (numv (fun k => B' (a0 + k)) n0) 0 0 0) := fun B2 W2 P2 T2 G2 => load4_of s0 h0 h1 ha0 (fload_yes (by omega) (by omega) (by omega) (fun s _ _ => hT2 s) (fun s _ _ => hP2 s) hw0)
  have e3 : IntKind.i64.wrap (8 * (n1 : Int)) = ((8 * n1 : Nat) : Int) := by rw [wr] <;> omega
  have e4 : IntKind.i64.wrap (8 * (n0 : Int)) = ((8 * n0 : Nat) : Int) := by rw [wr] <;> omega
  have e5 : IntKind.i64.wrap (y0 + (n0 : Int)) = y0 + n0 := by rw [wr] <;> omega
  have e6 : IntKind.i64.wrap (y1 + (n1 : Int)) = y1 + n1 := by rw [wr] <;> omega
  have hJ67 : ∃ u, jp_barbicanlaw8_RegionKeeps_J7 (n0 : Int) (n1 : Int) y4 false 1 (numv (fun k => B' (a0 + k)) n0) 0 0 0 (jp_barbicanlaw8_RegionKeeps_J6 y0 y1 (n0 : Int) (n1 : Int)) = some (.e0 u) := by
    have hd : jp_barbicanlaw8_RegionKeeps_J6 y0 y1 (n0 : Int) (n1 : Int) = decide (y0 + n0 ≤ y1 ∨ y1 + n1 ≤ y0) := by
      simp only [jp_barbicanlaw8_RegionKeeps_J6, e5, e6]
      by_cases c1 : y0 + n0 ≤ y1
      · rw [d_t c1, d_t (p := y0 + n0 ≤ y1 ∨ y1 + n1 ≤ y0) (.inl c1)]; rfl
      · by_cases c2 : y1 + n1 ≤ y0
        · rw [d_f c1, d_t c2, d_t (p := y0 + n0 ≤ y1 ∨ y1 + n1 ≤ y0) (.inr c2)]; rfl
        · rw [d_f c1, d_f c2, d_f (p := y0 + n0 ≤ y1 ∨ y1 + n1 ≤ y0) (by omega)]; rfl
    rw [hd]
    by_cases c : y0 + n0 ≤ y1 ∨ y1 + n1 ≤ y0
    · have hb : numv (fun k => B' (a0 + k)) n0 = numv (bytesOf y4) n0 := numv_congr fun k hk => by
        rw [hok.bytes, if_neg (by omega), hok1.bytes, if_pos (by omega)]
        congr 1
        omega
      rw [d_t c, hb]
      by_cases q8 : n0 < 8
      · refine ⟨y4 % (1#64 <<< (8 * n0)), ?_⟩
        simp only [jp_barbicanlaw8_RegionKeeps_J7, cond_true, bindT, jp_barbicanlaw8_RegionKeeps_J7_J0, cond_false, d_t (p := (n0 : Int) < 8) (by omega), e4, d_t (p := (0 : Int) ≤ ((8 * n0 : Nat) : Int)) (by omega), Int.toNat_natCast, one_ne q8, jp_barbicanlaw8_RegionKeeps_J7_J1, z0, z1, numv_some y4 q8, beq_self_eq_true, Bool.true_and, Bool.and_true]
      · obtain rfl : n0 = 8 := by omega
        refine ⟨y4, ?_⟩
        simp only [jp_barbicanlaw8_RegionKeeps_J7, cond_true, bindT, jp_barbicanlaw8_RegionKeeps_J7_J0, cond_false, d_f (p := (((8 : Nat) : Int)) < 8) (by omega), jp_barbicanlaw8_RegionKeeps_J7_J2, z0, z1, numv_all, beq_self_eq_true, Bool.true_and, Bool.and_true]
    · rw [d_f c]
      exact ⟨y4, rfl⟩
  obtain ⟨u, hu⟩ := hJ67
  simp only [cond_false, hJ5, Option.bind_some, hp, hu, hq]
  by_cases q8 : n1 < 8
  · simp only [d_t (p := (n1 : Int) < 8) (by omega), cond_true, e3, d_t (p := (0 : Int) ≤ ((8 * n1 : Nat) : Int)) (by omega), Int.toNat_natCast, one_ne q8, cond_false, hg, Option.bind_some, z0, z1, numv_some y5 q8, beq_self_eq_true, Bool.true_and, Bool.and_true]
  · obtain rfl : n1 = 8 := by omega
    simp only [d_f (p := (((8 : Nat) : Int)) < 8) (by omega), cond_false, hg, Option.bind_some, z0, cond_true, z1, numv_all, beq_self_eq_true, Bool.true_and, Bool.and_true]
end
theorem keeps_true (y0 y1 y2 y3 : Int) (y4 y5 : BitVec 64) (y6 : Bool) : m_barbicanlaw8_RegionKeeps y0 y1 y2 y3 y4 y5 y6 = some true := by
  cases hJ : jp_barbicanlaw8_RegionKeeps_J0 y0 y1 y2 y3 with
  | true => unfold m_barbicanlaw8_RegionKeeps bindT; rw [hJ]; rfl
  | false =>
    obtain ⟨h0, h1, g0, g1, s0, s1⟩ := keeps_bounds hJ
    have l0 := s0.lo
    have l1 := s1.lo
    obtain ⟨n0, rfl⟩ := Int.eq_ofNat_of_zero_le (show 0 ≤ y2 by omega)
    obtain ⟨n1, rfl⟩ := Int.eq_ofNat_of_zero_le (show 0 ≤ y3 by omega)
    obtain ⟨a0, ha0⟩ : ∃ a : Nat, y0 + 512 = (a : Int) := ⟨(y0 + 512).toNat, by omega⟩
    obtain ⟨a1, ha1⟩ : ∃ a : Nat, y1 + 512 = (a : Int) := ⟨(y1 + 512).toNat, by omega⟩
    cases y6 with
    | true => exact ptr_case h0 h1 ha0 g0 g1 ha1 s0 s1 hJ
    | false => exact num_case h0 h1 ha0 g0 g1 ha1 s0 s1 hJ
end Go.Proofs.Ytfmpmhafilllpaa
