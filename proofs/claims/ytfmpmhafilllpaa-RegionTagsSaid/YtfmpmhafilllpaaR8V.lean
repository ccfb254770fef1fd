/-
  Memory: the law on tags.
-/
import Derived.Test.YtfmpmhafilllpaaR8U
namespace Go.Proofs.Ytfmpmhafilllpaa
open Go.RowKit
set_option linter.unusedVariables false
set_option linter.unusedSimpArgs false
section
variable {a n : Nat} {B W : Nat → BitVec 8} {P : Nat → Val} {T : Nat → Int} {G : Nat → Bool}
theorem find_num {x s : Int} (hs : okSize s) (h0 : -512 ≤ x) (h1 : x ≤ -8) (ha : x + 512 = (a : Int)) : m_region_Mem_find_v4 s x B W P T G = some (.e0 (a : Int)) := by
  have hl := hs.lo
  have e : IntKind.i64.wrap (x - (-512)) = (a : Int) := by rw [wr] <;> omega
  simp only [m_region_Mem_find_v4, inside_ft (x := x) (s := s) ⟨by omega, by omega⟩ h0 (by omega), cond_true, beq_f (show s ≠ 0 by omega), cond_false, e]
theorem mstore_num {x s : Int} (hs : okSize s) (h0 : -512 ≤ x) (h1 : x ≤ -8) (ha : x + 512 = (a : Int)) (hn : s = (n : Int)) (hT : ∀ s, a / 8 ≤ s → s ≤ (a + n - 1) / 8 → T s = 0) (y : BitVec 64) :
    ∃ B' W' P' T' G', m_region_Mem_Store_v2 s ⟨1, y, 0, 0⟩ x B W P T G = some (.e0 B' W' P' T' G' 0) ∧ PutOk a n (bytesOf y) B W P T G B' W' P' T' G' := by
  have hl := hs.lo
  obtain ⟨B', W', P', T', G', hp, hok⟩ := fstore_num (B := B) (W := W) (P := P) (G := G) (show a + n ≤ 512 by omega) (by omega) (by omega) hT y
  refine ⟨B', W', P', T', G', ?_, hok⟩
  subst hn
  simp only [m_region_Mem_Store_v2, show ((1 : Int) == 0) = false from rfl, cond_false, rightSize_is hs, cond_true, find_num hs h0 h1 ha, Option.bind_some, hp]
theorem mstore_tag {x s : Int} (hs : okSize s) (h0 : -512 ≤ x) (h1 : x ≤ -8) (ha : x + 512 = (a : Int)) (hn : s = (n : Int)) (hT : ∃ s, a / 8 ≤ s ∧ s ≤ (a + n - 1) / 8 ∧ T s ≠ 0) (y : BitVec 64) :
    m_region_Mem_Store_v2 s ⟨1, y, 0, 0⟩ x B W P T G = some (.e0 B W P T G 14) := by
  have hl := hs.lo
  have hp := fstore_tag (B := B) (W := W) (P := P) (G := G) (show a + n ≤ 512 by omega) (by omega) hT ⟨1, y, 0, 0⟩
  subst hn
  simp only [m_region_Mem_Store_v2, show ((1 : Int) == 0) = false from rfl, cond_false, rightSize_is hs, cond_true, find_num hs h0 h1 ha, Option.bind_some, hp]
end
theorem tags_true (x to s tag : Int) : m_barbicanlaw8_RegionTags x to s tag = some true := by
  unfold m_barbicanlaw8_RegionTags bindT
  cases hJ : jp_barbicanlaw8_RegionTags_J0 x to s tag with
  | true => rfl
  | false =>
    have hb : -64 ≤ x ∧ x ≤ -2 ∧ -512 ≤ to ∧ to ≤ -8 ∧ tag ≠ 0 ∧ okSize s := by
      unfold jp_barbicanlaw8_RegionTags_J0 at hJ
      simp only [cond_eq_ite, decide_eq_true_eq, beq_iff_eq] at hJ
      unfold okSize
      split at hJ
      · cases hJ
      split at hJ
      · cases hJ
      split at hJ
      · cases hJ
      split at hJ
      · cases hJ
      split at hJ
      · cases hJ
      refine ⟨by omega, by omega, by omega, by omega, by assumption, ?_⟩
      split at hJ
      · omega
      split at hJ
      · omega
      split at hJ
      · omega
      split at hJ
      · omega
      · cases hJ
    obtain ⟨h0, h1, h2, h3, ht, hs⟩ := hb
    have hl := hs.lo
    obtain ⟨p, hp⟩ : ∃ p : Nat, x + 64 = (p : Int) := ⟨(x + 64).toNat, by omega⟩
    have hA : AtP x p := ⟨by omega, by omega⟩
    obtain ⟨a, ha⟩ : ∃ a : Nat, to + 512 = (a : Int) := ⟨(to + 512).toNat, by omega⟩
    obtain ⟨n, hn⟩ : ∃ n : Nat, s = (n : Int) := ⟨s.toNat, by omega⟩
    have e8 : IntKind.i64.wrap (8 * x) = 8 * x := by rw [wr] <;> omega
    have hz : ((0 : Int) == 0) = true := rfl
    have h14 : ((14 : Int) == 14) = true := rfl
    have hJ1 : jp_barbicanlaw8_RegionTags_J1 x tag = some (.e0 (two (fun _ => 0#8) p 0#8) (two (fun _ => zeroV) p zeroV) (tagT (fun _ => 0) p tag) (updF (two (fun _ => false) p false) p true) false) := by
      unfold jp_barbicanlaw8_RegionTags_J1
      have m1 := mark_yes (B := fun _ => 0#8) (W := fun _ => 0#8) (P := fun _ => zeroV) (T := fun _ => 0) (G := fun _ => false) hA ht rfl rfl
      have m2 := mark_no (B := fun _ => 0#8) (W := two (fun _ => 0#8) p 0#8) (P := two (fun _ => zeroV) p zeroV) (T := tagT (fun _ => 0) p tag) (G := updF (two (fun _ => false) p false) p true) hA ht (by rw [tagT_at]; exact ht)
      have m1' : m_region_Mem_Mark tag (8 * x) (fun _ => 0#8) (fun _ => 0#8) (fun _ => (⟨0, 0#64, 0, 0⟩ : Val)) (fun _ => 0) (fun _ => false) = _ := m1
      simp only [e8, m1', Option.bind_some, hz, cond_true, m2, h14]
    have hG : ∀ G : Nat → Bool, G = updF (two (fun _ => false) p false) p true → G p = true := fun G h => by rw [h, updF_at]
    simp only [cond_false, hJ1, Option.bind_some, e8, tag_is hA, hG _ rfl, cond_true, tagT_at]
    have hmeets : jp_barbicanlaw8_RegionTags_J2 x to s = decide (a < 8 * p + 16 ∧ 8 * p < a + n) := by
      have e9 : IntKind.i64.wrap (8 * x + 16) = 8 * x + 16 := by rw [wr] <;> omega
      have e10 : IntKind.i64.wrap (to + s) = to + s := by rw [wr] <;> omega
      simp only [jp_barbicanlaw8_RegionTags_J2, e8, e9, e10]
      by_cases c1 : to < 8 * x + 16
      · by_cases c2 : 8 * x < to + s
        · rw [d_t c1, d_t c2, d_t (p := a < 8 * p + 16 ∧ 8 * p < a + n) (by omega)]; rfl
        · rw [d_t c1, d_f c2, d_f (p := a < 8 * p + 16 ∧ 8 * p < a + n) (by omega)]; rfl
      · rw [d_f c1, d_f (p := a < 8 * p + 16 ∧ 8 * p < a + n) (by omega)]; rfl
    -- what stands behind the store
    have rest : ∀ (B4 W4 : Nat → BitVec 8) (P4 : Nat → Val) (T4 : Nat → Int) (G4 : Nat → Bool), G4 p = true →
        ((jp_barbicanlaw8_RegionTags_J4 x B4 W4 P4 T4 G4).bind fun g6 => match g6 with
          | .e0 g6_0 g6_1 g6_2 g6_3 g6_4 =>
          bif g6_4 then (some false) else ((m_region_Mem_Load_v3 8 (8 * x) B4 g6_0 g6_1 g6_2 g6_3).bind fun g7 => match g7 with
          | .e0 g7_0 g7_1 g7_2 g7_3 g7_4 =>
          bif g7_4 == 1 then ((m_region_Mem_Mark tag (8 * x) B4 g6_0 g6_1 g6_2 g6_3).bind fun g8 => match g8 with
            | .e0 g8_0 g8_1 g8_2 g8_3 g8_4 => some (g8_4 == 0)) else (some false))) = some true := by
      intro B4 W4 P4 T4 G4 hg
      have hJ4 : jp_barbicanlaw8_RegionTags_J4 x B4 W4 P4 T4 G4 = some (.e0 (two W4 p 0#8) (two P4 p zeroV) (two T4 p 0) (two G4 p false) false) := by
        unfold jp_barbicanlaw8_RegionTags_J4
        simp only [e8, clear_yes hA hg, Option.bind_some, hz, cond_true, clear_no hA (G := two G4 p false) (two_at _ _ _), h14]
      have hfind : m_region_Mem_find_v4 8 (8 * x) B4 (two W4 p 0#8) (two P4 p zeroV) (two T4 p 0) (two G4 p false) = some (.e0 ((8 * p : Nat) : Int)) :=
        find_num (.inr (.inr (.inr rfl))) (by omega) (by omega) hA.eq
      have hload : m_region_frame_load_v2 ((8 * p : Nat) : Int) 8 B4 (two W4 p 0#8) (two P4 p zeroV) (two T4 p 0) (two G4 p false) = some (.e0 0 0#64 0 0 1) := by
        have hle := hA.le
        have e1 : 8 * p / 8 = p := by omega
        have e2 : (8 * p + 8 - 1) / 8 = p := by omega
        refine fload_no (a := 8 * p) (n := 8) (by omega) (by omega) (fun s h4 h5 => ?_) (fun s h4 h5 => ?_) ⟨8 * p, by omega, by omega, ?_⟩
        · obtain rfl : s = p := by omega
          exact two_at _ _ _
        · obtain rfl : s = p := by omega
          rw [two_at]; rfl
        · unfold wb
          rw [e1, two_at]
          simp
      have hmk := mark_yes (B := B4) (W := two W4 p 0#8) (P := two P4 p zeroV) (T := two T4 p 0) (G := two G4 p false) hA ht (two_at _ _ _) (two_next _ _ _)
      rw [hJ4]
      simp only [Option.bind_some, cond_false, m_region_Mem_Load_v3, rightSize_is (.inr (.inr (.inr rfl)) : okSize 8), cond_true, hfind, hload, show ((1 : Int) == 1) = true from rfl, hmk, hz]
    by_cases hm : a < 8 * p + 16 ∧ 8 * p < a + n
    · have hst := mstore_tag (B := fun _ => 0#8) (W := two (fun _ => 0#8) p 0#8) (P := two (fun _ => zeroV) p zeroV) (T := tagT (fun _ => 0) p tag) (G := updF (two (fun _ => false) p false) p true) hs h2 h3 ha hn (by
        by_cases hc : a / 8 ≤ p
        · exact ⟨p, hc, by omega, by rw [tagT_at]; exact ht⟩
        · exact ⟨p + 1, by omega, by omega, by rw [tagT_next]; exact ht⟩) 1#64
      have hj3 : jp_barbicanlaw8_RegionTags_J3 tag tag 0 true 14 = false := by
        simp only [jp_barbicanlaw8_RegionTags_J3, hz, cond_true, beq_self_eq_true, h14]; rfl
      simp only [hmeets, d_t hm, hst, Option.bind_some, hj3, cond_false]
      exact rest _ _ _ _ _ (by rw [updF_at])
    · obtain ⟨B', W', P', T', G', hst, hok⟩ := mstore_num (B := fun _ => 0#8) (W := two (fun _ => 0#8) p 0#8) (P := two (fun _ => zeroV) p zeroV) (T := tagT (fun _ => 0) p tag) (G := updF (two (fun _ => false) p false) p true) hs h2 h3 ha hn (by
        intro s' h4 h5
        rw [tagT_ne (by omega) (by omega)]) 1#64
      have hj3 : jp_barbicanlaw8_RegionTags_J3 tag tag 0 false 0 = false := by
        simp only [jp_barbicanlaw8_RegionTags_J3, hz, cond_true, beq_self_eq_true]; rfl
      have hgp : G' p = true := by
        rw [(hok.keepT p (fun hh => hh.2 (by rw [two_at]; rfl))).2, updF_at]
      simp only [hmeets, d_f hm, hst, Option.bind_some, hj3, cond_false]
      exact rest _ _ _ _ _ hgp
end Go.Proofs.Ytfmpmhafilllpaa
