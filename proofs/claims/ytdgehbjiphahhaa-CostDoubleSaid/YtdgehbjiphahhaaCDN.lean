/-
  How long rows of comparisons can be, how short, and how many ways they have.
-/
import Derived.Test.YtdgehbjiphahhaaCDM
import Derived.Test.YtdgehbjiphahhaaCDL
namespace Go.Proofs.Ytdgehbjiphahhaa
open Go.RowKit
set_option linter.unusedVariables false
set_option linter.unusedSimpArgs false
/-- What is kept is what it should be. -/
def Good (V : Nat → Amount) (M : Nat) (B : Nat → Me73) : Prop := ∀ j, j < M → ∃ i : Nat, (B j).fk = (i : Int) ∧ (B j).fv = V i
theorem Good.put {V : Nat → Amount} {M M' a k : Nat} {B : Nat → Me73} (h : Good V M B) (hm : ∀ j, j < M' → j ≠ a → j < M) : Good V M' (updF B a ⟨(k : Int), V k⟩) := by
  intro j hj
  by_cases e : j = a
  · subst e; rw [updF_at]; exact ⟨k, rfl, rfl⟩
  · rw [updF_ne _ _ e]; exact h j (hm j hj e)
theorem Good.nil {V : Nat → Amount} {B : Nat → Me73} : Good V 0 B := fun j hj => by omega
abbrev amt (a : Nat) : Amount := ⟨0#64, BitVec.ofNat 64 a⟩
theorem ofN {a : Nat} (h : a < 18446744073709551616) : (BitVec.ofNat 64 a).toNat = a := by rw [BitVec.toNat_ofNat]; exact Nat.mod_eq_of_lt h
theorem plus_amt {a b : Nat} (h : a + b < 18446744073709551616) : m_cost_amount_plus_v6 (amt a) (amt b) = amt (a + b) := by
  have hc : cy64 (BitVec.ofNat 64 a) (BitVec.ofNat 64 b) 0#64 = 0#64 := by
    unfold cy64
    rw [ofN (by omega), ofN (by omega), show (0#64 : BitVec 64).toNat = 0 from rfl, Nat.add_zero, Nat.div_eq_of_lt h]
  unfold m_cost_amount_plus_v6
  show (⟨0#64 + 0#64 + cy64 (BitVec.ofNat 64 a) (BitVec.ofNat 64 b) 0#64, BitVec.ofNat 64 a + BitVec.ofNat 64 b + 0#64⟩ : Amount) = _
  have e : BitVec.ofNat 64 a + BitVec.ofNat 64 b + 0#64 = BitVec.ofNat 64 (a + b) := by rw [BitVec.add_zero, BitVec.ofNat_add]
  rw [hc, e]
  rfl
theorem less_amt {a b : Nat} (ha : a < 18446744073709551616) (hb : b < 18446744073709551616) : m_cost_amount_less_v2 (amt a) (amt b) = decide (a < b) := by
  unfold m_cost_amount_less_v2
  show BitVec.ult (BitVec.ofNat 64 a) (BitVec.ofNat 64 b) = _
  unfold BitVec.ult
  rw [ofN ha, ofN hb]
theorem cut_amt {a : Nat} (h : a < 18446744073709551616) : m_cost_amount_cut_v3 (amt a) = BitVec.ofNat 64 (min a 9223372036854775807) := by
  unfold m_cost_amount_cut_v3
  show minU (BitVec.ofNat 64 a) 9223372036854775807#64 = _
  unfold minU nn
  rw [ofN h, show (9223372036854775807#64 : BitVec 64).toNat = 9223372036854775807 from rfl]
  split
  · rw [Nat.min_eq_right (by omega)]
  · rw [Nat.min_eq_left (by omega)]
theorem sum_amt {a b : Nat} (h : a + b < 18446744073709551616) : m_cost_sum_v1 (amt a) (amt b) = amt (min (a + b) 9223372036854775807) := by
  unfold m_cost_sum_v1
  show (⟨0#64, m_cost_amount_cut_v3 (m_cost_amount_plus_v6 (amt a) (amt b))⟩ : Amount) = _
  rw [plus_amt h, cut_amt h]
theorem greater_amt {a b : Nat} (ha : a < 18446744073709551616) (h : b ≤ a) : m_cost_greater_v1 (amt a) (amt b) = amt a := by
  unfold m_cost_greater_v1
  rw [less_amt ha (by omega), cf (d_f (by omega))]
theorem lesser_amt {a b : Nat} (ha : a < 18446744073709551616) (h : b < a) : m_cost_lesser_v1 (amt a) (amt b) = amt b := by
  unfold m_cost_lesser_v1
  rw [less_amt (by omega) ha, ct (d_t h)]
theorem walk_v15 {n : Nat} {A : Nat → Insn} (hA : Fam n A) (hn : n ≤ 200) {V : Nat → Amount}
    (hlast : m_cost_amount_plus_v6 (⟨0#64, 0#64⟩ : Amount) (⟨0#64, 1#64⟩ : Amount) = V (2 * n + 1))
    (hone : ∀ k, k % 2 = 0 → k < 2 * n + 1 → m_cost_amount_plus_v6 (V (k + 1)) (⟨0#64, 1#64⟩ : Amount) = V k)
    (htwo : ∀ k, k % 2 = 1 → k + 1 < 2 * n + 1 → m_cost_amount_plus_v6 (m_cost_greater_v1 (V (k + 1)) (V (k + 2))) (⟨0#64, 1#64⟩ : Amount) = V k) :
    ∀ d k f M B, k + d = 2 * n + 1 → d < f → Good V M B → ∃ M' B', m_cost_newWalk_1_v15_F f (k : Int) M B (2 * n + 2) A 0#64 1#64 = some (.e0 M' B' (V k).fhi (V k).flo) ∧ Good V M' B' := by
  intro d
  induction d using Nat.strongRecOn with
  | ind d ih =>
    intro k f M B hk hf hG
    obtain ⟨f, rfl⟩ : ∃ g, f = g + 1 := ⟨f - 1, by omega⟩
    have hkN : k < 2 * n + 2 := by omega
    show ∃ M' B', m_cost_newWalk_1_v15 (k : Int) M B (2 * n + 2) A 0#64 1#64 (m_cost_newWalk_1_v15_F f) = _ ∧ _
    unfold m_cost_newWalk_1_v15
    by_cases hfd : fdx (fun j => ((k : Int) == (B j).fk)) M < M
    · rw [ct (d_t hfd)]
      obtain ⟨i, h1, h2⟩ := hG _ hfd
      have h3 : ((k : Int) == (B (fdx (fun j => ((k : Int) == (B j).fk)) M)).fk) = true := fdx_is hfd
      rw [h1] at h3
      have h4 : (k : Int) = (i : Int) := by simpa using h3
      have h5 : i = k := by omega
      rw [h2, h5]
      exact ⟨_, _, rfl, hG⟩
    · rw [cf (d_f hfd)]
      have hrk : ∃ M' B', m_cost_walk_reckon_v12 (k : Int) 0#64 1#64 (2 * n + 2) A M B (m_cost_newWalk_1_v15_F f) = some (.e0 M' B' (V k).fhi (V k).flo) ∧ Good V M' B' := by
        unfold m_cost_walk_reckon_v12
        have hN := hA.flowNext hn hkN
        generalize m_flow_Next (2 * n + 2) A (k : Int) = nx at hN
        cases hN with
        | none e =>
          rw [Option.bind_some]
          dsimp only
          rw [ct (inR_nat' hkN), Int.toNat_natCast, cf (hA.call hkN)]
          refine ⟨M, B, ?_, hG⟩
          rw [e, ← hlast]
          rfl
        | one e l =>
          obtain ⟨M1, B1, h1, g1⟩ := ih (d - 1) (by omega) (k + 1) f M B (by omega) (by omega) hG
          have s0 : st_cost_walk_reckon_v12_L0 0#64 1#64 (2 * n + 2) A (m_cost_newWalk_1_v15_F f) 1 (fun _ => ((k + 1 : Nat) : Int)) (.c0 M B 0#64 0#64 0) = some (.inl (.c0 M1 B1 (V (k + 1)).fhi (V (k + 1)).flo 1)) := by
            unfold st_cost_walk_reckon_v12_L0
            dsimp only
            rw [ct (d_t (by decide)), ct (inR_iff.2 ⟨by omega, by omega⟩), h1, Option.bind_some]
            rfl
          rw [Option.bind_some]
          dsimp only
          rw [lpO_next s0, lpO_end (r := .e0 M1 B1 (V (k + 1)).fhi (V (k + 1)).flo) rfl, Option.bind_some]
          dsimp only
          rw [ct (inR_nat' hkN), Int.toNat_natCast, cf (hA.call hkN)]
          refine ⟨M1, B1, ?_, g1⟩
          rw [← hone k e l]
          rfl
        | two e l =>
          obtain ⟨M1, B1, h1, g1⟩ := ih (d - 1) (by omega) (k + 1) f M B (by omega) (by omega) hG
          obtain ⟨M2, B2, h2, g2⟩ := ih (d - 2) (by omega) (k + 2) f M1 B1 (by omega) (by omega) g1
          have s0 : st_cost_walk_reckon_v12_L0 0#64 1#64 (2 * n + 2) A (m_cost_newWalk_1_v15_F f) 2 (updF (fun _ => ((k + 1 : Nat) : Int)) 1 ((k + 2 : Nat) : Int)) (.c0 M B 0#64 0#64 0) = some (.inl (.c0 M1 B1 (V (k + 1)).fhi (V (k + 1)).flo 1)) := by
            unfold st_cost_walk_reckon_v12_L0
            dsimp only
            rw [ct (d_t (by decide)), ct (inR_iff.2 ⟨by omega, by omega⟩), show updF (fun _ => ((k + 1 : Nat) : Int)) 1 ((k + 2 : Nat) : Int) (0 : Int).toNat = ((k + 1 : Nat) : Int) from rfl, h1, Option.bind_some]
            rfl
          have s1 : st_cost_walk_reckon_v12_L0 0#64 1#64 (2 * n + 2) A (m_cost_newWalk_1_v15_F f) 2 (updF (fun _ => ((k + 1 : Nat) : Int)) 1 ((k + 2 : Nat) : Int)) (.c0 M1 B1 (V (k + 1)).fhi (V (k + 1)).flo 1) = some (.inl (.c0 M2 B2 (m_cost_greater_v1 (V (k + 1)) (V (k + 2))).fhi (m_cost_greater_v1 (V (k + 1)) (V (k + 2))).flo 2)) := by
            unfold st_cost_walk_reckon_v12_L0
            dsimp only
            rw [ct (d_t (by decide)), ct (inR_iff.2 ⟨by omega, by omega⟩), show updF (fun _ => ((k + 1 : Nat) : Int)) 1 ((k + 2 : Nat) : Int) (1 : Int).toNat = ((k + 2 : Nat) : Int) from rfl, h2, Option.bind_some]
            rfl
          rw [Option.bind_some]
          dsimp only
          rw [lpO_next s0, lpO_next s1, lpO_end (r := .e0 M2 B2 (m_cost_greater_v1 (V (k + 1)) (V (k + 2))).fhi (m_cost_greater_v1 (V (k + 1)) (V (k + 2))).flo) rfl, Option.bind_some]
          dsimp only
          rw [ct (inR_nat' hkN), Int.toNat_natCast, cf (hA.call hkN)]
          refine ⟨M2, B2, ?_, g2⟩
          rw [← htwo k e l]
          rfl
      obtain ⟨M', B', hr, hG'⟩ := hrk
      rw [hr, Option.bind_some]
      dsimp only
      by_cases h2 : fdx (fun j => ((k : Int) == (B' j).fk)) M' < M'
      · rw [ct (d_t h2)]
        exact ⟨_, _, rfl, hG'.put fun j hj _ => hj⟩
      · rw [cf (d_f h2)]
        exact ⟨_, _, rfl, hG'.put fun j hj e => by omega⟩
theorem walk_v16 {n : Nat} {A : Nat → Insn} (hA : Fam n A) (hn : n ≤ 200) {V : Nat → Amount}
    (hlast : m_cost_amount_plus_v6 (⟨0#64, 0#64⟩ : Amount) (⟨0#64, 1#64⟩ : Amount) = V (2 * n + 1))
    (hone : ∀ k, k % 2 = 0 → k < 2 * n + 1 → m_cost_amount_plus_v6 (V (k + 1)) (⟨0#64, 1#64⟩ : Amount) = V k)
    (htwo : ∀ k, k % 2 = 1 → k + 1 < 2 * n + 1 → m_cost_amount_plus_v6 (m_cost_lesser_v1 (V (k + 1)) (V (k + 2))) (⟨0#64, 1#64⟩ : Amount) = V k) :
    ∀ d k f M B, k + d = 2 * n + 1 → d < f → Good V M B → ∃ M' B', m_cost_newWalk_1_v16_F f (k : Int) M B (2 * n + 2) A 0#64 1#64 = some (.e0 M' B' (V k).fhi (V k).flo) ∧ Good V M' B' := by
  intro d
  induction d using Nat.strongRecOn with
  | ind d ih =>
    intro k f M B hk hf hG
    obtain ⟨f, rfl⟩ : ∃ g, f = g + 1 := ⟨f - 1, by omega⟩
    have hkN : k < 2 * n + 2 := by omega
    show ∃ M' B', m_cost_newWalk_1_v16 (k : Int) M B (2 * n + 2) A 0#64 1#64 (m_cost_newWalk_1_v16_F f) = _ ∧ _
    unfold m_cost_newWalk_1_v16
    by_cases hfd : fdx (fun j => ((k : Int) == (B j).fk)) M < M
    · rw [ct (d_t hfd)]
      obtain ⟨i, h1, h2⟩ := hG _ hfd
      have h3 : ((k : Int) == (B (fdx (fun j => ((k : Int) == (B j).fk)) M)).fk) = true := fdx_is hfd
      rw [h1] at h3
      have h4 : (k : Int) = (i : Int) := by simpa using h3
      have h5 : i = k := by omega
      rw [h2, h5]
      exact ⟨_, _, rfl, hG⟩
    · rw [cf (d_f hfd)]
      have hrk : ∃ M' B', m_cost_walk_reckon_v13 (k : Int) 0#64 1#64 (2 * n + 2) A M B (m_cost_newWalk_1_v16_F f) = some (.e0 M' B' (V k).fhi (V k).flo) ∧ Good V M' B' := by
        unfold m_cost_walk_reckon_v13
        have hN := hA.flowNext hn hkN
        generalize m_flow_Next (2 * n + 2) A (k : Int) = nx at hN
        cases hN with
        | none e =>
          rw [Option.bind_some]
          dsimp only
          rw [ct (inR_nat' hkN), Int.toNat_natCast, cf (hA.call hkN)]
          refine ⟨M, B, ?_, hG⟩
          rw [e, ← hlast]
          rfl
        | one e l =>
          obtain ⟨M1, B1, h1, g1⟩ := ih (d - 1) (by omega) (k + 1) f M B (by omega) (by omega) hG
          have s0 : st_cost_walk_reckon_v13_L0 0#64 1#64 (2 * n + 2) A (m_cost_newWalk_1_v16_F f) 1 (fun _ => ((k + 1 : Nat) : Int)) (.c0 M B 0#64 0#64 0) = some (.inl (.c0 M1 B1 (V (k + 1)).fhi (V (k + 1)).flo 1)) := by
            unfold st_cost_walk_reckon_v13_L0
            dsimp only
            rw [ct (d_t (by decide)), ct (inR_iff.2 ⟨by omega, by omega⟩), h1, Option.bind_some]
            rfl
          rw [Option.bind_some]
          dsimp only
          rw [lpO_next s0, lpO_end (r := .e0 M1 B1 (V (k + 1)).fhi (V (k + 1)).flo) rfl, Option.bind_some]
          dsimp only
          rw [ct (inR_nat' hkN), Int.toNat_natCast, cf (hA.call hkN)]
          refine ⟨M1, B1, ?_, g1⟩
          rw [← hone k e l]
          rfl
        | two e l =>
          obtain ⟨M1, B1, h1, g1⟩ := ih (d - 1) (by omega) (k + 1) f M B (by omega) (by omega) hG
          obtain ⟨M2, B2, h2, g2⟩ := ih (d - 2) (by omega) (k + 2) f M1 B1 (by omega) (by omega) g1
          have s0 : st_cost_walk_reckon_v13_L0 0#64 1#64 (2 * n + 2) A (m_cost_newWalk_1_v16_F f) 2 (updF (fun _ => ((k + 1 : Nat) : Int)) 1 ((k + 2 : Nat) : Int)) (.c0 M B 0#64 0#64 0) = some (.inl (.c0 M1 B1 (V (k + 1)).fhi (V (k + 1)).flo 1)) := by
            unfold st_cost_walk_reckon_v13_L0
            dsimp only
            rw [ct (d_t (by decide)), ct (inR_iff.2 ⟨by omega, by omega⟩), show updF (fun _ => ((k + 1 : Nat) : Int)) 1 ((k + 2 : Nat) : Int) (0 : Int).toNat = ((k + 1 : Nat) : Int) from rfl, h1, Option.bind_some]
            rfl
          have s1 : st_cost_walk_reckon_v13_L0 0#64 1#64 (2 * n + 2) A (m_cost_newWalk_1_v16_F f) 2 (updF (fun _ => ((k + 1 : Nat) : Int)) 1 ((k + 2 : Nat) : Int)) (.c0 M1 B1 (V (k + 1)).fhi (V (k + 1)).flo 1) = some (.inl (.c0 M2 B2 (m_cost_lesser_v1 (V (k + 1)) (V (k + 2))).fhi (m_cost_lesser_v1 (V (k + 1)) (V (k + 2))).flo 2)) := by
            unfold st_cost_walk_reckon_v13_L0
            dsimp only
            rw [ct (d_t (by decide)), ct (inR_iff.2 ⟨by omega, by omega⟩), show updF (fun _ => ((k + 1 : Nat) : Int)) 1 ((k + 2 : Nat) : Int) (1 : Int).toNat = ((k + 2 : Nat) : Int) from rfl, h2, Option.bind_some]
            rfl
          rw [Option.bind_some]
          dsimp only
          rw [lpO_next s0, lpO_next s1, lpO_end (r := .e0 M2 B2 (m_cost_lesser_v1 (V (k + 1)) (V (k + 2))).fhi (m_cost_lesser_v1 (V (k + 1)) (V (k + 2))).flo) rfl, Option.bind_some]
          dsimp only
          rw [ct (inR_nat' hkN), Int.toNat_natCast, cf (hA.call hkN)]
          refine ⟨M2, B2, ?_, g2⟩
          rw [← htwo k e l]
          rfl
      obtain ⟨M', B', hr, hG'⟩ := hrk
      rw [hr, Option.bind_some]
      dsimp only
      by_cases h2 : fdx (fun j => ((k : Int) == (B' j).fk)) M' < M'
      · rw [ct (d_t h2)]
        exact ⟨_, _, rfl, hG'.put fun j hj _ => hj⟩
      · rw [cf (d_f h2)]
        exact ⟨_, _, rfl, hG'.put fun j hj e => by omega⟩
theorem walk_v17 {n : Nat} {A : Nat → Insn} (hA : Fam n A) (hn : n ≤ 200) {V : Nat → Amount}
    (hlast : m_cost_amount_plus_v6 (⟨0#64, 1#64⟩ : Amount) (⟨0#64, 0#64⟩ : Amount) = V (2 * n + 1))
    (hone : ∀ k, k % 2 = 0 → k < 2 * n + 1 → m_cost_amount_plus_v6 (V (k + 1)) (⟨0#64, 0#64⟩ : Amount) = V k)
    (htwo : ∀ k, k % 2 = 1 → k + 1 < 2 * n + 1 → m_cost_amount_plus_v6 (m_cost_sum_v1 (V (k + 1)) (V (k + 2))) (⟨0#64, 0#64⟩ : Amount) = V k) :
    ∀ d k f M B, k + d = 2 * n + 1 → d < f → Good V M B → ∃ M' B', m_cost_newWalk_1_v17_F f (k : Int) M B (2 * n + 2) A 0#64 1#64 = some (.e0 M' B' (V k).fhi (V k).flo) ∧ Good V M' B' := by
  intro d
  induction d using Nat.strongRecOn with
  | ind d ih =>
    intro k f M B hk hf hG
    obtain ⟨f, rfl⟩ : ∃ g, f = g + 1 := ⟨f - 1, by omega⟩
    have hkN : k < 2 * n + 2 := by omega
    show ∃ M' B', m_cost_newWalk_1_v17 (k : Int) M B (2 * n + 2) A 0#64 1#64 (m_cost_newWalk_1_v17_F f) = _ ∧ _
    unfold m_cost_newWalk_1_v17
    by_cases hfd : fdx (fun j => ((k : Int) == (B j).fk)) M < M
    · rw [ct (d_t hfd)]
      obtain ⟨i, h1, h2⟩ := hG _ hfd
      have h3 : ((k : Int) == (B (fdx (fun j => ((k : Int) == (B j).fk)) M)).fk) = true := fdx_is hfd
      rw [h1] at h3
      have h4 : (k : Int) = (i : Int) := by simpa using h3
      have h5 : i = k := by omega
      rw [h2, h5]
      exact ⟨_, _, rfl, hG⟩
    · rw [cf (d_f hfd)]
      have hrk : ∃ M' B', m_cost_walk_reckon_v14 (k : Int) 0#64 1#64 (2 * n + 2) A M B (m_cost_newWalk_1_v17_F f) = some (.e0 M' B' (V k).fhi (V k).flo) ∧ Good V M' B' := by
        unfold m_cost_walk_reckon_v14
        have hN := hA.flowNext hn hkN
        generalize m_flow_Next (2 * n + 2) A (k : Int) = nx at hN
        cases hN with
        | none e =>
          rw [Option.bind_some]
          dsimp only
          rw [ct (inR_nat' hkN), Int.toNat_natCast, cf (hA.call hkN)]
          refine ⟨M, B, ?_, hG⟩
          rw [e, ← hlast]
          rfl
        | one e l =>
          obtain ⟨M1, B1, h1, g1⟩ := ih (d - 1) (by omega) (k + 1) f M B (by omega) (by omega) hG
          have s0 : st_cost_walk_reckon_v14_L0 0#64 1#64 (2 * n + 2) A (m_cost_newWalk_1_v17_F f) 1 (fun _ => ((k + 1 : Nat) : Int)) (.c0 M B 0#64 1#64 0) = some (.inl (.c0 M1 B1 (V (k + 1)).fhi (V (k + 1)).flo 1)) := by
            unfold st_cost_walk_reckon_v14_L0
            dsimp only
            rw [ct (d_t (by decide)), ct (inR_iff.2 ⟨by omega, by omega⟩), h1, Option.bind_some]
            rfl
          rw [Option.bind_some]
          dsimp only
          rw [lpO_next s0, lpO_end (r := .e0 M1 B1 (V (k + 1)).fhi (V (k + 1)).flo) rfl, Option.bind_some]
          dsimp only
          rw [ct (inR_nat' hkN), Int.toNat_natCast, cf (hA.call hkN)]
          refine ⟨M1, B1, ?_, g1⟩
          rw [← hone k e l]
          rfl
        | two e l =>
          obtain ⟨M1, B1, h1, g1⟩ := ih (d - 1) (by omega) (k + 1) f M B (by omega) (by omega) hG
          obtain ⟨M2, B2, h2, g2⟩ := ih (d - 2) (by omega) (k + 2) f M1 B1 (by omega) (by omega) g1
          have s0 : st_cost_walk_reckon_v14_L0 0#64 1#64 (2 * n + 2) A (m_cost_newWalk_1_v17_F f) 2 (updF (fun _ => ((k + 1 : Nat) : Int)) 1 ((k + 2 : Nat) : Int)) (.c0 M B 0#64 1#64 0) = some (.inl (.c0 M1 B1 (V (k + 1)).fhi (V (k + 1)).flo 1)) := by
            unfold st_cost_walk_reckon_v14_L0
            dsimp only
            rw [ct (d_t (by decide)), ct (inR_iff.2 ⟨by omega, by omega⟩), show updF (fun _ => ((k + 1 : Nat) : Int)) 1 ((k + 2 : Nat) : Int) (0 : Int).toNat = ((k + 1 : Nat) : Int) from rfl, h1, Option.bind_some]
            rfl
          have s1 : st_cost_walk_reckon_v14_L0 0#64 1#64 (2 * n + 2) A (m_cost_newWalk_1_v17_F f) 2 (updF (fun _ => ((k + 1 : Nat) : Int)) 1 ((k + 2 : Nat) : Int)) (.c0 M1 B1 (V (k + 1)).fhi (V (k + 1)).flo 1) = some (.inl (.c0 M2 B2 (m_cost_sum_v1 (V (k + 1)) (V (k + 2))).fhi (m_cost_sum_v1 (V (k + 1)) (V (k + 2))).flo 2)) := by
            unfold st_cost_walk_reckon_v14_L0
            dsimp only
            rw [ct (d_t (by decide)), ct (inR_iff.2 ⟨by omega, by omega⟩), show updF (fun _ => ((k + 1 : Nat) : Int)) 1 ((k + 2 : Nat) : Int) (1 : Int).toNat = ((k + 2 : Nat) : Int) from rfl, h2, Option.bind_some]
            rfl
          rw [Option.bind_some]
          dsimp only
          rw [lpO_next s0, lpO_next s1, lpO_end (r := .e0 M2 B2 (m_cost_sum_v1 (V (k + 1)) (V (k + 2))).fhi (m_cost_sum_v1 (V (k + 1)) (V (k + 2))).flo) rfl, Option.bind_some]
          dsimp only
          rw [ct (inR_nat' hkN), Int.toNat_natCast, cf (hA.call hkN)]
          refine ⟨M2, B2, ?_, g2⟩
          rw [← htwo k e l]
          rfl
      obtain ⟨M', B', hr, hG'⟩ := hrk
      rw [hr, Option.bind_some]
      dsimp only
      by_cases h2 : fdx (fun j => ((k : Int) == (B' j).fk)) M' < M'
      · rw [ct (d_t h2)]
        exact ⟨_, _, rfl, hG'.put fun j hj _ => hj⟩
      · rw [cf (d_f h2)]
        exact ⟨_, _, rfl, hG'.put fun j hj e => by omega⟩
section
variable {n : Nat} {A : Nat → Insn} (hA : Fam n A) (hn : n ≤ 200)
include hA hn
theorem Fam.longest : m_cost_Longest_v1 (2 * n + 2) A = some (.e0 (BitVec.ofNat 64 (2 * n + 2))) := by
  obtain ⟨M, B, h, _⟩ := walk_v15 hA hn (V := fun k => amt (2 * n + 2 - k))
    (by rw [show 2 * n + 2 - (2 * n + 1) = 0 + 1 by omega]; exact plus_amt (a := 0) (b := 1) (by omega))
    (fun k e l => by rw [show 2 * n + 2 - k = 2 * n + 2 - (k + 1) + 1 by omega]; exact plus_amt (b := 1) (by omega))
    (fun k e l => by rw [greater_amt (by omega) (by omega), show 2 * n + 2 - k = 2 * n + 2 - (k + 1) + 1 by omega]; exact plus_amt (b := 1) (by omega))
    (2 * n + 1) 0 450 0 (fun _ => (⟨0, (⟨0#64, 0#64⟩ : Amount)⟩ : Me73)) (by omega) (by omega) Good.nil
  have h' : m_cost_newWalk_1_v15_F 450 0 0 (fun _ => (⟨0, (⟨0#64, 0#64⟩ : Amount)⟩ : Me73)) (2 * n + 2) A 0#64 1#64 = some (.e0 M B 0#64 (BitVec.ofNat 64 (2 * n + 2 - 0))) := h
  unfold m_cost_Longest_v1 m_cost_reckoned_v4
  rw [hA.costs hn, Option.bind_some, ct (show ((0 : Int) == 0) = true from rfl), h', Option.bind_some]
  dsimp only
  have hc := cut_amt (a := 2 * n + 2 - 0) (by omega)
  rw [Nat.min_eq_left (by omega)] at hc
  show some (R_cost_Longest_v1.e0 (m_cost_amount_cut_v3 (amt (2 * n + 2 - 0)))) = _
  rw [hc]
  rfl
theorem Fam.shortest : m_cost_Shortest_v1 (2 * n + 2) A = some (.e0 (BitVec.ofNat 64 (n + 2))) := by
  obtain ⟨M, B, h, _⟩ := walk_v16 hA hn (V := fun k => amt (n - k / 2 + (2 - k % 2)))
    (by rw [show n - (2 * n + 1) / 2 + (2 - (2 * n + 1) % 2) = 0 + 1 by omega]; exact plus_amt (a := 0) (b := 1) (by omega))
    (fun k e l => by rw [show n - k / 2 + (2 - k % 2) = n - (k + 1) / 2 + (2 - (k + 1) % 2) + 1 by omega]; exact plus_amt (b := 1) (by omega))
    (fun k e l => by rw [lesser_amt (by omega) (by omega), show n - k / 2 + (2 - k % 2) = n - (k + 2) / 2 + (2 - (k + 2) % 2) + 1 by omega]; exact plus_amt (b := 1) (by omega))
    (2 * n + 1) 0 450 0 (fun _ => (⟨0, (⟨0#64, 0#64⟩ : Amount)⟩ : Me73)) (by omega) (by omega) Good.nil
  have h' : m_cost_newWalk_1_v16_F 450 0 0 (fun _ => (⟨0, (⟨0#64, 0#64⟩ : Amount)⟩ : Me73)) (2 * n + 2) A 0#64 1#64 = some (.e0 M B 0#64 (BitVec.ofNat 64 (n + 2))) := h
  unfold m_cost_Shortest_v1 m_cost_reckoned_v5
  rw [hA.costs hn, Option.bind_some, ct (show ((0 : Int) == 0) = true from rfl), h', Option.bind_some]
  dsimp only
  have hc := cut_amt (a := n + 2) (by omega)
  rw [Nat.min_eq_left (by omega)] at hc
  show some (R_cost_Shortest_v1.e0 (m_cost_amount_cut_v3 (amt (n + 2)))) = _
  rw [hc]
theorem Fam.ways : m_cost_Ways_v2 (2 * n + 2) A = some (.e0 (BitVec.ofNat 64 (min (2 ^ n) 9223372036854775807))) := by
  obtain ⟨M, B, h, _⟩ := walk_v17 hA hn (V := fun k => amt (min (2 ^ (n - k / 2)) 9223372036854775807))
    (by rw [show n - (2 * n + 1) / 2 = 0 by omega]; exact plus_amt (a := 1) (b := 0) (by omega))
    (fun k e l => by rw [show (k + 1) / 2 = k / 2 by omega]; exact plus_amt (b := 0) (by omega))
    (fun k e l => by
      obtain ⟨m, hm⟩ : ∃ m, n - k / 2 = m + 1 := ⟨n - k / 2 - 1, by omega⟩
      rw [show n - (k + 1) / 2 = m by omega, show n - (k + 2) / 2 = m by omega, hm, sum_amt (by omega), Nat.pow_succ]
      have : min (min (2 ^ m) 9223372036854775807 + min (2 ^ m) 9223372036854775807) 9223372036854775807 = min (2 ^ m * 2) 9223372036854775807 := by omega
      rw [this]
      exact plus_amt (b := 0) (by omega))
    (2 * n + 1) 0 450 0 (fun _ => (⟨0, (⟨0#64, 0#64⟩ : Amount)⟩ : Me73)) (by omega) (by omega) Good.nil
  have h' : m_cost_newWalk_1_v17_F 450 0 0 (fun _ => (⟨0, (⟨0#64, 0#64⟩ : Amount)⟩ : Me73)) (2 * n + 2) A 0#64 1#64 = some (.e0 M B 0#64 (BitVec.ofNat 64 (min (2 ^ n) 9223372036854775807))) := h
  unfold m_cost_Ways_v2 m_cost_reckoned_v6
  rw [hA.costs hn, Option.bind_some, ct (show ((0 : Int) == 0) = true from rfl), h', Option.bind_some]
  dsimp only
  have hc := cut_amt (a := min (2 ^ n) 9223372036854775807) (by omega)
  rw [show min (min (2 ^ n) 9223372036854775807) 9223372036854775807 = min (2 ^ n) 9223372036854775807 by omega] at hc
  show some (R_cost_Ways_v2.e0 (m_cost_amount_cut_v3 (amt (min (2 ^ n) 9223372036854775807)))) = _
  rw [hc]
end
/-- The row that the law makes. -/
structure Row (i : Nat) (A : Nat → Insn) : Prop where
  first : A 0 = mov0
  odd : ∀ k, k < i → A (2 * k + 1) = jif
  even : ∀ k, k < i → A (2 * k + 2) = add1
theorem Row.isFam {n : Nat} {A : Nat → Insn} (h : Row n A) : Fam n (updF A (2 * n + 1) exit0) := by
  intro k hk
  unfold Go.Proofs.Ytdgehbjiphahhaa.fam
  by_cases e : k = 2 * n + 1
  · subst e
    rw [updF_at, if_neg (by omega), if_neg (by omega), if_pos rfl]
  · rw [updF_ne _ _ e]
    by_cases e0 : k = 0
    · subst e0; rw [if_pos rfl]; exact h.first
    · rw [if_neg e0]
      by_cases e1 : k % 2 = 0
      · rw [if_pos e1]
        have := h.even (k / 2 - 1) (by omega)
        rwa [show 2 * (k / 2 - 1) + 2 = k by omega] at this
      · rw [if_neg e1, if_neg e]
        have := h.odd (k / 2) (by omega)
        rwa [show 2 * (k / 2) + 1 = k by omega] at this
theorem app2 (A : Nat → Insn) (N : Nat) (x y : Insn) : appL A N [x, y] N = x ∧ appL A N [x, y] (N + 1) = y ∧ ∀ k, k < N → appL A N [x, y] k = A k := by
  refine ⟨?_, ?_, fun k hk => ?_⟩
  · show updF (updF A N x) (N + 1) y N = x
    rw [updF_ne _ _ (by omega), updF_at]
  · show updF (updF A N x) (N + 1) y (N + 1) = y
    rw [updF_at]
  · show updF (updF A N x) (N + 1) y k = A k
    rw [updF_ne _ _ (by omega), updF_ne _ _ (by omega)]
theorem Row.next {i : Nat} {A : Nat → Insn} (h : Row i A) : Row (i + 1) (appL A (2 * i + 1) [jif, add1]) := by
  obtain ⟨h1, h2, h3⟩ := app2 A (2 * i + 1) jif add1
  refine ⟨(h3 0 (by omega)).trans h.first, fun k hk => ?_, fun k hk => ?_⟩
  · by_cases e : k = i
    · subst e; exact h1
    · exact (h3 _ (by omega)).trans (h.odd k (by omega))
  · by_cases e : k = i
    · subst e; exact h2
    · exact (h3 _ (by omega)).trans (h.even k (by omega))
theorem loop_law {n : Nat} (h0 : 0 < n) (hn : n ≤ 200) : ∃ A, lpO (st_barbicanlaw24_CostDouble_L0 (n : Int)) .c0 = some (.e1 (2 * n + 1) A) ∧ Row n A := by
  have first : ∃ A, st_barbicanlaw24_CostDouble_L0 (n : Int) .c0 = some (.inl (.c1 3 A 1)) ∧ Row 1 A := by
    refine ⟨appL (fun _ => mov0) 1 [jif, add1], ?_, Row.next (i := 0) (A := fun _ => mov0) ⟨rfl, fun k hk => by omega, fun k hk => by omega⟩⟩
    unfold st_barbicanlaw24_CostDouble_L0
    dsimp only
    rw [ct (d_t (by omega))]
    rfl
  obtain ⟨A1, e1, r1⟩ := first
  rw [lpO_next e1]
  have : ∃ r, lpO (st_barbicanlaw24_CostDouble_L0 (n : Int)) (.c1 3 A1 1) = some r ∧ ∃ A, r = .e1 (2 * n + 1) A ∧ Row n A := by
    refine lpO_ind (st := st_barbicanlaw24_CostDouble_L0 (n : Int)) (fun s => match s with | .c0 => False | .c1 N A x => ∃ i : Nat, x = (i : Int) ∧ i ≤ n ∧ N = 2 * i + 1 ∧ Row i A) (fun s => match s with | .c0 => 0 | .c1 N A x => n + 1 - x.toNat) (fun _ r => ∃ A, r = .e1 (2 * n + 1) A ∧ Row n A) (fun s hs => ?_) _ ⟨1, rfl, h0, rfl, r1⟩
    match s, hs with
    | .c1 N A x, ⟨i, hi, hin, hN, hR⟩ =>
      subst hi hN
      unfold st_barbicanlaw24_CostDouble_L0
      dsimp only
      by_cases hlt : i < n
      · rw [ct (d_t (by omega)), ct (d_t (by omega)), w_succ (by omega)]
        exact .inl ⟨_, rfl, ⟨i + 1, rfl, hlt, by omega, hR.next⟩, by simp only [Int.toNat_natCast]; omega, fun r hr => hr⟩
      · rw [cf (d_f (by omega))]
        obtain rfl : i = n := by omega
        exact .inr ⟨_, rfl, _, rfl, hR⟩
  obtain ⟨r, hr, A, rfl, hR⟩ := this
  exact ⟨A, hr, hR⟩
theorem loop_none : lpO (st_barbicanlaw24_CostDouble_L0 ((0 : Nat) : Int)) .c0 = some .e0 := lpO_end rfl
theorem ofI {a : Nat} {x : Int} (h : x = (a : Int)) : BitVec.ofInt 64 x = BitVec.ofNat 64 a := by rw [h]; exact BitVec.ofInt_natCast ..
theorem ways_few {n : Nat} (h : n < 63) : (BitVec.ofNat 64 (min (2 ^ n) 9223372036854775807) == (1#64 <<< (n : Int).toNat)) = true := by
  have h1 : 2 ^ n ≤ 2 ^ 62 := Nat.pow_le_pow_right (by omega) (by omega)
  rw [Nat.min_eq_left (by omega), Int.toNat_natCast, beq_iff_eq]
  apply BitVec.eq_of_toNat_eq
  rw [ofN (by omega), BitVec.toNat_shiftLeft, show (1#64 : BitVec 64).toNat = 1 from rfl, Nat.shiftLeft_eq, Nat.one_mul, Nat.mod_eq_of_lt (by omega)]
theorem ways_many {n : Nat} (h : 63 ≤ n) : (BitVec.ofNat 64 (min (2 ^ n) 9223372036854775807) == 9223372036854775807#64) = true := by
  have h1 : 2 ^ 63 ≤ 2 ^ n := Nat.pow_le_pow_right (by omega) h
  rw [Nat.min_eq_right (by omega)]
  exact beq_self_eq_true _
theorem costdouble_true (y : Int) : m_barbicanlaw24_CostDouble y = some true := by
  unfold m_barbicanlaw24_CostDouble
  by_cases hneg : y < 0
  · rw [ct (d_t hneg)]
  rw [cf (d_f hneg)]
  by_cases hbig : 200 < y
  · rw [ct (d_t hbig)]
  rw [cf (d_f hbig)]
  obtain ⟨n, rfl⟩ : ∃ n : Nat, y = (n : Int) := ⟨y.toNat, by omega⟩
  have hn : n ≤ 200 := by omega
  have w1 : IntKind.i64.wrap (2 * (n : Int)) = 2 * (n : Int) := by rw [wr] <;> omega
  have w2 : IntKind.i64.wrap (2 + 2 * (n : Int)) = ((2 * n + 2 : Nat) : Int) := by rw [wr] <;> omega
  have w3 : IntKind.i64.wrap (2 + (n : Int)) = ((n + 2 : Nat) : Int) := by rw [wr] <;> omega
  have q1 : (BitVec.ofNat 64 (2 * n + 2) == BitVec.ofInt 64 (IntKind.i64.wrap (2 + IntKind.i64.wrap (2 * (n : Int))))) = true := by rw [w1, w2, ofI rfl]; exact beq_self_eq_true _
  have q2 : (BitVec.ofNat 64 (n + 2) == BitVec.ofInt 64 (IntKind.i64.wrap (2 + (n : Int)))) = true := by rw [w3, ofI rfl]; exact beq_self_eq_true _
  by_cases h0 : n = 0
  · subst h0
    have hF : Fam 0 (updF (fun _ => mov0) 1 exit0) := Row.isFam (n := 0) (A := fun _ => mov0) ⟨rfl, fun k hk => by omega, fun k hk => by omega⟩
    have a1 : m_cost_Longest_v1 2 (updF (fun _ => mov0) 1 exit0) = _ := hF.longest hn
    have a2 : m_cost_Shortest_v1 2 (updF (fun _ => mov0) 1 exit0) = _ := hF.shortest hn
    have a3 : m_cost_Ways_v2 2 (updF (fun _ => mov0) 1 exit0) = _ := hF.ways hn
    rw [loop_none, Option.bind_some]
    show (Option.bind (m_cost_Longest_v1 2 (updF (fun _ => mov0) 1 exit0)) _) = _
    rw [a1, Option.bind_some]
    dsimp only
    rw [a2, Option.bind_some]
    dsimp only
    rw [a3, Option.bind_some]
    dsimp only
    rw [ct (d_t (by omega)), ct (d_t (by omega)), ct q1, ct q2, ways_few (by omega)]
  · obtain ⟨A, hl, hR⟩ := loop_law (n := n) (by omega) hn
    have hF := hR.isFam
    rw [hl, Option.bind_some]
    dsimp only
    have a1 : m_cost_Longest_v1 (2 * n + 1 + 1) (updF A (2 * n + 1) exit0) = _ := hF.longest hn
    have a2 : m_cost_Shortest_v1 (2 * n + 1 + 1) (updF A (2 * n + 1) exit0) = _ := hF.shortest hn
    have a3 : m_cost_Ways_v2 (2 * n + 1 + 1) (updF A (2 * n + 1) exit0) = _ := hF.ways hn
    rw [ct (d_t (by omega)), a1, Option.bind_some]
    dsimp only
    rw [a2, Option.bind_some]
    dsimp only
    rw [a3, Option.bind_some]
    dsimp only
    by_cases h63 : n < 63
    · rw [ct (d_t (by omega)), ct (d_t (by omega)), ct q1, ct q2, ways_few h63]
    · rw [cf (d_f (by omega)), ct q1, ct q2, ways_many (by omega)]
end Go.Proofs.Ytdgehbjiphahhaa

