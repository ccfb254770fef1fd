/-
  Of a row of operations without jumps what is live is what the law reckons, in plain words (no program).
-/
import Derived.Test.YtjfiakgkeniocaaL16M
namespace Go.Proofs.Ytjfiakgkeniocaa
open Go.RowKit
set_option linter.unusedVariables false
set_option linter.unusedSimpArgs false
def isPl (x : Insn) : Bool := x.fOp % 8#8 == 4#8 || (x.fOp % 8#8 == 7#8 || (x.fOp % 8#8 == 1#8 || (x.fOp % 8#8 == 2#8 || x.fOp % 8#8 == 3#8)))
theorem isPl_c {x : Insn} (h : isPl x = true) : plainC x := by
  unfold isPl at h
  unfold plainC
  rw [and7]
  simpa only [Bool.or_eq_true, beq_iff_eq] using h
theorem st0_c0 (n : Nat) (A : Nat → Insn) {k : Nat} (hk : k < n) (hn : n ≤ 60) : st_barbicanlaw16_LiveStraight_L0 n A (.c0 (k : Int)) = some (.inl (bif isPl (A k) then .c1 1 (fun _ => A k) ((k + 1 : Nat) : Int) else .c0 ((k + 1 : Nat) : Int))) := by
  have e1 : IntKind.i64.wrap ((k : Int) + 1) = ((k + 1 : Nat) : Int) := by rw [wr] <;> omega
  unfold st_barbicanlaw16_LiveStraight_L0 isPl
  simp only [d_t (show (k : Int) < (n : Int) by omega), inR_nat' hk, cond_true, Int.toNat_natCast, e1]
  cases (A k).fOp % 8#8 == 4#8 <;> cases (A k).fOp % 8#8 == 7#8 <;> cases (A k).fOp % 8#8 == 1#8 <;> cases (A k).fOp % 8#8 == 2#8 <;> cases (A k).fOp % 8#8 == 3#8 <;> rfl
theorem st0_c1 (n : Nat) (A : Nat → Insn) {N : Nat} {Q : Nat → Insn} {k : Nat} (hk : k < n) (hn : n ≤ 60) (hN : N ≤ 60) :
    st_barbicanlaw16_LiveStraight_L0 n A (.c1 N Q (k : Int)) = some (.inl (bif isPl (A k) then .c1 (N + 1) (updF Q N (A k)) ((k + 1 : Nat) : Int) else .c1 N Q ((k + 1 : Nat) : Int))) := by
  have e1 : IntKind.i64.wrap ((k : Int) + 1) = ((k + 1 : Nat) : Int) := by rw [wr] <;> omega
  unfold st_barbicanlaw16_LiveStraight_L0 isPl
  simp only [d_t (show (k : Int) < (n : Int) by omega), inR_nat' hk, cond_true, Int.toNat_natCast, e1, d_t (show N ≤ 1000000 by omega)]
  cases (A k).fOp % 8#8 == 4#8 <;> cases (A k).fOp % 8#8 == 7#8 <;> cases (A k).fOp % 8#8 == 1#8 <;> cases (A k).fOp % 8#8 == 2#8 <;> cases (A k).fOp % 8#8 == 3#8 <;> rfl
theorem kept_is (n : Nat) (A : Nat → Insn) (hn : n ≤ 60) : ∃ r, lpO (st_barbicanlaw16_LiveStraight_L0 n A) (.c0 0) = some r ∧ (match r with | .e0 => True | .e1 N Q => N ≤ 60 ∧ ∀ k, k < N → plainC (Q k)) :=
  lpO_ind (st := st_barbicanlaw16_LiveStraight_L0 n A)
    (fun | .c0 a => ∃ k : Nat, a = (k : Int) ∧ k ≤ n
         | .c1 N Q a => ∃ k : Nat, a = (k : Int) ∧ k ≤ n ∧ N ≤ k ∧ ∀ j, j < N → plainC (Q j))
    (fun | .c0 a => n - a.toNat
         | .c1 _ _ a => n - a.toNat)
    (fun _ r => match r with | .e0 => True | .e1 N Q => N ≤ 60 ∧ ∀ k, k < N → plainC (Q k))
    (fun s hI => by
      cases s with
      | c0 a =>
        obtain ⟨k, rfl, hk⟩ := hI
        by_cases h : k < n
        · refine .inl ⟨_, st0_c0 n A h hn, ?_⟩
          cases hb : isPl (A k) with
          | true => exact ⟨⟨k + 1, rfl, by omega, by omega, fun j _ => isPl_c hb⟩, by show n - ((k + 1 : Nat) : Int).toNat < n - (k : Int).toNat; omega, fun r hr => hr⟩
          | false => exact ⟨⟨k + 1, rfl, by omega⟩, by show n - ((k + 1 : Nat) : Int).toNat < n - (k : Int).toNat; omega, fun r hr => hr⟩
        · refine .inr ⟨.e0, ?_, trivial⟩
          unfold st_barbicanlaw16_LiveStraight_L0
          simp only [d_f (show ¬ ((k : Int) < (n : Int)) by omega), cond_false]
      | c1 N Q a =>
        obtain ⟨k, rfl, hk, hN, hq⟩ := hI
        by_cases h : k < n
        · refine .inl ⟨_, st0_c1 n A h hn (by omega), ?_⟩
          cases hb : isPl (A k) with
          | true =>
            refine ⟨⟨k + 1, rfl, by omega, by omega, fun j hj => ?_⟩, by show n - ((k + 1 : Nat) : Int).toNat < n - (k : Int).toNat; omega, fun r hr => hr⟩
            by_cases hjN : j = N
            · rw [hjN, updF_at]; exact isPl_c hb
            · rw [updF_ne _ _ hjN]; exact hq j (by omega)
          | false => exact ⟨⟨k + 1, rfl, by omega, by omega, hq⟩, by show n - ((k + 1 : Nat) : Int).toNat < n - (k : Int).toNat; omega, fun r hr => hr⟩
        · refine .inr ⟨.e1 N Q, ?_, by omega, hq⟩
          unfold st_barbicanlaw16_LiveStraight_L0
          simp only [d_f (show ¬ ((k : Int) < (n : Int)) by omega), cond_false])
    (.c0 0) ⟨0, rfl, by omega⟩
theorem held_is {n : Nat} {A P : Nat → Insn} (hP : updF A n (⟨149#8, 0#8, 0#8, 0#16, 0#32⟩ : Insn) = P) (h : Straight n P) (v : Nat → BitVec 16) (hv : ∀ k, k ≤ n → v k = lv n P k) :
    ∃ Q, lpO (st_barbicanlaw16_LiveStraight_L1v2 n A v) (.c0 (0#16) (IntKind.i64.wrap (((n + 1) : Int) - 1))) = some (.e0 Q) := by
  have hm := h.most
  have key := lpO_ind (st := st_barbicanlaw16_LiveStraight_L1v2 n A v)
    (fun | .c0 now a => ∃ k : Nat, k ≤ n + 1 ∧ a = (k : Int) - 1 ∧ now = if k = n + 1 then 0#16 else lv n P k)
    (fun | .c0 _ a => (a + 1).toNat)
    (fun _ r => ∃ Q, r = .e0 Q)
    (fun s hI => by
      obtain ⟨now, a⟩ := s
      obtain ⟨k, hk, rfl, hw⟩ := hI
      match k, hk, hw with
      | 0, hk, hw =>
        refine .inr ⟨.e0 P, ?_, _, rfl⟩
        unfold st_barbicanlaw16_LiveStraight_L1v2
        simp only [d_f (show ¬ ((0 : Int) ≤ ((0 : Nat) : Int) - 1) by decide), cond_false, hP]
      | k + 1, hk, hw =>
        have e0 : (((k + 1 : Nat) : Int) - 1) = (k : Int) := by omega
        have e1 : IntKind.i64.wrap ((k : Int) - 1) = (k : Int) - 1 := by rw [wr] <;> omega
        have e2 : (now &&& ~~~(wrB P k)) ||| rdB P k = lv n P k := by
          rw [hw]
          by_cases e : k = n
          · rw [if_pos (by omega), e, lv_last]
            simp
          · rw [if_neg (by omega), BitVec.or_comm]
            exact (lv_step P (k := k) (by omega)).symm
        rw [e0]
        refine .inl ⟨.c0 (lv n P k) ((k : Int) - 1), ?_, ⟨k, by omega, rfl, by rw [if_neg (by omega)]⟩, by show ((k : Int) - 1 + 1).toNat < ((k : Int) + 1).toNat; omega, fun r hr => hr⟩
        unfold st_barbicanlaw16_LiveStraight_L1v2
        simp only [d_t (show (0 : Int) ≤ (k : Int) by omega), cond_true, inR_nat' (show k < n + 1 by omega), hP, Int.toNat_natCast, h.rd (show k ≤ n by omega), h.wt (show k ≤ n by omega), Option.bind_some, e2, hv k (by omega), beq_self_eq_true, e1])
    (.c0 (0#16) (IntKind.i64.wrap (((n + 1) : Int) - 1))) ⟨n + 1, by omega, by rw [wr] <;> omega, by rw [if_pos rfl]⟩
  obtain ⟨r, hr, Q, rfl⟩ := key
  exact ⟨Q, hr⟩
theorem straight_true (n : Nat) (A : Nat → Insn) : m_barbicanlaw16_LiveStraight n A = some true := by
  unfold m_barbicanlaw16_LiveStraight
  by_cases hn : n ≤ 60
  case neg => rw [d_t (show (60 : Int) < (n : Int) by omega)]; rfl
  rw [d_f (show ¬ ((60 : Int) < (n : Int)) by omega), cond_false]
  obtain ⟨r, hr, hk⟩ := kept_is n A hn
  rw [hr, Option.bind_some]
  cases r with
  | e0 =>
    simp only
    rcases live_is (n := 0) (P := fun _ => xit) (by omega) (fun k h => by omega) rfl with ⟨e, h1, h2⟩ | ⟨h, v, h1, h2⟩
    · have h1 : m_live_Live_v1 1 (fun _ => (⟨149#8, 0#8, 0#8, 0#16, 0#32⟩ : Insn)) = some (.e1 e) := h1
      rw [h1, Option.bind_some]
      simp only [h2, cond_false]
    · have h1 : m_live_Live_v1 1 (fun _ => (⟨149#8, 0#8, 0#8, 0#16, 0#32⟩ : Insn)) = some (.e0 v) := h1
      rw [h1, Option.bind_some]
      have r1 : m_live_Reads_v3 (⟨149#8, 0#8, 0#8, 0#16, 0#32⟩ : Insn) = some (rdB (fun _ => xit) 0, true) := h.rd (k := 0) (by omega)
      have w1 : m_live_Writes_v3 (⟨149#8, 0#8, 0#8, 0#16, 0#32⟩ : Insn) = some (wrB (fun _ => xit) 0, true) := h.wt (k := 0) (by omega)
      have e2 : v 0 = rdB (fun _ => xit) 0 := (h2 0 (by omega)).trans (lv_last 0 _)
      have s1 : st_barbicanlaw16_LiveStraight_L1 v (.c0 (0#16) 0) = some (.inl (.c0 (rdB (fun _ => xit) 0) (-1))) := by
        unfold st_barbicanlaw16_LiveStraight_L1
        rw [r1, w1]
        have e3 : ((0#16 &&& ~~~(wrB (fun _ => xit) 0)) ||| rdB (fun _ => xit) 0) = rdB (fun _ => xit) 0 := by simp
        simp only [Option.bind_some, cond_true, e3, Int.toNat_zero, e2, beq_self_eq_true]
        rw [show IntKind.i64.wrap (0 - 1) = -1 by rw [wr] <;> omega]
        rfl
      have s2 : ∃ Q, st_barbicanlaw16_LiveStraight_L1 v (.c0 (rdB (fun _ => xit) 0) (-1)) = some (.inr (.e0 Q)) := by
        unfold st_barbicanlaw16_LiveStraight_L1
        simp only [d_f (show ¬ ((0 : Int) ≤ -1) by decide), cond_false]
        exact ⟨_, rfl⟩
      obtain ⟨Q, s2⟩ := s2
      simp only
      rw [lpO_next s1, lpO_end s2]
      rfl
  | e1 N Q =>
    obtain ⟨hN, hq⟩ := hk
    simp only
    rw [d_t (show N ≤ 1000000 by omega), cond_true]
    generalize hP : updF Q N (⟨149#8, 0#8, 0#8, 0#16, 0#32⟩ : Insn) = P
    rcases live_is (n := N) (P := P) (by omega) (fun k h => by rw [← hP, updF_ne _ _ (by omega)]; exact hq k h) (by rw [← hP, updF_at]; rfl) with ⟨e, h1, h2⟩ | ⟨h, v, h1, h2⟩
    · rw [h1, Option.bind_some]
      simp only [h2, cond_false]
    · rw [h1, Option.bind_some]
      simp only
      obtain ⟨Q', h3⟩ := held_is hP h v h2
      rw [h3]
      rfl
end Go.Proofs.Ytjfiakgkeniocaa
