/-
  The law on rows of jumps, in plain words.
-/
import Derived.Test.YtkfmmcobmjkilaaON
import Derived.Test.YtkfmmcobmjkilaaOC3
namespace Go.Proofs.Ytkfmmcobmjkilaa
open Go.RowKit
set_option linter.unusedVariables false
set_option linter.unusedSimpArgs false
theorem upd_two {α : Type} (P : Nat → α) (a : Nat) (x y : α) : updF (updF P a x) a y = updF P a y := by
  funext j
  unfold updF
  by_cases e : j = a
  · rw [if_pos e, if_pos e]
  · rw [if_neg e, if_neg e, if_neg e]
abbrev zeroI : Insn := ⟨0#8, 0#8, 0#8, 0#16, 0#32⟩
section
variable {n : Nat} {c : BitVec 32} {A : Nat → Insn}
/-- The new numbers of the slots up to one. -/
def frs (n m : Nat) : Nat → Int := fun j => if j ≤ m then ((j - n : Nat) : Int) else 0
theorem frs_next {m : Nat} (hm : n ≤ m) : updF (frs n m) (m + 1) (((m + 1 - n : Nat) : Int)) = frs n (m + 1) := by
  funext j
  unfold updF frs
  by_cases e : j = m + 1
  · rw [if_pos e, if_pos (by omega), e]
  · rw [if_neg e]
    by_cases q : j ≤ m
    · rw [if_pos q, if_pos (by omega)]
    · rw [if_neg q, if_neg (by omega)]
theorem frs_same {m : Nat} (hm : m < n) : updF (frs n m) (m + 1) (frs n m m) = frs n (m + 1) := by
  have h0 : frs n m m = 0 := by unfold frs; rw [if_pos (by omega), show m - n = 0 by omega]; rfl
  rw [h0]
  funext j
  unfold updF frs
  by_cases e : j = m + 1
  · rw [if_pos e, if_pos (by omega), e, show m + 1 - n = 0 by omega]; rfl
  · rw [if_neg e]
    by_cases q : j ≤ m
    · rw [if_pos q, if_pos (by omega)]
    · rw [if_neg q, if_neg (by omega)]
theorem kp0_no {k : Nat} (h : k < n) : kp n 0 k = false := by
  unfold kp
  rw [d_f (show ¬ k < 0 by omega), d_f (show ¬ n ≤ k by omega)]
  simp
theorem kp0_yes {k : Nat} (h : n ≤ k) (h' : k < n + 2) : kp n 0 k = true := by
  unfold kp
  rw [d_t (show n ≤ k by omega), d_t (show k ≤ n + 1 by omega)]
  simp
theorem trim0 (hn : n ≤ 100) : lpO (st_opt_Trim_L0 (n + 2) (kp n 0)) (.c0 (fun _ => 0) 0) = some (.e0 (frs n (n + 2))) := by
  obtain ⟨r, h1, h2⟩ := lpO_ind (st := st_opt_Trim_L0 (n + 2) (kp n 0)) (fun s => match s with | .c0 F y => ∃ k : Nat, y = (k : Int) ∧ k ≤ n + 2 ∧ F = frs n k) (fun s => match s with | .c0 F y => n + 2 - y.toNat) (fun _ r => r = .e0 (frs n (n + 2))) (fun s hs => by
    obtain ⟨F, y⟩ := s
    obtain ⟨k, rfl, hk, rfl⟩ := hs
    by_cases q : k < n + 2
    · refine .inl ⟨.c0 (frs n (k + 1)) ((k + 1 : Nat) : Int), ?_, ⟨k + 1, rfl, by omega, rfl⟩, by show n + 2 - ((k + 1 : Nat) : Int).toNat < n + 2 - (k : Int).toNat; omega, fun r hr => hr⟩
      unfold st_opt_Trim_L0
      simp only [bindT]
      rw [ct (d_t (by omega)), ct (inR_nat' (show k < 4097 by omega)), w_succ (by omega), ct (inR_nat' (show k + 1 < 4097 by omega)), ct (inR_nat' q), Int.toNat_natCast, Int.toNat_natCast]
      by_cases q2 : k < n
      · rw [cf (kp0_no q2), frs_same q2]
      · have e2 : frs n k k = ((k - n : Nat) : Int) := by unfold frs; rw [if_pos (Nat.le_refl _)]
        rw [ct (kp0_yes (by omega) q), upd_two, updF_at, e2, w_succ (by omega), show k - n + 1 = k + 1 - n by omega, frs_next (by omega)]
    · obtain rfl : k = n + 2 := by omega
      refine .inr ⟨_, ?_, rfl⟩
      unfold st_opt_Trim_L0
      simp only
      rw [cf (d_f (by omega))]) (.c0 (fun _ => 0) 0) ⟨0, rfl, by omega, by
        funext j
        unfold frs
        by_cases e : j ≤ 0
        · rw [if_pos e, show j - n = 0 by omega]; rfl
        · rw [if_neg e]⟩
  rw [h1, h2]
abbrev rowN (n : Nat) (A : Nat → Insn) : Nat → Insn := updF (updF (fun _ => zeroI) 0 (A n)) 1 (A (n + 1))
abbrev numO (n : Nat) : Nat → Int := updF (updF (fun _ => 0) 0 (n : Int)) 1 ((n + 1 : Nat) : Int)
theorem Chain.trim1 (h : Chain n c A) (F : Nat → Int) : lpO (st_opt_Trim_L1 (n + 2) A (kp n 0) F) (.c0 0 (fun _ => zeroI) 0 (fun _ => 0) 0) = some (.e0 2 (rowN n A) 2 (numO n)) := by
  have hm := h.most
  have skip : ∀ k, k ≤ n → lpO (st_opt_Trim_L1 (n + 2) A (kp n 0) F) (.c0 0 (fun _ => zeroI) 0 (fun _ => 0) 0) = lpO (st_opt_Trim_L1 (n + 2) A (kp n 0) F) (.c0 0 (fun _ => zeroI) 0 (fun _ => 0) (k : Int)) := by
    intro k
    induction k with
    | zero => intro _; rfl
    | succ k ih =>
      intro hk
      rw [ih (by omega)]
      apply lpO_next
      unfold st_opt_Trim_L1
      simp only
      rw [ct (d_t (by omega)), ct (inR_nat' (by omega)), Int.toNat_natCast, cf (kp0_no (by omega)), w_succ (by omega)]
  have s1 : st_opt_Trim_L1 (n + 2) A (kp n 0) F (.c0 0 (fun _ => zeroI) 0 (fun _ => 0) (n : Int)) = some (.inl (.c0 1 (updF (fun _ => zeroI) 0 (A n)) 1 (updF (fun _ => 0) 0 (n : Int)) ((n + 1 : Nat) : Int))) := by
    unfold st_opt_Trim_L1
    simp only [bindT]
    rw [ct (d_t (by omega)), ct (inR_nat' (by omega)), Int.toNat_natCast, ct (kp0_yes (Nat.le_refl _) (by omega)), h.target' (by omega) (Nat.le_refl _)]
    simp only [Option.bind_some]
    rw [cf (b := false) rfl, ct (d_t (by omega)), ct (d_t (by omega)), w_succ (by omega)]
  have s2 : st_opt_Trim_L1 (n + 2) A (kp n 0) F (.c0 1 (updF (fun _ => zeroI) 0 (A n)) 1 (updF (fun _ => 0) 0 (n : Int)) ((n + 1 : Nat) : Int)) = some (.inl (.c0 2 (rowN n A) 2 (numO n) ((n + 1 + 1 : Nat) : Int))) := by
    unfold st_opt_Trim_L1
    simp only [bindT]
    rw [ct (d_t (by omega)), ct (inR_nat' (by omega)), Int.toNat_natCast, ct (kp0_yes (by omega) (by omega)), h.target' (by omega) (by omega)]
    simp only [Option.bind_some]
    rw [cf (b := false) rfl, ct (d_t (by omega)), ct (d_t (by omega)), w_succ (by omega)]
  have s3 : st_opt_Trim_L1 (n + 2) A (kp n 0) F (.c0 2 (rowN n A) 2 (numO n) ((n + 1 + 1 : Nat) : Int)) = some (.inr (.e0 2 (rowN n A) 2 (numO n))) := by
    unfold st_opt_Trim_L1
    simp only [bindT]
    rw [cf (d_f (by omega))]
  rw [skip n (Nat.le_refl _), lpO_next s1, lpO_next s2, lpO_end s3]
theorem Chain.trim (h : Chain n c A) : m_opt_Trim (n + 2) A = some (.e0 2 (rowN n A) 2 (numO n)) := by
  have hm := h.most
  have e1 : inR ((n + 2 : Nat) : Int) 1000001 = true := inR_iff.2 ⟨by omega, by omega⟩
  have e2 : inR ((2 : Nat) : Int) (2 + 1) = true := by decide
  unfold m_opt_Trim
  rw [e1, h.check]
  simp only [Option.bind_some]
  rw [ct (by rfl), h.kept]
  simp only [Option.bind_some]
  rw [trim0 h.most]
  simp only [Option.bind_some]
  rw [ct (b := true) rfl, h.trim1]
  simp only [Option.bind_some]
  rw [ct e2, ct e2]
/-- A jump to the row's end. -/
noncomputable def jaE (n k : Nat) : Insn := ⟨5#8, 0#8, 0#8, BitVec.ofInt 16 (IntKind.i64.wrap (IntKind.i64.wrap ((n : Int) - (k : Int)) - 1)), 0#32⟩
theorem near_yes {k t : Nat} (hk : k < t) (ht : t ≤ 100) : m_opt_near (k : Int) (t : Int) = true := by
  have e1 : IntKind.i64.wrap ((t : Int) - (k : Int)) = (t : Int) - (k : Int) := by rw [wr] <;> omega
  have e2 : IntKind.i64.wrap ((t : Int) - (k : Int) - 1) = (t : Int) - (k : Int) - 1 := by rw [wr] <;> omega
  unfold m_opt_near
  rw [e1, e2, ct (d_t (by omega)), d_t (by omega)]
theorem Chain.is5 (h : Chain n c A) {k : Nat} (hk : k < n) : ((A k).fOp == 5#8) = true := by rw [h.ja k hk]; rfl
theorem Chain.not5 (h : Chain n c A) : ((A n).fOp == 5#8) = false := by rw [h.mov]; rfl
theorem Chain.goes (h : Chain n c A) {k : Nat} (hk : k < n) {C : Nat → Int} (hC : ∀ j, C j ≤ (k : Int)) : ∃ C' x y z, lpO (st_opt_Thread_L0_L1v2 (n + 2) A (k : Int)) (.c0 C ((k + 1 : Nat) : Int)) = some (.e0 C' (n : Int) x y z) ∧ ∀ j, C' j ≤ ((k + 1 : Nat) : Int) := by
  have hm := h.most
  obtain ⟨r, h1, h2⟩ := lpO_ind (st := st_opt_Thread_L0_L1v2 (n + 2) A (k : Int))
    (fun s => match s with | .c0 D t => ∃ m : Nat, t = (m : Int) ∧ k < m ∧ m ≤ n ∧ (∀ j, m ≤ j → D j ≤ (k : Int)) ∧ ∀ j, D j ≤ ((k + 1 : Nat) : Int)) (fun s => match s with | .c0 D t => n - t.toNat)
    (fun _ r => ∃ C' x y z, r = .e0 C' (n : Int) x y z ∧ ∀ j, C' j ≤ ((k + 1 : Nat) : Int)) (fun s hs => by
      obtain ⟨D, t⟩ := s
      obtain ⟨m, rfl, hkm, hmn, hD1, hD2⟩ := hs
      by_cases q : m < n
      · refine .inl ⟨.c0 (updF D m ((k + 1 : Nat) : Int)) ((m + 1 : Nat) : Int), ?_, ⟨m + 1, rfl, by omega, by omega, fun j hj => ?_, fun j => ?_⟩, by show n - ((m + 1 : Nat) : Int).toNat < n - (m : Int).toNat; omega, fun r hr => hr⟩
        · unfold st_opt_Thread_L0_L1v2
          simp only
          rw [ct (inR_nat' (show m < n + 2 by omega)), Int.toNat_natCast, ct (h.is5 q), ct (inR_nat' (show m < 4096 by omega)), h.target q]
          simp only [Option.bind_some]
          rw [ct (inR_nat' (show m + 1 < n + 2 by omega)), Int.toNat_natCast, w_succ (show k < 1000000 by omega)]
          by_cases q2 : m + 1 < n
          · have hd := hD1 (m + 1) (by omega)
            rw [ct (h.is5 q2), ct (inR_nat' (show m + 1 < 4096 by omega)), cf (show (updF D m ((k + 1 : Nat) : Int) (m + 1) == ((k + 1 : Nat) : Int)) = false by
              rw [updF_ne D _ (show m + 1 ≠ m by omega)]
              simp only [beq_eq_false_iff_ne, ne_eq]
              omega), ct (near_yes (by omega) (by omega))]
          · obtain rfl : n = m + 1 := by omega
            rw [cf h.not5, ct (near_yes (by omega) (by omega))]
        · rw [updF_ne D _ (show j ≠ m by omega)]
          exact hD1 j (by omega)
        · unfold updF
          split
          · exact Int.le_refl _
          · exact hD2 j
      · obtain rfl : m = n := by omega
        refine .inr ⟨.e0 D (m : Int) (m : Int) (A m).fOp false, ?_, D, _, _, _, rfl, hD2⟩
        unfold st_opt_Thread_L0_L1v2
        simp only
        rw [ct (inR_nat' (show m < m + 2 by omega)), Int.toNat_natCast, cf h.not5]) (.c0 C ((k + 1 : Nat) : Int)) ⟨k + 1, rfl, by omega, by omega, fun j _ => hC j, fun j => by have := hC j; omega⟩
  obtain ⟨C', x, y, z, rfl, h3⟩ := h2
  exact ⟨C', x, y, z, h1, h3⟩
theorem Chain.thread (h : Chain n c A) : ∃ M, m_opt_Thread (n + 2) A = some (.e0 M) ∧ ∀ k, k < n → M k = jaE n k := by
  have hm := h.most
  obtain ⟨r, h1, h2⟩ := lpO_ind (st := st_opt_Thread_L0 (n + 2) A)
    (fun s => match s with | .c0 M C y => ∃ k : Nat, y = (k : Int) ∧ k ≤ n + 2 ∧ (∀ j, j < k → j < n → M j = jaE n j) ∧ (∀ j, k ≤ j → j < n → M j = A j) ∧ ∀ j, C j ≤ (k : Int)) (fun s => match s with | .c0 M C y => n + 2 - y.toNat)
    (fun _ r => ∃ M C, r = .e0 M C ∧ ∀ k, k < n → M k = jaE n k) (fun s hs => by
      obtain ⟨M, C, y⟩ := s
      obtain ⟨k, rfl, hk, hM1, hM2, hC⟩ := hs
      by_cases q : k < n
      · obtain ⟨C', x, y, z, hg, hC'⟩ := h.goes q hC
        refine .inl ⟨.c0 (updF M k (jaE n k)) C' ((k + 1 : Nat) : Int), ?_, ⟨k + 1, rfl, by omega, fun j hj hjn => ?_, fun j hj hjn => ?_, hC'⟩, by show n + 2 - ((k + 1 : Nat) : Int).toNat < n + 2 - (k : Int).toNat; omega, fun r hr => hr⟩
        · unfold st_opt_Thread_L0
          simp only [bindT]
          rw [ct (d_t (by omega)), ct (inR_nat' (show k < n + 2 by omega)), Int.toNat_natCast, ct (h.jumps q), h.target q]
          simp only [Option.bind_some]
          rw [hg]
          simp only [Option.bind_some]
          rw [hM2 k (Nat.le_refl _) q, h.ja k q, w_succ (by omega)]
          rfl
        · unfold updF
          split
          · rename_i e; rw [e]
          · exact hM1 j (by omega) hjn
        · rw [updF_ne M _ (show j ≠ k by omega)]
          exact hM2 j (by omega) hjn
      · by_cases q2 : k < n + 2
        · refine .inl ⟨.c0 M C ((k + 1 : Nat) : Int), ?_, ⟨k + 1, rfl, by omega, fun j hj hjn => hM1 j (by omega) hjn, fun j hj hjn => by omega, fun j => by have := hC j; omega⟩, by show n + 2 - ((k + 1 : Nat) : Int).toNat < n + 2 - (k : Int).toNat; omega, fun r hr => hr⟩
          unfold st_opt_Thread_L0
          simp only [bindT]
          rw [ct (d_t (by omega)), ct (inR_nat' q2), Int.toNat_natCast, cf (h.jumps' q2 (by omega)), w_succ (by omega)]
        · refine .inr ⟨_, ?_, M, C, rfl, fun j hj => hM1 j (by omega) hj⟩
          unfold st_opt_Thread_L0
          simp only [bindT]
          rw [cf (d_f (by omega))]) (.c0 A (fun _ => 0) 0) ⟨0, rfl, by omega, fun j hj _ => by omega, fun j _ _ => rfl, fun j => Int.le_refl _⟩
  obtain ⟨M, C, rfl, h3⟩ := h2
  refine ⟨M, ?_, h3⟩
  unfold m_opt_Thread
  rw [h.check]
  simp only [Option.bind_some]
  rw [ct (by rfl), ct (d_t (by omega)), h1]
  rfl
end
theorem ints_same {n : Nat} {A B : Nat → Int} (hn : n ≤ 100000) (h : ∀ k, k < n → A k = B k) : m_barbicanhelp_Ints n A n B = some true := by
  unfold m_barbicanhelp_Ints
  rw [ct (by simp)]
  obtain ⟨r, h1, h2⟩ := lpO_ind (st := st_barbicanhelp_Ints_L0 n A n B) (fun s => match s with | .c0 y => ∃ k : Nat, y = (k : Int) ∧ k ≤ n) (fun s => match s with | .c0 y => n - y.toNat) (fun _ r => r = .e0) (fun s hs => by
    obtain ⟨y⟩ := s
    obtain ⟨k, rfl, hk⟩ := hs
    by_cases h' : k < n
    · refine .inl ⟨.c0 ((k + 1 : Nat) : Int), ?_, ⟨k + 1, rfl, by omega⟩, by show n - ((k + 1 : Nat) : Int).toNat < n - (k : Int).toNat; omega, fun r hr => hr⟩
      unfold st_barbicanhelp_Ints_L0
      simp only
      rw [ct (d_t (by omega)), ct (inR_nat' h'), ct (inR_nat' h'), Int.toNat_natCast, ct (by rw [h k h']; simp), w_succ (by omega)]
    · refine .inr ⟨_, ?_, rfl⟩
      unfold st_barbicanhelp_Ints_L0
      simp only
      rw [cf (d_f (by omega))]) (.c0 0) ⟨0, rfl, by omega⟩
  rw [h1, h2]
  rfl
theorem insns_same {n : Nat} {A B : Nat → Insn} (hn : n ≤ 100000) (h : ∀ k, k < n → A k = B k) : m_barbicanhelp_Insns n A n B = some true := by
  unfold m_barbicanhelp_Insns
  rw [ct (by simp)]
  obtain ⟨r, h1, h2⟩ := lpO_ind (st := st_barbicanhelp_Insns_L0 n A n B) (fun s => match s with | .c0 y => ∃ k : Nat, y = (k : Int) ∧ k ≤ n) (fun s => match s with | .c0 y => n - y.toNat) (fun _ r => r = .e0) (fun s hs => by
    obtain ⟨y⟩ := s
    obtain ⟨k, rfl, hk⟩ := hs
    by_cases h' : k < n
    · refine .inl ⟨.c0 ((k + 1 : Nat) : Int), ?_, ⟨k + 1, rfl, by omega⟩, by show n - ((k + 1 : Nat) : Int).toNat < n - (k : Int).toNat; omega, fun r hr => hr⟩
      unfold st_barbicanhelp_Insns_L0
      simp only
      rw [ct (d_t (by omega)), ct (inR_nat' h'), ct (inR_nat' h'), Int.toNat_natCast, ct (by rw [h k h']; simp), w_succ (by omega)]
    · refine .inr ⟨_, ?_, rfl⟩
      unfold st_barbicanhelp_Insns_L0
      simp only
      rw [cf (d_f (by omega))]) (.c0 0) ⟨0, rfl, by omega⟩
  rw [h1, h2]
  rfl
theorem numO_is {n : Nat} {B : Nat → Int} (h0 : B 0 = (n : Int)) (h1 : B 1 = ((n + 1 : Nat) : Int)) : m_barbicanhelp_Ints 2 (numO n) 2 B = some true :=
  ints_same (show 2 ≤ 100000 by omega) fun k hk => by
    rcases (show k = 0 ∨ k = 1 by omega) with rfl | rfl
    · rw [h0]; rfl
    · rw [h1]; rfl
theorem known_true : m_barbicanlaw20_known = some true := by
  unfold m_barbicanlaw20_known
  have hc : Chain 1 0#32 (fun k => if k = 0 then (⟨5#8, 0#8, 0#8, 0#16, 0#32⟩ : Insn) else if k = 1 then (⟨183#8, 0#8, 0#8, 0#16, 0#32⟩ : Insn) else (⟨149#8, 0#8, 0#8, 0#16, 0#32⟩ : Insn)) := by
    refine ⟨by omega, .inl rfl, fun k hk => ?_, rfl, rfl⟩
    obtain rfl : k = 0 := by omega
    rfl
  rw [show (3 : Nat) = 1 + 2 from rfl, hc.trim]
  simp only [Option.bind_some]
  rw [ct (by rfl), ct (show inR 0 2 = true by decide), ct (by rfl), numO_is (by rfl) (by rfl)]
  rfl

theorem nums_is {n : Nat} (hn : n ≤ 100) : m_barbicanhelp_Ints 2 (numO n) 2 (fun k => if k = 0 then (n : Int) else (IntKind.i64.wrap ((n : Int) + 1))) = some true :=
  numO_is rfl (by rw [w_succ (by omega)]; rfl)
theorem rows_is {n : Nat} {c : BitVec 32} {A : Nat → Insn} : m_barbicanhelp_Insns 2 (rowN n A) (n + 2 - n) (fun k => A (n + k)) = some true := by
  rw [show n + 2 - n = 2 by omega]
  refine insns_same (by omega) fun k hk => ?_
  rcases (show k = 0 ∨ k = 1 by omega) with rfl | rfl <;> rfl
theorem law_row {n : Nat} (h0 : 0 < n) (hn : n ≤ 100) : lpO (st_barbicanlaw20_OptChains_L0 (n : Int)) .c0 = some (.e1 n (fun _ => ja0)) := by
  have s0 : st_barbicanlaw20_OptChains_L0 (n : Int) .c0 = some (.inl (.c1 1 (fun _ => ja0) 1)) := by
    unfold st_barbicanlaw20_OptChains_L0
    simp only
    rw [ct (d_t (by omega))]
  rw [lpO_next s0]
  obtain ⟨r, h1, h2⟩ := lpO_ind (st := st_barbicanlaw20_OptChains_L0 (n : Int)) (fun s => match s with | .c0 => False | .c1 m A y => y = (m : Int) ∧ m ≤ n ∧ A = fun _ => ja0) (fun s => match s with | .c0 => 0 | .c1 m A y => n - m) (fun _ r => r = .e1 n (fun _ => ja0)) (fun s hs => by
    cases s with
    | c0 => exact hs.elim
    | c1 m A y =>
      obtain ⟨rfl, hm, rfl⟩ := hs
      by_cases q : m < n
      · refine .inl ⟨.c1 (m + 1) (fun _ => ja0) ((m + 1 : Nat) : Int), ?_, ⟨rfl, by omega, rfl⟩, by show n - (m + 1) < n - m; omega, fun r hr => hr⟩
        unfold st_barbicanlaw20_OptChains_L0
        simp only
        rw [ct (d_t (by omega)), ct (d_t (by omega)), w_succ (by omega), show updF (fun _ => ja0) m ja0 = fun _ => ja0 from by funext j; unfold updF; split <;> rfl]
      · obtain rfl : m = n := by omega
        refine .inr ⟨_, ?_, rfl⟩
        unfold st_barbicanlaw20_OptChains_L0
        simp only
        rw [cf (d_f (by omega))]) (.c1 1 (fun _ => ja0) 1) ⟨rfl, by omega, rfl⟩
  rw [h1, h2]
theorem law_jumps {n : Nat} (hn : n ≤ 100) {M : Nat → Insn} (hM : ∀ k, k < n → M k = jaE n k) : ∃ v, lpO (st_barbicanlaw20_OptChains_L1v2 (n : Int) n M) (.c0 0) = some (.e0 v) := by
  obtain ⟨r, h1, h2⟩ := lpO_ind (st := st_barbicanlaw20_OptChains_L1v2 (n : Int) n M) (fun s => match s with | .c0 y => ∃ k : Nat, y = (k : Int) ∧ k ≤ n) (fun s => match s with | .c0 y => n - y.toNat) (fun _ r => ∃ v, r = .e0 v) (fun s hs => by
    obtain ⟨y⟩ := s
    obtain ⟨k, rfl, hk⟩ := hs
    by_cases q : k < n
    · refine .inl ⟨.c0 ((k + 1 : Nat) : Int), ?_, ⟨k + 1, rfl, by omega⟩, by show n - ((k + 1 : Nat) : Int).toNat < n - (k : Int).toNat; omega, fun r hr => hr⟩
      unfold st_barbicanlaw20_OptChains_L1v2
      simp only
      rw [ct (d_t (by omega)), ct (inR_nat' (by omega)), Int.toNat_natCast, hM k q, ct (by unfold jaE; simp), w_succ (by omega)]
    · refine .inr ⟨.e0 (IntKind.i64.wrap ((n : Int) + 1)), ?_, _, rfl⟩
      unfold st_barbicanlaw20_OptChains_L1v2
      simp only
      rw [cf (d_f (by omega))]) (.c0 0) ⟨0, rfl, by omega⟩
  obtain ⟨v, rfl⟩ := h2
  exact ⟨v, h1⟩
/-- The law answers true. -/
theorem optchains_true (y : Int) : m_barbicanlaw20_OptChains y = some true := by
  unfold m_barbicanlaw20_OptChains
  rw [known_true]
  simp only [Option.bind_some]
  rw [ct (b := true) rfl]
  by_cases h0 : y < 0
  · rw [ct (d_t h0)]
  by_cases h1 : 100 < y
  · rw [cf (d_f h0), ct (d_t h1)]
  rw [cf (d_f h0), cf (d_f h1)]
  obtain ⟨n, rfl⟩ := Int.eq_ofNat_of_zero_le (show 0 ≤ y by omega)
  by_cases hn : 0 < n
  · have hc : Chain n 3#32 (appL (fun _ => ja0) n [movC 3#32, exit0]) := by
      refine ⟨by omega, .inr rfl, fun k hk => ?_, ?_, ?_⟩
      · show updF (updF (fun _ => ja0) n _) (n + 1) _ k = _
        rw [updF_ne _ _ (show k ≠ n + 1 by omega), updF_ne _ _ (show k ≠ n by omega)]
      · show updF (updF (fun _ => ja0) n _) (n + 1) _ n = _
        rw [updF_ne _ _ (show n ≠ n + 1 by omega), updF_at]
      · show updF (updF (fun _ => ja0) n _) (n + 1) _ (n + 1) = _
        rw [updF_at]
    obtain ⟨M, hM, hj⟩ := hc.thread
    obtain ⟨v, hv⟩ := law_jumps (show n ≤ 100 by omega) hj
    rw [law_row hn (by omega)]
    simp only [Option.bind_some, bindT]
    rw [ct (d_t (by omega)), hc.trim]
    simp only [Option.bind_some]
    rw [hM]
    simp only [Option.bind_some]
    rw [ct (inR_nat' (by omega)), ct (inR_nat' (by omega)), Int.toNat_natCast, rows_is (c := 3#32)]
    simp only [Option.bind_some]
    rw [ct (b := true) rfl, nums_is (by omega)]
    simp only [Option.bind_some]
    rw [ct (b := true) rfl, ct (by simp), hv]
    rfl
  · obtain rfl : n = 0 := by omega
    have hc : Chain 0 3#32 (appL (fun _ => zeroI) 0 [movC 3#32, exit0]) := ⟨by omega, .inr rfl, fun k hk => by omega, rfl, rfl⟩
    obtain ⟨M, hM, hj⟩ := hc.thread
    have e0 : lpO (st_barbicanlaw20_OptChains_L0 ((0 : Nat) : Int)) .c0 = some .e0 := lpO_end (by
      unfold st_barbicanlaw20_OptChains_L0
      simp only
      rw [cf (d_f (by omega))])
    have e1 : ∃ v, lpO (st_barbicanlaw20_OptChains_L1 ((0 : Nat) : Int) M) (.c0 0) = some (.e0 v) := ⟨_, lpO_end (by
      unfold st_barbicanlaw20_OptChains_L1
      simp only
      rw [cf (d_f (by omega))])⟩
    obtain ⟨v, e1⟩ := e1
    have ht := hc.trim
    have hr := rows_is (n := 0) (c := 3#32) (A := appL (fun _ => zeroI) 0 [movC 3#32, exit0])
    simp only [Nat.zero_add] at ht hM
    rw [e0]
    simp only [Option.bind_some, bindT]
    rw [ht]
    simp only [Option.bind_some]
    rw [hM]
    simp only [Option.bind_some]
    rw [ct (inR_nat' (by omega)), ct (inR_nat' (by omega)), Int.toNat_natCast, hr]
    simp only [Option.bind_some]
    rw [ct (b := true) rfl, nums_is (by omega)]
    simp only [Option.bind_some]
    rw [ct (b := true) rfl, e1]
    rfl
end Go.Proofs.Ytkfmmcobmjkilaa
