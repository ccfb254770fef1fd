/-
  What the law knows of a program made shorter.
-/
import Derived.Test.YtkfmmcobmjkilaaON
import Derived.Test.YtkfmmcobmjkilaaOC4
namespace Go.Proofs.Ytkfmmcobmjkilaa
open Go.RowKit
set_option linter.unusedVariables false
set_option linter.unusedSimpArgs false
theorem upd_two {α : Type} (P : Nat → α) (a : Nat) (x y : α) : updF (updF P a x) a y = updF P a y := by
  funext j
  unfold updF
  by_cases e : j = a
  · rw [if_pos e, if_pos e]
  · rw [if_neg e, if_neg e, if_neg e]
abbrev zeroI : Insn := ⟨0#8, 0#8, 0#8, 0#16, 0#32⟩
section
variable {n : Nat} {c : BitVec 32} {A : Nat → Insn}
/-- The new numbers of the slots up to one. -/
def frs (n m : Nat) : Nat → Int := fun j => if j ≤ m then ((j - n : Nat) : Int) else 0
theorem frs_next {m : Nat} (hm : n ≤ m) : updF (frs n m) (m + 1) (((m + 1 - n : Nat) : Int)) = frs n (m + 1) := by
  funext j
  unfold updF frs
  by_cases e : j = m + 1
  · rw [if_pos e, if_pos (by omega), e]
  · rw [if_neg e]
    by_cases q : j ≤ m
    · rw [if_pos q, if_pos (by omega)]
    · rw [if_neg q, if_neg (by omega)]
theorem frs_same {m : Nat} (hm : m < n) : updF (frs n m) (m + 1) (frs n m m) = frs n (m + 1) := by
  have h0 : frs n m m = 0 := by unfold frs; rw [if_pos (by omega), show m - n = 0 by omega]; rfl
  rw [h0]
  funext j
  unfold updF frs
  by_cases e : j = m + 1
  · rw [if_pos e, if_pos (by omega), e, show m + 1 - n = 0 by omega]; rfl
  · rw [if_neg e]
    by_cases q : j ≤ m
    · rw [if_pos q, if_pos (by omega)]
    · rw [if_neg q, if_neg (by omega)]
theorem kp0_no {k : Nat} (h : k < n) : kp n 0 k = false := by
  unfold kp
  rw [d_f (show ¬ k < 0 by omega), d_f (show ¬ n ≤ k by omega)]
  simp
theorem kp0_yes {k : Nat} (h : n ≤ k) (h' : k < n + 2) : kp n 0 k = true := by
  unfold kp
  rw [d_t (show n ≤ k by omega), d_t (show k ≤ n + 1 by omega)]
  simp
theorem trim0 (hn : n ≤ 100) : lpO (st_opt_Trim_L0 (n + 2) (kp n 0)) (.c0 (fun _ => 0) 0) = some (.e0 (frs n (n + 2))) := by
  obtain ⟨r, h1, h2⟩ := lpO_ind (st := st_opt_Trim_L0 (n + 2) (kp n 0)) (fun s => match s with | .c0 F y => ∃ k : Nat, y = (k : Int) ∧ k ≤ n + 2 ∧ F = frs n k) (fun s => match s with | .c0 F y => n + 2 - y.toNat) (fun _ r => r = .e0 (frs n (n + 2))) (fun s hs => by
    obtain ⟨F, y⟩ := s
    obtain ⟨k, rfl, hk, rfl⟩ := hs
    by_cases q : k < n + 2
    · refine .inl ⟨.c0 (frs n (k + 1)) ((k + 1 : Nat) : Int), ?_, ⟨k + 1, rfl, by omega, rfl⟩, by show n + 2 - ((k + 1 : Nat) : Int).toNat < n + 2 - (k : Int).toNat; omega, fun r hr => hr⟩
      unfold st_opt_Trim_L0
      simp only [bindT]
      rw [ct (d_t (by omega)), ct (inR_nat' (show k < 4097 by omega)), w_succ (by omega), ct (inR_nat' (show k + 1 < 4097 by omega)), ct (inR_nat' q), Int.toNat_natCast, Int.toNat_natCast]
      by_cases q2 : k < n
      · rw [cf (kp0_no q2), frs_same q2]
      · have e2 : frs n k k = ((k - n : Nat) : Int) := by unfold frs; rw [if_pos (Nat.le_refl _)]
        rw [ct (kp0_yes (by omega) q), upd_two, updF_at, e2, w_succ (by omega), show k - n + 1 = k + 1 - n by omega, frs_next (by omega)]
    · obtain rfl : k = n + 2 := by omega
      refine .inr ⟨_, ?_, rfl⟩
      unfold st_opt_Trim_L0
      simp only
      rw [cf (d_f (by omega))]) (.c0 (fun _ => 0) 0) ⟨0, rfl, by omega, by
        funext j
        unfold frs
        by_cases e : j ≤ 0
        · rw [if_pos e, show j - n = 0 by omega]; rfl
        · rw [if_neg e]⟩
  rw [h1, h2]
abbrev rowN (n : Nat) (A : Nat → Insn) : Nat → Insn := updF (updF (fun _ => zeroI) 0 (A n)) 1 (A (n + 1))
abbrev numO (n : Nat) : Nat → Int := updF (updF (fun _ => 0) 0 (n : Int)) 1 ((n + 1 : Nat) : Int)
theorem Chain.trim1 (h : Chain n c A) (F : Nat → Int) : lpO (st_opt_Trim_L1 (n + 2) A (kp n 0) F) (.c0 0 (fun _ => zeroI) 0 (fun _ => 0) 0) = some (.e0 2 (rowN n A) 2 (numO n)) := by
  have hm := h.most
  have skip : ∀ k, k ≤ n → lpO (st_opt_Trim_L1 (n + 2) A (kp n 0) F) (.c0 0 (fun _ => zeroI) 0 (fun _ => 0) 0) = lpO (st_opt_Trim_L1 (n + 2) A (kp n 0) F) (.c0 0 (fun _ => zeroI) 0 (fun _ => 0) (k : Int)) := by
    intro k
    induction k with
    | zero => intro _; rfl
    | succ k ih =>
      intro hk
      rw [ih (by omega)]
      apply lpO_next
      unfold st_opt_Trim_L1
      simp only
      rw [ct (d_t (by omega)), ct (inR_nat' (by omega)), Int.toNat_natCast, cf (kp0_no (by omega)), w_succ (by omega)]
  have s1 : st_opt_Trim_L1 (n + 2) A (kp n 0) F (.c0 0 (fun _ => zeroI) 0 (fun _ => 0) (n : Int)) = some (.inl (.c0 1 (updF (fun _ => zeroI) 0 (A n)) 1 (updF (fun _ => 0) 0 (n : Int)) ((n + 1 : Nat) : Int))) := by
    unfold st_opt_Trim_L1
    simp only [bindT]
    rw [ct (d_t (by omega)), ct (inR_nat' (by omega)), Int.toNat_natCast, ct (kp0_yes (Nat.le_refl _) (by omega)), h.target' (by omega) (Nat.le_refl _)]
    simp only [Option.bind_some]
    rw [cf (b := false) rfl, ct (d_t (by omega)), ct (d_t (by omega)), w_succ (by omega)]
  have s2 : st_opt_Trim_L1 (n + 2) A (kp n 0) F (.c0 1 (updF (fun _ => zeroI) 0 (A n)) 1 (updF (fun _ => 0) 0 (n : Int)) ((n + 1 : Nat) : Int)) = some (.inl (.c0 2 (rowN n A) 2 (numO n) ((n + 1 + 1 : Nat) : Int))) := by
    unfold st_opt_Trim_L1
    simp only [bindT]
    rw [ct (d_t (by omega)), ct (inR_nat' (by omega)), Int.toNat_natCast, ct (kp0_yes (by omega) (by omega)), h.target' (by omega) (by omega)]
    simp only [Option.bind_some]
    rw [cf (b := false) rfl, ct (d_t (by omega)), ct (d_t (by omega)), w_succ (by omega)]
  have s3 : st_opt_Trim_L1 (n + 2) A (kp n 0) F (.c0 2 (rowN n A) 2 (numO n) ((n + 1 + 1 : Nat) : Int)) = some (.inr (.e0 2 (rowN n A) 2 (numO n))) := by
    unfold st_opt_Trim_L1
    simp only [bindT]
    rw [cf (d_f (by omega))]
  rw [skip n (Nat.le_refl _), lpO_next s1, lpO_next s2, lpO_end s3]
theorem Chain.trim (h : Chain n c A) : m_opt_Trim (n + 2) A = some (.e0 2 (rowN n A) 2 (numO n)) := by
  have hm := h.most
  have e1 : inR ((n + 2 : Nat) : Int) 1000001 = true := inR_iff.2 ⟨by omega, by omega⟩
  have e2 : inR ((2 : Nat) : Int) (2 + 1) = true := by decide
  unfold m_opt_Trim
  rw [e1, h.check]
  simp only [Option.bind_some]
  rw [ct (by rfl), h.kept]
  simp only [Option.bind_some]
  rw [trim0 h.most]
  simp only [Option.bind_some]
  rw [ct (b := true) rfl, h.trim1]
  simp only [Option.bind_some]
  rw [ct e2, ct e2]
end
theorem ints_same {n : Nat} {A B : Nat → Int} (hn : n ≤ 100000) (h : ∀ k, k < n → A k = B k) : m_barbicanhelp_Ints n A n B = some true := by
  unfold m_barbicanhelp_Ints
  rw [ct (by simp)]
  obtain ⟨r, h1, h2⟩ := lpO_ind (st := st_barbicanhelp_Ints_L0 n A n B) (fun s => match s with | .c0 y => ∃ k : Nat, y = (k : Int) ∧ k ≤ n) (fun s => match s with | .c0 y => n - y.toNat) (fun _ r => r = .e0) (fun s hs => by
    obtain ⟨y⟩ := s
    obtain ⟨k, rfl, hk⟩ := hs
    by_cases h' : k < n
    · refine .inl ⟨.c0 ((k + 1 : Nat) : Int), ?_, ⟨k + 1, rfl, by omega⟩, by show n - ((k + 1 : Nat) : Int).toNat < n - (k : Int).toNat; omega, fun r hr => hr⟩
      unfold st_barbicanhelp_Ints_L0
      simp only
      rw [ct (d_t (by omega)), ct (inR_nat' h'), ct (inR_nat' h'), Int.toNat_natCast, ct (by rw [h k h']; simp), w_succ (by omega)]
    · refine .inr ⟨_, ?_, rfl⟩
      unfold st_barbicanhelp_Ints_L0
      simp only
      rw [cf (d_f (by omega))]) (.c0 0) ⟨0, rfl, by omega⟩
  rw [h1, h2]
  rfl
theorem numO_is {n : Nat} {B : Nat → Int} (h0 : B 0 = (n : Int)) (h1 : B 1 = ((n + 1 : Nat) : Int)) : m_barbicanhelp_Ints 2 (numO n) 2 B = some true :=
  ints_same (show 2 ≤ 100000 by omega) fun k hk => by
    rcases (show k = 0 ∨ k = 1 by omega) with rfl | rfl
    · rw [h0]; rfl
    · rw [h1]; rfl
theorem known_true : m_barbicanlaw20_known = some true := by
  unfold m_barbicanlaw20_known
  have hc : Chain 1 0#32 (fun k => if k = 0 then (⟨5#8, 0#8, 0#8, 0#16, 0#32⟩ : Insn) else if k = 1 then (⟨183#8, 0#8, 0#8, 0#16, 0#32⟩ : Insn) else (⟨149#8, 0#8, 0#8, 0#16, 0#32⟩ : Insn)) := by
    refine ⟨by omega, .inl rfl, fun k hk => ?_, rfl, rfl⟩
    obtain rfl : k = 0 := by omega
    rfl
  rw [show (3 : Nat) = 1 + 2 from rfl, hc.trim]
  simp only [Option.bind_some]
  rw [ct (by rfl), ct (show inR 0 2 = true by decide), ct (by rfl), numO_is (by rfl) (by rfl)]
  rfl

end Go.Proofs.Ytkfmmcobmjkilaa

