/-
  Instructions: a row of subprograms, each called by the first one (the law InsnParts), in plain words.
-/
import Derived.Test.YtmlkiamemkfdlaaS1P
import Derived.Test.YtmlkiamemkfdlaaS1XParts
namespace Go.Proofs.Ytmlkiamemkfdlaa
open Go.RowKit
set_option linter.unusedVariables false
set_option linter.unusedSimpArgs false
set_option linter.unusedSectionVars false
abbrev call1 (x : Int) : Insn := ⟨133#8, 0#8, 1#8, 0#16, BitVec.ofInt 32 x⟩
/-- Slot j of the row. -/
def pslot (n z j : Nat) : Insn :=
  if j + 1 < n then call1 ((n : Int) - 1 - j + ((j * z : Nat) : Int)) else if j + 1 = n then exit0 else if (j - n) % z + 1 = z then exit0 else mov0
/-- Where the subprogram i begins. -/
def pst (n z : Nat) : Nat → Nat
  | 0 => 0
  | i + 1 => n + i * z
theorem pst_lt {n z i j : Nat} (hn : 0 < n) (hz : 0 < z) (h : i < j) : pst n z i < pst n z j := by
  cases j with
  | zero => omega
  | succ j =>
    cases i with
    | zero => show 0 < n + j * z; omega
    | succ i =>
      have : i * z < j * z := (Nat.mul_lt_mul_right hz).2 (by omega)
      show n + i * z < n + j * z
      omega
theorem pst_inj {n z i j : Nat} (hn : 0 < n) (hz : 0 < z) (h : pst n z i = pst n z j) : i = j := by
  rcases Nat.lt_trichotomy i j with c | c | c
  · have := pst_lt hn hz c; omega
  · exact c
  · have := pst_lt hn hz c; omega
theorem pst_of_lt {n z i j : Nat} (hn : 0 < n) (hz : 0 < z) (h : pst n z i < pst n z j) : i < j := by
  rcases Nat.lt_trichotomy i j with c | c | c
  · exact c
  · subst c; omega
  · have := pst_lt hn hz c; omega
theorem pst_le {n z i : Nat} (hn : 0 < n) (hz : 0 < z) (h : i ≤ n) : pst n z i ≤ pst n z n := by
  by_cases c : i = n
  · subst c; exact Nat.le_refl _
  · exact Nat.le_of_lt (pst_lt hn hz (by omega))
theorem pst_big {n z i : Nat} (hn : 0 < n) (hn' : n ≤ 80) (hz' : z ≤ 10) (h : i ≤ n) : pst n z i ≤ 870 := by
  cases i with
  | zero => show 0 ≤ 870; omega
  | succ i =>
    have : i * z ≤ 79 * 10 := Nat.mul_le_mul (by omega) hz'
    show n + i * z ≤ 870
    omega
theorem pslot_call {n z j : Nat} (h : j + 1 < n) : pslot n z j = call1 ((n : Int) - 1 - j + ((j * z : Nat) : Int)) := if_pos h
theorem pslot_exit {n z j : Nat} (h : j + 1 = n) : pslot n z j = exit0 := by unfold pslot; rw [if_neg (by omega), if_pos h]
theorem pslot_mov {n z q t : Nat} (hn : 0 < n) (h : t + 1 < z) : pslot n z (n + q * z + t) = mov0 := by
  unfold pslot
  rw [if_neg (by omega), if_neg (by omega), show n + q * z + t - n = t + q * z by omega, Nat.add_mul_mod_self_right, Nat.mod_eq_of_lt (by omega), if_neg (by omega)]
theorem pslot_last {n z q t : Nat} (hn : 0 < n) (h : t + 1 = z) : pslot n z (n + q * z + t) = exit0 := by
  unfold pslot
  rw [if_neg (by omega), if_neg (by omega), show n + q * z + t - n = t + q * z by omega, Nat.add_mul_mod_self_right, Nat.mod_eq_of_lt (by omega), if_pos h]
theorem pslot_cases (n z j : Nat) : (j + 1 < n ∧ pslot n z j = call1 ((n : Int) - 1 - j + ((j * z : Nat) : Int))) ∨ (n ≤ j + 1 ∧ (pslot n z j = exit0 ∨ pslot n z j = mov0)) := by
  by_cases h : j + 1 < n
  · exact .inl ⟨h, pslot_call h⟩
  · refine .inr ⟨by omega, ?_⟩
    unfold pslot
    rw [if_neg h]
    split
    · exact .inl rfl
    · split
      · exact .inl rfl
      · exact .inr rfl
/-- The row up to slot m. -/
def PRow (n z m : Nat) (A : Nat → Insn) : Prop := ∀ j, j < m → A j = pslot n z j
theorem PRow.push {n z m : Nat} {A : Nat → Insn} (h : PRow n z m A) {v : Insn} (hv : v = pslot n z m) : PRow n z (m + 1) (updF A m v) := fun j hj => by
  by_cases c : j = m
  · subst c; rw [updF_at, hv]
  · rw [updF_ne _ _ c]; exact h j (by omega)
theorem PRow.wide {n z m : Nat} {A : Nat → Insn} (h : PRow n z m A) {j : Nat} (hj : j < m) : wideB (A j) = false := by
  rw [h j hj]
  rcases pslot_cases n z j with ⟨_, e⟩ | ⟨_, e | e⟩ <;> rw [e] <;> rfl
theorem PRow.sec {n z m : Nat} {A : Nat → Insn} (h : PRow n z m A) : ∀ {j : Nat}, j ≤ m → sec A j = false
  | 0, _ => rfl
  | j + 1, hj => by
    show (wideB (A j) && !Go.Proofs.Ytmlkiamemkfdlaa.sec A j) = false
    rw [h.wide (by omega)]; rfl
theorem call_imm {n z j : Nat} (hn' : n ≤ 80) (hz' : z ≤ 10) (h : j + 1 < n) : (j : Int) + 1 + ii (call1 ((n : Int) - 1 - j + ((j * z : Nat) : Int))).fImm = (pst n z (j + 1) : Int) := by
  have hb : j * z ≤ 79 * 10 := Nat.mul_le_mul (by omega) hz'
  have e : ii (BitVec.ofInt 32 ((n : Int) - 1 - j + ((j * z : Nat) : Int))) = (n : Int) - 1 - j + ((j * z : Nat) : Int) := by
    unfold ii
    rw [BitVec.toInt_ofInt, Int.bmod_eq_of_le] <;> omega
  show (j : Int) + 1 + ii (BitVec.ofInt 32 ((n : Int) - 1 - j + ((j * z : Nat) : Int))) = ((n + j * z : Nat) : Int)
  rw [e]
  omega
theorem names_call1 (x : Int) : m_insn_names (call1 x) = true := by simp [m_insn_names]
theorem known_call1 (x : Int) : m_insn_known (call1 x) = true := by simp [m_insn_known]
section
variable {n z : Nat} {A : Nat → Insn} (hn : 0 < n) (hn' : n ≤ 80) (hz : 0 < z) (hz' : z ≤ 10) (h : PRow n z (pst n z n) A)
include hn hn' hz hz' h
theorem PRow.err {j : Nat} (hj : j < pst n z n) : errB (pst n z n) A j = 0 := by
  rcases pslot_cases n z j with ⟨hc, e⟩ | ⟨_, e | e⟩
  · have e' := (h j hj).trans e
    have hi := call_imm (z := z) hn' hz' hc
    have h1 := pst_lt (n := n) (z := z) hn hz (show 0 < j + 1 by omega)
    have h2 := pst_lt (n := n) (z := z) hn hz hc
    have hcb : callB (pst n z n) A (pst n z (j + 1) : Int) = true := callB_iff.2 ⟨by have : pst n z 0 = 0 := rfl; omega, by omega, by rw [Int.toNat_natCast]; exact h.sec (by omega)⟩
    unfold errB
    rw [e', hi, hcb, known_call1]
    rfl
  · exact err_exit ((h j hj).trans e)
  · exact err_mov ((h j hj).trans e)
theorem PRow.beg {j : Nat} : Beg (pst n z n) A j ↔ ∃ i, i < n ∧ j = pst n z i := by
  constructor
  · rintro (rfl | ⟨k, hk, hs, hm, he⟩)
    · exact ⟨0, hn, rfl⟩
    · rcases pslot_cases n z k with ⟨hc, e⟩ | ⟨_, e | e⟩
      · have e' := (h k hk).trans e
        rw [e', call_imm hn' hz' hc] at he
        exact ⟨k + 1, hc, by omega⟩
      · rw [(h k hk).trans e] at hm; cases hm
      · rw [(h k hk).trans e] at hm; cases hm
  · rintro ⟨i, hi, rfl⟩
    cases i with
    | zero => exact .inl rfl
    | succ i =>
      have hlt : i < pst n z n := by
        have h1 : n ≤ pst n z n := by
          cases n with
          | zero => omega
          | succ n => show n + 1 ≤ n + 1 + n * z; omega
        omega
      refine .inr ⟨i, hlt, h.sec (by omega), ?_, ?_⟩
      · rw [(h i hlt).trans (pslot_call hi)]; exact names_call1 _
      · rw [(h i hlt).trans (pslot_call hi)]; exact call_imm hn' hz' hi
theorem PRow.parts {g : Nat → Bool} (hg : ∀ j, g j = true ↔ Beg (pst n z n) A j) {N : Nat} {P : Nat → Part} (hP : Parts g (pst n z n) N P) :
    N = n ∧ ∀ i, i < n → (P i).fFrom = (pst n z i : Int) ∧ (P i).fTo = (pst n z (i + 1) : Int) := by
  have hb : ∀ j, g j = true ↔ ∃ i, i < n ∧ j = pst n z i := fun j => (hg j).trans (PRow.beg hn hn' hz hz' h)
  have key : ∀ i, i < N → i < n ∧ (P i).fFrom = (pst n z i : Int) ∧ (P i).fTo = (pst n z (i + 1) : Int) := by
    have step : ∀ i, i < N → i < n → (P i).fFrom = (pst n z i : Int) → (P i).fTo = (pst n z (i + 1) : Int) := fun i hi hin hf => by
      have hl := hP.lt i hi
      obtain ⟨j, hj, hto⟩ : ∃ j, j ≤ n ∧ (P i).fTo = (pst n z j : Int) := by
        by_cases hlast : i + 1 < N
        · have := hP.next i hlast
          obtain ⟨j, hj, e⟩ := (hb _).1 (hP.beg (i + 1) hlast)
          have := hP.lt (i + 1) hlast
          exact ⟨j, by omega, by omega⟩
        · refine ⟨n, Nat.le_refl _, ?_⟩
          rw [show i = N - 1 by omega]
          exact hP.last
      have hij : i < j := pst_of_lt hn hz (by omega)
      have hle : j ≤ i + 1 := by
        apply Classical.byContradiction
        intro c
        have hgt : g (pst n z (i + 1)) = true := (hb _).2 ⟨i + 1, by omega, rfl⟩
        have h1 := pst_lt (n := n) (z := z) hn hz (show i < i + 1 by omega)
        have h2 := pst_lt (n := n) (z := z) hn hz (show i + 1 < j by omega)
        rw [hP.inner i hi (pst n z (i + 1)) (by omega) (by omega)] at hgt
        cases hgt
      rw [hto, show j = i + 1 by omega]
    intro i
    induction i with
    | zero => intro hi; exact ⟨hn, hP.first, step 0 hi hn hP.first⟩
    | succ i ih =>
      intro hi
      obtain ⟨h1, h2, h3⟩ := ih (by omega)
      have hf : (P (i + 1)).fFrom = (pst n z (i + 1) : Int) := (hP.next i hi).symm.trans h3
      have hin : i + 1 < n := by
        obtain ⟨j, hj, e⟩ := (hb _).1 (hP.beg (i + 1) hi)
        rw [hf, Int.toNat_natCast] at e
        rw [pst_inj hn hz e]; exact hj
      exact ⟨hin, hf, step (i + 1) hi hin hf⟩
  have hpos := hP.pos
  obtain ⟨k1, k2, k3⟩ := key (N - 1) (by omega)
  have hN : N = n := by
    have := hP.last
    rw [k3] at this
    have := pst_inj (n := n) (z := z) hn hz (show pst n z (N - 1 + 1) = pst n z n by omega)
    omega
  exact ⟨hN, fun i hi => (key i (by omega)).2⟩
theorem PRow.ends {i : Nat} (hi : i < n) : endOk A (pst n z (i + 1)) = true := by
  have hle := pst_le (n := n) (z := z) hn hz (show i + 1 ≤ n by omega)
  have hp := pst_lt (n := n) (z := z) hn hz (show 0 < i + 1 by omega)
  have h0 : pst n z 0 = 0 := rfl
  unfold endOk lastAt
  rw [h.sec (by omega), if_neg (by simp), h _ (by omega)]
  have : pslot n z (pst n z (i + 1) - 1) = exit0 := by
    cases i with
    | zero => exact pslot_exit (by show n + 0 * z - 1 + 1 = n; omega)
    | succ i =>
      have e : pst n z (i + 1 + 1) - 1 = n + i * z + (z - 1) := by
        show n + (i + 1) * z - 1 = _
        rw [Nat.add_mul]; omega
      rw [e]; exact pslot_last hn (by omega)
  rw [this]; rfl
theorem PRow.subs : (64 < n → m_insn_Subs (pst n z n) A = some (.e0 0 17)) ∧ (n ≤ 64 → ∃ P, m_insn_Subs (pst n z n) A = some (.e1 n P) ∧ ∀ i, i < n → (P i).fFrom = (pst n z i : Int) ∧ (P i).fTo = (pst n z (i + 1) : Int)) := by
  have hb := pst_big (z := z) hn hn' hz' (Nat.le_refl n)
  have hp := pst_lt (n := n) (z := z) hn hz hn
  obtain ⟨r, hr, hs⟩ := subs_is (pst n z n) A
  rw [hr]
  cases hs with
  | many h' => omega
  | slot h1 k hk hs he hok => exact absurd (PRow.err hn hn' hz hz' h hk) he
  | subs h0 h1 hok g hg N P hN hP h64 =>
    obtain ⟨rfl, _⟩ := PRow.parts hn hn' hz hz' h hg hP
    exact ⟨fun _ => rfl, fun c => by omega⟩
  | ends h0 h1 hok g hg N P hN hP h64 i hi he hbb =>
    obtain ⟨rfl, hq⟩ := PRow.parts hn hn' hz hz' h hg hP
    rw [(hq i hi).2, Int.toNat_natCast, PRow.ends hn hn' hz hz' h hi] at he
    cases he
  | fine h0 h1 hok g hg N P hN hP h64 he =>
    obtain ⟨rfl, hq⟩ := PRow.parts hn hn' hz hz' h hg hP
    exact ⟨fun c => by omega, fun _ => ⟨P, rfl, hq⟩⟩
end

theorem wrn {k : Nat} (h : k ≤ 100000) : IntKind.i64.wrap (k : Int) = (k : Int) := by rw [wr] <;> omega
/-- The number that the program reckons for slot k. -/
theorem imm_eq {n z k : Nat} (hn' : n ≤ 80) (hz' : z ≤ 10) (h : k + 1 < n) :
    IntKind.i64.wrap ((IntKind.i64.wrap ((IntKind.i64.wrap ((IntKind.i64.wrap ((n : Int) - 1)) - ((k + 1 : Nat) : Int))) + 1)) + (IntKind.i64.wrap ((IntKind.i64.wrap (((k + 1 : Nat) : Int) - 1)) * (z : Int)))) = (n : Int) - 1 - k + ((k * z : Nat) : Int) := by
  have hb : k * z ≤ 79 * 10 := Nat.mul_le_mul (by omega) hz'
  have e1 : IntKind.i64.wrap ((n : Int) - 1) = (n : Int) - 1 := by rw [wr] <;> omega
  have e2 : IntKind.i64.wrap ((n : Int) - 1 - ((k + 1 : Nat) : Int)) = (n : Int) - 2 - k := by rw [wr] <;> omega
  have e3 : IntKind.i64.wrap ((n : Int) - 2 - k + 1) = (n : Int) - 1 - k := by rw [wr] <;> omega
  have e4 : IntKind.i64.wrap (((k + 1 : Nat) : Int) - 1) = (k : Int) := by rw [wr] <;> omega
  rw [e1, e2, e3, e4, ← Int.natCast_mul, wrn (by omega), wr (by omega) (by omega)]
theorem calls_loop {n z : Nat} (hn : 0 < n) (hn' : n ≤ 80) (hz : 0 < z) (hz' : z ≤ 10) : ∃ r, lpO (st_barbicanlaw1_InsnParts_L0 (n : Int) (z : Int)) (.c0) = some r ∧ ((n = 1 ∧ r = .e0) ∨ ∃ A, 1 < n ∧ r = .e1 (n - 1) A ∧ PRow n z (n - 1) A) := by
  refine lpO_ind (st := st_barbicanlaw1_InsnParts_L0 (n : Int) (z : Int)) (fun s => match s with | .c0 => True | .c1 k A x => x = ((k + 1 : Nat) : Int) ∧ 0 < k ∧ k + 1 ≤ n ∧ PRow n z k A) (fun s => match s with | .c0 => 100 | .c1 k A x => 99 - k)
    (fun _ r => (n = 1 ∧ r = .e0) ∨ ∃ A, 1 < n ∧ r = .e1 (n - 1) A ∧ PRow n z (n - 1) A) ?_ .c0 trivial
  rintro (_ | ⟨k, A, x⟩) hI
  · by_cases h : 1 < n
    · have hi := imm_eq (z := z) hn' hz' (show 0 + 1 < n by omega)
      have e0 : IntKind.i64.wrap (((0 + 1 : Nat) : Int) - 1) = 0 := by rw [wr] <;> omega
      rw [e0] at hi
      refine .inl ⟨.c1 1 (fun _ => call1 ((n : Int) - 1 - (0 : Nat) + ((0 * z : Nat) : Int))) 2, ?_, ⟨rfl, by omega, by omega, fun j hj => ?_⟩, by show 99 - 1 < 100; omega, fun r hr => hr⟩
      · rw [← hi]
        simp only [st_barbicanlaw1_InsnParts_L0, d_t (p := (1 : Int) < (n : Int)) (by omega), cond_true]
        rfl
      · obtain rfl : j = 0 := by omega
        exact (pslot_call h).symm
    · refine .inr ⟨.e0, ?_, .inl ⟨by omega, rfl⟩⟩
      simp only [st_barbicanlaw1_InsnParts_L0, d_f (p := (1 : Int) < (n : Int)) (by omega), cond_false]
  · obtain ⟨rfl, hk, hle, hA⟩ := hI
    by_cases h : k + 1 < n
    · have hi := imm_eq (z := z) hn' hz' h
      have e1 : IntKind.i64.wrap (((k + 1 : Nat) : Int) + 1) = ((k + 1 + 1 : Nat) : Int) := by rw [wr] <;> omega
      refine .inl ⟨.c1 (k + 1) (updF A k (call1 ((n : Int) - 1 - k + ((k * z : Nat) : Int)))) ((k + 1 + 1 : Nat) : Int), ?_, ⟨rfl, by omega, by omega, hA.push (pslot_call h).symm⟩, by show 99 - (k + 1) < 99 - k; omega, fun r hr => hr⟩
      simp only [st_barbicanlaw1_InsnParts_L0, d_t (p := ((k + 1 : Nat) : Int) < (n : Int)) (by omega), cond_true, d_t (p := k ≤ 1000000) (by omega), bindT, hi, e1]
    · refine .inr ⟨.e1 k A, ?_, .inr ⟨A, by omega, by rw [show n - 1 = k by omega], by rw [show n - 1 = k by omega]; exact hA⟩⟩
      simp only [st_barbicanlaw1_InsnParts_L0, d_f (p := ((k + 1 : Nat) : Int) < (n : Int)) (by omega), cond_false]
theorem mov_loop {n z q : Nat} (hn : 0 < n) (hn' : n ≤ 80) (hz : 0 < z) (hz' : z ≤ 10) (hq : q ≤ 80) {A : Nat → Insn} (hA : PRow n z (n + q * z) A) : ∃ r, lpO (st_barbicanlaw1_InsnParts_L1_L2v3 (z : Int)) (.c0 (n + q * z) A 1) = some r ∧ ∃ A' x y, r = .e0 (n + q * z + (z - 1)) A' x y ∧ PRow n z (n + q * z + (z - 1)) A' := by
  have hb : q * z ≤ 80 * 10 := Nat.mul_le_mul hq hz'
  refine lpO_ind (st := st_barbicanlaw1_InsnParts_L1_L2v3 (z : Int)) (fun s => match s with | .c0 m A' x => ∃ t : Nat, x = ((t + 1 : Nat) : Int) ∧ t < z ∧ m = n + q * z + t ∧ PRow n z m A') (fun s => match s with | .c0 m A' x => 99 - x.toNat)
    (fun _ r => ∃ A' x y, r = .e0 (n + q * z + (z - 1)) A' x y ∧ PRow n z (n + q * z + (z - 1)) A') ?_ _ ⟨0, rfl, hz, rfl, hA⟩
  rintro ⟨m, A', x⟩ ⟨t, rfl, ht, rfl, hA'⟩
  by_cases h : t + 1 < z
  · have e1 : IntKind.i64.wrap (((t + 1 : Nat) : Int) + 1) = ((t + 1 + 1 : Nat) : Int) := by rw [wr] <;> omega
    refine .inl ⟨.c0 (n + q * z + t + 1) (updF A' (n + q * z + t) mov0) ((t + 1 + 1 : Nat) : Int), ?_, ⟨t + 1, rfl, h, rfl, hA'.push (pslot_mov hn h).symm⟩, by show 99 - ((t + 1 + 1 : Nat) : Int).toNat < 99 - ((t + 1 : Nat) : Int).toNat; omega, fun r hr => hr⟩
    simp only [st_barbicanlaw1_InsnParts_L1_L2v3, d_t (p := ((t + 1 : Nat) : Int) < (z : Int)) (by omega), cond_true, d_t (p := n + q * z + t ≤ 1000000) (by omega), e1]
  · obtain rfl : t = z - 1 := by omega
    refine .inr ⟨.e0 (n + q * z + (z - 1)) A' ((z - 1 + 1 : Nat) : Int) ((z - 1 + 1 : Nat) : Int), ?_, A', _, _, rfl, hA'⟩
    simp only [st_barbicanlaw1_InsnParts_L1_L2v3, d_f (p := ((z - 1 + 1 : Nat) : Int) < (z : Int)) (by omega), cond_false]
theorem subs_loop {n z : Nat} (hn : 0 < n) (hn' : n ≤ 80) (hz : 0 < z) (hz' : z ≤ 10) {A : Nat → Insn} (hA : PRow n z n A) : ∃ A', lpO (st_barbicanlaw1_InsnParts_L1 (n : Int) (z : Int)) (.c0 n A 1) = some (.e0 (pst n z n) A') ∧ PRow n z (pst n z n) A' := by
  have key : ∃ r, lpO (st_barbicanlaw1_InsnParts_L1 (n : Int) (z : Int)) (.c0 n A 1) = some r ∧ ∃ A', r = .e0 (pst n z n) A' ∧ PRow n z (pst n z n) A' := by
    refine lpO_ind (st := st_barbicanlaw1_InsnParts_L1 (n : Int) (z : Int)) (fun s => match s with | .c0 m A' x => ∃ q : Nat, x = ((q + 1 : Nat) : Int) ∧ q + 1 ≤ n ∧ m = n + q * z ∧ PRow n z m A') (fun s => match s with | .c0 m A' x => 99 - x.toNat)
      (fun _ r => ∃ A', r = .e0 (pst n z n) A' ∧ PRow n z (pst n z n) A') ?_ _ ⟨0, rfl, by omega, by omega, hA⟩
    rintro ⟨m, A', x⟩ ⟨q, rfl, hq, rfl, hA'⟩
    have hb : q * z ≤ 80 * 10 := Nat.mul_le_mul (by omega) hz'
    by_cases h : q + 1 < n
    · have e1 : IntKind.i64.wrap (((q + 1 : Nat) : Int) + 1) = ((q + 1 + 1 : Nat) : Int) := by rw [wr] <;> omega
      obtain ⟨r, hr, A2, x2, y2, rfl, h2⟩ := mov_loop hn hn' hz hz' (by omega) hA'
      have e2 : n + q * z + (z - 1) + 1 = n + (q + 1) * z := by rw [Nat.add_mul]; omega
      refine .inl ⟨.c0 (n + q * z + (z - 1) + 1) (updF A2 (n + q * z + (z - 1)) exit0) ((q + 1 + 1 : Nat) : Int), ?_, ⟨q + 1, rfl, h, e2, h2.push (pslot_last hn (by omega)).symm⟩, by show 99 - ((q + 1 + 1 : Nat) : Int).toNat < 99 - ((q + 1 : Nat) : Int).toNat; omega, fun r hr => hr⟩
      simp only [st_barbicanlaw1_InsnParts_L1, d_t (p := ((q + 1 : Nat) : Int) < (n : Int)) (by omega), cond_true, hr, Option.bind_some, d_t (p := n + q * z + (z - 1) ≤ 1000000) (by omega), e1]
    · obtain rfl : n = q + 1 := by omega
      refine .inr ⟨.e0 (q + 1 + q * z) A', ?_, A', rfl, hA'⟩
      simp only [st_barbicanlaw1_InsnParts_L1, d_f (p := ((q + 1 : Nat) : Int) < ((q + 1 : Nat) : Int)) (by omega), cond_false]
  obtain ⟨r, hr, A', rfl, h2⟩ := key
  exact ⟨A', hr, h2⟩
theorem tell_loop {n z : Nat} (hn : 0 < n) (hn' : n ≤ 80) (hz : 0 < z) (hz' : z ≤ 10) {P : Nat → Part} (hP : ∀ i, i < n → (P i).fFrom = (pst n z i : Int) ∧ (P i).fTo = (pst n z (i + 1) : Int)) : lpO (st_barbicanlaw1_InsnParts_L3 (n : Int) (z : Int) n P) (.c0 1) = some .e0 := by
  have key : ∃ r, lpO (st_barbicanlaw1_InsnParts_L3 (n : Int) (z : Int) n P) (.c0 1) = some r ∧ r = .e0 := by
    refine lpO_ind (st := st_barbicanlaw1_InsnParts_L3 (n : Int) (z : Int) n P) (fun s => match s with | .c0 x => ∃ q : Nat, x = ((q + 1 : Nat) : Int)) (fun s => match s with | .c0 x => 99 - x.toNat)
      (fun _ r => r = .e0) ?_ _ ⟨0, rfl⟩
    rintro ⟨x⟩ ⟨q, rfl⟩
    by_cases h : q + 1 < n
    · have hb : q * z ≤ 80 * 10 := Nat.mul_le_mul (by omega) hz'
      have hb2 : (q + 1) * z ≤ 80 * 10 := Nat.mul_le_mul (by omega) hz'
      have e1 : IntKind.i64.wrap (((q + 1 : Nat) : Int) + 1) = ((q + 1 + 1 : Nat) : Int) := by rw [wr] <;> omega
      have e2 : IntKind.i64.wrap (((q + 1 : Nat) : Int) - 1) = (q : Int) := by rw [wr] <;> omega
      have e3 : IntKind.i64.wrap ((n : Int) + ((q * z : Nat) : Int)) = ((n + q * z : Nat) : Int) := by rw [wr] <;> omega
      have e4 : IntKind.i64.wrap ((n : Int) + (((q + 1) * z : Nat) : Int)) = ((n + (q + 1) * z : Nat) : Int) := by rw [wr] <;> omega
      obtain ⟨p1, p2⟩ := hP (q + 1) h
      have p1' : (P (q + 1)).fFrom = ((n + q * z : Nat) : Int) := p1
      have p2' : (P (q + 1)).fTo = ((n + (q + 1) * z : Nat) : Int) := p2
      refine .inl ⟨.c0 ((q + 1 + 1 : Nat) : Int), ?_, ⟨q + 1, rfl⟩, by show 99 - ((q + 1 + 1 : Nat) : Int).toNat < 99 - ((q + 1 : Nat) : Int).toNat; omega, fun r hr => hr⟩
      simp only [st_barbicanlaw1_InsnParts_L3, d_t (p := ((q + 1 : Nat) : Int) < (n : Int)) (by omega), cond_true, inR_nat' h, Int.toNat_natCast, e1, e2, ← Int.natCast_mul, wrn (show q * z ≤ 100000 by omega), wrn (show (q + 1) * z ≤ 100000 by omega), e3, e4, p1', p2', beq_self_eq_true, Bool.and_self]
    · refine .inr ⟨.e0, ?_, rfl⟩
      simp only [st_barbicanlaw1_InsnParts_L3, d_f (p := ((q + 1 : Nat) : Int) < (n : Int)) (by omega), cond_false]
  obtain ⟨r, hr, rfl⟩ := key
  exact hr
theorem mov_loopv {n z q : Nat} (hn : 0 < n) (hn' : n ≤ 80) (hz : 0 < z) (hz' : z ≤ 10) (hq : q ≤ 80) {A : Nat → Insn} (hA : PRow n z (n + q * z) A) : ∃ r, lpO (st_barbicanlaw1_InsnParts_L1v1_L2v3 (z : Int)) (.c0 (n + q * z) A 1) = some r ∧ ∃ A' x y, r = .e0 (n + q * z + (z - 1)) A' x y ∧ PRow n z (n + q * z + (z - 1)) A' := by
  have hb : q * z ≤ 80 * 10 := Nat.mul_le_mul hq hz'
  refine lpO_ind (st := st_barbicanlaw1_InsnParts_L1v1_L2v3 (z : Int)) (fun s => match s with | .c0 m A' x => ∃ t : Nat, x = ((t + 1 : Nat) : Int) ∧ t < z ∧ m = n + q * z + t ∧ PRow n z m A') (fun s => match s with | .c0 m A' x => 99 - x.toNat)
    (fun _ r => ∃ A' x y, r = .e0 (n + q * z + (z - 1)) A' x y ∧ PRow n z (n + q * z + (z - 1)) A') ?_ _ ⟨0, rfl, hz, rfl, hA⟩
  rintro ⟨m, A', x⟩ ⟨t, rfl, ht, rfl, hA'⟩
  by_cases h : t + 1 < z
  · have e1 : IntKind.i64.wrap (((t + 1 : Nat) : Int) + 1) = ((t + 1 + 1 : Nat) : Int) := by rw [wr] <;> omega
    refine .inl ⟨.c0 (n + q * z + t + 1) (updF A' (n + q * z + t) mov0) ((t + 1 + 1 : Nat) : Int), ?_, ⟨t + 1, rfl, h, rfl, hA'.push (pslot_mov hn h).symm⟩, by show 99 - ((t + 1 + 1 : Nat) : Int).toNat < 99 - ((t + 1 : Nat) : Int).toNat; omega, fun r hr => hr⟩
    simp only [st_barbicanlaw1_InsnParts_L1v1_L2v3, d_t (p := ((t + 1 : Nat) : Int) < (z : Int)) (by omega), cond_true, d_t (p := n + q * z + t ≤ 1000000) (by omega), e1]
  · obtain rfl : t = z - 1 := by omega
    refine .inr ⟨.e0 (n + q * z + (z - 1)) A' ((z - 1 + 1 : Nat) : Int) ((z - 1 + 1 : Nat) : Int), ?_, A', _, _, rfl, hA'⟩
    simp only [st_barbicanlaw1_InsnParts_L1v1_L2v3, d_f (p := ((z - 1 + 1 : Nat) : Int) < (z : Int)) (by omega), cond_false]
theorem subs_loopv {n z : Nat} (hn : 0 < n) (hn' : n ≤ 80) (hz : 0 < z) (hz' : z ≤ 10) {A : Nat → Insn} (hA : PRow n z n A) : ∃ A', lpO (st_barbicanlaw1_InsnParts_L1v1 (n : Int) (z : Int)) (.c0 n A 1) = some (.e0 (pst n z n) A') ∧ PRow n z (pst n z n) A' := by
  have key : ∃ r, lpO (st_barbicanlaw1_InsnParts_L1v1 (n : Int) (z : Int)) (.c0 n A 1) = some r ∧ ∃ A', r = .e0 (pst n z n) A' ∧ PRow n z (pst n z n) A' := by
    refine lpO_ind (st := st_barbicanlaw1_InsnParts_L1v1 (n : Int) (z : Int)) (fun s => match s with | .c0 m A' x => ∃ q : Nat, x = ((q + 1 : Nat) : Int) ∧ q + 1 ≤ n ∧ m = n + q * z ∧ PRow n z m A') (fun s => match s with | .c0 m A' x => 99 - x.toNat)
      (fun _ r => ∃ A', r = .e0 (pst n z n) A' ∧ PRow n z (pst n z n) A') ?_ _ ⟨0, rfl, by omega, by omega, hA⟩
    rintro ⟨m, A', x⟩ ⟨q, rfl, hq, rfl, hA'⟩
    have hb : q * z ≤ 80 * 10 := Nat.mul_le_mul (by omega) hz'
    by_cases h : q + 1 < n
    · have e1 : IntKind.i64.wrap (((q + 1 : Nat) : Int) + 1) = ((q + 1 + 1 : Nat) : Int) := by rw [wr] <;> omega
      obtain ⟨r, hr, A2, x2, y2, rfl, h2⟩ := mov_loopv hn hn' hz hz' (by omega) hA'
      have e2 : n + q * z + (z - 1) + 1 = n + (q + 1) * z := by rw [Nat.add_mul]; omega
      refine .inl ⟨.c0 (n + q * z + (z - 1) + 1) (updF A2 (n + q * z + (z - 1)) exit0) ((q + 1 + 1 : Nat) : Int), ?_, ⟨q + 1, rfl, h, e2, h2.push (pslot_last hn (by omega)).symm⟩, by show 99 - ((q + 1 + 1 : Nat) : Int).toNat < 99 - ((q + 1 : Nat) : Int).toNat; omega, fun r hr => hr⟩
      simp only [st_barbicanlaw1_InsnParts_L1v1, d_t (p := ((q + 1 : Nat) : Int) < (n : Int)) (by omega), cond_true, hr, Option.bind_some, d_t (p := n + q * z + (z - 1) ≤ 1000000) (by omega), e1]
    · obtain rfl : n = q + 1 := by omega
      refine .inr ⟨.e0 (q + 1 + q * z) A', ?_, A', rfl, hA'⟩
      simp only [st_barbicanlaw1_InsnParts_L1v1, d_f (p := ((q + 1 : Nat) : Int) < ((q + 1 : Nat) : Int)) (by omega), cond_false]
  obtain ⟨r, hr, A', rfl, h2⟩ := key
  exact ⟨A', hr, h2⟩
theorem tell_loopv {n z : Nat} (hn : 0 < n) (hn' : n ≤ 80) (hz : 0 < z) (hz' : z ≤ 10) {P : Nat → Part} (hP : ∀ i, i < n → (P i).fFrom = (pst n z i : Int) ∧ (P i).fTo = (pst n z (i + 1) : Int)) : lpO (st_barbicanlaw1_InsnParts_L3v1 (n : Int) (z : Int) n P) (.c0 1) = some .e0 := by
  have key : ∃ r, lpO (st_barbicanlaw1_InsnParts_L3v1 (n : Int) (z : Int) n P) (.c0 1) = some r ∧ r = .e0 := by
    refine lpO_ind (st := st_barbicanlaw1_InsnParts_L3v1 (n : Int) (z : Int) n P) (fun s => match s with | .c0 x => ∃ q : Nat, x = ((q + 1 : Nat) : Int)) (fun s => match s with | .c0 x => 99 - x.toNat)
      (fun _ r => r = .e0) ?_ _ ⟨0, rfl⟩
    rintro ⟨x⟩ ⟨q, rfl⟩
    by_cases h : q + 1 < n
    · have hb : q * z ≤ 80 * 10 := Nat.mul_le_mul (by omega) hz'
      have hb2 : (q + 1) * z ≤ 80 * 10 := Nat.mul_le_mul (by omega) hz'
      have e1 : IntKind.i64.wrap (((q + 1 : Nat) : Int) + 1) = ((q + 1 + 1 : Nat) : Int) := by rw [wr] <;> omega
      have e2 : IntKind.i64.wrap (((q + 1 : Nat) : Int) - 1) = (q : Int) := by rw [wr] <;> omega
      have e3 : IntKind.i64.wrap ((n : Int) + ((q * z : Nat) : Int)) = ((n + q * z : Nat) : Int) := by rw [wr] <;> omega
      have e4 : IntKind.i64.wrap ((n : Int) + (((q + 1) * z : Nat) : Int)) = ((n + (q + 1) * z : Nat) : Int) := by rw [wr] <;> omega
      obtain ⟨p1, p2⟩ := hP (q + 1) h
      have p1' : (P (q + 1)).fFrom = ((n + q * z : Nat) : Int) := p1
      have p2' : (P (q + 1)).fTo = ((n + (q + 1) * z : Nat) : Int) := p2
      refine .inl ⟨.c0 ((q + 1 + 1 : Nat) : Int), ?_, ⟨q + 1, rfl⟩, by show 99 - ((q + 1 + 1 : Nat) : Int).toNat < 99 - ((q + 1 : Nat) : Int).toNat; omega, fun r hr => hr⟩
      simp only [st_barbicanlaw1_InsnParts_L3v1, d_t (p := ((q + 1 : Nat) : Int) < (n : Int)) (by omega), cond_true, inR_nat' h, Int.toNat_natCast, e1, e2, ← Int.natCast_mul, wrn (show q * z ≤ 100000 by omega), wrn (show (q + 1) * z ≤ 100000 by omega), e3, e4, p1', p2', beq_self_eq_true, Bool.and_self]
    · refine .inr ⟨.e0, ?_, rfl⟩
      simp only [st_barbicanlaw1_InsnParts_L3v1, d_f (p := ((q + 1 : Nat) : Int) < (n : Int)) (by omega), cond_false]
  obtain ⟨r, hr, rfl⟩ := key
  exact hr
theorem parts_true (y0 y1 : Int) : m_barbicanlaw1_InsnParts y0 y1 = some true := by
  unfold m_barbicanlaw1_InsnParts
  by_cases h0 : y0 < 1
  · rw [d_t h0]; rfl
  rw [d_f h0]
  by_cases h1 : 80 < y0
  · rw [d_t h1]; rfl
  rw [d_f h1]
  by_cases h2 : y1 < 1
  · rw [d_t h2]; rfl
  rw [d_f h2]
  by_cases h3 : 10 < y1
  · rw [d_t h3]; rfl
  rw [d_f h3]
  simp only [cond_false]
  obtain ⟨n, rfl⟩ := Int.eq_ofNat_of_zero_le (show 0 ≤ y0 by omega)
  obtain ⟨z, rfl⟩ := Int.eq_ofNat_of_zero_le (show 0 ≤ y1 by omega)
  have hn : 0 < n := by omega
  have hn' : n ≤ 80 := by omega
  have hz : 0 < z := by omega
  have hz' : z ≤ 10 := by omega
  have e5 : ((n : Int) == (n : Int)) = true := by simp
  obtain ⟨r, hr, hcase⟩ := calls_loop hn hn' hz hz'
  rw [hr]
  rcases hcase with ⟨rfl, rfl⟩ | ⟨A, hp, rfl, hA⟩
  · obtain ⟨A', hr', hA'⟩ := subs_loop (n := 1) (z := z) (by omega) (by omega) hz hz' (A := fun _ => exit0) (fun j hj => by rw [pslot_exit (by omega)])
    obtain ⟨P, hs, hP⟩ := (PRow.subs (by omega) (by omega) hz hz' hA').2 (by omega)
    have ht := tell_loop (n := 1) (z := z) (by omega) (by omega) hz hz' hP
    obtain ⟨p1, p2⟩ := hP 0 (by omega)
    have p2' : (P 0).fTo = ((1 : Nat) : Int) := by rw [p2]; show ((1 + 0 * z : Nat) : Int) = _; omega
    have p1' : (P 0).fFrom = 0 := p1
    have e7 : inR 0 1 = true := rfl
    have e6 : ((((P 0)).fFrom == 0) && (((P 0)).fTo == ((1 : Nat) : Int))) = true := by rw [p1', p2']; rfl
    simp only [Option.bind_some]
    rw [hr']
    simp only [Option.bind_some]
    rw [hs]
    simp only [Option.bind_some]
    rw [d_f (p := 64 < ((1 : Nat) : Int)) (by omega), e5, e7, e6]
    simp only [cond_true, cond_false]
    rw [ht]
    rfl
  · have hA1 : PRow n z n (updF A (n - 1) exit0) := by
      have := hA.push (pslot_exit (n := n) (z := z) (j := n - 1) (by omega)).symm
      rwa [show n - 1 + 1 = n by omega] at this
    obtain ⟨A', hr', hA'⟩ := subs_loopv hn hn' hz hz' hA1
    simp only [Option.bind_some, d_t (p := n - 1 ≤ 1000000) (by omega), cond_true]
    rw [show n - 1 + 1 = n by omega, hr']
    simp only [Option.bind_some]
    by_cases h64 : 64 < n
    · rw [(PRow.subs hn hn' hz hz' hA').1 h64]
      simp only [Option.bind_some]
      rw [d_t (p := 64 < (n : Int)) (by omega)]
      rfl
    · obtain ⟨P, hs, hP⟩ := (PRow.subs hn hn' hz hz' hA').2 (by omega)
      have ht := tell_loopv hn hn' hz hz' hP
      obtain ⟨p1, p2⟩ := hP 0 (by omega)
      have p2' : (P 0).fTo = (n : Int) := by rw [p2]; show ((n + 0 * z : Nat) : Int) = _; omega
      have p1' : (P 0).fFrom = 0 := p1
      have e7 : inR 0 n = true := inR_iff.2 ⟨by omega, by omega⟩
      have e6 : ((((P 0)).fFrom == 0) && (((P 0)).fTo == (n : Int))) = true := by rw [p1', p2', e5]; rfl
      rw [hs]
      simp only [Option.bind_some]
      rw [d_f (p := 64 < (n : Int)) (by omega), e5, e7, e6]
      simp only [cond_true, cond_false]
      rw [ht]
      rfl
end Go.Proofs.Ytmlkiamemkfdlaa
