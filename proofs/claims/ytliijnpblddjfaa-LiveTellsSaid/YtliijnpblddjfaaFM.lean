/-
  Instructions: what the check comes to, in plain words (no program).
-/
import Derived.Test.YtliijnpblddjfaaS1B
namespace Go.Proofs.Ytliijnpblddjfaa
open Go.RowKit
set_option linter.unusedVariables false
set_option linter.unusedSimpArgs false
theorem wr {x : Int} (h0 : -9223372036854775808 ≤ x) (h1 : x < 9223372036854775808) : IntKind.i64.wrap x = x := zCb h0 h1
theorem ii32 (x : BitVec 32) : -2147483648 ≤ ii x ∧ ii x < 2147483648 := by
  have h1 := BitVec.le_toInt x
  have h2 := BitVec.toInt_lt (x := x)
  unfold ii
  constructor <;> simpa using by assumption
theorem ii16 (x : BitVec 16) : -32768 ≤ ii x ∧ ii x < 32768 := by
  have h1 := BitVec.le_toInt x
  have h2 := BitVec.toInt_lt (x := x)
  unfold ii
  constructor <;> simpa using by assumption
theorem zt {k n : Nat} (h : k < n) : inR (k : Int) n = true := ziB.2 ⟨by omega, by omega⟩
theorem d_t {p : Prop} [Decidable p] (h : p) : decide p = true := decide_eq_true h
theorem d_f {p : Prop} [Decidable p] (h : ¬ p) : decide p = false := decide_eq_false h
/-- Is it a wide load? Is a slot a second one? -/
def zgG (x : Insn) : Bool := x.fOp == 24#8
def sec (A : Nat → Insn) : Nat → Bool
  | 0 => false
  | k + 1 => zgG (A k) && !sec A k
def wid (x : Insn) : Nat := if zgG x then 2 else 1
/-- Where the row of wide loads' Ops ahead of k begins. -/
def runS (A : Nat → Insn) : Nat → Nat
  | 0 => 0
  | k + 1 => if zgG (A k) then runS A k else k + 1
theorem zzi (A : Nat → Insn) : ∀ k, runS A k ≤ k
  | 0 => Nat.le_refl _
  | k + 1 => by
    unfold runS
    split
    · exact Nat.le_succ_of_le (zzi A k)
    · exact Nat.le_refl _
theorem zAJ (A : Nat → Insn) : ∀ k, sec A k = decide ((k - runS A k) % 2 = 1)
  | 0 => by simp [sec, runS]
  | k + 1 => by
    unfold sec runS
    have h := zzi A k
    by_cases hw : zgG (A k) = true
    · rw [if_pos hw, hw, zAJ A k, Bool.true_and]
      by_cases h1 : (k - runS A k) % 2 = 1
      · rw [d_t h1, d_f (by omega)]; rfl
      · rw [d_f h1, d_t (by omega)]; rfl
    · rw [if_neg hw]
      have : zgG (A k) = false := by simpa using hw
      rw [this]
      simp
theorem zqc (x : Insn) : zg0 x = (wid x : Int) := by
  unfold zg0 wid zgG
  cases x.fOp == 24#8 <;> rfl
theorem zza (n : Nat) (A : Nat → Insn) (hn : n ≤ 1000000) : ∀ k, k ≤ n → lpO (zdB n A) (.c0 (k : Int)) = some (.e0 (runS A k : Int))
  | 0, _ => zfz (by simp [zdB, runS])
  | k + 1, hk => by
    have e1 : IntKind.i64.wrap (((k + 1 : Nat) : Int) - 1) = (k : Int) := by rw [wr] <;> omega
    have e2 : inR (k : Int) n = true := zt (by omega)
    have e3 : decide (0 < ((k + 1 : Nat) : Int)) = true := d_t (by omega)
    by_cases hw : zgG (A k) = true
    · rw [zdd (s' := .c0 (k : Int)) (by
        have hw' : ((A k).fOp == 24#8) = true := hw
        simp only [zdB, e1, e2, e3, cond_true, Int.toNat_natCast, hw'])]
      rw [zza n A hn k (by omega)]
      simp [runS, hw]
    · have hw' : ((A k).fOp == 24#8) = false := by simpa [zgG] using hw
      rw [zfz (r := .e0 ((k + 1 : Nat) : Int)) (by simp only [zdB, e1, e2, e3, cond_true, cond_false, Int.toNat_natCast, hw'])]
      simp [runS, hw]
theorem zsn {n : Nat} {A : Nat → Insn} (hn : n ≤ 1000000) {k : Nat} (hk : k ≤ n) : zfr n A (k : Int) = some (sec A k) := by
  unfold zfr
  rw [zza n A hn k hk]
  have h := zzi A k
  have e1 : IntKind.i64.wrap ((k : Int) - (runS A k : Int)) = ((k - runS A k : Nat) : Int) := by rw [wr] <;> omega
  simp only [Option.bind_some, e1, zrem, zAJ]
  congr 1
  rw [Bool.eq_iff_iff, beq_iff_eq, decide_eq_true_eq]
  rw [Int.tmod_eq_emod_of_nonneg (by omega)]
  omega
/-- May a subprogram be called there? Has a wide load its second slot? -/
def ztQ (n : Nat) (A : Nat → Insn) (t : Int) : Bool := decide (0 < t) && (decide (t < n) && !sec A t.toNat)
theorem zzs {n : Nat} {A : Nat → Insn} (hn : n ≤ 1000000) (t : Int) : zbw n A t = some (ztQ n A t) := by
  unfold zbw ztQ
  by_cases h0 : 0 < t
  · by_cases h1 : t < n
    · obtain ⟨k, rfl⟩ := Int.eq_ofNat_of_zero_le (show 0 ≤ t by omega)
      rw [d_t h0, d_t h1, zsn hn (by omega)]
      simp only [cond_true, Option.bind_some, Int.toNat_natCast, Bool.true_and]
      cases sec A k <;> rfl
    · rw [d_t h0, d_f h1]; rfl
  · rw [d_f h0]; rfl
def zpx (n : Nat) (A : Nat → Insn) (k : Nat) : Bool :=
  decide (k + 1 < n) && (((A (k + 1)).fOp == 0#8) && (((A (k + 1)).fDst == 0#8) && (((A (k + 1)).fSrc == 0#8) && (((A (k + 1)).fOff == 0#16) && (((A k).fSrc == 0#8) || ((A (k + 1)).fImm == 0#32))))))
theorem zBW {n : Nat} {A : Nat → Insn} (hn : n ≤ 1000000) {k : Nat} (hk : k < n) : zfo n A (k : Int) = some (zpx n A k) := by
  unfold zfo zpx
  have e1 : IntKind.i64.wrap ((k : Int) + 1) = ((k + 1 : Nat) : Int) := by rw [wr] <;> omega
  rw [e1, zt hk]
  by_cases h : k + 1 < n
  · rw [d_f (p := (n : Int) ≤ ((k + 1 : Nat) : Int)) (by omega), d_t h, zt h]
    simp only [cond_true, cond_false, Int.toNat_natCast, Bool.true_and]
    cases (A k).fSrc == 0#8 <;> simp
  · rw [d_t (p := (n : Int) ≤ ((k + 1 : Nat) : Int)) (by omega), d_f h]; rfl
/-- The error of the slot k by itself. -/
noncomputable def errB (n : Nat) (A : Nat → Insn) (k : Nat) : Int :=
  bif !zw (A k) then 11
  else bif (BitVec.ult 10#8 (A k).fDst || (BitVec.ult 10#8 (A k).fSrc || (((A k).fDst == 10#8) && zdc (A k)))) then 12
  else bif (zgG (A k) && !zpx n A k) then 13
  else bif (((A k).fOp == 133#8) && (((A k).fSrc == 0#8) && (BitVec.slt (A k).fImm 1#32 || BitVec.slt 28#32 (A k).fImm))) then 14
  else bif (zs (A k) && !ztQ n A ((k : Int) + 1 + ii (A k).fImm)) then 14
  else 0
set_option maxRecDepth 100000 in
theorem zz0 {n : Nat} {A : Nat → Insn} (hn : n ≤ 1000000) {k : Nat} (hk : k < n) : zgV n A (k : Int) = some (errB n A k) := by
  unfold zgV errB zgG
  have h32 := ii32 (A k).fImm
  have e1 : IntKind.i64.wrap ((k : Int) + 1) = (k : Int) + 1 := by rw [wr] <;> omega
  have e2 : IntKind.i64.wrap ((k : Int) + 1 + ii (A k).fImm) = (k : Int) + 1 + ii (A k).fImm := by rw [wr] <;> omega
  rw [zt hk]
  simp only [e1, e2, zBW hn hk, zzs hn, Option.bind_some, cond_true, Int.toNat_natCast]
  generalize zw (A k) = b1
  generalize BitVec.ult 10#8 (A k).fDst = b2
  generalize BitVec.ult 10#8 (A k).fSrc = b3
  generalize ((A k).fDst == 10#8) = b4
  generalize zdc (A k) = b5
  generalize ((A k).fOp == 24#8) = b6
  generalize zpx n A k = b7
  generalize ((A k).fOp == 133#8) = b8
  generalize ((A k).fSrc == 0#8) = b9
  generalize BitVec.slt (A k).fImm 1#32 = b10
  generalize BitVec.slt 28#32 (A k).fImm = b11
  generalize zs (A k) = b12
  generalize ztQ n A ((k : Int) + 1 + ii (A k).fImm) = b13
  revert b1 b2 b3 b4 b5 b6 b7 b8 b9 b10 b11 b12 b13
  decide
end Go.Proofs.Ytliijnpblddjfaa
/-
  Instructions: subprograms and jumps, in plain words (no program).
-/
namespace Go.Proofs.Ytliijnpblddjfaa
open Go.RowKit
set_option linter.unusedVariables false
set_option linter.unusedSimpArgs false
theorem zw0 (x : Insn) : 1 ≤ wid x ∧ wid x ≤ 2 := by unfold wid; split <;> omega
theorem zu7 {A : Nat → Insn} {k : Nat} (h : sec A k = false) : sec A (k + wid (A k)) = false := by
  unfold wid
  by_cases hw : zgG (A k) = true
  · rw [if_pos hw]
    show (zgG (A (k + 1)) && !(zgG (A k) && !sec A k)) = false
    simp [hw, h]
  · rw [if_neg hw]
    have : zgG (A k) = false := by simpa using hw
    show (zgG (A k) && !sec A k) = false
    simp [this]
theorem zyo {A : Nat → Insn} {k j : Nat} (h : sec A k = false) (h1 : k < j) (h2 : j < k + wid (A k)) : sec A j = true := by
  unfold wid at h2
  by_cases hw : zgG (A k) = true
  · rw [if_pos hw] at h2
    obtain rfl : j = k + 1 := by omega
    show (zgG (A k) && !sec A k) = true
    simp [hw, h]
  · rw [if_neg hw] at h2; omega
/-- The slots below k that no wide load has as its second one are all fine. -/
def okTo (n : Nat) (A : Nat → Insn) (k : Nat) : Prop := ∀ j, j < k → j < n → sec A j = false → errB n A j = 0
theorem zAX {n : Nat} {A : Nat → Insn} {k : Nat} (h : okTo n A k) (hs : sec A k = false) (he : errB n A k = 0) : okTo n A (k + wid (A k)) := by
  intro j hj hn hsj
  by_cases h1 : j < k
  · exact h j h1 hn hsj
  · by_cases h2 : j = k
    · subst h2; exact he
    · exact absurd (zyo hs (by omega) hj) (by rw [hsj]; simp)
theorem zA6 {n : Nat} {A : Nat → Insn} (hn : n ≤ 1000000) : ∃ r, lpO (zdp n A) (.c0 0) = some r ∧
    ((r = .e0 ∧ okTo n A n) ∨ ∃ k, k < n ∧ r = .e1 (k : Int) (errB n A k) ∧ sec A k = false ∧ errB n A k ≠ 0 ∧ okTo n A k) := by
  refine zgD (st := zdp n A) (fun s => match s with | .c0 x => ∃ k : Nat, x = (k : Int) ∧ k ≤ n + 1 ∧ sec A k = false ∧ okTo n A k) (fun s => match s with | .c0 x => n + 1 - x.toNat)
    (fun _ r => (r = .e0 ∧ okTo n A n) ∨ ∃ k, k < n ∧ r = .e1 (k : Int) (errB n A k) ∧ sec A k = false ∧ errB n A k ≠ 0 ∧ okTo n A k) ?_ (.c0 0) ⟨0, rfl, by omega, rfl, fun j hj => by omega⟩
  rintro ⟨x⟩ ⟨k, rfl, hk, hs, hok⟩
  by_cases h : k < n
  · have hw := zw0 (A k)
    by_cases he : errB n A k = 0
    · refine .inl ⟨.c0 ((k + wid (A k) : Nat) : Int), ?_, ⟨_, rfl, by omega, zu7 hs, zAX hok hs he⟩, by show n + 1 - ((k + wid (A k) : Nat) : Int).toNat < n + 1 - (k : Int).toNat; omega, fun r hr => hr⟩
      have e1 : IntKind.i64.wrap ((k : Int) + (wid (A k) : Int)) = ((k + wid (A k) : Nat) : Int) := by rw [wr] <;> omega
      simp only [zdp, d_t (p := (k : Int) < (n : Int)) (by omega), cond_true, zz0 hn h, Option.bind_some, he, zt h, zv, zqc, Int.toNat_natCast, e1]
      rfl
    · refine .inr ⟨.e1 (k : Int) (errB n A k), ?_, .inr ⟨k, h, rfl, hs, he, hok⟩⟩
      have hb : (errB n A k == 0) = false := by simpa using he
      simp only [zdp, d_t (p := (k : Int) < (n : Int)) (by omega), cond_true, zz0 hn h, Option.bind_some, hb, cond_false]
  · refine .inr ⟨.e0, ?_, .inl ⟨rfl, fun j hj hjn hsj => hok j (by omega) hjn hsj⟩⟩
    simp only [zdp, d_f (p := (k : Int) < (n : Int)) (by omega), cond_false]
/-- A subprogram begins there. -/
def Beg (n : Nat) (A : Nat → Insn) (j : Nat) : Prop := j = 0 ∨ ∃ k, k < n ∧ sec A k = false ∧ zs (A k) = true ∧ (k : Int) + 1 + ii (A k).fImm = (j : Int)
theorem zs2 {n : Nat} {A : Nat → Insn} {k : Nat} (he : errB n A k = 0) (hm : zs (A k) = true) : ztQ n A ((k : Int) + 1 + ii (A k).fImm) = true := by
  unfold errB at he
  rw [hm] at he
  cases h : ztQ n A ((k : Int) + 1 + ii (A k).fImm)
  · rw [h] at he
    exfalso
    revert he
    generalize zw (A k) = b1
    generalize (BitVec.ult 10#8 (A k).fDst || (BitVec.ult 10#8 (A k).fSrc || (((A k).fDst == 10#8) && zdc (A k)))) = b2
    generalize (zgG (A k) && !zpx n A k) = b3
    generalize (((A k).fOp == 133#8) && (((A k).fSrc == 0#8) && (BitVec.slt (A k).fImm 1#32 || BitVec.slt 28#32 (A k).fImm))) = b4
    revert b1 b2 b3 b4
    decide
  · rfl
theorem zux {n : Nat} {A : Nat → Insn} {t : Int} : ztQ n A t = true ↔ 0 < t ∧ t < n ∧ sec A t.toNat = false := by
  unfold ztQ
  simp
theorem zBl {n : Nat} {A : Nat → Insn} (hok : okTo n A n) {j : Nat} (h : Beg n A j) : sec A j = false ∧ (0 < n → j < n) := by
  rcases h with rfl | ⟨k, hk, hs, hm, e⟩
  · exact ⟨rfl, id⟩
  · have := zux.1 (zs2 (hok k hk hk hs) hm)
    rw [e] at this
    simp at this
    exact ⟨this.2.2, fun _ => this.2.1⟩
def zBp (n : Nat) (A : Nat → Insn) (k : Nat) (g : Nat → Bool) : Prop := ∀ j, g j = true ↔ (j = 0 ∨ ∃ i, i < k ∧ i < n ∧ sec A i = false ∧ zs (A i) = true ∧ (i : Int) + 1 + ii (A i).fImm = (j : Int))
theorem zzG {n : Nat} {A : Nat → Insn} (hn : n ≤ 4096) (hok : okTo n A n) : ∃ g, lpO (zda n A) (.c0 (updF (fun _ => false) 0 true) 0) = some (.e0 g) ∧ ∀ j, g j = true ↔ Beg n A j := by
  have key : ∃ r, lpO (zda n A) (.c0 (updF (fun _ => false) 0 true) 0) = some r ∧ ∃ g, r = .e0 g ∧ ∀ j, g j = true ↔ Beg n A j := by
    refine zgD (st := zda n A) (fun s => match s with | .c0 g x => ∃ k : Nat, x = (k : Int) ∧ k ≤ n + 1 ∧ sec A k = false ∧ zBp n A k g) (fun s => match s with | .c0 g x => n + 1 - x.toNat)
      (fun _ r => ∃ g, r = .e0 g ∧ ∀ j, g j = true ↔ Beg n A j) ?_ _ ⟨0, rfl, by omega, rfl, fun j => ?_⟩
    · rintro ⟨g, x⟩ ⟨k, rfl, hk, hs, hg⟩
      by_cases h : k < n
      · have hw := zw0 (A k)
        have e1 : IntKind.i64.wrap ((k : Int) + (wid (A k) : Int)) = ((k + wid (A k) : Nat) : Int) := by rw [wr] <;> omega
        have skip : ∀ i, i < k + wid (A k) → i < n → sec A i = false → i < k ∨ i = k := fun i hi _ hsi => by
          by_cases h1 : i < k
          · exact .inl h1
          · by_cases h2 : i = k
            · exact .inr h2
            · exact absurd (zyo hs (by omega) hi) (by rw [hsi]; simp)
        cases hm : zs (A k)
        · refine .inl ⟨.c0 g ((k + wid (A k) : Nat) : Int), ?_, ⟨_, rfl, by omega, zu7 hs, fun j => ?_⟩, by show n + 1 - ((k + wid (A k) : Nat) : Int).toNat < n + 1 - (k : Int).toNat; omega, fun r hr => hr⟩
          · simp only [zda, d_t (p := (k : Int) < (n : Int)) (by omega), cond_true, cond_false, hm, zt h, zv, zqc, Int.toNat_natCast, e1]
          · rw [hg j]
            constructor
            · rintro (rfl | ⟨i, h1, h2, h3⟩)
              · exact .inl rfl
              · exact .inr ⟨i, by omega, h2, h3⟩
            · rintro (rfl | ⟨i, h1, h2, h3, h4, h5⟩)
              · exact .inl rfl
              · rcases skip i h1 h2 h3 with h6 | rfl
                · exact .inr ⟨i, h6, h2, h3, h4, h5⟩
                · rw [hm] at h4; cases h4
        · obtain ⟨c1, c2, c3⟩ := zux.1 (zs2 (hok k h h hs) hm)
          have h32 := ii32 (A k).fImm
          have e2 : IntKind.i64.wrap ((k : Int) + 1) = (k : Int) + 1 := by rw [wr] <;> omega
          have e3 : IntKind.i64.wrap ((k : Int) + 1 + ii (A k).fImm) = (k : Int) + 1 + ii (A k).fImm := by rw [wr] <;> omega
          refine .inl ⟨.c0 (updF g ((k : Int) + 1 + ii (A k).fImm).toNat true) ((k + wid (A k) : Nat) : Int), ?_, ⟨_, rfl, by omega, zu7 hs, fun j => ?_⟩, by show n + 1 - ((k + wid (A k) : Nat) : Int).toNat < n + 1 - (k : Int).toNat; omega, fun r hr => hr⟩
          · simp only [zda, d_t (p := (k : Int) < (n : Int)) (by omega), cond_true, hm, zt h, zv, zqc, Int.toNat_natCast, e1, e2, e3, ziB.2 (show 0 ≤ (k : Int) + 1 + ii (A k).fImm ∧ (k : Int) + 1 + ii (A k).fImm < (4096 : Nat) by omega)]
          · by_cases hj : j = ((k : Int) + 1 + ii (A k).fImm).toNat
            · subst hj
              rw [zcM]
              simp only [true_iff]
              exact .inr ⟨k, by omega, h, hs, hm, by omega⟩
            · rw [zbW _ _ hj, hg j]
              constructor
              · rintro (rfl | ⟨i, h1, h2, h3⟩)
                · exact .inl rfl
                · exact .inr ⟨i, by omega, h2, h3⟩
              · rintro (rfl | ⟨i, h1, h2, h3, h4, h5⟩)
                · exact .inl rfl
                · rcases skip i h1 h2 h3 with h6 | rfl
                  · exact .inr ⟨i, h6, h2, h3, h4, h5⟩
                  · exact absurd (by omega) hj
      · refine .inr ⟨.e0 g, ?_, g, rfl, fun j => ?_⟩
        · simp only [zda, d_f (p := (k : Int) < (n : Int)) (by omega), cond_false]
        · rw [hg j]
          constructor
          · rintro (rfl | ⟨i, h1, h2, h3⟩)
            · exact .inl rfl
            · exact .inr ⟨i, h2, h3⟩
          · rintro (rfl | ⟨i, h2, h3⟩)
            · exact .inl rfl
            · exact .inr ⟨i, by omega, h2, h3⟩
    · unfold updF
      by_cases hj : j = 0
      · simp [hj]
      · rw [if_neg hj]
        constructor
        · intro h; cases h
        · rintro (rfl | ⟨i, h1, _⟩)
          · exact absurd rfl hj
          · omega
  obtain ⟨r, h1, g, rfl, h2⟩ := key
  exact ⟨g, h1, h2⟩
/-- Subprograms up to slot k. -/
structure Parts (g : Nat → Bool) (k N : Nat) (P : Nat → Part) : Prop where
  pos : 0 < N
  first : (P 0).fFrom = 0
  last : (P (N - 1)).fTo = (k : Int)
  next : ∀ i, i + 1 < N → (P i).fTo = (P (i + 1)).fFrom
  lt : ∀ i, i < N → 0 ≤ (P i).fFrom ∧ (P i).fFrom < (P i).fTo
  beg : ∀ i, i < N → g (P i).fFrom.toNat = true
  inner : ∀ i, i < N → ∀ j : Nat, (P i).fFrom < j → (j : Int) < (P i).fTo → g j = false
theorem zAs {n : Nat} {g : Nat → Bool} (hn : n ≤ 4096) (h0 : 0 < n) (hg : g 0 = true) : ∃ N P, lpO (zbG n g) .c0 = some (.e1 N P) ∧ N ≤ n ∧ Parts g n N P := by
  have first : zbG n g .c0 = some (.inl (.c1 1 (updF (fun _ => (⟨0, 0⟩ : Part)) 0 (⟨0, 1⟩ : Part)) 1)) := by
    simp only [zbG, d_t (p := 0 < (n : Int)) (by omega), cond_true, hg]
  have key : ∃ r, lpO (zbG n g) (.c1 1 (updF (fun _ => (⟨0, 0⟩ : Part)) 0 (⟨0, 1⟩ : Part)) 1) = some r ∧ ∃ N P, r = .e1 N P ∧ N ≤ n ∧ Parts g n N P := by
    refine zgD (st := zbG n g) (fun s => match s with | .c0 => False | .c1 N P x => ∃ k : Nat, x = (k : Int) ∧ 1 ≤ k ∧ k ≤ n ∧ N ≤ k ∧ Parts g k N P) (fun s => match s with | .c0 => 0 | .c1 N P x => n - x.toNat)
      (fun _ r => ∃ N P, r = .e1 N P ∧ N ≤ n ∧ Parts g n N P) ?_ _ ⟨1, rfl, by omega, by omega, by omega, ?_⟩
    · rintro (_ | ⟨N, P, x⟩) hI
      · exact hI.elim
      · obtain ⟨k, rfl, hk1, hk, hN, hP⟩ := hI
        by_cases h : k < n
        · have hp := hP.pos
          have e4 : IntKind.i64.wrap ((k : Int) + 1) = ((k + 1 : Nat) : Int) := by rw [wr] <;> omega
          cases hgk : g k
          · have e1 : IntKind.i64.wrap ((N : Int) - 1) = ((N - 1 : Nat) : Int) := by rw [wr] <;> omega
            refine .inl ⟨.c1 N (updF P (N - 1) ⟨(P (N - 1)).fFrom, ((k + 1 : Nat) : Int)⟩) ((k + 1 : Nat) : Int), ?_, ⟨k + 1, rfl, by omega, by omega, by omega, ?_⟩, by show n - ((k + 1 : Nat) : Int).toNat < n - (k : Int).toNat; omega, fun r hr => hr⟩
            · simp only [zbG, d_t (p := (k : Int) < (n : Int)) (by omega), cond_true, cond_false, zt (show k < 4096 by omega), Int.toNat_natCast, hgk, e1, zt (show N - 1 < N by omega), zv, e4]
            · have hl := hP.lt (N - 1) (by omega)
              have hlast := hP.last
              refine ⟨hp, ?_, by rw [zcM], fun i hi => ?_, fun i hi => ?_, fun i hi => ?_, fun i hi j h1 h2 => ?_⟩
              · by_cases hz : 0 = N - 1
                · rw [← hz, zcM]; exact hP.first
                · rw [zbW _ _ hz]; exact hP.first
              · rw [zbW _ _ (show i ≠ N - 1 by omega)]
                by_cases hz : i + 1 = N - 1
                · rw [← hz, zcM]; rw [hP.next i hi]
                · rw [zbW _ _ hz]; exact hP.next i hi
              · by_cases hz : i = N - 1
                · subst hz; rw [zcM]; exact ⟨hl.1, by show (P (N - 1)).fFrom < ((k + 1 : Nat) : Int); omega⟩
                · rw [zbW _ _ hz]; exact hP.lt i hi
              · by_cases hz : i = N - 1
                · subst hz; rw [zcM]; exact hP.beg _ hi
                · rw [zbW _ _ hz]; exact hP.beg i hi
              · by_cases hz : i = N - 1
                · subst hz
                  rw [zcM] at h1 h2
                  have h1' : (P (N - 1)).fFrom < (j : Int) := h1
                  have h2' : (j : Int) < ((k + 1 : Nat) : Int) := h2
                  by_cases hjk : j = k
                  · rw [hjk]; exact hgk
                  · exact hP.inner _ hi j h1' (by omega)
                · rw [zbW _ _ hz] at h1 h2; exact hP.inner i hi j h1 h2
          · have e1 : IntKind.i64.wrap (((N + 1 : Nat) : Int) - 1) = (N : Int) := by rw [wr] <;> omega
            refine .inl ⟨.c1 (N + 1) (updF (updF P N ⟨(k : Int), 0⟩) N ⟨(k : Int), ((k + 1 : Nat) : Int)⟩) ((k + 1 : Nat) : Int), ?_, ⟨k + 1, rfl, by omega, by omega, by omega, ?_⟩, by show n - ((k + 1 : Nat) : Int).toNat < n - (k : Int).toNat; omega, fun r hr => hr⟩
            · simp only [zbG, d_t (p := (k : Int) < (n : Int)) (by omega), cond_true, zt (show k < 4096 by omega), Int.toNat_natCast, hgk, d_t (show N ≤ 1000000 by omega)]
              have e1' : IntKind.i64.wrap (((N : Int) + 1) - 1) = (N : Int) := by rw [wr] <;> omega
              simp only [e1', zt (show N < N + 1 by omega), cond_true, zv, Int.toNat_natCast, zcM, e4]
            · have hlast := hP.last
              have U : ∀ i, i ≠ N → updF (updF P N ⟨(k : Int), 0⟩) N ⟨(k : Int), ((k + 1 : Nat) : Int)⟩ i = P i := fun i hi => by rw [zbW _ _ hi, zbW _ _ hi]
              refine ⟨by omega, ?_, by rw [show N + 1 - 1 = N by omega, zcM], fun i hi => ?_, fun i hi => ?_, fun i hi => ?_, fun i hi j h1 h2 => ?_⟩
              · rw [U 0 (by omega)]; exact hP.first
              · rw [U i (by omega)]
                by_cases hz : i + 1 = N
                · rw [hz, zcM, show i = N - 1 by omega]; exact hlast
                · rw [U (i + 1) hz]; exact hP.next i (by omega)
              · by_cases hz : i = N
                · subst hz; rw [zcM]; exact ⟨by show (0 : Int) ≤ (k : Int); omega, by show (k : Int) < ((k + 1 : Nat) : Int); omega⟩
                · rw [U i hz]; exact hP.lt i (by omega)
              · by_cases hz : i = N
                · subst hz; rw [zcM]; exact hgk
                · rw [U i hz]; exact hP.beg i (by omega)
              · by_cases hz : i = N
                · subst hz
                  rw [zcM] at h1 h2
                  have h1' : (k : Int) < (j : Int) := h1
                  have h2' : (j : Int) < ((k + 1 : Nat) : Int) := h2
                  omega
                · rw [U i hz] at h1 h2; exact hP.inner i (by omega) j h1 h2
        · obtain rfl : k = n := by omega
          refine .inr ⟨.e1 N P, ?_, N, P, rfl, by omega, hP⟩
          simp only [zbG, d_f (p := (k : Int) < (k : Int)) (by omega), cond_false]
    · refine ⟨by omega, rfl, rfl, fun i hi => by omega, fun i hi => ?_, fun i hi => ?_, fun i hi j h1 h2 => ?_⟩
      all_goals obtain rfl : i = 0 := by omega
      · exact ⟨Int.le_refl _, by decide⟩
      · exact hg
      · rw [zcM] at h1 h2
        have h1' : (0 : Int) < (j : Int) := h1
        have h2' : (j : Int) < 1 := h2
        omega
  obtain ⟨r, h1, N, P, rfl, h2⟩ := key
  exact ⟨N, P, (zdd first).trans h1, h2⟩
end Go.Proofs.Ytliijnpblddjfaa
/-
  Instructions: the check and the subprograms, in plain words (no program).
-/
namespace Go.Proofs.Ytliijnpblddjfaa
open Go.RowKit
set_option linter.unusedVariables false
set_option linter.unusedSimpArgs false
/-- The last operation ahead of slot t, and whether nothing goes on behind it. -/
def ziP (A : Nat → Insn) (t : Nat) : Nat := if sec A (t - 1) then t - 2 else t - 1
def ziu (A : Nat → Insn) (t : Nat) : Bool := ((A (ziP A t)).fOp == 149#8) || ((A (ziP A t)).fOp == 5#8)
theorem zCu {n : Nat} {A : Nat → Insn} (hn : n ≤ 1000000) {p : Part} {t : Nat} (hp : p.fTo = (t : Int)) (h0 : 0 < t) (ht : t ≤ n) : zm4 n A p = some ((ziP A t : Int), ziu A t) := by
  unfold zm4 ziu ziP
  have e1 : IntKind.i64.wrap (p.fTo - 1) = ((t - 1 : Nat) : Int) := by rw [hp, wr] <;> omega
  rw [e1, zsn hn (by omega)]
  simp only [Option.bind_some]
  cases hs : sec A (t - 1)
  · simp only [cond_false, zt (show t - 1 < n by omega), cond_true, Int.toNat_natCast, Bool.false_eq_true, if_false]
    cases (A (t - 1)).fOp == 149#8 <;> rfl
  · have h2 : 2 ≤ t := by
      apply Classical.byContradiction
      intro h
      obtain rfl : t = 1 := by omega
      cases hs
    have e2 : IntKind.i64.wrap (((t - 1 : Nat) : Int) - 1) = ((t - 2 : Nat) : Int) := by rw [wr] <;> omega
    simp only [cond_true, e2, zt (show t - 2 < n by omega), Int.toNat_natCast, if_true]
    cases (A (t - 2)).fOp == 149#8 <;> rfl
theorem Parts.bnd {g : Nat → Bool} {k N : Nat} {P : Nat → Part} (h : Parts g k N P) : ∀ d i, i + d + 1 = N → (P i).fTo ≤ (k : Int)
  | 0, i, hi => by
    have := h.last
    rw [show N - 1 = i by omega] at this
    omega
  | d + 1, i, hi => by
    have h1 := h.bnd d (i + 1) (by omega)
    have h2 := h.next i (by omega)
    have h3 := h.lt (i + 1) (by omega)
    omega
theorem Parts.to {g : Nat → Bool} {k N : Nat} {P : Nat → Part} (h : Parts g k N P) {i : Nat} (hi : i < N) : (P i).fTo ≤ (k : Int) := h.bnd (N - 1 - i) i (by omega)
theorem zBY {n : Nat} {A : Nat → Insn} (hn : n ≤ 4096) {g : Nat → Bool} {N : Nat} {P : Nat → Part} (hP : Parts g n N P) (hN : N ≤ n) : ∃ r, lpO (zdn n A N P) (.c0 0) = some r ∧
    ((r = .e0 ∧ ∀ i, i < N → ziu A (P i).fTo.toNat = true) ∨ ∃ i, i < N ∧ r = .e1 (ziP A (P i).fTo.toNat : Int) ∧ ziu A (P i).fTo.toNat = false ∧ ∀ j, j < i → ziu A (P j).fTo.toNat = true) := by
  refine zgD (st := zdn n A N P) (fun s => match s with | .c0 x => ∃ k : Nat, x = (k : Int) ∧ k ≤ N ∧ ∀ j, j < k → ziu A (P j).fTo.toNat = true) (fun s => match s with | .c0 x => N - x.toNat)
    (fun _ r => (r = .e0 ∧ ∀ i, i < N → ziu A (P i).fTo.toNat = true) ∨ ∃ i, i < N ∧ r = .e1 (ziP A (P i).fTo.toNat : Int) ∧ ziu A (P i).fTo.toNat = false ∧ ∀ j, j < i → ziu A (P j).fTo.toNat = true) ?_ (.c0 0) ⟨0, rfl, by omega, fun j hj => by omega⟩
  rintro ⟨x⟩ ⟨k, rfl, hk, hok⟩
  by_cases h : k < N
  · have hl := hP.lt k h
    have ht := hP.to h
    have he := zCu (A := A) (n := n) (by omega) (p := P k) (t := (P k).fTo.toNat) (by omega) (by omega) (by omega)
    have e1 : IntKind.i64.wrap ((k : Int) + 1) = ((k + 1 : Nat) : Int) := by rw [wr] <;> omega
    cases hb : ziu A (P k).fTo.toNat
    · refine .inr ⟨.e1 (ziP A (P k).fTo.toNat : Int), ?_, .inr ⟨k, h, rfl, hb, hok⟩⟩
      simp only [zdn, d_t (p := (k : Int) < (N : Int)) (by omega), cond_true, zt h, Int.toNat_natCast, he, hb, Option.bind_some, cond_false]
    · refine .inl ⟨.c0 ((k + 1 : Nat) : Int), ?_, ⟨k + 1, rfl, by omega, fun j hj => ?_⟩, by show N - ((k + 1 : Nat) : Int).toNat < N - (k : Int).toNat; omega, fun r hr => hr⟩
      · simp only [zdn, d_t (p := (k : Int) < (N : Int)) (by omega), cond_true, zt h, Int.toNat_natCast, he, hb, Option.bind_some, e1]
      · by_cases hj2 : j = k
        · subst hj2; exact hb
        · exact hok j (by omega)
  · refine .inr ⟨.e0, ?_, .inl ⟨rfl, fun i hi => hok i (by omega)⟩⟩
    simp only [zdn, d_f (p := (k : Int) < (N : Int)) (by omega), cond_false]
/-- What the subprograms of a row of slots come to. -/
inductive SubsIs (n : Nat) (A : Nat → Insn) : zm9 → Prop where
  | many (h : n = 0 ∨ 4096 < n) : SubsIs n A (.e0 0 10)
  | slot (hn : n ≤ 4096) (k : Nat) (hk : k < n) (hs : sec A k = false) (he : errB n A k ≠ 0) (hok : okTo n A k) : SubsIs n A (.e0 (k : Int) (errB n A k))
  | subs (h0 : 0 < n) (hn : n ≤ 4096) (hok : okTo n A n) (g : Nat → Bool) (hg : ∀ j, g j = true ↔ Beg n A j) (N : Nat) (P : Nat → Part) (hN : N ≤ n) (hP : Parts g n N P) (h64 : 64 < N) : SubsIs n A (.e0 0 17)
  | ends (h0 : 0 < n) (hn : n ≤ 4096) (hok : okTo n A n) (g : Nat → Bool) (hg : ∀ j, g j = true ↔ Beg n A j) (N : Nat) (P : Nat → Part) (hN : N ≤ n) (hP : Parts g n N P) (h64 : N ≤ 64) (i : Nat) (hi : i < N)
    (he : ziu A (P i).fTo.toNat = false) (hb : ∀ j, j < i → ziu A (P j).fTo.toNat = true) : SubsIs n A (.e0 (ziP A (P i).fTo.toNat : Int) 16)
  | fine (h0 : 0 < n) (hn : n ≤ 4096) (hok : okTo n A n) (g : Nat → Bool) (hg : ∀ j, g j = true ↔ Beg n A j) (N : Nat) (P : Nat → Part) (hN : N ≤ n) (hP : Parts g n N P) (h64 : N ≤ 64)
    (he : ∀ i, i < N → ziu A (P i).fTo.toNat = true) : SubsIs n A (.e1 N P)
theorem zBd (n : Nat) (A : Nat → Insn) : ∃ r, zhJ n A = some r ∧ SubsIs n A r := by
  unfold zhJ
  by_cases h0 : n = 0
  · subst h0
    exact ⟨.e0 0 10, rfl, .many (.inl rfl)⟩
  have hb0 : ((n : Int) == 0) = false := by rw [beq_eq_false_iff_ne]; omega
  rw [hb0]
  by_cases h1 : 4096 < n
  · rw [d_t (p := 4096 < (n : Int)) (by omega)]
    exact ⟨.e0 0 10, rfl, .many (.inr h1)⟩
  rw [d_f (p := 4096 < (n : Int)) (by omega)]
  simp only [cond_false]
  obtain ⟨r, hr, hcase⟩ := zA6 (n := n) (A := A) (by omega)
  rw [hr]
  rcases hcase with ⟨rfl, hok⟩ | ⟨k, hk, rfl, hs, he, hok⟩
  · obtain ⟨g, hg1, hg⟩ := zzG (by omega) hok
    obtain ⟨N, P, hp1, hN, hP⟩ := zAs (n := n) (g := g) (by omega) (by omega) ((hg 0).2 (.inl rfl))
    have hsplit : zhX n A = some (.e1 N P) := by
      unfold zhX
      rw [hg1]
      simp only [Option.bind_some, hp1]
    simp only [Option.bind_some, hsplit]
    by_cases h64 : 64 < N
    · rw [d_t (p := 64 < (N : Int)) (by omega)]
      exact ⟨.e0 0 17, rfl, .subs (by omega) (by omega) hok g hg N P hN hP h64⟩
    · rw [d_f (p := 64 < (N : Int)) (by omega)]
      simp only [cond_false]
      obtain ⟨r, hr, hcase⟩ := zBY (A := A) (by omega) hP hN
      rw [hr]
      rcases hcase with ⟨rfl, he⟩ | ⟨i, hi, rfl, he, hb⟩
      · exact ⟨.e1 N P, rfl, .fine (by omega) (by omega) hok g hg N P hN hP (by omega) he⟩
      · exact ⟨_, rfl, .ends (by omega) (by omega) hok g hg N P hN hP (by omega) i hi he hb⟩
  · exact ⟨_, rfl, .slot (by omega) k hk hs he hok⟩
/-- A jump that leaves its subprogram, or comes to a second slot. -/
noncomputable def zP (A : Nat → Insn) (p : Part) (k : Nat) : Bool :=
  zV (A k) && (decide ((k : Int) + 1 + ii (A k).fOff < p.fFrom) || (decide (p.fTo ≤ (k : Int) + 1 + ii (A k).fOff) || sec A ((k : Int) + 1 + ii (A k).fOff).toNat))
theorem zxY {n : Nat} {A : Nat → Insn} (hn : n ≤ 4096) {p : Part} (h0 : 0 ≤ p.fFrom) (hs : sec A p.fFrom.toNat = false) (ht : p.fTo ≤ (n : Int)) :
    (zfp n A p = some (0, true) ∧ ∀ k : Nat, p.fFrom ≤ k → (k : Int) < p.fTo → sec A k = false → zP A p k = false) ∨
    ∃ k : Nat, p.fFrom ≤ k ∧ (k : Int) < p.fTo ∧ sec A k = false ∧ zP A p k = true ∧ zfp n A p = some ((k : Int), false) ∧ ∀ j : Nat, p.fFrom ≤ j → j < k → sec A j = false → zP A p j = false := by
  have key : ∃ r, lpO (zbz n A p) (.c0 p.fFrom) = some r ∧ ((r = .e0 ∧ ∀ k : Nat, p.fFrom ≤ k → (k : Int) < p.fTo → sec A k = false → zP A p k = false) ∨
      ∃ k : Nat, p.fFrom ≤ k ∧ (k : Int) < p.fTo ∧ sec A k = false ∧ zP A p k = true ∧ r = .e1 (k : Int) ∧ ∀ j : Nat, p.fFrom ≤ j → j < k → sec A j = false → zP A p j = false) := by
    refine zgD (st := zbz n A p) (fun s => match s with | .c0 x => ∃ k : Nat, x = (k : Int) ∧ p.fFrom ≤ k ∧ sec A k = false ∧ ∀ j : Nat, p.fFrom ≤ j → j < k → sec A j = false → zP A p j = false) (fun s => match s with | .c0 x => n + 1 - x.toNat)
      (fun _ r => (r = .e0 ∧ ∀ k : Nat, p.fFrom ≤ k → (k : Int) < p.fTo → sec A k = false → zP A p k = false) ∨
      ∃ k : Nat, p.fFrom ≤ k ∧ (k : Int) < p.fTo ∧ sec A k = false ∧ zP A p k = true ∧ r = .e1 (k : Int) ∧ ∀ j : Nat, p.fFrom ≤ j → j < k → sec A j = false → zP A p j = false) ?_ (.c0 p.fFrom) ⟨p.fFrom.toNat, by omega, by omega, hs, fun j h1 h2 => by omega⟩
    rintro ⟨x⟩ ⟨k, rfl, hk, hsk, hok⟩
    by_cases h : (k : Int) < p.fTo
    · have hkn : k < n := by omega
      have hw := zw0 (A k)
      have h16 := ii16 (A k).fOff
      have e1 : IntKind.i64.wrap ((k : Int) + (wid (A k) : Int)) = ((k + wid (A k) : Nat) : Int) := by rw [wr] <;> omega
      have e2 : IntKind.i64.wrap ((k : Int) + 1) = (k : Int) + 1 := by rw [wr] <;> omega
      have e3 : IntKind.i64.wrap ((k : Int) + 1 + ii (A k).fOff) = (k : Int) + 1 + ii (A k).fOff := by rw [wr] <;> omega
      have hnext : zP A p k = false → (∃ k', ((k + wid (A k) : Nat) : Int) = ((k' : Nat) : Int) ∧ p.fFrom ≤ k' ∧ sec A k' = false ∧ ∀ j : Nat, p.fFrom ≤ j → j < k' → sec A j = false → zP A p j = false) := fun hb =>
        ⟨k + wid (A k), rfl, by omega, zu7 hsk, fun j h1 h2 h3 => by
          by_cases h4 : j < k
          · exact hok j h1 h4 h3
          · by_cases h5 : j = k
            · subst h5; exact hb
            · exact absurd (zyo hsk (by omega) h2) (by rw [h3]; simp)⟩
      have step : zP A p k = false → zbz n A p (.c0 (k : Int)) = some (.inl (.c0 ((k + wid (A k) : Nat) : Int))) := fun hb => by
        unfold zP at hb
        simp only [zbz, d_t h, cond_true, zt hkn, Int.toNat_natCast, e2, e3, zv, zqc, e1]
        cases hj : zV (A k)
        · rfl
        · rw [hj, Bool.true_and, Bool.or_eq_false_iff, Bool.or_eq_false_iff] at hb
          obtain ⟨b1, b2, b3⟩ := hb
          have b1' : ¬ ((k : Int) + 1 + ii (A k).fOff < p.fFrom) := by simpa using b1
          have b2' : ¬ (p.fTo ≤ (k : Int) + 1 + ii (A k).fOff) := by simpa using b2
          rw [b1, b2]
          have hq := zsn (A := A) (n := n) (by omega) (k := ((k : Int) + 1 + ii (A k).fOff).toNat) (by omega)
          rw [show ((((k : Int) + 1 + ii (A k).fOff).toNat : Nat) : Int) = (k : Int) + 1 + ii (A k).fOff by omega] at hq
          rw [hq, b3]
          rfl
      cases hb : zP A p k
      · refine .inl ⟨.c0 ((k + wid (A k) : Nat) : Int), step hb, hnext hb, by show n + 1 - ((k + wid (A k) : Nat) : Int).toNat < n + 1 - (k : Int).toNat; omega, fun r hr => hr⟩
      · refine .inr ⟨.e1 (k : Int), ?_, .inr ⟨k, hk, h, hsk, hb, rfl, hok⟩⟩
        unfold zP at hb
        simp only [zbz, d_t h, cond_true, zt hkn, Int.toNat_natCast, e2, e3, zv, zqc, e1]
        simp only [Bool.and_eq_true, Bool.or_eq_true] at hb
        obtain ⟨hj, hb⟩ := hb
        rw [hj]
        simp only [cond_true]
        by_cases c1 : (k : Int) + 1 + ii (A k).fOff < p.fFrom
        · rw [d_t c1]; rfl
        · rw [d_f c1]
          by_cases c2 : p.fTo ≤ (k : Int) + 1 + ii (A k).fOff
          · rw [d_t c2]; rfl
          · rw [d_f c2]
            have b3 : sec A ((k : Int) + 1 + ii (A k).fOff).toNat = true := by
              rcases hb with hb | hb | hb
              · exact absurd (of_decide_eq_true hb) c1
              · exact absurd (of_decide_eq_true hb) c2
              · exact hb
            have hq := zsn (A := A) (n := n) (by omega) (k := ((k : Int) + 1 + ii (A k).fOff).toNat) (by omega)
            rw [show ((((k : Int) + 1 + ii (A k).fOff).toNat : Nat) : Int) = (k : Int) + 1 + ii (A k).fOff by omega] at hq
            rw [hq, b3]
            rfl
    · refine .inr ⟨.e0, ?_, .inl ⟨rfl, fun j h1 h2 h3 => hok j h1 (by omega) h3⟩⟩
      simp only [zbz, d_f h, cond_false]
  obtain ⟨r, hr, hcase⟩ := key
  unfold zfp
  rw [hr]
  rcases hcase with ⟨rfl, h⟩ | ⟨k, h1, h2, h3, h4, rfl, h5⟩
  · exact .inl ⟨rfl, h⟩
  · exact .inr ⟨k, h1, h2, h3, h4, rfl, h5⟩
theorem SubsIs.err {n : Nat} {A : Nat → Insn} {a e : Int} (h : SubsIs n A (.e0 a e)) : e ≠ 0 := by
  cases h with
  | many h => decide
  | slot hn k hk hs he hok => exact he
  | subs => decide
  | ends => decide
/-- What the check of a row of slots comes to. -/
inductive zxw (n : Nat) (A : Nat → Insn) : Int × Int → Prop where
  | subs (a e : Int) (h : SubsIs n A (.e0 a e)) : zxw n A (a, e)
  | jump (N : Nat) (P : Nat → Part) (h : SubsIs n A (.e1 N P)) (i : Nat) (hi : i < N) (k : Nat) (h1 : (P i).fFrom ≤ k) (h2 : (k : Int) < (P i).fTo) (h3 : sec A k = false) (h4 : zP A (P i) k = true)
    (h5 : ∀ j : Nat, (P i).fFrom ≤ j → j < k → sec A j = false → zP A (P i) j = false) (h6 : ∀ i', i' < i → ∀ j : Nat, (P i').fFrom ≤ j → (j : Int) < (P i').fTo → sec A j = false → zP A (P i') j = false) : zxw n A ((k : Int), 15)
  | fine (N : Nat) (P : Nat → Part) (h : SubsIs n A (.e1 N P)) (h6 : ∀ i, i < N → ∀ j : Nat, (P i).fFrom ≤ j → (j : Int) < (P i).fTo → sec A j = false → zP A (P i) j = false) : zxw n A (0, 0)
theorem zuG (n : Nat) (A : Nat → Insn) : ∃ r, zb0 n A = some r ∧ zxw n A r := by
  unfold zb0
  obtain ⟨r, hr, hs⟩ := zBd n A
  rw [hr]
  cases r with
  | e0 a e =>
    have he := hs.err
    have hb : (e == 0) = false := by simpa using he
    simp only [Option.bind_some, hb, cond_false]
    exact ⟨_, rfl, .subs a e hs⟩
  | e1 N P =>
    cases hs with
    | fine h0 hn hok g hg _ _ hN hP h64 he =>
      have hs' : SubsIs n A (.e1 N P) := .fine h0 hn hok g hg N P hN hP h64 he
      have hsec : ∀ i, i < N → sec A (P i).fFrom.toNat = false := fun i hi => (zBl hok ((hg _).1 (hP.beg i hi))).1
      have key : ∃ r, lpO (zbt n A N P) (.c0 0) = some r ∧ ((r = .e0 ∧ ∀ i, i < N → ∀ j : Nat, (P i).fFrom ≤ j → (j : Int) < (P i).fTo → sec A j = false → zP A (P i) j = false) ∨
          ∃ (i : Nat) (k : Nat), i < N ∧ (P i).fFrom ≤ k ∧ (k : Int) < (P i).fTo ∧ sec A k = false ∧ zP A (P i) k = true ∧ r = .e1 (k : Int) ∧ (∀ j : Nat, (P i).fFrom ≤ j → j < k → sec A j = false → zP A (P i) j = false) ∧
            ∀ i', i' < i → ∀ j : Nat, (P i').fFrom ≤ j → (j : Int) < (P i').fTo → sec A j = false → zP A (P i') j = false) := by
        refine zgD (st := zbt n A N P) (fun s => match s with | .c0 x => ∃ k : Nat, x = (k : Int) ∧ k ≤ N ∧ ∀ i', i' < k → ∀ j : Nat, (P i').fFrom ≤ j → (j : Int) < (P i').fTo → sec A j = false → zP A (P i') j = false) (fun s => match s with | .c0 x => N - x.toNat)
          (fun _ r => (r = .e0 ∧ ∀ i, i < N → ∀ j : Nat, (P i).fFrom ≤ j → (j : Int) < (P i).fTo → sec A j = false → zP A (P i) j = false) ∨
          ∃ (i : Nat) (k : Nat), i < N ∧ (P i).fFrom ≤ k ∧ (k : Int) < (P i).fTo ∧ sec A k = false ∧ zP A (P i) k = true ∧ r = .e1 (k : Int) ∧ (∀ j : Nat, (P i).fFrom ≤ j → j < k → sec A j = false → zP A (P i) j = false) ∧
            ∀ i', i' < i → ∀ j : Nat, (P i').fFrom ≤ j → (j : Int) < (P i').fTo → sec A j = false → zP A (P i') j = false) ?_ (.c0 0) ⟨0, rfl, by omega, fun i hi => by omega⟩
        rintro ⟨x⟩ ⟨i, rfl, hi, hok'⟩
        by_cases h : i < N
        · have hl := hP.lt i h
          have ht := hP.to h
          have e1 : IntKind.i64.wrap ((i : Int) + 1) = ((i + 1 : Nat) : Int) := by rw [wr] <;> omega
          rcases zxY (A := A) hn hl.1 (hsec i h) ht with ⟨hj, hf⟩ | ⟨k, h1, h2, h3, h4, hj, h5⟩
          · refine .inl ⟨.c0 ((i + 1 : Nat) : Int), ?_, ⟨i + 1, rfl, by omega, fun i' hi' => ?_⟩, by show N - ((i + 1 : Nat) : Int).toNat < N - (i : Int).toNat; omega, fun r hr => hr⟩
            · simp only [zbt, d_t (p := (i : Int) < (N : Int)) (by omega), cond_true, zt h, Int.toNat_natCast, hj, Option.bind_some, e1]
            · by_cases hz : i' = i
              · subst hz; exact hf
              · exact hok' i' (by omega)
          · refine .inr ⟨.e1 (k : Int), ?_, .inr ⟨i, k, h, h1, h2, h3, h4, rfl, h5, hok'⟩⟩
            simp only [zbt, d_t (p := (i : Int) < (N : Int)) (by omega), cond_true, zt h, Int.toNat_natCast, hj, Option.bind_some, cond_false]
        · refine .inr ⟨.e0, ?_, .inl ⟨rfl, fun i' hi' => hok' i' (by omega)⟩⟩
          simp only [zbt, d_f (p := (i : Int) < (N : Int)) (by omega), cond_false]
      obtain ⟨r, hr, hcase⟩ := key
      simp only [Option.bind_some, hr]
      rcases hcase with ⟨rfl, h⟩ | ⟨i, k, h0, h1, h2, h3, h4, rfl, h5, h6⟩
      · exact ⟨_, rfl, .fine N P hs' h⟩
      · exact ⟨_, rfl, .jump N P hs' i h0 k h1 h2 h3 h4 h5 h6⟩
end Go.Proofs.Ytliijnpblddjfaa
/-
  Instructions: rows of slots of one subprogram, in plain words (no program).
-/
namespace Go.Proofs.Ytliijnpblddjfaa
open Go.RowKit
set_option linter.unusedVariables false
set_option linter.unusedSimpArgs false
theorem zyi {n : Nat} {A : Nat → Insn} {g : Nat → Bool} (hg : ∀ j, g j = true ↔ Beg n A j) {N : Nat} {P : Nat → Part} (hP : Parts g n N P) (hnames : ∀ k, k < n → sec A k = false → zs (A k) = false) :
    N = 1 ∧ (P 0).fFrom = 0 ∧ (P 0).fTo = (n : Int) := by
  have hN : N = 1 := by
    apply Classical.byContradiction
    intro h
    have hp := hP.pos
    have h1 := hP.next 0 (by omega)
    have h2 := hP.lt 0 (by omega)
    have h3 := hP.first
    rcases (hg _).1 (hP.beg 1 (by omega)) with h4 | ⟨k, hk, hs, hm, _⟩
    · simp only [Nat.zero_add] at h1; omega
    · rw [hnames k hk hs] at hm; cases hm
  subst hN
  exact ⟨rfl, hP.first, hP.last⟩
/-- A row of slots of one subprogram. -/
structure Plain (n : Nat) (A : Nat → Insn) : Prop where
  pos : 0 < n
  most : n ≤ 4096
  ok : okTo n A n
  names : ∀ k, k < n → sec A k = false → zs (A k) = false
  ends : ziu A n = true
theorem Plain.subs {n : Nat} {A : Nat → Insn} (h : Plain n A) {r : zm9} (hs : SubsIs n A r) : ∃ P, r = .e1 1 P ∧ (P 0).fFrom = 0 ∧ (P 0).fTo = (n : Int) := by
  have hp := h.pos
  have hm := h.most
  cases hs with
  | many h' => omega
  | slot hn k hk hs he hok => exact absurd (h.ok k hk hk hs) he
  | subs h0 hn hok g hg N P hN hP h64 => have := (zyi hg hP h.names).1; omega
  | ends h0 hn hok g hg N P hN hP h64 i hi he hb =>
    obtain ⟨h1, h2, h3⟩ := zyi hg hP h.names
    obtain rfl : i = 0 := by omega
    rw [h3, Int.toNat_natCast, h.ends] at he
    cases he
  | fine h0 hn hok g hg N P hN hP h64 he =>
    obtain ⟨rfl, h2, h3⟩ := zyi hg hP h.names
    exact ⟨P, rfl, h2, h3⟩
theorem Plain.check {n : Nat} {A : Nat → Insn} (h : Plain n A) (hj : ∀ p : Part, p.fFrom = 0 → p.fTo = (n : Int) → ∀ k, k < n → sec A k = false → zP A p k = false) : zb0 n A = some (0, 0) := by
  obtain ⟨r, hr, hs⟩ := zuG n A
  rw [hr]
  congr 1
  cases hs with
  | subs a e h' => obtain ⟨P, hP, _⟩ := h.subs h'; cases hP
  | jump N P h' i hi k h1 h2 h3 h4 h5 h6 =>
    obtain ⟨P', hP, q1, q2⟩ := h.subs h'
    cases hP
    obtain rfl : i = 0 := by omega
    rw [hj (P 0) q1 q2 k (by omega) h3] at h4
    cases h4
  | fine N P h' h6 => rfl
theorem Plain.jump {n : Nat} {A : Nat → Insn} (h : Plain n A) (k0 : Nat) (hk : k0 < n) (hs : sec A k0 = false) (hbad : ∀ p : Part, p.fFrom = 0 → p.fTo = (n : Int) → zP A p k0 = true)
    (hj : ∀ p : Part, p.fFrom = 0 → p.fTo = (n : Int) → ∀ k, k < k0 → sec A k = false → zP A p k = false) : zb0 n A = some ((k0 : Int), 15) := by
  obtain ⟨r, hr, hs'⟩ := zuG n A
  rw [hr]
  congr 1
  cases hs' with
  | subs a e h' => obtain ⟨P, hP, _⟩ := h.subs h'; cases hP
  | jump N P h' i hi k h1 h2 h3 h4 h5 h6 =>
    obtain ⟨P', hP, q1, q2⟩ := h.subs h'
    cases hP
    obtain rfl : i = 0 := by omega
    have hk' : k = k0 := by
      rcases Nat.lt_trichotomy k k0 with c | c | c
      · rw [hj (P 0) q1 q2 k c h3] at h4; cases h4
      · exact c
      · have := h5 k0 (by omega) c hs
        rw [hbad (P 0) q1 q2] at this; cases this
    rw [hk']
  | fine N P h' h6 =>
    obtain ⟨P', hP, q1, q2⟩ := h.subs h'
    cases hP
    have := h6 0 (by omega) k0 (by omega) (by omega) hs
    rw [hbad (P 0) q1 q2] at this; cases this
end Go.Proofs.Ytliijnpblddjfaa
/-
  Instructions: of a program that is well formed each operation stays in its subprogram (the law InsnStays), in plain words.
-/
namespace Go.Proofs.Ytliijnpblddjfaa
open Go.RowKit
set_option linter.unusedVariables false
set_option linter.unusedSimpArgs false
theorem zAW {n : Nat} {A : Nat → Insn} (hn : n ≤ 4096) {g : Nat → Bool} {N : Nat} {P : Nat → Part} (hP : Parts g n N P) (hN : N ≤ n) (hsec : ∀ i, i < N → sec A (P i).fFrom.toNat = false) :
    ∃ r, lpO (zbt n A N P) (.c0 0) = some r ∧ ((r = .e0 ∧ ∀ i, i < N → ∀ j : Nat, (P i).fFrom ≤ j → (j : Int) < (P i).fTo → sec A j = false → zP A (P i) j = false) ∨
          ∃ (i : Nat) (k : Nat), i < N ∧ (P i).fFrom ≤ k ∧ (k : Int) < (P i).fTo ∧ sec A k = false ∧ zP A (P i) k = true ∧ r = .e1 (k : Int) ∧ (∀ j : Nat, (P i).fFrom ≤ j → j < k → sec A j = false → zP A (P i) j = false) ∧
            ∀ i', i' < i → ∀ j : Nat, (P i').fFrom ≤ j → (j : Int) < (P i').fTo → sec A j = false → zP A (P i') j = false) := by
  refine zgD (st := zbt n A N P) (fun s => match s with | .c0 x => ∃ k : Nat, x = (k : Int) ∧ k ≤ N ∧ ∀ i', i' < k → ∀ j : Nat, (P i').fFrom ≤ j → (j : Int) < (P i').fTo → sec A j = false → zP A (P i') j = false) (fun s => match s with | .c0 x => N - x.toNat)
    (fun _ r => (r = .e0 ∧ ∀ i, i < N → ∀ j : Nat, (P i).fFrom ≤ j → (j : Int) < (P i).fTo → sec A j = false → zP A (P i) j = false) ∨
    ∃ (i : Nat) (k : Nat), i < N ∧ (P i).fFrom ≤ k ∧ (k : Int) < (P i).fTo ∧ sec A k = false ∧ zP A (P i) k = true ∧ r = .e1 (k : Int) ∧ (∀ j : Nat, (P i).fFrom ≤ j → j < k → sec A j = false → zP A (P i) j = false) ∧
      ∀ i', i' < i → ∀ j : Nat, (P i').fFrom ≤ j → (j : Int) < (P i').fTo → sec A j = false → zP A (P i') j = false) ?_ (.c0 0) ⟨0, rfl, by omega, fun i hi => by omega⟩
  rintro ⟨x⟩ ⟨i, rfl, hi, hok'⟩
  by_cases h : i < N
  · have hl := hP.lt i h
    have ht := hP.to h
    have e1 : IntKind.i64.wrap ((i : Int) + 1) = ((i + 1 : Nat) : Int) := by rw [wr] <;> omega
    rcases zxY (A := A) hn hl.1 (hsec i h) ht with ⟨hj, hf⟩ | ⟨k, h1, h2, h3, h4, hj, h5⟩
    · refine .inl ⟨.c0 ((i + 1 : Nat) : Int), ?_, ⟨i + 1, rfl, by omega, fun i' hi' => ?_⟩, by show N - ((i + 1 : Nat) : Int).toNat < N - (i : Int).toNat; omega, fun r hr => hr⟩
      · simp only [zbt, d_t (p := (i : Int) < (N : Int)) (by omega), cond_true, zt h, Int.toNat_natCast, hj, Option.bind_some, e1]
      · by_cases hz : i' = i
        · subst hz; exact hf
        · exact hok' i' (by omega)
    · refine .inr ⟨.e1 (k : Int), ?_, .inr ⟨i, k, h, h1, h2, h3, h4, rfl, h5, hok'⟩⟩
      simp only [zbt, d_t (p := (i : Int) < (N : Int)) (by omega), cond_true, zt h, Int.toNat_natCast, hj, Option.bind_some, cond_false]
  · refine .inr ⟨.e0, ?_, .inl ⟨rfl, fun i' hi' => hok' i' (by omega)⟩⟩
    simp only [zbt, d_f (p := (i : Int) < (N : Int)) (by omega), cond_false]

/-- A row of slots that is well formed. -/
structure Fine (n : Nat) (A : Nat → Insn) (N : Nat) (P : Nat → Part) : Prop where
  most : n ≤ 4096
  ok : okTo n A n
  subs : zhJ n A = some (.e1 N P)
  parts : ∃ g, Parts g n N P
  some : N ≤ n
  beg : ∀ i, i < N → sec A (P i).fFrom.toNat = false
  ends : ∀ i, i < N → ziu A (P i).fTo.toNat = true
  stay : ∀ i, i < N → ∀ j : Nat, (P i).fFrom ≤ j → (j : Int) < (P i).fTo → sec A j = false → zP A (P i) j = false
theorem zvK (n : Nat) (A : Nat → Insn) : ∃ r, zb0 n A = some r ∧ (r.2 = 0 → ∃ N P, Fine n A N P) := by
  unfold zb0
  obtain ⟨r, hr, hs⟩ := zBd n A
  rw [hr]
  cases r with
  | e0 a e =>
    have he := hs.err
    have hb : (e == 0) = false := by simpa using he
    simp only [Option.bind_some, hb, cond_false]
    exact ⟨_, rfl, fun h => absurd h he⟩
  | e1 N P =>
    cases hs with
    | fine h0 hn hok g hg _ _ hN hP h64 he =>
      have hsec : ∀ i, i < N → sec A (P i).fFrom.toNat = false := fun i hi => (zBl hok ((hg _).1 (hP.beg i hi))).1
      obtain ⟨r', hr', hcase⟩ := zAW hn hP hN hsec
      simp only [Option.bind_some, hr']
      rcases hcase with ⟨rfl, h⟩ | ⟨i, k, h0, h1, h2, h3, h4, rfl, h5, h6⟩
      · exact ⟨_, rfl, fun _ => ⟨N, P, ⟨hn, hok, hr, ⟨g, hP⟩, hN, hsec, he, h⟩⟩⟩
      · exact ⟨_, rfl, fun h => absurd h (show ¬ ((15 : Int) = 0) by decide)⟩
theorem zyT {n : Nat} {A : Nat → Insn} {k : Nat} (he : errB n A k = 0) (hw : zgG (A k) = true) : zpx n A k = true := by
  unfold errB at he
  rw [hw] at he
  cases h : zpx n A k
  · rw [h] at he
    exfalso
    revert he
    generalize zw (A k) = b1
    generalize (BitVec.ult 10#8 (A k).fDst || (BitVec.ult 10#8 (A k).fSrc || (((A k).fDst == 10#8) && zdc (A k)))) = b2
    generalize (((A k).fOp == 133#8) && (((A k).fSrc == 0#8) && (BitVec.slt (A k).fImm 1#32 || BitVec.slt 28#32 (A k).fImm))) = b4
    generalize (zs (A k) && !ztQ n A ((k : Int) + 1 + ii (A k).fImm)) = b5
    revert b1 b2 b4 b5
    decide
  · rfl
theorem zsO {n : Nat} {A : Nat → Insn} (hn : n ≤ 4096) {j : Nat} (hj : j < n) : zgT n A (j : Int) = some (zw (A j) && !sec A j) := by
  unfold zgT
  rw [d_t (p := (0 : Int) ≤ (j : Int)) (by omega), d_t (p := (j : Int) < (n : Int)) (by omega), zt hj, Int.toNat_natCast, zsn (by omega) (by omega)]
  cases zw (A j) <;> cases sec A j <;> rfl
section
variable {n N : Nat} {A : Nat → Insn} {P : Nat → Part}
/-- A wide load ahead of a subprogram's end has its second slot ahead of it, and isn't the last one. -/
theorem Fine.wide (h : Fine n A N P) {i k : Nat} (hi : i < N) (hk : (k : Int) < (P i).fTo) (hs : sec A k = false) (hw : zgG (A k) = true) : ((k + 2 : Nat) : Int) < (P i).fTo := by
  obtain ⟨g, hP⟩ := h.parts
  have ht := hP.to hi
  have hsk : sec A (k + 1) = true := by
    show (zgG (A k) && !sec A k) = true
    rw [hw, hs]; rfl
  have hr := zyT (h.ok k (by omega) (by omega) hs) hw
  unfold zpx at hr
  have hk1 : k + 1 < n := by
    rw [Bool.and_eq_true] at hr
    exact of_decide_eq_true hr.1
  have h1 : ((k + 1 : Nat) : Int) < (P i).fTo := by
    apply Classical.byContradiction
    intro c
    have e : (P i).fTo = ((k + 1 : Nat) : Int) := by omega
    by_cases hlast : i + 1 < N
    · have hb := h.beg (i + 1) hlast
      rw [← hP.next i hlast, e, Int.toNat_natCast, hsk] at hb
      cases hb
    · have := hP.last
      rw [show N - 1 = i by omega, e] at this
      omega
  apply Classical.byContradiction
  intro c
  have e : (P i).fTo = ((k + 2 : Nat) : Int) := by omega
  have he := h.ends i hi
  unfold ziu ziP at he
  rw [e, Int.toNat_natCast, show k + 2 - 1 = k + 1 from rfl, hsk, if_pos rfl, show k + 2 - 2 = k from rfl] at he
  have hw' : (A k).fOp = 24#8 := by simpa [zgG] using hw
  rw [hw'] at he
  cases he
theorem Fine.last (h : Fine n A N P) {i k : Nat} (hi : i < N) (hk : (P i).fTo = ((k + 1 : Nat) : Int)) (hs : sec A k = false) : ((A k).fOp == 149#8) = true ∨ ((A k).fOp == 5#8) = true := by
  have he := h.ends i hi
  unfold ziu ziP at he
  rw [hk, Int.toNat_natCast, show k + 1 - 1 = k from rfl, hs, if_neg (by simp), Bool.or_eq_true] at he
  exact he
theorem Fine.goes (h : Fine n A N P) {i k : Nat} (hi : i < N) (hf : (P i).fFrom ≤ k) (hk : (k : Int) < (P i).fTo) (hs : sec A k = false) (hj : zV (A k) = true) : ¬ ((k : Int) + 1 + ii (A k).fOff < (P i).fFrom) ∧ ¬ ((P i).fTo ≤ (k : Int) + 1 + ii (A k).fOff) := by
  have hb := h.stay i hi k hf hk hs
  unfold zP at hb
  rw [hj, Bool.true_and, Bool.or_eq_false_iff, Bool.or_eq_false_iff] at hb
  exact ⟨of_decide_eq_false hb.1, of_decide_eq_false hb.2.1⟩
end
end Go.Proofs.Ytliijnpblddjfaa
