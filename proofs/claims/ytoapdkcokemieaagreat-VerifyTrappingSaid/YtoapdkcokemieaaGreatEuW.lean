/-
  Regions that draw their order (4): the reckoning. Nothing of the program stands here.
-/
import Derived.Test.YtoapdkcokemieaaGreatEuV
namespace Go.Proofs.YtoapdkcokemieaaGreat.Ev
open Go.RowKit
noncomputable section
set_option linter.unusedVariables false
set_option linter.unusedSimpArgs false
set_option linter.unusedSectionVars false
variable [Fs] [En] [FsOk]
/-! ### What hangs on the text alone -/
def mask1 (ms : List Nat) : List Edge → Nat
  | [] => 0
  | e :: l => match Region.binds .any e with
    | true => (1 <<< e.on) ||| (ms.getD e.on 0) ||| mask1 ms l
    | false => mask1 ms l
def masks : List Oper → List Nat → List Nat
  | [], ms => ms
  | o :: l, ms => fN (mask1 ms o.after.toList) fun m => masks l (ms ++ [m])
/-- Operation i comes behind operation j. -/
def clB (ms : List Nat) (i j : Nat) : Bool := Nat.testBit (ms.getD i 0) j
theorem mask1_ok {ms : List Nat} : ∀ {l : List Edge} {j : Nat}, Nat.testBit (mask1 ms l) j = true → ∃ e ∈ l, Region.binds .any e = true ∧ (e.on = j ∨ clB ms e.on j = true)
  | [], j, h => by simp [mask1] at h
  | e :: l, j, h => by
    simp only [mask1] at h
    split at h
    · rename_i hb
      rw [Nat.testBit_or, Nat.testBit_or, Bool.or_eq_true, Bool.or_eq_true] at h
      rcases h with (h | h) | h
      · refine ⟨e, by simp, hb, .inl ?_⟩
        rw [Nat.one_shiftLeft, Nat.testBit_two_pow] at h
        simpa using h
      · exact ⟨e, by simp, hb, .inr h⟩
      · obtain ⟨e', h1, h2⟩ := mask1_ok h
        exact ⟨e', by simp [h1], h2⟩
    · obtain ⟨e', h1, h2⟩ := mask1_ok h
      exact ⟨e', by simp [h1], h2⟩
def allI {β : Type} (f : Nat → β → Bool) : Nat → List β → Bool
  | _, [] => true
  | i, x :: l => match f i x with
    | true => allI f (i + 1) l
    | false => false
theorem allI_ok {β : Type} {f : Nat → β → Bool} : ∀ {l : List β} {i : Nat}, allI f i l = true → ∀ (j : Nat) (x : β), l[j]? = some x → f (i + j) x = true
  | [], i, h, j, x, hj => by simp at hj
  | y :: l, i, h, j, x, hj => by
    simp only [allI] at h
    split at h
    · rename_i hy
      cases j with
      | zero => simp at hj; subst hj; exact hy
      | succ j => simp at hj; have := allI_ok h j x hj; rw [show i + (j + 1) = i + 1 + j from by omega]; exact this
    · cases h
def dstIdx : List Oper → Nat → Tmp → Option Nat
  | [], _, _ => none
  | o :: l, i, t => match o.dst with
    | some d => match Nat.beq d t with
      | true => some i
      | false => dstIdx l (i + 1) t
    | none => dstIdx l (i + 1) t
theorem dstIdx_some : ∀ {l : List Oper} {i : Nat} {t : Tmp} {j : Nat}, dstIdx l i t = some j → ∃ k o, j = i + k ∧ l[k]? = some o ∧ o.dst = some t
  | [], i, t, j, h => by cases h
  | o :: l, i, t, j, h => by
    simp only [dstIdx] at h
    split at h
    · rename_i d hd
      split at h
      · rename_i hb
        have := Nat.eq_of_beq_eq_true hb
        subst this
        simp at h; subst h
        exact ⟨0, o, by omega, by simp, hd⟩
      · obtain ⟨k, o', h1, h2, h3⟩ := dstIdx_some h
        exact ⟨k + 1, o', by omega, by simpa using h2, h3⟩
    · obtain ⟨k, o', h1, h2, h3⟩ := dstIdx_some h
      exact ⟨k + 1, o', by omega, by simpa using h2, h3⟩
theorem dstIdx_none : ∀ {l : List Oper} {i : Nat} {t : Tmp}, dstIdx l i t = none → ∀ (k : Nat) (o : Oper), l[k]? = some o → o.dst ≠ some t
  | [], i, t, h, k, o, hk => by simp at hk
  | p :: l, i, t, h, k, o, hk => by
    simp only [dstIdx] at h
    split at h
    · rename_i d hd
      split at h
      · cases h
      · rename_i hb
        have := Nat.ne_of_beq_eq_false hb
        cases k with
        | zero => simp at hk; subst hk; rw [hd]; simpa using this
        | succ k => exact dstIdx_none h k o (by simpa using hk)
    · rename_i hd
      cases k with
      | zero => simp at hk; subst hk; rw [hd]; simp
      | succ k => exact dstIdx_none h k o (by simpa using hk)
/-- Is the text of a region as it must be: masks, edges, what is written. -/
def textOk (N : Nat) (ops : List Oper) (ms : List Nat) : Bool :=
  allI (fun i o => Nat.beq (ms.getD i 0) (mask1 ms o.after.toList) && o.after.toList.all (fun e => !Region.binds .any e || Nat.ble (e.on + 1) i) &&
    (match o.dst with
      | some d => Nat.ble (d + 1) N && (match dstIdx ops 0 d with
        | some j => Nat.beq i j
        | none => false)
      | none => true)) 0 ops && Nat.beq ms.length ops.length
section
variable {ops : Array Oper} {ms : List Nat} {N : Nat} (h : textOk N ops.toList ms = true)
include h
theorem text_c1 : ∀ i j, clB ms i j = true → ∃ o e, ops[i]? = some o ∧ e ∈ o.after ∧ Region.binds .any e = true ∧ (e.on = j ∨ clB ms e.on j = true) := by
  intro i j hij
  unfold textOk at h
  simp only [Bool.and_eq_true] at h
  obtain ⟨h1, h2⟩ := h
  have h2 := Nat.eq_of_beq_eq_true h2
  by_cases hi : i < ops.size
  · have h3 := allI_ok h1 i ops[i] (by simp)
    simp only [Bool.and_eq_true, Nat.zero_add] at h3
    have h4 := Nat.eq_of_beq_eq_true h3.1.1
    unfold clB at hij
    rw [h4] at hij
    obtain ⟨e, h5, h6, h7⟩ := mask1_ok hij
    exact ⟨ops[i], e, Array.getElem?_eq_getElem hi, by simpa using h5, h6, h7⟩
  · have : ms.getD i 0 = 0 := by
      have : ms.length ≤ i := by rw [h2]; simpa using hi
      simp [List.getD, List.getElem?_eq_none this]
    unfold clB at hij
    rw [this] at hij
    simp at hij
theorem text_c10 : ∀ i o e, ops[i]? = some o → e ∈ o.after → Region.binds .any e = true → e.on < i := by
  intro i o e ho he hb
  unfold textOk at h
  simp only [Bool.and_eq_true] at h
  have h3 := allI_ok h.1 i o (by simpa using ho)
  simp only [Bool.and_eq_true, Nat.zero_add, List.all_eq_true] at h3
  have := h3.1.2 e (by simpa using he)
  simp [hb] at this
  omega
theorem text_dst : ∀ i d, dstOf ops i = some d → d < N ∧ dstIdx ops.toList 0 d = some i := by
  intro i d hd
  unfold dstOf at hd
  cases ho : ops[i]? with
  | none => rw [ho] at hd; cases hd
  | some o =>
    rw [ho] at hd
    simp at hd
    unfold textOk at h
    simp only [Bool.and_eq_true] at h
    have h3 := allI_ok h.1 i o (by simpa using ho)
    simp only [Bool.and_eq_true, Nat.zero_add, hd] at h3
    obtain ⟨_, h4, h5⟩ := h3
    have h4 := Nat.le_of_ble_eq_true h4
    refine ⟨h4, ?_⟩
    split at h5
    · rename_i j hj
      rw [hj, Nat.eq_of_beq_eq_true h5]
    · cases h5
theorem text_c2 : ∀ i j d, dstOf ops i = some d → dstOf ops j = some d → i = j := by
  intro i j d hi hj
  have h1 := (text_dst h i d hi).2
  rw [(text_dst h j d hj).2] at h1
  simpa using h1.symm
theorem text_lt : ∀ i j, clB ms i j = true → j < i := by
  intro i
  induction i using Nat.strongRecOn with
  | _ i ih =>
    intro j hij
    obtain ⟨o, e, h1, h2, h3, h4⟩ := text_c1 h i j hij
    have h5 := text_c10 h i o e h1 h2 h3
    rcases h4 with rfl | h4
    · exact h5
    · have := ih e.on h5 j h4; omega
end
/-! ### An operation's operands -/
/-- Where operation i finds what it reads in t: 1: ahead of the region; 2: an operation of the region; 0: it isn't said. -/
def srcOf (ops : List Oper) (ms : List Nat) (i : Nat) (t : Tmp) : Nat := match dstIdx ops 0 t with
  | none => 1
  | some j => match Nat.beq j i with
    | true => 1
    | false => match clB ms i j with
      | true => 2
      | false => match clB ms j i with
        | true => 1
        | false => 0
def mkEnv {ρ : Type} (ops : List Oper) (ms : List Nat) (i : Nat) (T0 T1 : Tr PV) : List Tmp → Tr PV → (Tr PV → ρ) → ρ
  | [], E, k => k E
  | t :: l, E, k => match srcOf ops ms i t with
    | 1 => match T0.at t with
      | some v => Tr.setK (pth t) (some v) E fun E => mkEnv ops ms i T0 T1 l E k
      | none => mkEnv ops ms i T0 T1 l E k
    | 2 => match T1.at t with
      | some v => Tr.setK (pth t) (some v) E fun E => mkEnv ops ms i T0 T1 l E k
      | none => mkEnv ops ms i T0 T1 l E k
    | _ => mkEnv ops ms i T0 T1 l E k
theorem mkEnv_ok {ρ : Type} {ops : List Oper} {ms : List Nat} {i : Nat} {T0 T1 : Tr PV} : ∀ (l : List Tmp) (E : Tr PV) (k : Tr PV → ρ), (∀ t v, E.at t = some v → (srcOf ops ms i t = 1 ∧ T0.at t = some v) ∨ (srcOf ops ms i t = 2 ∧ T1.at t = some v)) →
    ∃ E', mkEnv ops ms i T0 T1 l E k = k E' ∧ ∀ t v, E'.at t = some v → (srcOf ops ms i t = 1 ∧ T0.at t = some v) ∨ (srcOf ops ms i t = 2 ∧ T1.at t = some v)
  | [], E, k, h => ⟨E, rfl, h⟩
  | t :: l, E, k, h => by
    have put : ∀ v, ((srcOf ops ms i t = 1 ∧ T0.at t = some v) ∨ (srcOf ops ms i t = 2 ∧ T1.at t = some v)) → ∀ t' v', (E.put t (some v)).at t' = some v' → (srcOf ops ms i t' = 1 ∧ T0.at t' = some v') ∨ (srcOf ops ms i t' = 2 ∧ T1.at t' = some v') := by
      intro v hv t' v' h'
      rw [Tr.at_put] at h'
      by_cases he : t = t'
      · subst he; rw [if_pos rfl] at h'; simp at h'; subst h'; exact hv
      · rw [if_neg he] at h'; exact h t' v' h'
    unfold mkEnv
    split
    · rename_i hs
      split
      · rename_i v hv
        rw [Tr.setK_eq]
        exact mkEnv_ok l _ k (put v (.inl ⟨hs, hv⟩))
      · exact mkEnv_ok l E k h
    · rename_i hs
      split
      · rename_i v hv
        rw [Tr.setK_eq]
        exact mkEnv_ok l _ k (put v (.inr ⟨hs, hv⟩))
      · exact mkEnv_ok l E k h
    · exact mkEnv_ok l E k h
end
end Go.Proofs.YtoapdkcokemieaaGreat.Ev
