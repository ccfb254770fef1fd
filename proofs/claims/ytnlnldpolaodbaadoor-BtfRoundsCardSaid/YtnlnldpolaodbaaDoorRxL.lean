/-
  Loops by steps: a loop whose rounds are told by a step comes to what the steps come to. Nothing of the program stands here.
-/
import Derived.Test.YtnlnldpolaodbaaDoorRxG
namespace Go.Proofs.YtnlnldpolaodbaaDoor
open Go.RowKit
set_option linter.unusedVariables false
section
variable {σ τ : Type}
def lpN (step : σ → σ ⊕ τ) (z : τ) : Nat → σ → τ
  | 0, _ => z
  | n + 1, s => match step s with
    | .inl s' => lpN step z n s'
    | .inr r => r
def lp (step : σ → σ ⊕ τ) (z : τ) (μ : σ → Nat) (s : σ) : τ := lpN step z (μ s + 1) s
/-- What is kept from round to round, and what falls. -/
structure Falls (step : σ → σ ⊕ τ) (μ : σ → Nat) (I : σ → Prop) : Prop where
  next : ∀ s s', I s → step s = .inl s' → I s' ∧ μ s' < μ s
theorem lpN_any {step : σ → σ ⊕ τ} {z : τ} {μ : σ → Nat} {I : σ → Prop} (h : Falls step μ I) : ∀ n m s, I s → μ s < n → μ s < m → lpN step z n s = lpN step z m s
  | 0, _, s, _, h1, _ => by omega
  | _, 0, s, _, _, h1 => by omega
  | n + 1, m + 1, s, hI, h1, h2 => by
    unfold lpN
    cases e : step s with
    | inl s' =>
      obtain ⟨h3, h4⟩ := h.next s s' hI e
      exact lpN_any h n m s' h3 (by omega) (by omega)
    | inr r => rfl
theorem lp_next {step : σ → σ ⊕ τ} {z : τ} {μ : σ → Nat} {I : σ → Prop} (h : Falls step μ I) {s s' : σ} (hI : I s) (e : step s = .inl s') : lp step z μ s = lp step z μ s' := by
  obtain ⟨h3, h4⟩ := h.next s s' hI e
  have : lp step z μ s = lpN step z (μ s) s' := by
    show lpN step z (μ s + 1) s = _
    rw [lpN, e]
  rw [this]
  exact lpN_any h _ _ s' h3 h4 (by omega)
theorem lp_end {step : σ → σ ⊕ τ} {z : τ} {μ : σ → Nat} {s : σ} {r : τ} (e : step s = .inr r) : lp step z μ s = r := by
  show lpN step z (μ s + 1) s = _
  rw [lpN, e]
/-- What a loop comes to, by induction over its rounds. -/
theorem lp_ind {step : σ → σ ⊕ τ} {z : τ} {μ : σ → Nat} {I : σ → Prop} (h : Falls step μ I) (Pr : σ → τ → Prop) (hn : ∀ s s' r, I s → I s' → step s = .inl s' → Pr s' r → Pr s r) (he : ∀ s r, I s → step s = .inr r → Pr s r) : ∀ s, I s → Pr s (lp step z μ s) := by
  have key : ∀ n s, μ s < n → I s → Pr s (lp step z μ s) := by
    intro n
    induction n with
    | zero => intro s h1; omega
    | succ n ih =>
      intro s h1 hI
      cases e : step s with
      | inl s' =>
        obtain ⟨h3, h4⟩ := h.next s s' hI e
        rw [lp_next h hI e]
        exact hn s s' _ hI h3 e (ih s' (by omega) h3)
      | inr r => rw [lp_end e]; exact he s r hI e
  exact fun s hI => key (μ s + 1) s (by omega) hI
end
theorem mod_lt {n m : Nat} (a k : BitVec n) (h : 0 < k.toNat) (h2 : k.toNat ≤ m) : (a % k).toNat < m := by
  rw [BitVec.toNat_umod]; exact Nat.lt_of_lt_of_le (Nat.mod_lt _ h) h2
theorem nz_above {n : Nat} {a b : BitVec n} (h : BitVec.ult b a = false) (g : (a == BitVec.ofNat n 0) = false) : b ≠ BitVec.ofNat n 0 := by
  intro e
  subst e
  have h1 : a ≠ BitVec.ofNat n 0 := by simpa using g
  have h2 : ¬ (BitVec.ofNat n 0).toNat < a.toNat := by simpa [BitVec.ult] using h
  apply h1
  apply BitVec.eq_of_toNat_eq
  simp at h2 ⊢
  omega
/-- A contract by a test. -/
theorem Con.cond {P : Program} {f : FuncId} {a : Array Value} {α : Type} (F : α → Value) (c : Bool) (A B : α) (ht : c = true → Con P f a (F A)) (hf : c = false → Con P f a (F B)) : Con P f a (F (bif c then A else B)) := by
  cases c
  · exact hf rfl
  · exact ht rfl
theorem ne_exit (i : Nat) : (.exit i : Ex) ≠ .normal := fun h => by cases h
theorem ne_ret : (.ret : Ex) ≠ .normal := fun h => by cases h
theorem ne_goto (i : Nat) : (.goto i : Ex) ≠ .normal := fun h => by cases h
theorem goes_lp {P : Program} {σ τ : Type} {x : Code} {n k nf : Nat} {fr : σ → List L1 → List Value} {Hs : σ → List L1 → List Obj} {ex : τ → Ex} {vf : τ → List L1 → List Value} {Hf : τ → List L1 → List Obj} {step : σ → σ ⊕ τ} (z : τ) {μ : σ → Nat} {I : σ → Prop} (hf : Falls step μ I)
    (hg : ∀ s, I s → match step s with
      | .inl s' => Goes1 P x n (fr s) (Hs s) .normal k (fr s') (Hs s') n
      | .inr r => ex r ≠ .normal ∧ Goes1 P x n (fr s) (Hs s) (ex r) k (vf r) (Hf r) nf) :
    ∀ s, I s → Goes1 P (.loop x) n (fr s) (Hs s) (ex (lp step z μ s)) k (vf (lp step z μ s)) (Hf (lp step z μ s)) nf :=
  goes_loop μ I (lp step z μ) fun s hI => by
    have h := hg s hI
    cases e : step s with
    | inl s' =>
      rw [e] at h
      obtain ⟨h1, h2⟩ := hf.next s s' hI e
      exact .inl ⟨s', h1, h2, (lp_next hf hI e).symm, h⟩
    | inr r =>
      rw [e] at h
      rw [lp_end e]
      exact .inr h
end Go.Proofs.YtnlnldpolaodbaaDoor
