/-
  Rows whose elements are rows: one entry for the row itself and for all the rows that it points to. Nothing of the program stands here.
-/
import Derived.Test.YtdgehbjiphahhaaRxM
namespace Go.Proofs.Ytdgehbjiphahhaa
open Go.RowKit
set_option linter.unusedVariables false
set_option linter.unusedSimpArgs false
/-- The row itself; number i's row. -/
def rrL (l : L1) : L1 := mfl l 0
def rrM (l : L1) (i : Nat) : L1 := mfl l (i + 1)
/-- Number i's slice: a row of no elements is no block. -/
def rrC {τ : Type} (l : L1) (sz : Nat) (D : Nat → Nat × (Nat → τ)) (i : Nat) : List Value := [if (D i).1 = 0 then .slice none 0 0 else rowV (rrM l i) (D i).1 sz]
theorem rrC_len {τ : Type} (l : L1) (sz : Nat) (D : Nat → Nat × (Nat → τ)) (i : Nat) : (rrC l sz D i).length = 1 := rfl
def rrB {τ : Type} (T2 : TypeId) (f : τ → List Value) (sz : Nat) (x : Nat × (Nat → τ)) : Value :=
  if x.1 = 0 then .nilFunc else .tuple #[.int .u64 ((T2 : Nat) : Int), .agg ⟨esG f x.1 x.2⟩, .int .u64 (x.1 : Int), .int .u64 (sz : Int)]
def rrO {τ : Type} (l : L1) (T T2 : TypeId) (f : τ → List Value) (sz N : Nat) (D : Nat → Nat × (Nat → τ)) : Obj :=
  .pending ⟨.tuple #[.int .u64 ((T : Nat) : Int), .agg ⟨esG (rrC l sz D) N fun i => i⟩, .int .u64 (N : Int), .int .u64 1] :: (List.range N).map fun i => rrB T2 f sz (D i)⟩ 0
def rrV (l : L1) (N : Nat) : Value := rowV (rrL l) N 1
section
variable {τ : Type} {l : L1} {T T2 : TypeId} {f : τ → List Value} {sz N : Nat} {D : Nat → Nat × (Nat → τ)}
theorem objOf_row {l : L1} {T n sz : Nat} {es : List Value} : objOf l (.tuple #[.int .u64 (T : Int), .agg ⟨es⟩, .int .u64 (n : Int), .int .u64 (sz : Int)]) = some (rowO l es T n sz) := rfl
theorem own_rr0 : own (rrO l T T2 f sz N D) l 0 = some ((rrL l).n, rowO (rrL l) (esG (rrC l sz D) N fun i => i) T N 1) := rfl
theorem own_rrS {i : Nat} (hi : i < N) (h0 : (D i).1 ≠ 0) : own (rrO l T T2 f sz N D) l (i + 1) = some ((rrM l i).n, rowO (rrM l i) (esG f (D i).1 (D i).2) T2 (D i).1 sz) := by
  have e : ((⟨.tuple #[.int .u64 ((T : Nat) : Int), .agg ⟨esG (rrC l sz D) N fun i => i⟩, .int .u64 (N : Int), .int .u64 1] :: (List.range N).map fun i => rrB T2 f sz (D i)⟩ : Array Value))[i + 1]? = some (rrB T2 f sz (D i)) := by
    simp [hi]
  unfold own rrO
  simp only [e]
  unfold rrB
  rw [if_neg h0, objOf_row]
  rfl
theorem own_rr {k x : Nat} {p : Obj} (h : own (rrO l T T2 f sz N D) l k = some (x, p)) :
    (k = 0 ∧ x = (rrL l).n ∧ p = rowO (rrL l) (esG (rrC l sz D) N fun i => i) T N 1) ∨ ∃ i, k = i + 1 ∧ i < N ∧ (D i).1 ≠ 0 ∧ x = (rrM l i).n ∧ p = rowO (rrM l i) (esG f (D i).1 (D i).2) T2 (D i).1 sz := by
  cases k with
  | zero =>
    rw [own_rr0] at h
    injection h with h
    injection h with h1 h2
    exact .inl ⟨rfl, h1.symm, h2.symm⟩
  | succ i =>
    by_cases hi : i < N
    · by_cases h0 : (D i).1 = 0
      · have e : ((⟨.tuple #[.int .u64 ((T : Nat) : Int), .agg ⟨esG (rrC l sz D) N fun i => i⟩, .int .u64 (N : Int), .int .u64 1] :: (List.range N).map fun i => rrB T2 f sz (D i)⟩ : Array Value))[i + 1]? = some (rrB T2 f sz (D i)) := by
          simp [hi]
        unfold own rrO at h
        simp only [e] at h
        unfold rrB at h
        rw [if_pos h0] at h
        cases h
      · rw [own_rrS hi h0] at h
        injection h with h
        injection h with h1 h2
        exact .inr ⟨i, rfl, hi, h0, h1.symm, h2.symm⟩
    · have e : ((⟨.tuple #[.int .u64 ((T : Nat) : Int), .agg ⟨esG (rrC l sz D) N fun i => i⟩, .int .u64 (N : Int), .int .u64 1] :: (List.range N).map fun i => rrB T2 f sz (D i)⟩ : Array Value))[i + 1]? = none := by
        simp; omega
      unfold own rrO at h
      simp only [e] at h
      cases h
end
/-! ### One row more -/
def rrE (r : L1) : Value := .tuple #[.int .u64 (r.n : Int), r.u 0]
def rrPut (l r : L1) (N : Nat) (m : L1) : L1 := ⟨0, fun k => if k = 0 then rrE r else if k = N + 1 then rrE m else l.u k⟩
theorem esG_map {α β : Type} {f : α → List Value} {g : β → List Value} {N : Nat} {A : Nat → α} {B : Nat → β} (h : ∀ k, k < N → f (A k) = g (B k)) : esG f N A = esG g N B := by
  unfold esG
  congr 1
  exact List.map_congr_left fun k hk => h k (List.mem_range.1 hk)
section
variable {P : Program} {M : Nat → Prop} {B0 : Nat} {S : World → Prop} {t ty e T2 : TypeId} {i : TypeInfo} {z : Value} {bytes : Nat}
end
end Go.Proofs.Ytdgehbjiphahhaa

