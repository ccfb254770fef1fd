/-
  Rows whose elements are rows: one entry for the row itself and for all the rows that it points to. Nothing of the program stands here.
-/
import Derived.Test.YtefmnjehhpceoaaRxM
namespace Go.Proofs.Ytefmnjehhpceoaa
open Go.RowKit
set_option linter.unusedVariables false
set_option linter.unusedSimpArgs false
/-- The row itself; number i's row. -/
def rrL (l : L1) : L1 := mfl l 0
def rrM (l : L1) (i : Nat) : L1 := mfl l (i + 1)
def rrB {τ : Type} (T2 : TypeId) (f : τ → List Value) (sz : Nat) (x : Nat × (Nat → τ)) : Value :=
  if x.1 = 0 then .nilFunc else .tuple #[.int .u64 ((T2 : Nat) : Int), .agg ⟨esG f x.1 x.2⟩, .int .u64 (x.1 : Int), .int .u64 (sz : Int)]
section
variable {τ : Type} {l : L1} {T T2 : TypeId} {f : τ → List Value} {sz N : Nat} {D : Nat → Nat × (Nat → τ)}
theorem objOf_row {l : L1} {T n sz : Nat} {es : List Value} : objOf l (.tuple #[.int .u64 (T : Int), .agg ⟨es⟩, .int .u64 (n : Int), .int .u64 (sz : Int)]) = some (rowO l es T n sz) := rfl
end
/-! ### One row more -/
def rrE (r : L1) : Value := .tuple #[.int .u64 (r.n : Int), r.u 0]
def rrPut (l r : L1) (N : Nat) (m : L1) : L1 := ⟨0, fun k => if k = 0 then rrE r else if k = N + 1 then rrE m else l.u k⟩
def rrIn (dk : DK) (l : L1) (m sz : Nat) : L1 := ⟨l.n, padOf (padD dk l m sz)⟩
def bare (l : L1) : L1 := ⟨l.n, fun _ => l.u 0⟩
theorem bare_rowO (l : L1) (es : List Value) (T n sz : Nat) : rowO (bare l) es T n sz = rowO l es T n sz := rfl
theorem bare_rowV (l : L1) (n sz : Nat) : rowV (bare l) n sz = rowV l n sz := rfl
theorem rrPut_L (l r : L1) (N : Nat) (m : L1) : rrL (rrPut l r N m) = bare r := rfl
theorem rrPut_N (l r : L1) (N : Nat) (m : L1) : rrM (rrPut l r N m) N = bare m := by
  have e : (rrPut l r N m).u (N + 1) = rrE m := by
    show (if N + 1 = 0 then rrE r else if N + 1 = N + 1 then rrE m else l.u (N + 1)) = _
    rw [if_neg (by omega), if_pos rfl]
  unfold rrM mfl
  rw [e]
  rfl
theorem rrPut_M (l r : L1) {N i : Nat} (m : L1) (h : i ≠ N) : rrM (rrPut l r N m) i = rrM l i := by
  have e : (rrPut l r N m).u (i + 1) = l.u (i + 1) := by
    show (if i + 1 = 0 then rrE r else if i + 1 = N + 1 then rrE m else l.u (i + 1)) = _
    rw [if_neg (by omega), if_neg (by omega)]
  unfold rrM mfl
  rw [e]
theorem padL_rrIn (dk : DK) (l : L1) {m sz : Nat} (h : m ≤ maxLen) : padL (rrIn dk l m sz) m sz = padD dk l m sz := padL_of (padD_mod dk l m) (padD_max dk l sz h)
theorem rowO_rrIn (dk : DK) (l : L1) {m sz : Nat} (es : List Value) (T : TypeId) (h : m ≤ maxLen) : rowO (bare (rrIn dk l m sz)) es T m sz = rowD dk l es T m sz := by
  rw [bare_rowO]
  unfold rowO rowD
  rw [padL_rrIn dk l h]
theorem rowV_rrIn (dk : DK) (l : L1) {m sz : Nat} (h : m ≤ maxLen) : rowV (bare (rrIn dk l m sz)) m sz = rowW dk l m sz := by
  rw [bare_rowV]
  unfold rowV rowW
  rw [padL_rrIn dk l h]
  rfl
theorem esG_map {α β : Type} {f : α → List Value} {g : β → List Value} {N : Nat} {A : Nat → α} {B : Nat → β} (h : ∀ k, k < N → f (A k) = g (B k)) : esG f N A = esG g N B := by
  unfold esG
  congr 1
  exact List.map_congr_left fun k hk => h k (List.mem_range.1 hk)
section
variable {P : Program} {M : Nat → Prop} {B0 : Nat} {S : World → Prop} {t ty e T2 : TypeId} {i : TypeInfo} {z : Value} {bytes : Nat}
end
end Go.Proofs.Ytefmnjehhpceoaa

