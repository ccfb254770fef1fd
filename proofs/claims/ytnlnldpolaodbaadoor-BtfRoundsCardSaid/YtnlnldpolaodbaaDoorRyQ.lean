/-
  Rows of named slices: a string and a slice each, all slices alike. Nothing of the program stands here.
-/
import Derived.Test.YtnlnldpolaodbaaDoorRyP
namespace Go.Proofs.YtnlnldpolaodbaaDoor
open Go.RowKit
set_option linter.unusedVariables false
set_option linter.unusedSimpArgs false
def hdS (x : ByteArray) : List Value := [.string x]
def tlS (_ : ByteArray) : List Value := []
theorem hzS : ∀ x, (hdS x).length + 1 + (tlS x).length = 2 := fun _ => rfl
theorem h1S : ∀ x, ∀ u ∈ hdS x, u.oneCell' = true := fun x u hu => by
  obtain rfl : u = .string x := by simpa [hdS] using hu
  rfl
theorem h2S : ∀ x, ∀ u ∈ tlS x, u.oneCell' = true := fun x u hu => by simp [tlS] at hu
theorem updK {α : Type} (N : Nat) (c : α) : updF (fun _ => c) N c = fun _ => c := by
  funext k
  unfold updF
  split <;> rfl
def sqApRSc {τ σ : Type} (hd tl : σ → List Value) (zs : Nat) (E : Nat → σ) (x0 : σ) (dk : DK) (t ty e T2 : TypeId) (consts : Array Bool) (f : τ → List Value) (sz N : Nat) (m : Nat) (B : Nat → τ) (c : Nat) (T' : TypeId) : Spc :=
  ⟨fun ls => .op (.blt .append #[t, t] ty consts #[rowV (rrL (lget ls 0)) N zs, .slice (some ⟨(lget ls 1).n, 0, none⟩) 1 c]),
   fun ls => [rsO hd tl zs (lget ls 0) e T2 f sz N (fun _ => (m, B)) E, .cells ⟨hd x0 ++ rowW dk (lget ls 2) m sz :: tl x0⟩ T', rowD dk (lget ls 2) (esG f m B) T2 m sz], 1, .normal,
   fun ls => [rowV (rrL (lget ls 3)) (N + 1) zs],
   fun ls => [unb, unb, unb], fun ls => [rsO hd tl zs (lget ls 3) e T2 f sz (N + 1) (fun _ => (m, B)) (updF E N x0)]⟩
section
variable {P : Program} {M : Nat → Prop} {B0 : Nat} {S : World → Prop}
theorem sqApRSc_ok {σ : Type} {hd tl : σ → List Value} {zs : Nat} {E : Nat → σ} {x0 : σ} {t ty e T2 : TypeId} {i : TypeInfo} {z : Value} {bytes : Nat} (hz : ∀ x, (hd x).length + 1 + (tl x).length = zs) (hh1 : ∀ x, ∀ u ∈ hd x, u.oneCell' = true) (hh2 : ∀ x, ∀ u ∈ tl x, u.oneCell' = true)
    (R : RowT P t e i z zs bytes) (consts : Array Bool) (dk : DK) {τ : Type} {f : τ → List Value} {sz N : Nat} {m : Nat} {B : Nat → τ} {c : Nat} {T' : TypeId}
    (h0 : decide (0 < m) = true) (hm : decide (m ≤ 1000000) = true) (hN : decide (N ≤ 1000000) = true) (hb : bytes ≤ 1000000) : SpcG P M B0 S (sqApRSc hd tl zs E x0 dk t ty e T2 consts f sz N m B c T') := by
  have h := sqApRS_ok (M := M) (B0 := B0) (S := S) (ty := ty) (T2 := T2) (E := E) (x0 := x0) hz hh1 hh2 R consts dk (f := f) (sz := sz) (D := fun _ => (m, B)) (B := B) (c := c) (T' := T') h0 hm hN hb
  unfold sqApRS at h
  rw [updK] at h
  exact h
variable {τ σ : Type} {hd tl : σ → List Value} {zs : Nat} {e T T2 : TypeId} {f : τ → List Value} {sz N k m : Nat} {B : Nat → τ} {E : Nat → σ}
def ldRSx (hd tl : σ → List Value) (zs : Nat) (T e T2 : TypeId) (f : τ → List Value) (sz N k m : Nat) (B : Nat → τ) (E : Nat → σ) (x : σ) : Spc :=
  ⟨fun ls => .op (.ld T (.pointer (some ⟨(rrL (lget ls 0)).n, 0 + k * zs, none⟩))), fun ls => [rsO hd tl zs (lget ls 0) e T2 f sz N (fun _ => (m, B)) E], 0, .normal,
   fun ls => [.agg ⟨rsF hd tl (lget ls 0) m sz (x, k)⟩], fun ls => [rsO hd tl zs (lget ls 0) e T2 f sz N (fun _ => (m, B)) E], fun _ => []⟩
theorem ldRSx_ok (hz : ∀ x, (hd x).length + 1 + (tl x).length = zs) (hA : ∀ w, (isAgg T).run P w = .ok true w) (hs : ∀ w, (sizeOf T).run P w = .ok zs w) (hm : decide (0 < m) = true) (hk : k < N) {x : σ} (hx : E k = x) : SpcG P M B0 S (ldRSx hd tl zs T e T2 f sz N k m B E x) := by
  subst hx
  exact ldRS_ok hz hA hs hm hk
end
end Go.Proofs.YtnlnldpolaodbaaDoor
