/-
  Rows of structs with one slice, told by one function; one put behind such a row. Nothing of the program stands here.
-/
import Derived.Test.YtnlnldpolaodbaaDoorRyW
import Derived.Test.YtnlnldpolaodbaaDoorRyX
namespace Go.Proofs.YtnlnldpolaodbaaDoor
open Go.RowKit
set_option linter.unusedVariables false
set_option linter.unusedSimpArgs false
/-- Element i: what stands beside its slice, and the slice. -/
abbrev rsX {τ σ : Type} (hd tl : σ → List Value) (zs : Nat) (l : L1) (T T2 : TypeId) (f : τ → List Value) (sz N : Nat) (X : Nat → σ × (Nat × (Nat → τ))) : Obj :=
  rsO hd tl zs l T T2 f sz N (fun i => (X i).2) (fun i => (X i).1)
theorem snd_upX {α β : Type} (X : Nat → α × β) (N : Nat) (v : α × β) : (fun i => (updF X N v i).2) = updF (fun i => (X i).2) N v.2 := by
  funext i; unfold updF; split <;> rfl
theorem fst_upX {α β : Type} (X : Nat → α × β) (N : Nat) (v : α × β) : (fun i => (updF X N v i).1) = updF (fun i => (X i).1) N v.1 := by
  funext i; unfold updF; split <;> rfl
theorem SpcG.ownRSX {P : Program} {M : Nat → Prop} {B : Nat} {S : World → Prop} (hU : Up M B S) {τ σ : Type} {hd tl : σ → List Value} {zs : Nat} (hz : ∀ x, (hd x).length + 1 + (tl x).length = zs) {f : τ → List Value} {sz : Nat} (hf : ∀ x, (f x).length = sz) (N : Nat) (X : Nat → σ × (Nat × (Nat → τ))) (T T2 : TypeId) (sp : Option Addr → Nat → (Nat → RoX) → Spc) (m : Nat) (ex : Ex)
    (hm : ∀ a c X, (sp a c X).m = m) (he : ∀ a c X, (sp a c X).ex = ex)
    (h : ∀ (M' : Nat → Prop) (B' : Nat) (S' : World → Prop) (a : Option Addr) (p q c : Nat) (Y : Nat → RoX), Up M' B' S' → (∀ w, S' w → S w) → RoS S' hd tl zs f sz a p q N Y (fun i => (X i).2) (fun i => (X i).1) → SpcG P M' B' S' (sp a c Y)) :
    SpcG P M B S (ownSpS hd tl zs (fun i => (X i).1) f sz N (fun i => (X i).2) T T2 sp m ex) :=
  SpcG.ownRS hU hz (fun i => (X i).1) hf N (fun i => (X i).2) T T2 sp m ex hm he h
section
variable {τ σ : Type} (hd tl : σ → List Value) (zs : Nat) (x0 : σ) (t ty e T2 : TypeId) (consts : Array Bool) (f : τ → List Value) (sz N : Nat) (X : Nat → σ × (Nat × (Nat → τ))) (m : Nat) (B : Nat → τ) (c : Nat) (T' : TypeId) (dk : DK)
def sqApX : Spc :=
  ⟨fun ls => .op (.blt .append #[t, t] ty consts #[rowV (rrL (lget ls 0)) N zs, .slice (some ⟨(lget ls 1).n, 0, none⟩) 1 c]),
   fun ls => [rsX hd tl zs (lget ls 0) e T2 f sz N X, .cells ⟨hd x0 ++ rowW dk (lget ls 2) m sz :: tl x0⟩ T', rowD dk (lget ls 2) (esG f m B) T2 m sz], 1, .normal,
   fun ls => [rowV (rrL (lget ls 3)) (N + 1) zs],
   fun ls => [unb, unb, unb], fun ls => [rsX hd tl zs (lget ls 3) e T2 f sz (N + 1) (updF X N (x0, m, B))]⟩
theorem sqApX_eq : sqApX hd tl zs x0 t ty e T2 consts f sz N X m B c T' dk = sqApRS hd tl zs (fun i => (X i).1) x0 dk t ty e T2 consts f sz N (fun i => (X i).2) m B c T' := by
  unfold sqApX sqApRS rsX
  rw [snd_upX, fst_upX]
def sqApX0 : Spc :=
  ⟨fun ls => .op (.blt .append #[t, t] ty consts #[.slice none 0 0, .slice (some ⟨(lget ls 0).n, 0, none⟩) 1 c]),
   fun ls => [.cells ⟨hd x0 ++ rowW dk (lget ls 1) m sz :: tl x0⟩ T', rowD dk (lget ls 1) (esG f m B) T2 m sz], 1, .normal,
   fun ls => [rowV (rrL (lget ls 2)) 1 zs],
   fun ls => [unb, unb], fun ls => [rsX hd tl zs (lget ls 2) e T2 f sz 1 (fun _ => (x0, m, B))]⟩
def sqApXn : Spc :=
  ⟨fun ls => .op (.blt .append #[t, t] ty consts #[rowV (rrL (lget ls 0)) N zs, .slice (some ⟨(lget ls 1).n, 0, none⟩) 1 c]),
   fun ls => [rsX hd tl zs (lget ls 0) e T2 f sz N X, .cells ⟨hd x0 ++ .slice none 0 0 :: tl x0⟩ T'], 1, .normal,
   fun ls => [rowV (rrL (lget ls 2)) (N + 1) zs],
   fun ls => [unb, unb], fun ls => [rsX hd tl zs (lget ls 2) e T2 f sz (N + 1) (updF X N (x0, 0, B))]⟩
theorem sqApXn_eq : sqApXn hd tl zs x0 t ty e T2 consts f sz N X B c T' = sqApRSn hd tl zs (fun i => (X i).1) x0 t ty e T2 consts f sz N (fun i => (X i).2) B c T' := by
  unfold sqApXn sqApRSn rsX
  rw [snd_upX, fst_upX]
def sqApXn0 : Spc :=
  ⟨fun ls => .op (.blt .append #[t, t] ty consts #[.slice none 0 0, .slice (some ⟨(lget ls 0).n, 0, none⟩) 1 c]),
   fun ls => [.cells ⟨hd x0 ++ .slice none 0 0 :: tl x0⟩ T'], 1, .normal,
   fun ls => [rowV (rrL (lget ls 1)) 1 zs],
   fun ls => [unb], fun ls => [rsX hd tl zs (lget ls 1) e T2 f sz 1 (fun _ => (x0, 0, B))]⟩
end
section
variable {P : Program} {M : Nat → Prop} {B0 : Nat} {S : World → Prop} {t ty e T2 : TypeId} {i : TypeInfo} {z : Value} {bytes : Nat}
  {σ : Type} {hd tl : σ → List Value} {zs : Nat} {x0 : σ} (hz : ∀ x, (hd x).length + 1 + (tl x).length = zs) (hh1 : ∀ x, ∀ u ∈ hd x, u.oneCell' = true) (hh2 : ∀ x, ∀ u ∈ tl x, u.oneCell' = true) (R : RowT P t e i z zs bytes) (consts : Array Bool) (dk : DK) {τ : Type} {f : τ → List Value} {sz N : Nat} {X : Nat → σ × (Nat × (Nat → τ))} {m : Nat} {B : Nat → τ} {c : Nat} {T' : TypeId}
include hz hh1 hh2 R
theorem sqApX_ok (h0 : decide (0 < m) = true) (hm : decide (m ≤ 1000000) = true) (hN : decide (N ≤ 1000000) = true) (hb : bytes ≤ 1000000) : SpcG P M B0 S (sqApX hd tl zs x0 t ty e T2 consts f sz N X m B c T' dk) := by
  rw [sqApX_eq]; exact sqApRS_ok hz hh1 hh2 R consts dk h0 hm hN hb
theorem sqApX0_ok (h0 : decide (0 < m) = true) (hm : decide (m ≤ 1000000) = true) (hb : bytes ≤ 1000000) : SpcG P M B0 S (sqApX0 hd tl zs x0 t ty e T2 consts f sz m B c T' dk) :=
  sqApRS0_ok (E := fun _ => x0) hz hh1 hh2 R consts dk h0 hm hb
theorem sqApXn_ok (hN : decide (N ≤ 1000000) = true) (hb : bytes ≤ 1000000) : SpcG P M B0 S (sqApXn hd tl zs x0 t ty e T2 consts f sz N X B c T') := by
  rw [sqApXn_eq]; exact sqApRSn_ok hz hh1 hh2 R consts hN hb
theorem sqApXn0_ok (hb : bytes ≤ 1000000) : SpcG P M B0 S (sqApXn0 hd tl zs x0 t ty e T2 consts f sz B c T') :=
  sqApRSn0_ok (E := fun _ => x0) hz hh1 hh2 R consts hb
end
end Go.Proofs.YtnlnldpolaodbaaDoor
