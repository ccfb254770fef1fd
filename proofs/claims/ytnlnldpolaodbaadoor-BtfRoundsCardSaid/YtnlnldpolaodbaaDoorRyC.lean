/-
  Rows of rows: a row's slice read, a cell of a row read and written. Nothing of the program stands here.
-/
import Derived.Test.YtnlnldpolaodbaaDoorRyB
namespace Go.Proofs.YtnlnldpolaodbaaDoor
open Go.RowKit
set_option linter.unusedVariables false
set_option linter.unusedSimpArgs false
section
variable {P : Program} {M : Nat → Prop} {B0 : Nat} {S : World → Prop}
/-- What only reads is told by what it answers. -/
theorem spc_read {q : List L1 → Q} {o : List L1 → List Obj} {v : List L1 → Value} (h : ∀ ls w, (o ls).length = ls.length → SatF ls (o ls) w → S w → (q ls).sem.run P w = .ok (.value (v ls)) w) :
    SpcG P M B0 S ⟨fun ls => .op (q ls), o, 0, .normal, fun ls => [v ls], o, fun _ => []⟩ := fun ls w hl hs ht hS =>
  ⟨v ls, w, .inl (h ls w hl hs hS), [], rfl, by simp, Chg.refl .., fun _ => ⟨by simpa using hs, fun j k o l x p hj hx ho => .inr ⟨j, k, o, l, p, by simpa using hj, by simpa using hx, ho⟩⟩⟩
theorem ld_run {T : TypeId} (hA : ∀ w, (isAgg T).run P w = .ok false w) {a : Addr} {v : Value} {w : World} (h : w.cell? a = some v) : (Q.ld T (.pointer (some a))).sem.run P w = .ok (.value v) w := by
  simp [Q.sem, Instr.loadAt, Instr.sureAddr, loadVar, hA, Sem.run_bind, load, Sem.run, h]
variable {τ : Type} {e T2 T : TypeId} {f : τ → List Value} {sz N k : Nat} {D : Nat → Nat × (Nat → τ)}
def ldRR {τ : Type} (T e T2 : TypeId) (f : τ → List Value) (sz N k : Nat) (D : Nat → Nat × (Nat → τ)) (v : L1 → Value) : Spc :=
  ⟨fun ls => .op (.ld T (.pointer (some ⟨(rrL (lget ls 0)).n, 0 + k * 1, none⟩))), fun ls => [rrO (lget ls 0) e T2 f sz N D], 0, .normal, fun ls => [v (lget ls 0)], fun ls => [rrO (lget ls 0) e T2 f sz N D], fun _ => []⟩
theorem rr_cell {l : L1} {w : World} (hg : w.heap[(rrL l).n]? = some (rowO (rrL l) (esG (rrC l sz D) N fun i => i) e N 1)) (hk : k < N) : w.cell? ⟨(rrL l).n, 0 + k * 1, none⟩ = (rrC l sz D k)[0]? := by
  have hg1 : w.heap[(rrL l).n]? = some (.cells ⟨esG (rrC l sz D) N (fun i => i) ++ padL (rrL l) N 1⟩ e) := hg
  have := esG_get (A := fun i => i) (rrC_len l sz D) (show 0 < 1 by decide) hk
  rw [Nat.add_zero] at this
  rw [cell_of_cells hg1, List.getElem?_toArray, Nat.zero_add, List.getElem?_append_left ?_, this]
  rw [esG_len (rrC_len l sz D)]
  omega
theorem ldRR_ok (hA : ∀ w, (isAgg T).run P w = .ok false w) (hk : k < N) (h0 : decide (0 < (D k).1) = true) : SpcG P M B0 S (ldRR T e T2 f sz N k D fun l => rowV (rrM l k) (D k).1 sz) := by
  have h0 := of_decide_eq_true h0
  refine spc_read fun ls w hl hs hS => ld_run hA ?_
  match ls, hl with
  | [l], _ =>
    have hg : w.heap[(rrL l).n]? = some (rowO (rrL l) (esG (rrC l sz D) N fun i => i) e N 1) := hs.hold 0 0 _ l _ _ rfl rfl own_rr0
    show w.cell? ⟨(rrL l).n, 0 + k * 1, none⟩ = _
    rw [rr_cell hg hk]
    unfold rrC
    rw [if_neg (by omega)]
    rfl
theorem ldRR0_ok (hA : ∀ w, (isAgg T).run P w = .ok false w) (hk : k < N) (h0 : decide (0 < (D k).1) = false) : SpcG P M B0 S (ldRR T e T2 f sz N k D fun _ => .slice none 0 0) := by
  have h0 := of_decide_eq_false h0
  refine spc_read fun ls w hl hs hS => ld_run hA ?_
  match ls, hl with
  | [l], _ =>
    have hg : w.heap[(rrL l).n]? = some (rowO (rrL l) (esG (rrC l sz D) N fun i => i) e N 1) := hs.hold 0 0 _ l _ _ rfl rfl own_rr0
    show w.cell? ⟨(rrL l).n, 0 + k * 1, none⟩ = _
    rw [rr_cell hg hk]
    unfold rrC
    rw [if_pos (by omega)]
    rfl
/-- Cell j of element i of row k. -/
def ldRM {τ : Type} (T e T2 : TypeId) (f : τ → List Value) (sz N k i j : Nat) (D : Nat → Nat × (Nat → τ)) (v : Value) : Spc :=
  ⟨fun ls => .op (.ld T (.pointer (some ⟨(rrM (lget ls 0) k).n, 0 + i * sz + j, none⟩))), fun ls => [rrO (lget ls 0) e T2 f sz N D], 0, .normal, fun _ => [v], fun ls => [rrO (lget ls 0) e T2 f sz N D], fun _ => []⟩
theorem ldRM_ok (hA : ∀ w, (isAgg T).run P w = .ok false w) (hf : ∀ x, (f x).length = sz) {i : Nat} (j : Nat) {v : Value} (hk : k < N) (hi : i < (D k).1) (hj : j < sz) (hv : (f ((D k).2 i))[j]? = some v) : SpcG P M B0 S (ldRM T e T2 f sz N k i j D v) := by
  refine spc_read fun ls w hl hs hS => ld_run hA ?_
  match ls, hl with
  | [l], _ =>
    have hg : w.heap[(rrM l k).n]? = some (.cells ⟨esG f (D k).1 (D k).2 ++ padL (rrM l k) (D k).1 sz⟩ T2) := hs.hold 0 (k + 1) _ l _ _ rfl rfl (own_rrS hk (by omega))
    show w.cell? ⟨(rrM l k).n, 0 + i * sz + j, none⟩ = _
    rw [cell_of_cells hg, List.getElem?_toArray, Nat.zero_add, List.getElem?_append_left ?_, esG_get hf hj hi, hv]
    rw [esG_len hf]
    have := Nat.mul_le_mul_right sz (show i + 1 ≤ (D k).1 by omega)
    rw [Nat.succ_mul] at this
    omega
end
end Go.Proofs.YtnlnldpolaodbaaDoor
