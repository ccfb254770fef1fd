/-
  Places by unknown numbers; what calls do to blocks, by tests. Nothing of the program stands here.
-/
import Derived.Test.YtlpjdjbophcomaaDoorRxL
namespace Go.Proofs.YtlpjdjbophcomaaDoor
open Go.RowKit
set_option linter.unusedVariables false
set_option linter.unusedSimpArgs false
/-! ### Places by unknown numbers -/
def lget (ls : List L1) (i : Nat) : L1 := ls.getD i ⟨0, fun _ => undef⟩
theorem add_zero' (n m k : Nat) : (⟨n, m, none⟩ : Addr).add k = ⟨n, m + k, none⟩ := by
  unfold Addr.add
  split
  · rename_i h; rw [h]; rfl
  · rfl
/-- The place of number k of an array that lies somewhere. -/
def ixQ (T : TypeId) (iv : Value) (k : Nat) : Q → Option (Value × Obl)
  | .idxA T' (.pointer (some ⟨b, m, none⟩)) i => some (.pointer (some ⟨b, m + k, none⟩), [(.n T', .n T), (.v i, .v iv)])
  | _ => none
theorem ixQ_ok {P : Program} {T : TypeId} {iv : Value} {k : Nat} (h : ∀ a w, (Instr.indexAt T (.pointer (some a)) iv).run P w = .ok (.pointer (some (a.add k))) w) :
    ∀ q v ob, ixQ T iv k q = some (v, ob) → okL ob → ∀ w, q.sem.run P w = .ok (.value v) w := by
  intro q v ob hq ho w
  unfold ixQ at hq
  split at hq
  · rename_i T' b m i
    simp at hq
    obtain ⟨rfl, rfl⟩ := hq
    obtain ⟨h1, h2⟩ := okL_cons.1 ho
    have h3 := (okL_cons.1 h2).1
    simp at h1 h3
    subst h1 h3
    have := h ⟨b, m, none⟩ w
    rw [add_zero'] at this
    simp [Q.sem, this]
  · cases hq
theorem Sp.val {P : Program} {S : World → Prop} (F : Value → Spc) {V V' : Value} (h : SpcOk P S (F V)) (e : V = V') : SpcOk P S (F V') := e ▸ h
theorem Sp.cond {P : Program} {S : World → Prop} {α : Type} (F : α → Spc) (c : Bool) (A B : α) (ht : c = true → SpcOk P S (F A)) (hf : c = false → SpcOk P S (F B)) : SpcOk P S (F (bif c then A else B)) := by
  cases c
  · exact hf rfl
  · exact ht rfl
end Go.Proofs.YtlpjdjbophcomaaDoor

