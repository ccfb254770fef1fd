/-
  Places by unknown numbers; what calls do to blocks, by tests. Nothing of the program stands here.
-/
import Derived.Test.YtnlnldpolaodbaaDoorRxL
namespace Go.Proofs.YtnlnldpolaodbaaDoor
open Go.RowKit
set_option linter.unusedVariables false
set_option linter.unusedSimpArgs false
/-! ### Places by unknown numbers -/
def lget (ls : List L1) (i : Nat) : L1 := ls.getD i ⟨0, fun _ => undef⟩
theorem add_zero' (n m k : Nat) : (⟨n, m, none⟩ : Addr).add k = ⟨n, m + k, none⟩ := by
  unfold Addr.add
  split
  · rename_i h; rw [h]; rfl
  · rfl
/-- The place of number k of an array that lies somewhere. -/
def ixQ (T : TypeId) (iv : Value) (k : Nat) : Q → Option (Value × Obl)
  | .idxA T' (.pointer (some ⟨b, m, none⟩)) i => some (.pointer (some ⟨b, m + k, none⟩), [(.n T', .n T), (.v i, .v iv)])
  | _ => none
theorem ixQ_ok {P : Program} {T : TypeId} {iv : Value} {k : Nat} (h : ∀ a w, (Instr.indexAt T (.pointer (some a)) iv).run P w = .ok (.pointer (some (a.add k))) w) :
    ∀ q v ob, ixQ T iv k q = some (v, ob) → okL ob → ∀ w, q.sem.run P w = .ok (.value v) w := by
  intro q v ob hq ho w
  unfold ixQ at hq
  split at hq
  · rename_i T' b m i
    simp at hq
    obtain ⟨rfl, rfl⟩ := hq
    obtain ⟨h1, h2⟩ := okL_cons.1 ho
    have h3 := (okL_cons.1 h2).1
    simp at h1 h3
    subst h1 h3
    have := h ⟨b, m, none⟩ w
    rw [add_zero'] at this
    simp [Q.sem, this]
  · cases hq
theorem accSaid {S : World → Prop} {i : Nat} {c : Array Value} {off : Nat} {v : Value} (h : c[off]? = some v) : AccOk S [.said i c off v] := fun x hx => by
  obtain rfl : x = .said i c off v := by simpa using hx
  exact fun _ => h
theorem Sp.val {P : Program} {S : World → Prop} (F : Value → Spc) {V V' : Value} (h : SpcOk P S (F V)) (e : V = V') : SpcOk P S (F V') := e ▸ h
theorem Sp.cond {P : Program} {S : World → Prop} {α : Type} (F : α → Spc) (c : Bool) (A B : α) (ht : c = true → SpcOk P S (F A)) (hf : c = false → SpcOk P S (F B)) : SpcOk P S (F (bif c then A else B)) := by
  cases c
  · exact hf rfl
  · exact ht rfl
theorem i64_rem (P : Program) (T : TypeId) (xo yo : Operand) (x y : BitVec 64) (hy : y ≠ 0#64) (w : World) :
    (Q.bin .rem T xo yo (.int .i64 (ii x)) (.int .i64 (ii y))).sem.run P w = .ok (.value (.int .i64 (ii (x.srem y)))) w := by
  have hn : ¬ ii y = 0 := by
    unfold ii
    intro h
    exact hy (BitVec.eq_of_toInt_eq (by simpa using h))
  have h2 : (ii x).tmod (ii y) = ii (x.srem y) := by unfold ii; rw [BitVec.toInt_srem]
  simp [Q.sem, eqGuard, binOp, Op.intDiv, hn, h2]
end Go.Proofs.YtnlnldpolaodbaaDoor
