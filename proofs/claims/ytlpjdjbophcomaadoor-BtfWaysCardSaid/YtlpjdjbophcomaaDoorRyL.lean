/-
  Bytes of unknown strings; a map's one entry, by the key that it was made with. Nothing of the program stands here.
-/
import Derived.Test.YtlpjdjbophcomaaDoorRyK
namespace Go.Proofs.YtlpjdjbophcomaaDoor
open Go.RowKit
set_option linter.unusedVariables false
set_option linter.unusedSimpArgs false
theorem ba_eq : ∀ {a b : ByteArray}, (a == b) = true → a = b
  | ⟨a⟩, ⟨b⟩, h => by
    have h1 : (a == b) = true := h
    rw [eq_of_beq h1]
/-- A string's byte. -/
def byteAt (s : ByteArray) (j : Nat) : BitVec 8 := BitVec.ofNat 8 ((s[j]?).getD 0).toNat
theorem idxS_ok {P : Program} {T : TypeId} {s : ByteArray} {kd : IntKind} {x : Int} (hT : P.underlying T = some .string) (h : inR x s.size = true) :
    ∀ w, (Q.idx T (.string s) (.int kd x)).sem.run P w = .ok (.value (.int .u8 (nn (byteAt s x.toNat)))) w := by
  intro w
  have h1 := inR_lo h
  have h2 := inR_hi h
  have h3 : x.toNat < s.size := by omega
  have e1 : s[x.toNat]? = some s[x.toNat] := getElem?_pos s x.toNat h3
  have e2 : nn (byteAt s x.toNat) = (s[x.toNat].toNat : Int) := by
    unfold byteAt nn
    rw [e1, Option.getD_some, BitVec.toNat_ofNat, Nat.mod_eq_of_lt (UInt8.toNat_lt _)]
  simp only [Q.sem, Instr.index, asIntOf, Sem.run_bind, Sem.run_pure, Result.andThen_ok, run_underlying hT, if_pos h1, e1, e2]
end Go.Proofs.YtlpjdjbophcomaaDoor

