/-
  What the document's sums, differences and meets of bits of two tnums are, and that they are the program's.
-/
import Derived.Test.YtpmhojfbjhgjpaaRefA
namespace Go.Proofs.Ytpmhojfbjhgjpaa
def rpadd (a b : T) : T := wo (a.v + b.v) (((a.v + b.v + a.m + b.m) ^^^ (a.v + b.v)) ||| a.m ||| b.m)
def rpsub (a b : T) : T := wo (a.v - b.v) (((a.v - b.v + a.m) ^^^ (a.v - b.v - b.m)) ||| a.m ||| b.m)
def rpand (a b : T) : T := ⟨a.v &&& b.v, (a.v ||| a.m) &&& (b.v ||| b.m) &&& ~~~(a.v &&& b.v)⟩
theorem rpadd_eq (a b : T) : rpadd a b = padd a b := by
  unfold rpadd padd
  rw [BitVec.xor_comm (a.v + b.v + a.m + b.m)]
theorem rpsub_eq (a b : T) : rpsub a b = psub a b := by
  unfold rpsub psub
  rw [BitVec.xor_comm (a.v - b.v + a.m)]
theorem rpand_eq (a b : T) : rpand a b = pand a b := by
  unfold rpand pand wo
  refine T.ext' ?_ ?_
  · simp only
    apply bit_ext; intro i hi'
    simp only [BitVec.getLsbD_and, BitVec.getLsbD_or, BitVec.getLsbD_not, hi', decide_true, Bool.true_and]
    cases a.v.getLsbD i <;> cases a.m.getLsbD i <;> cases b.v.getLsbD i <;> cases b.m.getLsbD i <;> decide
  · rfl
end Go.Proofs.Ytpmhojfbjhgjpaa
