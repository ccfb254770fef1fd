/-
  Items that bear their proofs. Nothing of the program stands here.
-/
import Derived.Test.YtkfmmcobmjkilaaRxP
namespace Go.Proofs.Ytkfmmcobmjkilaa
open Go.RowKit
set_option linter.unusedVariables false
set_option linter.unusedSimpArgs false
structure PIt (P : Program) where
  it : It
  ok : AllOk P [it]
namespace PIt
variable {P : Program}
theorem all : ∀ l : List (PIt P), AllOk P (l.map PIt.it)
  | [] => trivial
  | x :: l => by
    have k := all l
    show AllOk P (x.it :: l.map PIt.it)
    obtain ⟨it, ok⟩ := x
    cases it <;> first | exact k | exact ⟨ok.1, k⟩
def o : PIt P := ⟨.o, trivial⟩
def a (i : Nat) : PIt P := ⟨.a i, trivial⟩
def r (V A T : List Nat) : PIt P := ⟨.r V A T, trivial⟩
def cp : PIt P := ⟨.cp, trivial⟩
def v (k : IntKind) {a b : Int} (h : a = b) : PIt P := ⟨.w (.int k a) (.int k b), congrArg _ h, trivial⟩
def w {a b : Value} (h : a = b) : PIt P := ⟨.w a b, h, trivial⟩
def b {a b : Bool} (h : a = b) : PIt P := ⟨.w (.bool a) (.bool b), congrArg _ h, trivial⟩
def t {a c d : Bool} (l : a = c) (h : c = d) : PIt P := ⟨.w (.bool a) (.bool d), congrArg _ (l.trans h), trivial⟩
def tn {a c d : Bool} (l : a = !c) (h : c = d) : PIt P := ⟨.w (.bool a) (.bool (!d)), congrArg _ (l.trans (congrArg _ h)), trivial⟩
def cl {f : FuncId} {args : Array Value} {V V' : Value} (h : Con P f args V) (e : V = V') : PIt P := ⟨.c f args V', h.val e, trivial⟩
def ov {q : Q} {v : Value} (h : ∀ w, q.sem.run P w = .ok (.value v) w) : PIt P := ⟨.ov q v, h, trivial⟩
def q {f : Q → Option (Value × Obl)} (h : ∀ q v ob, f q = some (v, ob) → okL ob → ∀ w, q.sem.run P w = .ok (.value v) w) : PIt P := ⟨.q f, h, trivial⟩
def l {acc : List Acc} (h : AccOk (fun _ => True) acc) : PIt P := ⟨.l acc, h, trivial⟩
def x {sp : Spc} (h : SpcOk P (fun _ => True) sp) (sel : List Nat) : PIt P := ⟨.x sp sel, h, trivial⟩
def cx {sp : Spc} (h : SpcOk P (fun _ => True) sp) (sel : List Nat) : PIt P := ⟨.cx sp sel, h, trivial⟩
end PIt
end Go.Proofs.Ytkfmmcobmjkilaa

