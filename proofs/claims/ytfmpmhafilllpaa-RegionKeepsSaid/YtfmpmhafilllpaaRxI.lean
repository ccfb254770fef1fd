/-
  Items that bear their proofs. Nothing of the program stands here.
-/
import Derived.Test.YtfmpmhafilllpaaRxP
namespace Go.Proofs.Ytfmpmhafilllpaa
open Go.RowKit
set_option linter.unusedVariables false
set_option linter.unusedSimpArgs false
structure PIt (P : Program) where
  it : It
  ok : AllOk P [it]
namespace PIt
variable {P : Program}
theorem all : ∀ l : List (PIt P), AllOk P (l.map PIt.it)
  | [] => trivial
  | x :: l => by
    have k := all l
    show AllOk P (x.it :: l.map PIt.it)
    obtain ⟨it, ok⟩ := x
    cases it <;> first | exact k | exact ⟨ok.1, k⟩
def o : PIt P := ⟨.o, trivial⟩
def a (i : Nat) : PIt P := ⟨.a i, trivial⟩
def r (V A T : List Nat) : PIt P := ⟨.r V A T, trivial⟩
def cp : PIt P := ⟨.cp, trivial⟩
def v (k : IntKind) {a b : Int} (h : a = b) : PIt P := ⟨.w (.int k a) (.int k b), congrArg _ h, trivial⟩
def w {a b : Value} (h : a = b) : PIt P := ⟨.w a b, h, trivial⟩
def b {a b : Bool} (h : a = b) : PIt P := ⟨.w (.bool a) (.bool b), congrArg _ h, trivial⟩
def t {a c d : Bool} (l : a = c) (h : c = d) : PIt P := ⟨.w (.bool a) (.bool d), congrArg _ (l.trans h), trivial⟩
def tn {a c d : Bool} (l : a = !c) (h : c = d) : PIt P := ⟨.w (.bool a) (.bool (!d)), congrArg _ (l.trans (congrArg _ h)), trivial⟩
def cl {f : FuncId} {args : Array Value} {V V' : Value} (h : Con P f args V) (e : V = V') : PIt P := ⟨.c f args V', h.val e, trivial⟩
def cr {α : Type} (F : α → Value) {f : FuncId} {args : Array Value} {m r : α} (h : Con P f args (F m)) (e : m = r) : PIt P := ⟨.c f args (F r), h.val (congrArg F e), trivial⟩
def cb {f : FuncId} {args : Array Value} {m d : Bool} (h : Con P f args (.bool m)) (e : m = d) : PIt P := ⟨.c f args (.bool d), h.val (congrArg Value.bool e), trivial⟩
def ov {q : Q} {v : Value} (h : ∀ w, q.sem.run P w = .ok (.value v) w) : PIt P := ⟨.ov q v, h, trivial⟩
def q {f : Q → Option (Value × Obl)} (h : ∀ q v ob, f q = some (v, ob) → okL ob → ∀ w, q.sem.run P w = .ok (.value v) w) : PIt P := ⟨.q f, h, trivial⟩
def l {acc : List Acc} (h : AccOk (fun _ => True) acc) : PIt P := ⟨.l acc, h, trivial⟩
def x {sp : Spc} (h : SpcOk P (fun _ => True) sp) (sel : List Nat) : PIt P := ⟨.x sp sel, h, trivial⟩
def cx {sp : Spc} (h : SpcOk P (fun _ => True) sp) (sel : List Nat) : PIt P := ⟨.cx sp sel, h, trivial⟩
end PIt
theorem fn_conI {P : Program} {f : FuncId} {fn : Func} (hf : P.funcs[f]? = some fn) (hF : ∀ xs w, (callFunc f xs).run P w = .ok (.enter f xs) w) (args : List Value) (V : Value) (sc : List (PIt P)) (ra : List Nat)
    (hrun : ∀ b, lft (symFn P b fn args (sc.map PIt.it) (ra.map Acc.blk) []) = rgt V (symFn P b fn args (sc.map PIt.it) (ra.map Acc.blk) [])) : Con P f args.toArray V :=
  fn_con hf hF args V (sc.map PIt.it) ra (PIt.all sc) hrun
theorem goes_runI {P : Program} {x : Code} {n : Nat} {fr : List L1 → List Value} {Hs : List L1 → List Obj} {e : Ex} {k : Nat} {fr' : List L1 → List Value} {Hs' : List L1 → List Obj} {n' : Nat} (sc : List (PIt P)) (sel : List Nat)
    (hH : ∀ b : Lt, (Hs (lts b n)).length = n) (hk : k ≤ n) (hn : n' = sel.length + 1)
    (hrun : ∀ b : Lt, lftC e k sel (symCode P b 100000 false x (sc.map PIt.it) (fr (lts b n)) (Hs (lts b n))) = rgtC fr' Hs' (sel.map b) (symCode P b 100000 false x (sc.map PIt.it) (fr (lts b n)) (Hs (lts b n)))) :
    Goes1 P x n fr Hs e k fr' Hs' n' := goes_run (sc.map PIt.it) sel (PIt.all sc) hH hk hn hrun
theorem fn_specI {P : Program} {S : World → Prop} {f : FuncId} {fn : Func} (hf : P.funcs[f]? = some fn) (hF : ∀ xs w, (callFunc f xs).run P w = .ok (.enter f xs) w) (n : Nat) (args : List L1 → List Value) (pre : List L1 → List Obj) (h0 : ∀ ls, (pre ls).length = n)
    (V : List L1 → Value) (post new : List L1 → List Obj) (sel : List Nat) (sc : List (PIt P)) (ra : List Nat)
    (hrun : ∀ b, lftF n sel (symFn P b fn (args (lts b n)) (sc.map PIt.it) (ra.map Acc.blk) (pre (lts b n))) = rgtF (V (lts b n ++ sel.map b)) (post (lts b n ++ sel.map b)) (new (lts b n ++ sel.map b)) (symFn P b fn (args (lts b n)) (sc.map PIt.it) (ra.map Acc.blk) (pre (lts b n)))) :
    SpcOk P S ⟨fun ls => .call f (args ls).toArray, pre, sel.length, .normal, fun ls => [V ls], post, new⟩ :=
  fn_spec hf hF n args pre h0 V post new sel (sc.map PIt.it) ra (PIt.all sc) hrun
end Go.Proofs.Ytfmpmhafilllpaa
