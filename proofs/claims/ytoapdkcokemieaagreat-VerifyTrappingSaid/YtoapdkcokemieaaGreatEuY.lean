/-
  Regions that draw their order (6): all the operations of one, in the text's order; what is asked behind them. Nothing of the program stands here.
-/
import Derived.Test.YtoapdkcokemieaaGreatEuX
namespace Go.Proofs.YtoapdkcokemieaaGreat.Ev
open Go.RowKit
noncomputable section
set_option linter.unusedVariables false
set_option linter.unusedSimpArgs false
set_option linter.unusedSectionVars false
variable [Fs] [En] [FsOk]
/-! ### The operations of a region -/
/-- An operation that reads: its number, itself, its operands, what it yields. -/
structure Qr where
  i : Nat
  o : Oper
  E : Tr PV
  v : PV
abbrev Hl := List (Hp × Nat)
section
variable {α : Type} (P : Program)
def lastOk (ms : List Nat) (i : Nat) (lc : Option Nat) : Bool := match lc with
  | none => true
  | some c => clB ms i c
def stopped (ms : List Nat) (i : Nat) (st : Option (Nat × PV × Hp)) : Bool := match st with
  | none => false
  | some x => clB ms i x.1
def evDrawGo (call : CallT α) (N n0 : Nat) (ops : Array Oper) (ms : List Nat) (T0 : Tr PV) (k : Tr PV → Hp → Nat → Hl → List Nat → List (Nat × AObj) → List Qr → Option (Nat × PV × Hp) → Option α) :
    List Oper → Nat → Tr PV → Tr PV → Hp → Nat → Hl → List Nat → Option Nat → List (Nat × AObj) → List Qr → Option (Nat × PV × Hp) → Option α
  | [], _, _, T, hc, ac, hl, cs, _, mv, qs, st => k T hc ac hl cs mv qs st
  | o :: l, i, T1, T, hc, ac, hl, cs, lc, mv, qs, st => match stopped ms i st with
    | true => evDrawGo call N n0 ops ms T0 k l (i + 1) T1 T hc ac hl cs lc mv qs st
    | false => mkEnv ops.toList ms i T0 T1 (o.looksAt ops) .lf fun E => match evWant ops E o with
      | none => none
      | some false => evPut N o.dst (.tp []) T fun T => evPut N o.dst (.tp []) T1 fun T1 => evDrawGo call N n0 ops ms T0 k l (i + 1) T1 T hc ac hl cs lc mv qs st
      | some true => match isMk o.op with
        | true => match evA P ⟨.lf, 0⟩ (n0 + i) E o.op with
          | some (v, e) => efObjK e fun ob => evPut N o.dst v T fun T => evPut N o.dst v T1 fun T1 => evDrawGo call N n0 ops ms T0 k l (i + 1) T1 T hc ac hl cs lc ((i, ob) :: mv) qs st
          | none => none
        | false => addM ms i ac n0 mv hc fun A => match evQD P A E o with
          | some v => evKM (isMv o.op) v fun v => evPutR N o.dst v T fun T => evPutR N o.dst v T1 fun T1 => evDrawGo call N n0 ops ms T0 k l (i + 1) T1 T hc ac hl cs lc mv (⟨i, o, E, v⟩ :: qs) st
          | none => match st with
            | some _ => none
            | none => match lastOk ms i lc with
              | false => none
              | true => coreOp P call o E A (fun v H => evPutR N o.dst v T fun T => evPutR N o.dst v T1 fun T1 => fN (ac ||| ms.getD i 0) fun ac => evDrawGo call N n0 ops ms T0 k l (i + 1) T1 T H ac (hl ++ [(H, ac)]) (cs ++ [i]) (some i) mv qs none)
                fun v H => evDrawGo call N n0 ops ms T0 k l (i + 1) T1 T hc ac hl cs lc mv qs (some (i, v, H))
def winB (ms : List Nat) (cs : List Nat) (i j : Nat) : Bool := allI (fun k c => (!clB ms i c || Nat.ble (k + 1) j) && (!clB ms c i || Nat.ble j k)) 0 cs
def qAt (ms : List Nat) (n0 : Nat) (mv : List (Nat × AObj)) (q : Qr) (x : Hp × Nat) : Bool := match evQD P ⟨.lf, x.1.n⟩ q.E q.o with
  | some v => eqP 8 v q.v
  | none => addM ms q.i x.2 n0 mv x.1 fun A => match evQD P A q.E q.o with
    | some v => eqP 8 v q.v
    | none => false
def chkQ (ms : List Nat) (cs : List Nat) (n0 : Nat) (mv : List (Nat × AObj)) (hl : Hl) (qs : List Qr) : Bool := allI (fun _ q => allI (fun j x => match winB ms cs q.i j with
  | true => qAt P ms n0 mv q x
  | false => true) 0 hl) 0 qs
def chkM (n0 : Nat) (mv : List (Nat × AObj)) (hl : Hl) : Bool := allI (fun _ x => allI (fun _ m => Nat.testBit x.2 m.1 || (match x.1.t.at (n0 + m.1) with
  | none => true
  | some _ => false)) 0 mv) 0 hl
def erase {ρ : Type} : List Oper → Tr PV → (Tr PV → ρ) → ρ
  | [], T, k => k T
  | o :: l, T, k => match o.dst with
    | some d => Tr.setK (pth d) none T fun T => erase l T k
    | none => erase l T k
/-- A region that draws its order. -/
def evDraw : DrawT α := fun call N ops T0 D H k => match textOk N ops.toList (masks ops.toList []) with
  | false => none
  | true => fN (H.n + ops.size) fun n => evDrawGo P call N H.n ops (masks ops.toList []) T0 (fun T hc ac hl cs mv qs st => match chkQ P (masks ops.toList []) cs H.n mv hl qs && chkM H.n mv hl with
    | false => none
    | true => match st with
      | none => addM [2 ^ ops.size - 1] 0 ac H.n mv hc fun A => k .normal T D A
      | some x => erase ops.toList T0 fun T => k (.panic x.2.1) T D x.2.2) ops.toList 0 .lf T0 ⟨H.t, n⟩ 0 [(⟨H.t, n⟩, 0)] [] none [] [] none
end
end
end Go.Proofs.YtoapdkcokemieaaGreat.Ev
