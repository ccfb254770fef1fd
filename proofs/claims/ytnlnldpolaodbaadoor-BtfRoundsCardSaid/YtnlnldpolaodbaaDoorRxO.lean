/-
  A row of the call's own handed to a function that only reads it and answers plain data: in few words. Nothing of the program stands here.
-/
import Derived.Test.YtnlnldpolaodbaaDoorRxU
namespace Go.Proofs.YtnlnldpolaodbaaDoor
open Go.RowKit
set_option linter.unusedVariables false
theorem SpcG.ownC {P : Program} {M : Nat → Prop} {B : Nat} {S : World → Prop} (hU : Up M B S) {τ : Type} {f : τ → List Value} {sz : Nat} (hf : ∀ x, (f x).length = sz) (N : Nat) (A : Nat → τ) (T : TypeId) {F : FuncId} {args : Option Addr → Nat → Array Value} {V : Value}
    (h : ∀ {M' : Nat → Prop} {B' : Nat} {S' : World → Prop}, Up M' B' S' → ∀ (a : Option Addr) (p q c : Nat), Ro S' f sz a p q N A → ConG P S' F (args a c) V) :
    SpcG P M B S (ownSp f N A T (fun l => padL l N sz) (fun l => (padL l N sz).length / sz) (fun a c => conSp F (args a c) V) 0 .normal) :=
  SpcG.own hU hf N A T _ _ _ 0 .normal (by intros; rfl) (by intros; rfl) (by intros; rfl) (fun _ _ _ a p q c hU0 _ hr0 => ConG.sp (h hU0 a p q c hr0))
end Go.Proofs.YtnlnldpolaodbaaDoor
