/-
  Arguments that are slices of structs with one slice, opened. Nothing of the program stands here.
-/
import Derived.Test.YtlpjdjbophcomaaDoorRxK
import Derived.Test.YtlpjdjbophcomaaDoorRyW
namespace Go.Proofs.YtlpjdjbophcomaaDoor
open Go.RowKit
set_option linter.unusedVariables false
set_option linter.unusedSimpArgs false
section
variable {τ σ : Type} {hd tl : σ → List Value} {zs : Nat}
/-- Such a struct's cells. -/
abbrev xsc (hd tl : σ → List Value) (x : σ × RS τ) : List Value := hd x.1 ++ .slice x.2.a x.2.n (x.2.n + x.2.k) :: tl x.1
theorem xsc_len (hz : ∀ x, (hd x).length + 1 + (tl x).length = zs) (x : σ × RS τ) : (xsc hd tl x).length = zs := by
  show (hd x.1 ++ _ :: tl x.1).length = zs
  rw [List.length_append, List.length_cons, ← hz x.1]
  omega
theorem RS.roS {S : World → Prop} {f : τ → List Value} {sz : Nat} {V : σ × RS τ → Prop} {VM : τ → Prop} {x : RS (σ × RS τ)} (h : RS.ok S (xsc hd tl) zs V x) (hV : ∀ y, V y → RS.ok S f sz VM y.2) :
    RoS S hd tl zs f sz x.a x.p x.m x.n (fun i => ⟨(x.A i).2.a, (x.A i).2.p, (x.A i).2.m, (x.A i).2.k⟩) (fun i => ((x.A i).2.n, (x.A i).2.A)) (fun i => (x.A i).1) :=
  ⟨⟨h.ro.at_, fun w hw k hk j hj => h.ro.cell w hw k hk j hj⟩, fun i hi => (hV _ (h.each i hi)).ro⟩
end
end Go.Proofs.YtlpjdjbophcomaaDoor

