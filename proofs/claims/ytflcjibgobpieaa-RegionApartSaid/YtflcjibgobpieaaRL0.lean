/-
  What a row asks of the program's text, part by part: facts that the kernel reckons.
-/
import Derived.Test.YtflcjibgobpieaaRows
import Derived.WalkKit
import Derived.ProofKit
import Derived.OpenShut
import Derived.ChangeSame
namespace Go.Proofs.Ytflcjibgobpieaa.regionApart
open Go.ChangeShapes Go.WideShapes Go.ChangeAt Go.RowKit
set_option linter.unusedVariables false
set_option maxRecDepth 100000
theorem j0 : (fun (P : Program) (f : FuncId) (fn : Func) (s : ChangeSpec) (c : OpenClaim) => c.wf (OpenSpec.ofChange s)) Try.pinned.checked.prog 3 Try.f3 Rows.regionApartSpec Rows.regionApartRow = true := by kernel_rfl
theorem j1 : (fun (P : Program) (f : FuncId) (fn : Func) (s : ChangeSpec) (c : OpenClaim) => laidOutB P) Try.pinned.checked.prog 3 Try.f3 Rows.regionApartSpec Rows.regionApartRow = true := by kernel_rfl
theorem j2 : (fun (P : Program) (f : FuncId) (fn : Func) (s : ChangeSpec) (c : OpenClaim) => mapsRowed P) Try.pinned.checked.prog 3 Try.f3 Rows.regionApartSpec Rows.regionApartRow = true := by kernel_rfl
theorem j3 : (fun (P : Program) (f : FuncId) (fn : Func) (s : ChangeSpec) (c : OpenClaim) => fn.params.all (P.readableRec ·)) Try.pinned.checked.prog 3 Try.f3 Rows.regionApartSpec Rows.regionApartRow = true := by kernel_rfl
theorem j4 : (fun (P : Program) (f : FuncId) (fn : Func) (s : ChangeSpec) (c : OpenClaim) => namedTie P c.named s.vars) Try.pinned.checked.prog 3 Try.f3 Rows.regionApartSpec Rows.regionApartRow = true := by kernel_rfl
theorem j5 : (fun (P : Program) (f : FuncId) (fn : Func) (s : ChangeSpec) (c : OpenClaim) => (c.stops == [])) Try.pinned.checked.prog 3 Try.f3 Rows.regionApartSpec Rows.regionApartRow = true := by kernel_rfl
theorem j6 : (fun (P : Program) (f : FuncId) (fn : Func) (s : ChangeSpec) (c : OpenClaim) => (P.stops == [])) Try.pinned.checked.prog 3 Try.f3 Rows.regionApartSpec Rows.regionApartRow = true := by kernel_rfl
theorem j7 : (fun (P : Program) (f : FuncId) (fn : Func) (s : ChangeSpec) (c : OpenClaim) => (c.knobs == [])) Try.pinned.checked.prog 3 Try.f3 Rows.regionApartSpec Rows.regionApartRow = true := by kernel_rfl
end Go.Proofs.Ytflcjibgobpieaa.regionApart
