/-
  What a row asks of the program's text, part by part: facts that the kernel reckons.
-/
import Derived.Test.YtflcjibgobpieaaRows
import Derived.WalkKit
import Derived.ProofKit
import Derived.OpenShut
import Derived.ChangeSame
namespace Go.Proofs.Ytflcjibgobpieaa.regionApart
open Go.ChangeShapes Go.WideShapes Go.ChangeAt Go.RowKit
set_option linter.unusedVariables false
set_option maxRecDepth 100000
theorem j8 : (fun (P : Program) (f : FuncId) (fn : Func) (s : ChangeSpec) (c : OpenClaim) => (P.stopKnobs == [])) Try.pinned.checked.prog 3 Try.f3 Rows.regionApartSpec Rows.regionApartRow = true := by kernel_rfl
theorem j9 : (fun (P : Program) (f : FuncId) (fn : Func) (s : ChangeSpec) (c : OpenClaim) => (c.inPlace == P.inPlace f)) Try.pinned.checked.prog 3 Try.f3 Rows.regionApartSpec Rows.regionApartRow = true := by kernel_rfl
theorem j10 : (fun (P : Program) (f : FuncId) (fn : Func) (s : ChangeSpec) (c : OpenClaim) => (c.unfollowed == P.unfollowed f)) Try.pinned.checked.prog 3 Try.f3 Rows.regionApartSpec Rows.regionApartRow = true := by kernel_rfl
theorem j11 : (fun (P : Program) (f : FuncId) (fn : Func) (s : ChangeSpec) (c : OpenClaim) => (c.recurses == P.recurses f)) Try.pinned.checked.prog 3 Try.f3 Rows.regionApartSpec Rows.regionApartRow = true := by kernel_rfl
theorem j12 : (fun (P : Program) (f : FuncId) (fn : Func) (s : ChangeSpec) (c : OpenClaim) => (c.named == P.varsNamed f)) Try.pinned.checked.prog 3 Try.f3 Rows.regionApartSpec Rows.regionApartRow = true := by kernel_rfl
theorem j13 : (fun (P : Program) (f : FuncId) (fn : Func) (s : ChangeSpec) (c : OpenClaim) => (c.maps == (fn.params.toList ++ s.plain.varTypes P).any (P.mapsRec ·))) Try.pinned.checked.prog 3 Try.f3 Rows.regionApartSpec Rows.regionApartRow = true := by kernel_rfl
theorem j14 : (fun (P : Program) (f : FuncId) (fn : Func) (s : ChangeSpec) (c : OpenClaim) => (c.ifaces == (fn.params.toList ++ s.plain.varTypes P).any (P.ifacesRec ·))) Try.pinned.checked.prog 3 Try.f3 Rows.regionApartSpec Rows.regionApartRow = true := by kernel_rfl
theorem j15 : (fun (P : Program) (f : FuncId) (fn : Func) (s : ChangeSpec) (c : OpenClaim) => (c.mapsOut == P.mapsAmong fn.resultTypes.toList)) Try.pinned.checked.prog 3 Try.f3 Rows.regionApartSpec Rows.regionApartRow = true := by kernel_rfl
end Go.Proofs.Ytflcjibgobpieaa.regionApart
