/-
  What a row asks of the program's text, part by part: facts that the kernel reckons.
-/
import Derived.Test.YtflcjibgobpieaaRows
import Derived.WalkKit
import Derived.ProofKit
import Derived.OpenShut
import Derived.ChangeSame
namespace Go.Proofs.Ytflcjibgobpieaa.regionApart
open Go.ChangeShapes Go.WideShapes Go.ChangeAt Go.RowKit
set_option linter.unusedVariables false
set_option maxRecDepth 100000
theorem j16 : (fun (P : Program) (f : FuncId) (fn : Func) (s : ChangeSpec) (c : OpenClaim) => (c.loops == (fn.params.toList ++ s.plain.varTypes P).any (P.loopsFrom ·))) Try.pinned.checked.prog 3 Try.f3 Rows.regionApartSpec Rows.regionApartRow = true := by kernel_rfl
theorem j17 : (fun (P : Program) (f : FuncId) (fn : Func) (s : ChangeSpec) (c : OpenClaim) => (c.wideKeys == (fn.params.toList ++ s.plain.varTypes P ++ fn.resultTypes.toList).any (P.wideKeysFrom ·))) Try.pinned.checked.prog 3 Try.f3 Rows.regionApartSpec Rows.regionApartRow = true := by kernel_rfl
theorem j18 : (fun (P : Program) (f : FuncId) (fn : Func) (s : ChangeSpec) (c : OpenClaim) => s.vars.all (P.varReadable ·)) Try.pinned.checked.prog 3 Try.f3 Rows.regionApartSpec Rows.regionApartRow = true := by kernel_rfl
theorem j19 : (fun (P : Program) (f : FuncId) (fn : Func) (s : ChangeSpec) (c : OpenClaim) => fn.resultTypes.all (fun t => P.readableRec t && decide (t < P.types.size))) Try.pinned.checked.prog 3 Try.f3 Rows.regionApartSpec Rows.regionApartRow = true := by kernel_rfl
theorem j20 : (fun (P : Program) (f : FuncId) (fn : Func) (s : ChangeSpec) (c : OpenClaim) => (c.ifacesOut == fn.resultTypes.toList.any (P.ifacesRec ·))) Try.pinned.checked.prog 3 Try.f3 Rows.regionApartSpec Rows.regionApartRow = true := by kernel_rfl
theorem j21 : (fun (P : Program) (f : FuncId) (fn : Func) (s : ChangeSpec) (c : OpenClaim) => (c.loopsOut == fn.resultTypes.toList.any (P.loopsFrom ·))) Try.pinned.checked.prog 3 Try.f3 Rows.regionApartSpec Rows.regionApartRow = true := by kernel_rfl
theorem j22 : (fun (P : Program) (f : FuncId) (fn : Func) (s : ChangeSpec) (c : OpenClaim) => (c.plainKeys == P.plainKeys)) Try.pinned.checked.prog 3 Try.f3 Rows.regionApartSpec Rows.regionApartRow = true := by kernel_rfl
theorem j23 : (fun (P : Program) (f : FuncId) (fn : Func) (s : ChangeSpec) (c : OpenClaim) => c.shortTexts.isNone) Try.pinned.checked.prog 3 Try.f3 Rows.regionApartSpec Rows.regionApartRow = true := by kernel_rfl
end Go.Proofs.Ytflcjibgobpieaa.regionApart
