/-
  What a row asks of the program's text, part by part: facts that the kernel reckons.
-/
import Derived.Test.YtflcjibgobpieaaRows
import Derived.WalkKit
import Derived.ProofKit
import Derived.OpenShut
import Derived.ChangeSame
namespace Go.Proofs.Ytflcjibgobpieaa.regionApart
open Go.ChangeShapes Go.WideShapes Go.ChangeAt Go.RowKit
set_option linter.unusedVariables false
set_option maxRecDepth 100000
theorem j24 : (fun (P : Program) (f : FuncId) (fn : Func) (s : ChangeSpec) (c : OpenClaim) => P.stopsHeard) Try.pinned.checked.prog 3 Try.f3 Rows.regionApartSpec Rows.regionApartRow = true := by kernel_rfl
theorem j25 : (fun (P : Program) (f : FuncId) (fn : Func) (s : ChangeSpec) (c : OpenClaim) => P.mayEnter) Try.pinned.checked.prog 3 Try.f3 Rows.regionApartSpec Rows.regionApartRow = true := by kernel_rfl
theorem j26 : (fun (P : Program) (f : FuncId) (fn : Func) (s : ChangeSpec) (c : OpenClaim) => (c.lifted == P.liftsFinal)) Try.pinned.checked.prog 3 Try.f3 Rows.regionApartSpec Rows.regionApartRow = true := by kernel_rfl
theorem j27 : (fun (P : Program) (f : FuncId) (fn : Func) (s : ChangeSpec) (c : OpenClaim) => (P.make == some c.make)) Try.pinned.checked.prog 3 Try.f3 Rows.regionApartSpec Rows.regionApartRow = true := by kernel_rfl
theorem j28 : (fun (P : Program) (f : FuncId) (fn : Func) (s : ChangeSpec) (c : OpenClaim) => (c.kinds == (if c.domain.isEmpty then [] else fn.params.toList.map fun t => match P.underlying t with | some (.int k) => some k | _ => none))) Try.pinned.checked.prog 3 Try.f3 Rows.regionApartSpec Rows.regionApartRow = true := by kernel_rfl
theorem j29 : (fun (P : Program) (f : FuncId) (fn : Func) (s : ChangeSpec) (c : OpenClaim) => (c.pinned == c.pinnedBy)) Try.pinned.checked.prog 3 Try.f3 Rows.regionApartSpec Rows.regionApartRow = true := by kernel_rfl
theorem j30 : (fun (P : Program) (f : FuncId) (fn : Func) (s : ChangeSpec) (c : OpenClaim) => (c.veiled == (fn.params.toList ++ s.plain.varTypes P ++ fn.resultTypes.toList).any (P.veiledRec ·))) Try.pinned.checked.prog 3 Try.f3 Rows.regionApartSpec Rows.regionApartRow = true := by kernel_rfl
theorem j31 : (fun (P : Program) (f : FuncId) (fn : Func) (s : ChangeSpec) (c : OpenClaim) => c.veiledFits P fn.params.toList (fn.params.toList ++ s.plain.varTypes P ++ fn.resultTypes.toList)) Try.pinned.checked.prog 3 Try.f3 Rows.regionApartSpec Rows.regionApartRow = true := by kernel_rfl
end Go.Proofs.Ytflcjibgobpieaa.regionApart
