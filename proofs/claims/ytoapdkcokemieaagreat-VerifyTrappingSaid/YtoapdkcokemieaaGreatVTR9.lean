import Derived.Test.YtoapdkcokemieaaGreatVTA
namespace Go.Proofs.YtoapdkcokemieaaGreat.Ev
open Go.RowKit
set_option maxRecDepth 100000000
theorem rL_12 : runT noHk tL_12 = some () := by kernel_rfl
theorem rM_m5 : runM hk_11 (-5) = some () := by kernel_rfl
theorem rL_15 : runT noHk tL_15 = some () := by kernel_rfl
theorem rM_14 : runM hk_14 (14) = some () := by kernel_rfl
theorem rJ_12 : runT hkC_12 tJ_12 = some () := by kernel_rfl
theorem rS_11 : runT hkC_11 tS_11 = some () := by kernel_rfl
theorem rC_12 : runT noHk tC_12 = some () := by kernel_rfl
theorem rJ_2 : runT hkC_2 tJ_2 = some () := by kernel_rfl
theorem rS_5 : runT hkC_5 tS_5 = some () := by kernel_rfl
theorem rC_14 : runT noHk tC_14 = some () := by kernel_rfl
end Go.Proofs.YtoapdkcokemieaaGreat.Ev
