import Derived.Test.YtoapdkcokemieaaGreatVTA
namespace Go.Proofs.YtoapdkcokemieaaGreat.Ev
open Go.RowKit
set_option maxRecDepth 100000000
theorem rM_12 : runM hk_12 (12) = some () := by kernel_rfl
theorem rL_10 : runT noHk tL_10 = some () := by kernel_rfl
theorem rL_8 : runT noHk tL_8 = some () := by kernel_rfl
theorem rS_15 : runT hkC_15 tS_15 = some () := by kernel_rfl
theorem rL_2 : runT noHk tL_2 = some () := by kernel_rfl
theorem rS_7 : runT hkC_7 tS_7 = some () := by kernel_rfl
theorem rC_10 : runT noHk tC_10 = some () := by kernel_rfl
theorem rL_16 : runT noHk tL_16 = some () := by kernel_rfl
theorem rC_2 : runT noHk tC_2 = some () := by kernel_rfl
theorem rJ_0 : runT hkC_0 tJ_0 = some () := by kernel_rfl
end Go.Proofs.YtoapdkcokemieaaGreat.Ev
