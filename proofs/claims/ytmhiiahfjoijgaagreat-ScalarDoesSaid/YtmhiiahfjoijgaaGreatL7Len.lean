/-
  math/bits.Len64, by the program's own text.
-/
import Derived.Test.YtmhiiahfjoijgaaGreatL7H
import Derived.BigRegion
namespace Go.Proofs.YtmhiiahfjoijgaaGreat
open Go.RowKit
set_option linter.unusedVariables false
set_option linter.unusedSimpArgs false
theorem ret_int {k : IntKind} {a b : Int} (h : a = b) : Ending.returned (.int k a) = .returned (.int k b) := by rw [h]
theorem len8tab_size : (Lib.len8tab.size : Int) = 256 := by
  have : Lib.len8tab.size = 256 := by decide +kernel
  omega
theorem wrap_add (k a b : Nat) (hk : k ≤ 56) (ha : a ≤ 8) (hb : b = k + a) : wrap64 ((k : Int) + wrap64 (a : Int)) = (b : Int) := by
  unfold wrap64
  omega
theorem wrap_wrap (a : Nat) (ha : a ≤ 8) : wrap64 (wrap64 (a : Int)) = (a : Int) := by
  unfold wrap64
  omega
theorem wrap_one (a : Nat) (ha : a ≤ 8) : wrap64 (a : Int) = (a : Int) := by
  unfold wrap64
  omega
theorem len8_get (y : Int) (h : y.toNat < Lib.len8tab.size) : ((Lib.len8tab[y.toNat]'h).toNat : Int) = Lib.len8 y := by
  unfold Lib.len8
  rw [getElem?_pos Lib.len8tab y.toNat h]
  rfl
set_option maxHeartbeats 4000000 in
set_option maxRecDepth 1000000 in
theorem len_any (x : BitVec 64) (w : World) : Calls Tryz.prog 158 #[.int .u64 (nn x)] w fun e w' => e = .returned (.int .i64 (blen x : Nat)) ∧ w = w' := by
  unfold blen
  have h0 : 0 ≤ nn x := by unfold nn; omega
  have h1 : nn x ≤ 18446744073709551615 := by have := x.isLt; unfold nn; omega
  have hx : x.toNat = (nn x).toNat := by unfold nn; omega
  rw [hx]
  generalize nn x = X at *
  clear hx x
  go_enter Tryz.func158, Tryz.ntmps158
  go_wp2
  all_goals first
    | (go_ret; refine ⟨ret_int ?_, rfl⟩)
    | (exfalso
       have hs := len8tab_size

       omega)
  all_goals first
    | (rw [len8_get (X / 4294967296 / 65536 / 256) _, Lib.len8_of (X / 4294967296 / 65536 / 256) (by omega) (by omega)]
       have e : (X / 4294967296 / 65536 / 256).toNat = X.toNat / 72057594037927936 := by omega
       have l := Lib.bitLen_le8' (X / 4294967296 / 65536 / 256) (by omega) (by omega)
       have s := Lib.bitLen_shift56 X.toNat (by omega) (by omega)
       rw [e] at l ⊢
       exact wrap_add 56 _ _ (by decide) l s)
    | (rw [len8_get (X / 4294967296 / 65536) _, Lib.len8_of (X / 4294967296 / 65536) (by omega) (by omega)]
       have e : (X / 4294967296 / 65536).toNat = X.toNat / 281474976710656 := by omega
       have l := Lib.bitLen_le8' (X / 4294967296 / 65536) (by omega) (by omega)
       have s := Lib.bitLen_shift48 X.toNat (by omega) (by omega)
       rw [e] at l ⊢
       exact wrap_add 48 _ _ (by decide) l s)
    | (rw [len8_get (X / 4294967296 / 256) _, Lib.len8_of (X / 4294967296 / 256) (by omega) (by omega)]
       have e : (X / 4294967296 / 256).toNat = X.toNat / 1099511627776 := by omega
       have l := Lib.bitLen_le8' (X / 4294967296 / 256) (by omega) (by omega)
       have s := Lib.bitLen_shift40 X.toNat (by omega) (by omega)
       rw [e] at l ⊢
       exact wrap_add 40 _ _ (by decide) l s)
    | (rw [len8_get (X / 4294967296) _, Lib.len8_of (X / 4294967296) (by omega) (by omega)]
       have e : (X / 4294967296).toNat = X.toNat / 4294967296 := by omega
       have l := Lib.bitLen_le8' (X / 4294967296) (by omega) (by omega)
       have s := Lib.bitLen_shift32 X.toNat (by omega) (by omega)
       rw [e] at l ⊢
       exact wrap_add 32 _ _ (by decide) l s)
    | (rw [len8_get (X / 65536 / 256) _, Lib.len8_of (X / 65536 / 256) (by omega) (by omega)]
       have e : (X / 65536 / 256).toNat = X.toNat / 16777216 := by omega
       have l := Lib.bitLen_le8' (X / 65536 / 256) (by omega) (by omega)
       have s := Lib.bitLen_shift24 X.toNat (by omega) (by omega)
       rw [e] at l ⊢
       exact wrap_add 24 _ _ (by decide) l s)
    | (rw [len8_get (X / 65536) _, Lib.len8_of (X / 65536) (by omega) (by omega)]
       have e : (X / 65536).toNat = X.toNat / 65536 := by omega
       have l := Lib.bitLen_le8' (X / 65536) (by omega) (by omega)
       have s := Lib.bitLen_shift16 X.toNat (by omega) (by omega)
       rw [e] at l ⊢
       exact wrap_add 16 _ _ (by decide) l s)
    | (rw [len8_get (X / 256) _, Lib.len8_of (X / 256) (by omega) (by omega)]
       have e : (X / 256).toNat = X.toNat / 256 := by omega
       have l := Lib.bitLen_le8' (X / 256) (by omega) (by omega)
       have s := Lib.bitLen_shift8 X.toNat (by omega) (by omega)
       rw [e] at l ⊢
       exact wrap_add 8 _ _ (by decide) l s)
    | (rw [len8_get X _, Lib.len8_of X (by omega) (by omega)]
       have l := Lib.bitLen_le8' X (by omega) (by omega)
       first | exact wrap_one _ l | exact wrap_wrap _ l | (have := wrap_add 0 _ _ (by decide) l (Nat.zero_add _).symm; simpa using this))



theorem ok_Len64 (x : BitVec 64) : Con Tryz.prog 158 #[.int .u64 (nn x)] (.int .i64 (ii (m_Len64 x))) := fun w => by
  refine ⟨by kernel_rfl, (len_any x w).mono fun e w' ⟨h, h'⟩ => ?_⟩
  subst h'
  rw [len_nat, len_toNat]
  exact ⟨h, .refl ..⟩
end Go.Proofs.YtmhiiahfjoijgaaGreat
