/-
  The other faces of package tnum, as contracts over the program's own text.
-/
import Derived.Test.YtpmhojfbjhgjpaaOf
import Derived.BigRegion
import Derived.Lib.BitFns
namespace Go.Proofs.Ytpmhojfbjhgjpaa
open Go.ChangeShapes Go.WideShapes Go.ChangeAt Go.RowKit
set_option linter.unusedVariables false
set_option linter.unusedSimpArgs false
instance (t : T) (x : BitVec 64) : Decidable (has t x) := by unfold has; infer_instance
theorem const_any (x : BitVec 64) (w : World) : Calls Try.prog 19 #[.int .u64 (nn x)] w fun e w' => e = .returned (tv ⟨x, 0#64⟩) ∧ Below w.heap.size w w' := by
  go_enter Try.func19, Try.ntmps19
  go_wp2
  go_returns
  exact ⟨rfl, by go_grown⟩
theorem ret_int {k : IntKind} {a b : Int} (h : a = b) : Ending.returned (.int k a) = .returned (.int k b) := by rw [h]
theorem ret_bool {a b : Bool} (h : a = b) : Ending.returned (.bool a) = .returned (.bool b) := by rw [h]
theorem has_any (a : T) (x : BitVec 64) (w : World) : Calls Try.prog 15 #[.agg #[.int .u64 (nn a.v), .int .u64 (nn a.m)], .int .u64 (nn x)] w fun e w' => e = .returned (.bool (decide (has a x))) ∧ Below w.heap.size w w' := by
  have h0 := b_not
  have h1 := b_and
  by_cases h : a.v &&& a.m = 0#64
  · have h2 : (nn (a.v &&& a.m) == 0) = true := by rw [b_eq0]; simp [h]
    have h3 := b_eq (x &&& ~~~a.m) a.v
    have e : decide (has a x) = decide (x &&& ~~~a.m = a.v) := by unfold has; simp [h]
    rw [e]
    clear e h
    go_enter Try.func15, Try.ntmps15
    go_wp2
    clear h0 h1 h2 h3
    go_returns
    exact ⟨rfl, by go_grown⟩
  · have h2 : (nn (a.v &&& a.m) == 0) = false := by rw [b_eq0]; simp [h]
    have e : decide (has a x) = false := by unfold has; simp [h]
    rw [e]
    clear e h
    go_enter Try.func15, Try.ntmps15
    go_wp2
    clear h0 h1 h2
    go_returns
    exact ⟨rfl, by go_grown⟩
theorem len8tab_size : (Lib.len8tab.size : Int) = 256 := by
  have : Lib.len8tab.size = 256 := by decide +kernel
  omega
theorem wrap_add (k a b : Nat) (hk : k ≤ 56) (ha : a ≤ 8) (hb : b = k + a) : wrap64 ((k : Int) + wrap64 (a : Int)) = (b : Int) := by
  unfold wrap64
  omega
theorem wrap_wrap (a : Nat) (ha : a ≤ 8) : wrap64 (wrap64 (a : Int)) = (a : Int) := by
  unfold wrap64
  omega
theorem wrap_one (a : Nat) (ha : a ≤ 8) : wrap64 (a : Int) = (a : Int) := by
  unfold wrap64
  omega
theorem len8_get (y : Int) (h : y.toNat < Lib.len8tab.size) : ((Lib.len8tab[y.toNat]'h).toNat : Int) = Lib.len8 y := by
  unfold Lib.len8
  rw [getElem?_pos Lib.len8tab y.toNat h]
  rfl
/-- How many bits a number has. -/
def blen (x : BitVec 64) : Nat := Lib.bitLen x.toNat
/-- As many bits as another one's. -/
def mk (x : BitVec 64) : BitVec 64 := BitVec.ofNat 64 (2 ^ blen x - 1)
theorem blen_le (x : BitVec 64) : blen x ≤ 64 := Lib.bitLen_le _ _ (Nat.le_refl _) x.isLt
theorem b_mk (x : BitVec 64) : IntKind.u64.wrap (IntKind.u64.wrap (2 ^ min (blen x) 64) - 1) = nn (mk x) := by
  have h := blen_le x
  unfold nn mk
  rw [Nat.min_eq_left h, IntKind.wrap_u64, IntKind.wrap_u64, BitVec.toNat_ofNat]
  have p : 0 < 2 ^ blen x := Nat.two_pow_pos _
  have e : (2 : Int) ^ blen x = ((2 ^ blen x : Nat) : Int) := by simp
  rw [e]
  generalize 2 ^ blen x = P at *
  omega
set_option maxHeartbeats 4000000 in
set_option maxRecDepth 1000000 in
theorem len_any (x : BitVec 64) (w : World) : Calls Try.prog 54 #[.int .u64 (nn x)] w fun e w' => e = .returned (.int .i64 (blen x : Nat)) ∧ w = w' := by
  unfold blen
  have h0 : 0 ≤ nn x := by unfold nn; omega
  have h1 : nn x ≤ 18446744073709551615 := by have := x.isLt; unfold nn; omega
  have hx : x.toNat = (nn x).toNat := by unfold nn; omega
  rw [hx]
  generalize nn x = X at *
  clear hx x
  go_enter Try.func54, Try.ntmps54
  go_wp2
  all_goals first
    | (go_ret; refine ⟨ret_int ?_, rfl⟩)
    | (exfalso
       have hs := len8tab_size

       omega)
  all_goals first
    | (rw [len8_get (X / 4294967296 / 65536 / 256) _, Lib.len8_of (X / 4294967296 / 65536 / 256) (by omega) (by omega)]
       have e : (X / 4294967296 / 65536 / 256).toNat = X.toNat / 72057594037927936 := by omega
       have l := Lib.bitLen_le8' (X / 4294967296 / 65536 / 256) (by omega) (by omega)
       have s := Lib.bitLen_shift56 X.toNat (by omega) (by omega)
       rw [e] at l ⊢
       exact wrap_add 56 _ _ (by decide) l s)
    | (rw [len8_get (X / 4294967296 / 65536) _, Lib.len8_of (X / 4294967296 / 65536) (by omega) (by omega)]
       have e : (X / 4294967296 / 65536).toNat = X.toNat / 281474976710656 := by omega
       have l := Lib.bitLen_le8' (X / 4294967296 / 65536) (by omega) (by omega)
       have s := Lib.bitLen_shift48 X.toNat (by omega) (by omega)
       rw [e] at l ⊢
       exact wrap_add 48 _ _ (by decide) l s)
    | (rw [len8_get (X / 4294967296 / 256) _, Lib.len8_of (X / 4294967296 / 256) (by omega) (by omega)]
       have e : (X / 4294967296 / 256).toNat = X.toNat / 1099511627776 := by omega
       have l := Lib.bitLen_le8' (X / 4294967296 / 256) (by omega) (by omega)
       have s := Lib.bitLen_shift40 X.toNat (by omega) (by omega)
       rw [e] at l ⊢
       exact wrap_add 40 _ _ (by decide) l s)
    | (rw [len8_get (X / 4294967296) _, Lib.len8_of (X / 4294967296) (by omega) (by omega)]
       have e : (X / 4294967296).toNat = X.toNat / 4294967296 := by omega
       have l := Lib.bitLen_le8' (X / 4294967296) (by omega) (by omega)
       have s := Lib.bitLen_shift32 X.toNat (by omega) (by omega)
       rw [e] at l ⊢
       exact wrap_add 32 _ _ (by decide) l s)
    | (rw [len8_get (X / 65536 / 256) _, Lib.len8_of (X / 65536 / 256) (by omega) (by omega)]
       have e : (X / 65536 / 256).toNat = X.toNat / 16777216 := by omega
       have l := Lib.bitLen_le8' (X / 65536 / 256) (by omega) (by omega)
       have s := Lib.bitLen_shift24 X.toNat (by omega) (by omega)
       rw [e] at l ⊢
       exact wrap_add 24 _ _ (by decide) l s)
    | (rw [len8_get (X / 65536) _, Lib.len8_of (X / 65536) (by omega) (by omega)]
       have e : (X / 65536).toNat = X.toNat / 65536 := by omega
       have l := Lib.bitLen_le8' (X / 65536) (by omega) (by omega)
       have s := Lib.bitLen_shift16 X.toNat (by omega) (by omega)
       rw [e] at l ⊢
       exact wrap_add 16 _ _ (by decide) l s)
    | (rw [len8_get (X / 256) _, Lib.len8_of (X / 256) (by omega) (by omega)]
       have e : (X / 256).toNat = X.toNat / 256 := by omega
       have l := Lib.bitLen_le8' (X / 256) (by omega) (by omega)
       have s := Lib.bitLen_shift8 X.toNat (by omega) (by omega)
       rw [e] at l ⊢
       exact wrap_add 8 _ _ (by decide) l s)
    | (rw [len8_get X _, Lib.len8_of X (by omega) (by omega)]
       have l := Lib.bitLen_le8' X (by omega) (by omega)
       first | exact wrap_one _ l | exact wrap_wrap _ l | (have := wrap_add 0 _ _ (by decide) l (Nat.zero_add _).symm; simpa using this))

end Go.Proofs.Ytpmhojfbjhgjpaa
