/-
  A helper by its name: a contract over the program's own text.
-/
import Derived.Test.YtknmpllnclkghaaNb
import Derived.Outline
namespace Go.Proofs.Ytknmpllnclkghaa
open Go.Maps Go.WideMaps Go.ChangeShapes Go.WideShapes Go.ChangeAt Go.RowKit
set_option linter.unusedVariables false
set_option linter.unusedSimpArgs false
theorem zero3 (w : World) : (zeroValue 3).run Try.prog w = .ok (.int .i64 0) w := by kernel_rfl
theorem lit_inj {a b : Int} (h : (DataW.lit (.int .i64 a) : DataW HH) = .lit (.int .i64 b)) : a = b := by
  injection h with h
  injection h
set_option maxHeartbeats 4000000 in
set_option maxRecDepth 100000 in
theorem find_any (s : ByteArray) (hs : s.size ≤ maxLen) (w : World) : Calls Try.prog 8 #[.string s] w fun e w' => e = .returned (FindR s) ∧ Below w.heap.size w w' := by
  have hkey : keyOf Try.prog 9 (.string s) = some (keyN s) := keyOf_string_mk Try.underlying9 hs
  have HK := Lib.hid hkey
  clear hkey hs
  by_cases hf : ∃ m, m < 28 ∧ nm m = s
  · obtain ⟨m, hm, rfl⟩ := hf
    have hF : FindR (nm m) = .tuple #[.int .i64 ((m : Int) + 1), .int .i64 0] := found_at hm (fun j hj e => by have := nm_ne j (by omega) m hm e; omega) rfl
    have HF := Lib.hid hF
    have t1 := (NM_at m (.lit (.int .i64 0)) 28 (by omega) hm).1
    have HA := Lib.hid (NM_at m (.lit (.int .i64 0)) 28 (by omega) hm).2
    clear hF
    go_enter Try.func8, Try.ntmps8
    go_wp2_with (first
      | ((with_reducible refine (numbers_any _).mono ?_); rintro e w1 ⟨rfl, hown, g1⟩; have HO := Lib.hid hown; have G1 := Lib.hid g1; clear hown g1)
      | (at_lookup; refine wpList_lookup_own_ok_int _ rfl _ _ 43 rfl 9 3 .i64 lawS Try.underlying43 Try.underlying3 (zero3 _) w.heap.size 29 _ rfl HO.out _ _ rfl HK.out ?_; intro c hat hwc; obtain rfl := lit_inj (hat.symm.trans HA.out); clear hat hwc))
    go_ret2
    exact ⟨by rw [HF.out]; rfl, G1.out⟩
  · have hn : ∀ j, j < 28 → nm j ≠ s := fun j hj e => hf ⟨j, hj, e⟩
    have HF := Lib.hid (found_not hn)
    have t1 := NM_not s 28 (by omega) hn
    clear hn hf
    go_enter Try.func8, Try.ntmps8
    go_wp2_with (first
      | ((with_reducible refine (numbers_any _).mono ?_); rintro e w1 ⟨rfl, hown, g1⟩; have HO := Lib.hid hown; have G1 := Lib.hid g1; clear hown g1)
      | (at_lookup; refine wpList_lookup_own_ok_int _ rfl _ _ 43 rfl 9 3 .i64 lawS Try.underlying43 Try.underlying3 (zero3 _) w.heap.size 29 _ rfl HO.out _ _ rfl HK.out ?_; intro c hat hwc; clear hat hwc))
    go_ret2
    exact ⟨by rw [HF.out]; rfl, G1.out⟩
end Go.Proofs.Ytknmpllnclkghaa
