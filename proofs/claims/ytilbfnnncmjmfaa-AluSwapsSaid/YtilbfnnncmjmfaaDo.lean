/-
  What alu.Do answers, for every code, width and pair of numbers, as a contract over the program's own text: no condition.
-/
import Derived.Test.YtilbfnnncmjmfaaRows
import Derived.Test.YtilbfnnncmjmfaaMath
import Derived.WalkKit
import Derived.ProofKit
import Derived.OpenShut
import Derived.Laws.Rows
import Derived.Laws.Tables
namespace Go.Proofs.Ytilbfnnncmjmfaa
open Go.ChangeShapes Go.WideShapes Go.ChangeAt Go.RowKit
set_option linter.unusedVariables false

def fnv (n : Nat) : Value := .func (.func n) #[] #[]
/-- The table of operations: its twenty-six function values. -/
def tabC : Array Value := #[fnv 27, fnv 28, fnv 29, fnv 30, fnv 31, fnv 32, fnv 33, fnv 34, fnv 35, fnv 36, fnv 37, fnv 38, fnv 39, fnv 40, fnv 41, fnv 42, fnv 43, fnv 44, fnv 45, fnv 46, fnv 47, fnv 48, fnv 49, fnv 50, fnv 51, fnv 52]

theorem alloc_setRow (w : World) (cs ds : Array Value) (t : TypeId) : (w.alloc (.cells cs t)).setRow w.heap.size ds = w.alloc (.cells ds t) := by
  have hm : ∀ (a : Array Obj) (x : Obj) (f : Obj → Obj), (a.push x).modify a.size f = a.push (f x) := by
    intro a x f
    apply Array.ext
    · simp
    · intro i h1 h2
      simp only [Array.getElem_modify, Array.getElem_push]
      by_cases h : a.size = i
      · subst h
        simp
      · simp only [h, if_false]
        split
        · rfl
        · exfalso; simp at h2; omega
  show ({ w with heap := (w.heap.push (.cells cs t)).modify w.heap.size _ } : World) = _
  rw [hm]
  rfl

set_option maxHeartbeats 1000000 in
theorem ops_any (w : World) :
    Calls Try.prog 21 #[] w fun e w' => e = .returned (.agg tabC) ∧ w' = w.alloc (.cells tabC 41) := by
  go_enter Try.func21, Try.ntmps21
  go_wp2_with ((with_reducible refine wpList_store_row (o := ⟨none, .store 41 (.tmp 0) (.tmp 14), _, _, _, _⟩) rfl 41 (.tmp 0) (.tmp 14) rfl w.heap.size tabC ?h1 ?h2 41 (Array.replicate 26 .nilFunc) ?h3 ?h4 ?h5 ?h6 ?h7); (case h1 => rfl); (case h2 => rfl); (case h3 => exact (heap_alloc_new _ _)); (case h4 => kernel_rfl); (case h5 => kernel_rfl); (case h6 => kernel_rfl); (rw [alloc_setRow]))
  exact bodyPost_ret (v := .agg tabC) (results_cell_row rfl _ _ w.heap.size 41 tabC (0, 0) _ rfl (heap_alloc_new _ _) Try.underlying41 rfl (by kernel_rfl)) rfl ⟨rfl, rfl⟩


theorem tab_store (w : World) : Sem.run Try.prog (storeCells { block := w.heap.size + 1, off := 0 } tabC.toList) ((w.alloc (.cells tabC 41)).alloc (.cells #[Value.nilFunc, Value.nilFunc, Value.nilFunc, Value.nilFunc, Value.nilFunc, Value.nilFunc, Value.nilFunc, Value.nilFunc, Value.nilFunc, Value.nilFunc, Value.nilFunc, Value.nilFunc, Value.nilFunc, Value.nilFunc, Value.nilFunc, Value.nilFunc, Value.nilFunc, Value.nilFunc, Value.nilFunc, Value.nilFunc, Value.nilFunc, Value.nilFunc, Value.nilFunc, Value.nilFunc, Value.nilFunc, Value.nilFunc] 41)) = .ok () ((w.alloc (.cells tabC 41)).alloc (.cells tabC 41)) := by
  have e : (w.alloc (.cells tabC 41)).heap.size = w.heap.size + 1 := by show (w.heap.push _).size = _; simp
  have h := run_storeCells_from (P := Try.prog) (w.heap.size + 1) 41 tabC.toList 0 #[Value.nilFunc, Value.nilFunc, Value.nilFunc, Value.nilFunc, Value.nilFunc, Value.nilFunc, Value.nilFunc, Value.nilFunc, Value.nilFunc, Value.nilFunc, Value.nilFunc, Value.nilFunc, Value.nilFunc, Value.nilFunc, Value.nilFunc, Value.nilFunc, Value.nilFunc, Value.nilFunc, Value.nilFunc, Value.nilFunc, Value.nilFunc, Value.nilFunc, Value.nilFunc, Value.nilFunc, Value.nilFunc, Value.nilFunc] ((w.alloc (.cells tabC 41)).alloc (.cells #[Value.nilFunc, Value.nilFunc, Value.nilFunc, Value.nilFunc, Value.nilFunc, Value.nilFunc, Value.nilFunc, Value.nilFunc, Value.nilFunc, Value.nilFunc, Value.nilFunc, Value.nilFunc, Value.nilFunc, Value.nilFunc, Value.nilFunc, Value.nilFunc, Value.nilFunc, Value.nilFunc, Value.nilFunc, Value.nilFunc, Value.nilFunc, Value.nilFunc, Value.nilFunc, Value.nilFunc, Value.nilFunc, Value.nilFunc] 41)) (by rw [← e]; exact heap_alloc_new _ _) (by decide +kernel) (fun v hv => by
    have := (Array.all_eq_true_iff_forall_mem.1 (show tabC.all (·.oneCell') = true by kernel_rfl)) v (by simpa using hv)
    exact this)
  refine h.trans ?_
  have e2 := alloc_setRow (w.alloc (.cells tabC 41)) #[Value.nilFunc, Value.nilFunc, Value.nilFunc, Value.nilFunc, Value.nilFunc, Value.nilFunc, Value.nilFunc, Value.nilFunc, Value.nilFunc, Value.nilFunc, Value.nilFunc, Value.nilFunc, Value.nilFunc, Value.nilFunc, Value.nilFunc, Value.nilFunc, Value.nilFunc, Value.nilFunc, Value.nilFunc, Value.nilFunc, Value.nilFunc, Value.nilFunc, Value.nilFunc, Value.nilFunc, Value.nilFunc, Value.nilFunc] tabC 41
  rw [e] at e2
  exact congrArg (Result.ok ()) e2


theorem grown_trans {a b c : World} (h : Grown a b) (g : Grown b c) : Grown a c :=
  ⟨World.keptBut_trans h.1 g.1, fun x => (g.2.1 x).trans (h.2.1 x), Nat.le_trans h.2.2 g.2.2⟩
theorem ret_int {k : IntKind} {a b : Int} (h : a = b) : Ending.returned (.int k a) = .returned (.int k b) := by rw [h]
theorem fn_27 (x y : Nat) (hx : x < 18446744073709551616) (hy : y < 18446744073709551616) (w : World) : Calls Try.prog 27 #[.int .u64 x, .int .u64 y] w fun e w' => e = .returned (.int .u64 (opN 64 0 x y : Nat)) ∧ w = w' := by
  go_enter Try.func27, Try.ntmps27
  go_wp2
  go_ret
  exact ⟨ret_int (by rw [wrap_u64]; simp only [opN]; omega), rfl⟩
theorem fn_28 (x y : Nat) (hx : x < 4294967296) (hy : y < 4294967296) (w : World) : Calls Try.prog 28 #[.int .u32 x, .int .u32 y] w fun e w' => e = .returned (.int .u32 (opN 32 0 x y : Nat)) ∧ w = w' := by
  go_enter Try.func28, Try.ntmps28
  go_wp2
  go_ret
  exact ⟨ret_int (by (try rw [wrap_u32]); simp only [opN]; omega), rfl⟩
theorem fn_29 (x y : Nat) (hx : x < 18446744073709551616) (hy : y < 18446744073709551616) (w : World) : Calls Try.prog 29 #[.int .u64 x, .int .u64 y] w fun e w' => e = .returned (.int .u64 (opN 64 1 x y : Nat)) ∧ w = w' := by
  go_enter Try.func29, Try.ntmps29
  go_wp2
  go_ret
  exact ⟨ret_int (by rw [wrap_u64]; simp only [opN]; omega), rfl⟩
theorem fn_30 (x y : Nat) (hx : x < 4294967296) (hy : y < 4294967296) (w : World) : Calls Try.prog 30 #[.int .u32 x, .int .u32 y] w fun e w' => e = .returned (.int .u32 (opN 32 1 x y : Nat)) ∧ w = w' := by
  go_enter Try.func30, Try.ntmps30
  go_wp2
  go_ret
  exact ⟨ret_int (by (try rw [wrap_u32]); simp only [opN]; omega), rfl⟩
theorem fn_31 (x y : Nat) (hx : x < 18446744073709551616) (hy : y < 18446744073709551616) (w : World) : Calls Try.prog 31 #[.int .u64 x, .int .u64 y] w fun e w' => e = .returned (.int .u64 (opN 64 2 x y : Nat)) ∧ w = w' := by
  go_enter Try.func31, Try.ntmps31
  go_wp2
  go_ret
  exact ⟨ret_int (by rw [wrap_u64, ← Int.natCast_mul]; simp only [opN]; omega), rfl⟩
theorem fn_32 (x y : Nat) (hx : x < 4294967296) (hy : y < 4294967296) (w : World) : Calls Try.prog 32 #[.int .u32 x, .int .u32 y] w fun e w' => e = .returned (.int .u32 (opN 32 2 x y : Nat)) ∧ w = w' := by
  go_enter Try.func32, Try.ntmps32
  go_wp2
  go_ret
  exact ⟨ret_int (by (try rw [wrap_u32]); rw [← Int.natCast_mul]; simp only [opN]; omega), rfl⟩
theorem fn_33 (x y : Nat) (hx : x < 18446744073709551616) (hy : y < 18446744073709551616) (w : World) : Calls Try.prog 33 #[.int .u64 x, .int .u64 y] w fun e w' => e = .returned (.int .u64 (opN 64 3 x y : Nat)) ∧ w = w' := by
  by_cases h0 : y = 0
  · subst h0
    go_enter Try.func33, Try.ntmps33
    go_wp2
    go_ret
    exact ⟨ret_int (by simp [opN]), rfl⟩
  · have h1 : ((y : Int) == 0) = false := by simpa using h0
    have h2 : 0 < y := Nat.pos_of_ne_zero h0
    go_enter Try.func33, Try.ntmps33
    go_wp2
    go_ret
    exact ⟨ret_int (by rw [wrap_u64, ← Int.natCast_ediv]; have := Nat.div_le_self x y; simp only [opN]; generalize x / y = q at *; omega), rfl⟩
theorem fn_34 (x y : Nat) (hx : x < 4294967296) (hy : y < 4294967296) (w : World) : Calls Try.prog 34 #[.int .u32 x, .int .u32 y] w fun e w' => e = .returned (.int .u32 (opN 32 3 x y : Nat)) ∧ w = w' := by
  by_cases h0 : y = 0
  · subst h0
    go_enter Try.func34, Try.ntmps34
    go_wp2
    go_ret
    exact ⟨ret_int (by simp [opN]), rfl⟩
  · have h1 : ((y : Int) == 0) = false := by simpa using h0
    have h2 : 0 < y := Nat.pos_of_ne_zero h0
    go_enter Try.func34, Try.ntmps34
    go_wp2
    go_ret
    exact ⟨ret_int (by (try rw [wrap_u32]); rw [← Int.natCast_ediv]; have := Nat.div_le_self x y; simp only [opN]; generalize x / y = q at *; omega), rfl⟩
theorem fn_35 (x y : Nat) (hx : x < 18446744073709551616) (hy : y < 18446744073709551616) (w : World) : Calls Try.prog 35 #[.int .u64 x, .int .u64 y] w fun e w' => e = .returned (.int .u64 (opN 64 4 x y : Nat)) ∧ w = w' := by
  go_enter Try.func35, Try.ntmps35
  go_wp2
  go_ret
  exact ⟨ret_int (bits_or_u64_nat x y hx hy), rfl⟩
theorem fn_36 (x y : Nat) (hx : x < 4294967296) (hy : y < 4294967296) (w : World) : Calls Try.prog 36 #[.int .u32 x, .int .u32 y] w fun e w' => e = .returned (.int .u32 (opN 32 4 x y : Nat)) ∧ w = w' := by
  go_enter Try.func36, Try.ntmps36
  go_wp2
  go_ret
  exact ⟨ret_int (bits_or_u32 x y hx hy), rfl⟩
theorem fn_37 (x y : Nat) (hx : x < 18446744073709551616) (hy : y < 18446744073709551616) (w : World) : Calls Try.prog 37 #[.int .u64 x, .int .u64 y] w fun e w' => e = .returned (.int .u64 (opN 64 5 x y : Nat)) ∧ w = w' := by
  go_enter Try.func37, Try.ntmps37
  go_wp2
  go_ret
  exact ⟨ret_int (bits_and_u64_nat x y hx hy), rfl⟩
theorem fn_38 (x y : Nat) (hx : x < 4294967296) (hy : y < 4294967296) (w : World) : Calls Try.prog 38 #[.int .u32 x, .int .u32 y] w fun e w' => e = .returned (.int .u32 (opN 32 5 x y : Nat)) ∧ w = w' := by
  go_enter Try.func38, Try.ntmps38
  go_wp2
  go_ret
  exact ⟨ret_int (bits_and_u32 x y hx hy), rfl⟩
theorem fn_39 (x y : Nat) (hx : x < 18446744073709551616) (hy : y < 18446744073709551616) (w : World) : Calls Try.prog 39 #[.int .u64 x, .int .u64 y] w fun e w' => e = .returned (.int .u64 (opN 64 6 x y : Nat)) ∧ w = w' := by
  go_enter Try.func39, Try.ntmps39
  go_wp2
  go_ret
  exact ⟨ret_int (by rw [wrap_u64]; simp only [opN_6, Int.natCast_emod, Int.natCast_mul, Int.natCast_pow]; rfl), rfl⟩
theorem fn_40 (x y : Nat) (hx : x < 4294967296) (hy : y < 4294967296) (w : World) : Calls Try.prog 40 #[.int .u32 x, .int .u32 y] w fun e w' => e = .returned (.int .u32 (opN 32 6 x y : Nat)) ∧ w = w' := by
  go_enter Try.func40, Try.ntmps40
  go_wp2
  go_ret
  exact ⟨ret_int (by (try rw [wrap_u32]); simp only [opN_6, Int.natCast_emod, Int.natCast_mul, Int.natCast_pow]; rfl), rfl⟩
theorem fn_41 (x y : Nat) (hx : x < 18446744073709551616) (hy : y < 18446744073709551616) (w : World) : Calls Try.prog 41 #[.int .u64 x, .int .u64 y] w fun e w' => e = .returned (.int .u64 (opN 64 7 x y : Nat)) ∧ w = w' := by
  go_enter Try.func41, Try.ntmps41
  go_wp2
  go_ret
  exact ⟨ret_int (by simp only [opN_7, Int.natCast_ediv, Int.natCast_pow]; rfl), rfl⟩
theorem fn_42 (x y : Nat) (hx : x < 4294967296) (hy : y < 4294967296) (w : World) : Calls Try.prog 42 #[.int .u32 x, .int .u32 y] w fun e w' => e = .returned (.int .u32 (opN 32 7 x y : Nat)) ∧ w = w' := by
  go_enter Try.func42, Try.ntmps42
  go_wp2
  go_ret
  exact ⟨ret_int (by simp only [opN_7, Int.natCast_ediv, Int.natCast_pow]; rfl), rfl⟩
theorem fn_43 (x y : Nat) (hx : x < 18446744073709551616) (hy : y < 18446744073709551616) (w : World) : Calls Try.prog 43 #[.int .u64 x, .int .u64 y] w fun e w' => e = .returned (.int .u64 (opN 64 8 x y : Nat)) ∧ w = w' := by
  go_enter Try.func43, Try.ntmps43
  go_wp2
  go_ret
  exact ⟨ret_int (by rw [wrap_u64]; simp only [opN]; omega), rfl⟩
theorem fn_44 (x y : Nat) (hx : x < 4294967296) (hy : y < 4294967296) (w : World) : Calls Try.prog 44 #[.int .u32 x, .int .u32 y] w fun e w' => e = .returned (.int .u32 (opN 32 8 x y : Nat)) ∧ w = w' := by
  go_enter Try.func44, Try.ntmps44
  go_wp2
  go_ret
  exact ⟨ret_int (by (try rw [wrap_u32]); simp only [opN]; omega), rfl⟩
theorem fn_45 (x y : Nat) (hx : x < 18446744073709551616) (hy : y < 18446744073709551616) (w : World) : Calls Try.prog 45 #[.int .u64 x, .int .u64 y] w fun e w' => e = .returned (.int .u64 (opN 64 9 x y : Nat)) ∧ w = w' := by
  by_cases h0 : y = 0
  · subst h0
    go_enter Try.func45, Try.ntmps45
    go_wp2
    go_ret
    exact ⟨ret_int (by simp [opN]), rfl⟩
  · have h1 : ((y : Int) == 0) = false := by simpa using h0
    have h2 : 0 < y := Nat.pos_of_ne_zero h0
    go_enter Try.func45, Try.ntmps45
    go_wp2
    go_ret
    exact ⟨ret_int (by simp [opN]), rfl⟩
theorem fn_46 (x y : Nat) (hx : x < 4294967296) (hy : y < 4294967296) (w : World) : Calls Try.prog 46 #[.int .u32 x, .int .u32 y] w fun e w' => e = .returned (.int .u32 (opN 32 9 x y : Nat)) ∧ w = w' := by
  by_cases h0 : y = 0
  · subst h0
    go_enter Try.func46, Try.ntmps46
    go_wp2
    go_ret
    exact ⟨ret_int (by simp [opN]), rfl⟩
  · have h1 : ((y : Int) == 0) = false := by simpa using h0
    have h2 : 0 < y := Nat.pos_of_ne_zero h0
    go_enter Try.func46, Try.ntmps46
    go_wp2
    go_ret
    exact ⟨ret_int (by simp [opN]), rfl⟩
theorem fn_47 (x y : Nat) (hx : x < 18446744073709551616) (hy : y < 18446744073709551616) (w : World) : Calls Try.prog 47 #[.int .u64 x, .int .u64 y] w fun e w' => e = .returned (.int .u64 (opN 64 10 x y : Nat)) ∧ w = w' := by
  go_enter Try.func47, Try.ntmps47
  go_wp2
  go_ret
  exact ⟨ret_int (bits_xor_u64_nat x y hx hy), rfl⟩
theorem fn_48 (x y : Nat) (hx : x < 4294967296) (hy : y < 4294967296) (w : World) : Calls Try.prog 48 #[.int .u32 x, .int .u32 y] w fun e w' => e = .returned (.int .u32 (opN 32 10 x y : Nat)) ∧ w = w' := by
  go_enter Try.func48, Try.ntmps48
  go_wp2
  go_ret
  exact ⟨ret_int (bits_xor_u32 x y hx hy), rfl⟩
theorem fn_49 (x y : Nat) (hx : x < 18446744073709551616) (hy : y < 18446744073709551616) (w : World) : Calls Try.prog 49 #[.int .u64 x, .int .u64 y] w fun e w' => e = .returned (.int .u64 (opN 64 11 x y : Nat)) ∧ w = w' := by
  go_enter Try.func49, Try.ntmps49
  go_wp2
  go_ret
  exact ⟨ret_int (rfl), rfl⟩
theorem fn_50 (x y : Nat) (hx : x < 4294967296) (hy : y < 4294967296) (w : World) : Calls Try.prog 50 #[.int .u32 x, .int .u32 y] w fun e w' => e = .returned (.int .u32 (opN 32 11 x y : Nat)) ∧ w = w' := by
  go_enter Try.func50, Try.ntmps50
  go_wp2
  go_ret
  exact ⟨ret_int (rfl), rfl⟩
theorem fn_51 (x y : Nat) (hx : x < 18446744073709551616) (hy : y < 18446744073709551616) (w : World) : Calls Try.prog 51 #[.int .u64 x, .int .u64 y] w fun e w' => e = .returned (.int .u64 (opN 64 12 x y : Nat)) ∧ w = w' := by
  go_enter Try.func51, Try.ntmps51
  go_wp2
  go_ret
  show Ending.returned (.int .u64 (IntKind.u64.wrap (wrap64 ↑x / 2 ^ (y % 64)))) = _ ∧ _
  rw [opN_12, asr64 x (y % 64) hx]
  exact ⟨rfl, rfl⟩
theorem fn_52 (x y : Nat) (hx : x < 4294967296) (hy : y < 4294967296) (w : World) : Calls Try.prog 52 #[.int .u32 x, .int .u32 y] w fun e w' => e = .returned (.int .u32 (opN 32 12 x y : Nat)) ∧ w = w' := by
  go_enter Try.func52, Try.ntmps52
  go_wp2
  go_ret
  have h := asr32 x (y % 32) hx
  rw [wrap_u32] at h
  refine ⟨ret_int ?_, rfl⟩
  rw [opN_12]
  exact h

set_option maxHeartbeats 1000000 in
theorem do_wide (k F : Nat) (a b r : Int) (hk : k < 13) (hF : tabC[k * 2]? = some (.func (.func F) #[] #[]))
    (hcf : ∀ (xs : Array Value) (w : World), (callFunc F xs).run Try.prog w = .ok (.enter F xs) w)
    (hc : ∀ w, Calls Try.prog F #[.int .u64 a, .int .u64 b] w fun e w' => e = .returned (.int .u64 r) ∧ w = w') (w : World) :
    Calls Try.prog 11 #[.int .i64 k, .bool true, .int .u64 a, .int .u64 b] w fun e w' => e = .returned (.tuple #[.int .u64 r, .bool true]) ∧ (w.alloc (.cells tabC 41)).alloc (.cells tabC 41) = w' := by
  have hsz : tabC.size = 26 := rfl
  have hst := tab_store w
  have hlt : (k : Int) < 13 := by omega
  go_enter Try.func11, Try.ntmps11
  go_wp2_with (first
    | (go_at_call 21; refine (ops_any _).mono ?_; rintro e w' ⟨rfl, rfl⟩)
    | ((with_reducible refine (hc _).mono ?_); rintro e w' ⟨rfl, rfl⟩))
  go_ret2
  exact ⟨rfl, rfl⟩

set_option maxHeartbeats 1000000 in
theorem do_narrow (k F : Nat) (a b r : Int) (hr : 0 ≤ r ∧ r < 4294967296) (hk : k < 13) (hF : tabC[k * 2 + 1]? = some (.func (.func F) #[] #[]))
    (hcf : ∀ (xs : Array Value) (w : World), (callFunc F xs).run Try.prog w = .ok (.enter F xs) w)
    (hc : ∀ w, Calls Try.prog F #[.int .u32 (a % 4294967296), .int .u32 (b % 4294967296)] w fun e w' => e = .returned (.int .u32 r) ∧ w = w') (w : World) :
    Calls Try.prog 11 #[.int .i64 k, .bool false, .int .u64 a, .int .u64 b] w fun e w' => e = .returned (.tuple #[.int .u64 r, .bool true]) ∧ (w.alloc (.cells tabC 41)).alloc (.cells tabC 41) = w' := by
  have hsz : tabC.size = 26 := rfl
  have hst := tab_store w
  have hlt : (k : Int) < 13 := by omega
  go_enter Try.func11, Try.ntmps11
  go_wp2_with (first
    | (go_at_call 21; refine (ops_any _).mono ?_; rintro e w' ⟨rfl, rfl⟩)
    | ((with_reducible refine (hc _).mono ?_); rintro e w' ⟨rfl, rfl⟩))
  go_ret2
  exact ⟨rfl, rfl⟩


theorem cf_27 (xs : Array Value) (w : World) : (callFunc 27 xs).run Try.prog w = .ok (.enter 27 xs) w := by kernel_rfl
theorem cf_28 (xs : Array Value) (w : World) : (callFunc 28 xs).run Try.prog w = .ok (.enter 28 xs) w := by kernel_rfl
theorem cf_29 (xs : Array Value) (w : World) : (callFunc 29 xs).run Try.prog w = .ok (.enter 29 xs) w := by kernel_rfl
theorem cf_30 (xs : Array Value) (w : World) : (callFunc 30 xs).run Try.prog w = .ok (.enter 30 xs) w := by kernel_rfl
theorem cf_31 (xs : Array Value) (w : World) : (callFunc 31 xs).run Try.prog w = .ok (.enter 31 xs) w := by kernel_rfl
theorem cf_32 (xs : Array Value) (w : World) : (callFunc 32 xs).run Try.prog w = .ok (.enter 32 xs) w := by kernel_rfl
theorem cf_33 (xs : Array Value) (w : World) : (callFunc 33 xs).run Try.prog w = .ok (.enter 33 xs) w := by kernel_rfl
theorem cf_34 (xs : Array Value) (w : World) : (callFunc 34 xs).run Try.prog w = .ok (.enter 34 xs) w := by kernel_rfl
theorem cf_35 (xs : Array Value) (w : World) : (callFunc 35 xs).run Try.prog w = .ok (.enter 35 xs) w := by kernel_rfl
theorem cf_36 (xs : Array Value) (w : World) : (callFunc 36 xs).run Try.prog w = .ok (.enter 36 xs) w := by kernel_rfl
theorem cf_37 (xs : Array Value) (w : World) : (callFunc 37 xs).run Try.prog w = .ok (.enter 37 xs) w := by kernel_rfl
theorem cf_38 (xs : Array Value) (w : World) : (callFunc 38 xs).run Try.prog w = .ok (.enter 38 xs) w := by kernel_rfl
theorem cf_39 (xs : Array Value) (w : World) : (callFunc 39 xs).run Try.prog w = .ok (.enter 39 xs) w := by kernel_rfl
theorem cf_40 (xs : Array Value) (w : World) : (callFunc 40 xs).run Try.prog w = .ok (.enter 40 xs) w := by kernel_rfl
theorem cf_41 (xs : Array Value) (w : World) : (callFunc 41 xs).run Try.prog w = .ok (.enter 41 xs) w := by kernel_rfl
theorem cf_42 (xs : Array Value) (w : World) : (callFunc 42 xs).run Try.prog w = .ok (.enter 42 xs) w := by kernel_rfl
theorem cf_43 (xs : Array Value) (w : World) : (callFunc 43 xs).run Try.prog w = .ok (.enter 43 xs) w := by kernel_rfl
theorem cf_44 (xs : Array Value) (w : World) : (callFunc 44 xs).run Try.prog w = .ok (.enter 44 xs) w := by kernel_rfl
theorem cf_45 (xs : Array Value) (w : World) : (callFunc 45 xs).run Try.prog w = .ok (.enter 45 xs) w := by kernel_rfl
theorem cf_46 (xs : Array Value) (w : World) : (callFunc 46 xs).run Try.prog w = .ok (.enter 46 xs) w := by kernel_rfl
theorem cf_47 (xs : Array Value) (w : World) : (callFunc 47 xs).run Try.prog w = .ok (.enter 47 xs) w := by kernel_rfl
theorem cf_48 (xs : Array Value) (w : World) : (callFunc 48 xs).run Try.prog w = .ok (.enter 48 xs) w := by kernel_rfl
theorem cf_49 (xs : Array Value) (w : World) : (callFunc 49 xs).run Try.prog w = .ok (.enter 49 xs) w := by kernel_rfl
theorem cf_50 (xs : Array Value) (w : World) : (callFunc 50 xs).run Try.prog w = .ok (.enter 50 xs) w := by kernel_rfl
theorem cf_51 (xs : Array Value) (w : World) : (callFunc 51 xs).run Try.prog w = .ok (.enter 51 xs) w := by kernel_rfl
theorem cf_52 (xs : Array Value) (w : World) : (callFunc 52 xs).run Try.prog w = .ok (.enter 52 xs) w := by kernel_rfl

/-- Whatever the code from 0 to 12, the width and the two numbers: alu.Do answers what the operation makes of them, and makes new memory alone. -/
theorem do_any (k : Nat) (hk : k < 13) (wide : Bool) (x y : Nat) (hx : x < 18446744073709551616) (hy : y < 18446744073709551616) (w : World) :
    Calls Try.prog 11 #[.int .i64 k, .bool wide, .int .u64 x, .int .u64 y] w fun e w' => e = .returned (.tuple #[.int .u64 (doN k wide x y : Nat), .bool true]) ∧ Grown w w' := by
  have G : Grown w ((w.alloc (.cells tabC 41)).alloc (.cells tabC 41)) := ((Grown.refl _).alloc _ _).alloc _ _
  cases wide
  · have ex : (x : Int) % 4294967296 = ((x % 4294967296 : Nat) : Int) := by omega
    have ey : (y : Int) % 4294967296 = ((y % 4294967296 : Nat) : Int) := by omega
    have lx : x % 4294967296 < 4294967296 := by omega
    have ly : y % 4294967296 < 4294967296 := by omega
    have lr := doN_lt32 k x y
    have main : ∀ F, tabC[k * 2 + 1]? = some (.func (.func F) #[] #[]) → (∀ (xs : Array Value) (w : World), (callFunc F xs).run Try.prog w = .ok (.enter F xs) w) →
        (∀ (a b : Nat), a < 4294967296 → b < 4294967296 → ∀ w, Calls Try.prog F #[.int .u32 a, .int .u32 b] w fun e w' => e = .returned (.int .u32 (opN 32 k a b : Nat)) ∧ w = w') →
        Calls Try.prog 11 #[.int .i64 k, .bool false, .int .u64 x, .int .u64 y] w fun e w' => e = .returned (.tuple #[.int .u64 (doN k false x y : Nat), .bool true]) ∧ Grown w w' := by
      intro F hF hcf hc
      refine (do_narrow k F x y (doN k false x y : Nat) ⟨by omega, by omega⟩ hk hF hcf (fun w => ?_) w).mono fun e w' ⟨he, hw⟩ => ⟨he, hw ▸ G⟩
      rw [ex, ey]
      exact hc _ _ lx ly w
    match k, hk, main with
    | 0, _, main => exact main 28 rfl cf_28 fn_28
    | 1, _, main => exact main 30 rfl cf_30 fn_30
    | 2, _, main => exact main 32 rfl cf_32 fn_32
    | 3, _, main => exact main 34 rfl cf_34 fn_34
    | 4, _, main => exact main 36 rfl cf_36 fn_36
    | 5, _, main => exact main 38 rfl cf_38 fn_38
    | 6, _, main => exact main 40 rfl cf_40 fn_40
    | 7, _, main => exact main 42 rfl cf_42 fn_42
    | 8, _, main => exact main 44 rfl cf_44 fn_44
    | 9, _, main => exact main 46 rfl cf_46 fn_46
    | 10, _, main => exact main 48 rfl cf_48 fn_48
    | 11, _, main => exact main 50 rfl cf_50 fn_50
    | 12, _, main => exact main 52 rfl cf_52 fn_52
  · have main : ∀ F, tabC[k * 2]? = some (.func (.func F) #[] #[]) → (∀ (xs : Array Value) (w : World), (callFunc F xs).run Try.prog w = .ok (.enter F xs) w) →
        (∀ (a b : Nat), a < 18446744073709551616 → b < 18446744073709551616 → ∀ w, Calls Try.prog F #[.int .u64 a, .int .u64 b] w fun e w' => e = .returned (.int .u64 (opN 64 k a b : Nat)) ∧ w = w') →
        Calls Try.prog 11 #[.int .i64 k, .bool true, .int .u64 x, .int .u64 y] w fun e w' => e = .returned (.tuple #[.int .u64 (doN k true x y : Nat), .bool true]) ∧ Grown w w' := by
      intro F hF hcf hc
      exact (do_wide k F x y (doN k true x y : Nat) hk hF hcf (fun w => hc _ _ hx hy w) w).mono fun e w' ⟨he, hw⟩ => ⟨he, hw ▸ G⟩
    match k, hk, main with
    | 0, _, main => exact main 27 rfl cf_27 fn_27
    | 1, _, main => exact main 29 rfl cf_29 fn_29
    | 2, _, main => exact main 31 rfl cf_31 fn_31
    | 3, _, main => exact main 33 rfl cf_33 fn_33
    | 4, _, main => exact main 35 rfl cf_35 fn_35
    | 5, _, main => exact main 37 rfl cf_37 fn_37
    | 6, _, main => exact main 39 rfl cf_39 fn_39
    | 7, _, main => exact main 41 rfl cf_41 fn_41
    | 8, _, main => exact main 43 rfl cf_43 fn_43
    | 9, _, main => exact main 45 rfl cf_45 fn_45
    | 10, _, main => exact main 47 rfl cf_47 fn_47
    | 11, _, main => exact main 49 rfl cf_49 fn_49
    | 12, _, main => exact main 51 rfl cf_51 fn_51

/-- Any other code is none. -/
theorem do_none (k : Int) (hk : k < 0 ∨ 13 ≤ k) (wide : Bool) (x y : Nat) (w : World) :
    Calls Try.prog 11 #[.int .i64 k, .bool wide, .int .u64 x, .int .u64 y] w fun e w' => e = .returned (.tuple #[.int .u64 0, .bool false]) ∧ Grown w w' := by
  have G : Grown w ((w.alloc (.cells tabC 41)).alloc (.cells tabC 41)) := ((Grown.refl _).alloc _ _).alloc _ _
  have hsz : tabC.size = 26 := rfl
  have hst := tab_store w
  by_cases h : k < 0
  · clear hk
    go_enter Try.func11, Try.ntmps11
    go_wp2_with (go_at_call 21; refine (ops_any _).mono ?_; rintro e w' ⟨rfl, rfl⟩)
    go_ret2
    exact ⟨rfl, G⟩
  · have h1 : 13 ≤ k := by omega
    have h0 : 0 ≤ k := by omega
    clear hk h
    go_enter Try.func11, Try.ntmps11
    go_wp2_with (go_at_call 21; refine (ops_any _).mono ?_; rintro e w' ⟨rfl, rfl⟩)
    go_ret2
    exact ⟨rfl, G⟩

/-- The program's own two examples stand. -/
theorem known_any (w : World) : Calls Try.prog 10 #[] w fun e w' => e = .returned (.bool true) ∧ Grown w w' := by
  have c1 : ∀ w, Calls Try.prog 11 #[.int .i64 3, .bool true, .int .u64 7, .int .u64 0] w fun e w' => e = .returned (.tuple #[.int .u64 0, .bool true]) ∧ Grown w w' := fun w =>
    do_any 3 (by omega) true 7 0 (by omega) (by omega) w
  have c2 : ∀ w, Calls Try.prog 11 #[.int .i64 12, .bool false, .int .u64 2147483648, .int .u64 31] w fun e w' => e = .returned (.tuple #[.int .u64 4294967295, .bool true]) ∧ Grown w w' := fun w =>
    do_any 12 (by omega) false 2147483648 31 (by omega) (by omega) w
  go_enter Try.func10, Try.ntmps10
  go_wp2_with (first
    | ((with_reducible refine (c1 _).mono ?_); rintro e w1 ⟨rfl, g1⟩)
    | ((with_reducible refine (c2 _).mono ?_); rintro e w2 ⟨rfl, g2⟩))
  go_ret
  exact ⟨rfl, grown_trans g1 g2⟩
theorem nat_of_wf {a : Int} (h : (Lit.int .u64 a).wf = true) : ∃ x : Nat, a = x ∧ x < 18446744073709551616 := by
  have := bounds_u64 h
  exact ⟨a.toNat, by omega, by omega⟩
theorem ret_true {b : Bool} (h : b = true) : Ending.returned (.bool b) = .returned (.bool true) := by rw [h]
end Go.Proofs.Ytilbfnnncmjmfaa
