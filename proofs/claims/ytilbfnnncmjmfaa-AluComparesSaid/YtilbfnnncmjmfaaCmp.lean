/-
  What alu.Cmp answers, for every code, width and pair of numbers, as a contract over the program's own text: no condition.
-/
import Derived.Test.YtilbfnnncmjmfaaDo
import Derived.Laws.EntriesVeiled
namespace Go.Proofs.Ytilbfnnncmjmfaa
open Go.ChangeShapes Go.WideShapes Go.ChangeAt Go.RowKit
set_option linter.unusedVariables false

/-- The table of comparisons: of each code its comparison of numbers without a sign, and that of numbers with one. -/
def cmpC : Array Value := #[Value.nilFunc, Value.nilFunc, fnv 53, Value.nilFunc, fnv 55, Value.nilFunc, fnv 56, Value.nilFunc, fnv 59, Value.nilFunc, fnv 54, Value.nilFunc, Value.nilFunc, fnv 60, Value.nilFunc, fnv 61, Value.nilFunc, Value.nilFunc, Value.nilFunc, Value.nilFunc, fnv 57, Value.nilFunc, fnv 58, Value.nilFunc, Value.nilFunc, fnv 62, Value.nilFunc, fnv 63]

set_option maxHeartbeats 1000000 in
theorem comps_any (w : World) :
    Calls Try.prog 26 #[] w fun e w' => e = .returned (.agg cmpC) ∧ w' = w.alloc (.cells cmpC 53) := by
  go_enter Try.func26, Try.ntmps26
  go_wp2_with ((with_reducible refine wpList_store_row (o := ⟨none, .store 53 (.tmp 0) (.tmp 12), _, _, _, _⟩) rfl 53 (.tmp 0) (.tmp 12) rfl w.heap.size cmpC ?h1 ?h2 53 (Array.replicate 28 .nilFunc) ?h3 ?h4 ?h5 ?h6 ?h7); (case h1 => rfl); (case h2 => rfl); (case h3 => exact (heap_alloc_new _ _)); (case h4 => kernel_rfl); (case h5 => kernel_rfl); (case h6 => kernel_rfl); (rw [alloc_setRow]))
  exact bodyPost_ret (v := .agg cmpC) (results_cell_row rfl _ _ w.heap.size 53 cmpC (0, 0) _ rfl (heap_alloc_new _ _) Try.underlying53 rfl (by kernel_rfl)) rfl ⟨rfl, rfl⟩

theorem cmp_store (w : World) : Sem.run Try.prog (storeCells { block := w.heap.size + 1, off := 0 } cmpC.toList) ((w.alloc (.cells cmpC 53)).alloc (.cells #[Value.nilFunc, Value.nilFunc, Value.nilFunc, Value.nilFunc, Value.nilFunc, Value.nilFunc, Value.nilFunc, Value.nilFunc, Value.nilFunc, Value.nilFunc, Value.nilFunc, Value.nilFunc, Value.nilFunc, Value.nilFunc, Value.nilFunc, Value.nilFunc, Value.nilFunc, Value.nilFunc, Value.nilFunc, Value.nilFunc, Value.nilFunc, Value.nilFunc, Value.nilFunc, Value.nilFunc, Value.nilFunc, Value.nilFunc, Value.nilFunc, Value.nilFunc] 53)) = .ok () ((w.alloc (.cells cmpC 53)).alloc (.cells cmpC 53)) := by
  have e : (w.alloc (.cells cmpC 53)).heap.size = w.heap.size + 1 := by show (w.heap.push _).size = _; simp
  have h := run_storeCells_from (P := Try.prog) (w.heap.size + 1) 53 cmpC.toList 0 #[Value.nilFunc, Value.nilFunc, Value.nilFunc, Value.nilFunc, Value.nilFunc, Value.nilFunc, Value.nilFunc, Value.nilFunc, Value.nilFunc, Value.nilFunc, Value.nilFunc, Value.nilFunc, Value.nilFunc, Value.nilFunc, Value.nilFunc, Value.nilFunc, Value.nilFunc, Value.nilFunc, Value.nilFunc, Value.nilFunc, Value.nilFunc, Value.nilFunc, Value.nilFunc, Value.nilFunc, Value.nilFunc, Value.nilFunc, Value.nilFunc, Value.nilFunc] ((w.alloc (.cells cmpC 53)).alloc (.cells #[Value.nilFunc, Value.nilFunc, Value.nilFunc, Value.nilFunc, Value.nilFunc, Value.nilFunc, Value.nilFunc, Value.nilFunc, Value.nilFunc, Value.nilFunc, Value.nilFunc, Value.nilFunc, Value.nilFunc, Value.nilFunc, Value.nilFunc, Value.nilFunc, Value.nilFunc, Value.nilFunc, Value.nilFunc, Value.nilFunc, Value.nilFunc, Value.nilFunc, Value.nilFunc, Value.nilFunc, Value.nilFunc, Value.nilFunc, Value.nilFunc, Value.nilFunc] 53)) (by rw [← e]; exact heap_alloc_new _ _) (by decide +kernel) (fun v hv => by
    have := (Array.all_eq_true_iff_forall_mem.1 (show cmpC.all (·.oneCell') = true by kernel_rfl)) v (by simpa using hv)
    exact this)
  refine h.trans ?_
  have e2 := alloc_setRow (w.alloc (.cells cmpC 53)) #[Value.nilFunc, Value.nilFunc, Value.nilFunc, Value.nilFunc, Value.nilFunc, Value.nilFunc, Value.nilFunc, Value.nilFunc, Value.nilFunc, Value.nilFunc, Value.nilFunc, Value.nilFunc, Value.nilFunc, Value.nilFunc, Value.nilFunc, Value.nilFunc, Value.nilFunc, Value.nilFunc, Value.nilFunc, Value.nilFunc, Value.nilFunc, Value.nilFunc, Value.nilFunc, Value.nilFunc, Value.nilFunc, Value.nilFunc, Value.nilFunc, Value.nilFunc] cmpC 53
  rw [e] at e2
  exact congrArg (Result.ok ()) e2

theorem nf_49 (F : Nat) (w : World) : (binOp .neq 49 (.func (.func F) #[] #[]) .nilFunc).run Try.prog w = .ok (.bool true) w := by kernel_rfl
theorem nn_49 (w : World) : (binOp .neq 49 .nilFunc .nilFunc).run Try.prog w = .ok (.bool false) w := by kernel_rfl
theorem nf_50 (F : Nat) (w : World) : (binOp .neq 50 (.func (.func F) #[] #[]) .nilFunc).run Try.prog w = .ok (.bool true) w := by kernel_rfl
theorem nn_50 (w : World) : (binOp .neq 50 .nilFunc .nilFunc).run Try.prog w = .ok (.bool false) w := by kernel_rfl
theorem fn_53 (a b : Int) (w : World) : Calls Try.prog 53 #[.int .u64 a, .int .u64 b] w fun e w' => e = .returned (.bool (a == b)) ∧ w = w' := by
  go_enter Try.func53, Try.ntmps53
  go_wp2
  go_ret
  exact ⟨rfl, rfl⟩
theorem cf_53 (xs : Array Value) (w : World) : (callFunc 53 xs).run Try.prog w = .ok (.enter 53 xs) w := by kernel_rfl
theorem fn_54 (a b : Int) (w : World) : Calls Try.prog 54 #[.int .u64 a, .int .u64 b] w fun e w' => e = .returned (.bool (a != b)) ∧ w = w' := by
  go_enter Try.func54, Try.ntmps54
  go_wp2
  go_ret
  exact ⟨rfl, rfl⟩
theorem cf_54 (xs : Array Value) (w : World) : (callFunc 54 xs).run Try.prog w = .ok (.enter 54 xs) w := by kernel_rfl
theorem fn_55 (a b : Int) (w : World) : Calls Try.prog 55 #[.int .u64 a, .int .u64 b] w fun e w' => e = .returned (.bool (decide (b < a))) ∧ w = w' := by
  go_enter Try.func55, Try.ntmps55
  go_wp2
  go_ret
  exact ⟨rfl, rfl⟩
theorem cf_55 (xs : Array Value) (w : World) : (callFunc 55 xs).run Try.prog w = .ok (.enter 55 xs) w := by kernel_rfl
theorem fn_56 (a b : Int) (w : World) : Calls Try.prog 56 #[.int .u64 a, .int .u64 b] w fun e w' => e = .returned (.bool (decide (b ≤ a))) ∧ w = w' := by
  go_enter Try.func56, Try.ntmps56
  go_wp2
  go_ret
  exact ⟨rfl, rfl⟩
theorem cf_56 (xs : Array Value) (w : World) : (callFunc 56 xs).run Try.prog w = .ok (.enter 56 xs) w := by kernel_rfl
theorem fn_57 (a b : Int) (w : World) : Calls Try.prog 57 #[.int .u64 a, .int .u64 b] w fun e w' => e = .returned (.bool (decide (a < b))) ∧ w = w' := by
  go_enter Try.func57, Try.ntmps57
  go_wp2
  go_ret
  exact ⟨rfl, rfl⟩
theorem cf_57 (xs : Array Value) (w : World) : (callFunc 57 xs).run Try.prog w = .ok (.enter 57 xs) w := by kernel_rfl
theorem fn_58 (a b : Int) (w : World) : Calls Try.prog 58 #[.int .u64 a, .int .u64 b] w fun e w' => e = .returned (.bool (decide (a ≤ b))) ∧ w = w' := by
  go_enter Try.func58, Try.ntmps58
  go_wp2
  go_ret
  exact ⟨rfl, rfl⟩
theorem cf_58 (xs : Array Value) (w : World) : (callFunc 58 xs).run Try.prog w = .ok (.enter 58 xs) w := by kernel_rfl
theorem fn_59 (a b : Int) (w : World) : Calls Try.prog 59 #[.int .u64 a, .int .u64 b] w fun e w' => e = .returned (.bool (bits .and .u64 a b != 0)) ∧ w = w' := by
  go_enter Try.func59, Try.ntmps59
  go_wp2
  go_ret
  exact ⟨rfl, rfl⟩
theorem cf_59 (xs : Array Value) (w : World) : (callFunc 59 xs).run Try.prog w = .ok (.enter 59 xs) w := by kernel_rfl
theorem fn_60 (a b : Int) (w : World) : Calls Try.prog 60 #[.int .i64 a, .int .i64 b] w fun e w' => e = .returned (.bool (decide (b < a))) ∧ w = w' := by
  go_enter Try.func60, Try.ntmps60
  go_wp2
  go_ret
  exact ⟨rfl, rfl⟩
theorem cf_60 (xs : Array Value) (w : World) : (callFunc 60 xs).run Try.prog w = .ok (.enter 60 xs) w := by kernel_rfl
theorem fn_61 (a b : Int) (w : World) : Calls Try.prog 61 #[.int .i64 a, .int .i64 b] w fun e w' => e = .returned (.bool (decide (b ≤ a))) ∧ w = w' := by
  go_enter Try.func61, Try.ntmps61
  go_wp2
  go_ret
  exact ⟨rfl, rfl⟩
theorem cf_61 (xs : Array Value) (w : World) : (callFunc 61 xs).run Try.prog w = .ok (.enter 61 xs) w := by kernel_rfl
theorem fn_62 (a b : Int) (w : World) : Calls Try.prog 62 #[.int .i64 a, .int .i64 b] w fun e w' => e = .returned (.bool (decide (a < b))) ∧ w = w' := by
  go_enter Try.func62, Try.ntmps62
  go_wp2
  go_ret
  exact ⟨rfl, rfl⟩
theorem cf_62 (xs : Array Value) (w : World) : (callFunc 62 xs).run Try.prog w = .ok (.enter 62 xs) w := by kernel_rfl
theorem fn_63 (a b : Int) (w : World) : Calls Try.prog 63 #[.int .i64 a, .int .i64 b] w fun e w' => e = .returned (.bool (decide (a ≤ b))) ∧ w = w' := by
  go_enter Try.func63, Try.ntmps63
  go_wp2
  go_ret
  exact ⟨rfl, rfl⟩
theorem cf_63 (xs : Array Value) (w : World) : (callFunc 63 xs).run Try.prog w = .ok (.enter 63 xs) w := by kernel_rfl

set_option maxHeartbeats 1000000 in
theorem cmp_u_wide (k F : Nat) (x y : Nat) (r : Bool) (hx : x < 18446744073709551616) (hy : y < 18446744073709551616) (hk : k < 14) (hU : cmpC[k * 2]? = some (.func (.func F) #[] #[])) (hS : cmpC[k * 2 + 1]? = some .nilFunc)
    (hcf : ∀ (xs : Array Value) (w : World), (callFunc F xs).run Try.prog w = .ok (.enter F xs) w)
    (hc : ∀ w, Calls Try.prog F #[.int .u64 x, .int .u64 y] w fun e w' => e = .returned (.bool r) ∧ w = w') (w : World) :
    Calls Try.prog 19 #[.int .i64 k, .bool true, .int .u64 x, .int .u64 y] w fun e w' => e = .returned (.tuple #[.bool r, .bool true]) ∧ Grown w w' := by
  have hsz : cmpC.size = 28 := rfl
  have hst := cmp_store w
  have hlt : (k : Int) < 14 := by omega
  have n1 := nf_49 F
  have n2 := nn_49
  have n3 := nf_50 F
  have n4 := nn_50
  have G := ((Grown.refl w).alloc cmpC 53).alloc cmpC 53
  go_enter Try.func19, Try.ntmps19
  go_wp2_with (first
    | (go_at_call 26; refine (comps_any _).mono ?_; rintro e w' ⟨rfl, rfl⟩)
    | ((with_reducible refine (hc _).mono ?_); rintro e w' ⟨rfl, rfl⟩))
  go_ret2
  exact ⟨rfl, G.alloc _ _⟩

set_option maxHeartbeats 1000000 in
theorem cmp_u_narrow (k F : Nat) (x y : Nat) (r : Bool) (hx : x < 18446744073709551616) (hy : y < 18446744073709551616) (hk : k < 14) (hU : cmpC[k * 2]? = some (.func (.func F) #[] #[])) (hS : cmpC[k * 2 + 1]? = some .nilFunc)
    (hcf : ∀ (xs : Array Value) (w : World), (callFunc F xs).run Try.prog w = .ok (.enter F xs) w)
    (hc : ∀ w, Calls Try.prog F #[.int .u64 (x % 4294967296), .int .u64 (y % 4294967296)] w fun e w' => e = .returned (.bool r) ∧ w = w') (w : World) :
    Calls Try.prog 19 #[.int .i64 k, .bool false, .int .u64 x, .int .u64 y] w fun e w' => e = .returned (.tuple #[.bool r, .bool true]) ∧ Grown w w' := by
  have hsz : cmpC.size = 28 := rfl
  have hst := cmp_store w
  have hlt : (k : Int) < 14 := by omega
  have n1 := nf_49 F
  have n2 := nn_49
  have n3 := nf_50 F
  have n4 := nn_50
  have G := ((Grown.refl w).alloc cmpC 53).alloc cmpC 53
  go_enter Try.func19, Try.ntmps19
  go_wp2_with (first
    | (go_at_call 26; refine (comps_any _).mono ?_; rintro e w' ⟨rfl, rfl⟩)
    | ((with_reducible refine (hc _).mono ?_); rintro e w' ⟨rfl, rfl⟩))
  go_ret2
  exact ⟨rfl, G.alloc _ _⟩

set_option maxHeartbeats 1000000 in
theorem cmp_s_wide (k F : Nat) (x y : Nat) (r : Bool) (hx : x < 18446744073709551616) (hy : y < 18446744073709551616) (hk : k < 14) (hU : cmpC[k * 2]? = some .nilFunc) (hS : cmpC[k * 2 + 1]? = some (.func (.func F) #[] #[]))
    (hcf : ∀ (xs : Array Value) (w : World), (callFunc F xs).run Try.prog w = .ok (.enter F xs) w)
    (hc : ∀ w, Calls Try.prog F #[.int .i64 (wrap64 x), .int .i64 (wrap64 y)] w fun e w' => e = .returned (.bool r) ∧ w = w') (w : World) :
    Calls Try.prog 19 #[.int .i64 k, .bool true, .int .u64 x, .int .u64 y] w fun e w' => e = .returned (.tuple #[.bool r, .bool true]) ∧ Grown w w' := by
  have hsz : cmpC.size = 28 := rfl
  have hst := cmp_store w
  have hlt : (k : Int) < 14 := by omega
  have n1 := nf_49 F
  have n2 := nn_49
  have n3 := nf_50 F
  have n4 := nn_50
  have G := ((Grown.refl w).alloc cmpC 53).alloc cmpC 53
  go_enter Try.func19, Try.ntmps19
  go_wp2_with (first
    | (go_at_call 26; refine (comps_any _).mono ?_; rintro e w' ⟨rfl, rfl⟩)
    | ((with_reducible refine (hc _).mono ?_); rintro e w' ⟨rfl, rfl⟩))
  go_ret2
  exact ⟨rfl, G.alloc _ _⟩

set_option maxHeartbeats 1000000 in
theorem cmp_s_narrow (k F : Nat) (x y : Nat) (r : Bool) (hx : x < 18446744073709551616) (hy : y < 18446744073709551616) (hk : k < 14) (hU : cmpC[k * 2]? = some .nilFunc) (hS : cmpC[k * 2 + 1]? = some (.func (.func F) #[] #[]))
    (hcf : ∀ (xs : Array Value) (w : World), (callFunc F xs).run Try.prog w = .ok (.enter F xs) w)
    (hc : ∀ w, Calls Try.prog F #[.int .i64 (wrap64 (wrap32 x)), .int .i64 (wrap64 (wrap32 y))] w fun e w' => e = .returned (.bool r) ∧ w = w') (w : World) :
    Calls Try.prog 19 #[.int .i64 k, .bool false, .int .u64 x, .int .u64 y] w fun e w' => e = .returned (.tuple #[.bool r, .bool true]) ∧ Grown w w' := by
  have hsz : cmpC.size = 28 := rfl
  have hst := cmp_store w
  have hlt : (k : Int) < 14 := by omega
  have n1 := nf_49 F
  have n2 := nn_49
  have n3 := nf_50 F
  have n4 := nn_50
  have G := ((Grown.refl w).alloc cmpC 53).alloc cmpC 53
  go_enter Try.func19, Try.ntmps19
  go_wp2_with (first
    | (go_at_call 26; refine (comps_any _).mono ?_; rintro e w' ⟨rfl, rfl⟩)
    | ((with_reducible refine (hc _).mono ?_); rintro e w' ⟨rfl, rfl⟩))
  go_ret2
  exact ⟨rfl, G.alloc _ _⟩

def lowZ (wide : Bool) (x : Int) : Int := if wide then x else x % 4294967296
def sgZ (wide : Bool) (x : Int) : Int := if wide then wrap64 x else wrap32 x
/-- What the comparison of code k tells. -/
def cmpN (k : Nat) (wide : Bool) (x y : Int) : Bool :=
  match k with
  | 1 => lowZ wide x == lowZ wide y
  | 2 => decide (lowZ wide y < lowZ wide x)
  | 3 => decide (lowZ wide y ≤ lowZ wide x)
  | 4 => bits .and .u64 (lowZ wide x) (lowZ wide y) != 0
  | 5 => lowZ wide x != lowZ wide y
  | 6 => decide (sgZ wide y < sgZ wide x)
  | 7 => decide (sgZ wide y ≤ sgZ wide x)
  | 10 => decide (lowZ wide x < lowZ wide y)
  | 11 => decide (lowZ wide x ≤ lowZ wide y)
  | 12 => decide (sgZ wide x < sgZ wide y)
  | 13 => decide (sgZ wide x ≤ sgZ wide y)
  | _ => false
/-- Is code k a comparison's? -/
def okN (k : Nat) : Bool := match k with | 0 => false | 8 => false | 9 => false | _ => true
theorem wrap_wrap (x : Int) : wrap64 (wrap32 x) = wrap32 x := by unfold wrap64 wrap32; omega

set_option maxHeartbeats 1000000 in
theorem cmp_none_wide (k : Nat) (x y : Nat) (hx : x < 18446744073709551616) (hy : y < 18446744073709551616) (hk : k < 14) (hU : cmpC[k * 2]? = some .nilFunc) (hS : cmpC[k * 2 + 1]? = some .nilFunc) (w : World) :
    Calls Try.prog 19 #[.int .i64 k, .bool true, .int .u64 x, .int .u64 y] w fun e w' => e = .returned (.tuple #[.bool false, .bool false]) ∧ Grown w w' := by
  have hsz : cmpC.size = 28 := rfl
  have hst := cmp_store w
  have hlt : (k : Int) < 14 := by omega
  have n2 := nn_49
  have n4 := nn_50
  have G := ((Grown.refl w).alloc cmpC 53).alloc cmpC 53
  go_enter Try.func19, Try.ntmps19
  go_wp2_with (go_at_call 26; refine (comps_any _).mono ?_; rintro e w' ⟨rfl, rfl⟩)
  go_ret2
  exact ⟨rfl, G.alloc _ _⟩

set_option maxHeartbeats 1000000 in
theorem cmp_none_narrow (k : Nat) (x y : Nat) (hx : x < 18446744073709551616) (hy : y < 18446744073709551616) (hk : k < 14) (hU : cmpC[k * 2]? = some .nilFunc) (hS : cmpC[k * 2 + 1]? = some .nilFunc) (w : World) :
    Calls Try.prog 19 #[.int .i64 k, .bool false, .int .u64 x, .int .u64 y] w fun e w' => e = .returned (.tuple #[.bool false, .bool false]) ∧ Grown w w' := by
  have hsz : cmpC.size = 28 := rfl
  have hst := cmp_store w
  have hlt : (k : Int) < 14 := by omega
  have n2 := nn_49
  have n4 := nn_50
  have G := ((Grown.refl w).alloc cmpC 53).alloc cmpC 53
  go_enter Try.func19, Try.ntmps19
  go_wp2_with (go_at_call 26; refine (comps_any _).mono ?_; rintro e w' ⟨rfl, rfl⟩)
  go_ret2
  exact ⟨rfl, G.alloc _ _⟩
end Go.Proofs.Ytilbfnnncmjmfaa
