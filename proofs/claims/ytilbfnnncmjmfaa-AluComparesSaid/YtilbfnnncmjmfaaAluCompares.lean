/-
  Every comparison of alu.Cmp of every two numbers is the document's, and has its contrary: for every input, without a condition.
-/
import Derived.Test.YtilbfnnncmjmfaaRefCmp
import Derived.Lib.Hide
import Derived.Great.Walk
import Derived.WalkKit
import Derived.ProofKit
import Derived.OpenShut
namespace Go.Proofs.Ytilbfnnncmjmfaa.aluCompares
open Go.ChangeShapes Go.WideShapes Go.ChangeAt Go.RowKit
set_option linter.unusedVariables false      -- a walk need not use every 'w<i>' (that an integer argument fits its kind)

theorem own : ownKnob Try.prog.godebug = none := by kernel_rfl


/-- The pairs of contrary comparisons, as the law's text lays them. -/
def pairC : Array Value := #[.int .i64 1, .int .i64 5, .int .i64 5, .int .i64 1, .int .i64 2, .int .i64 11, .int .i64 11, .int .i64 2, .int .i64 3, .int .i64 10, .int .i64 10, .int .i64 3, .int .i64 6, .int .i64 13, .int .i64 13, .int .i64 6, .int .i64 7, .int .i64 12, .int .i64 12, .int .i64 7]
def P0 (k : Nat) : Nat := match k with | 0 => 1 | 1 => 5 | 2 => 2 | 3 => 11 | 4 => 3 | 5 => 10 | 6 => 6 | 7 => 13 | 8 => 7 | _ => 12
def P1 (k : Nat) : Nat := match k with | 0 => 5 | 1 => 1 | 2 => 11 | 3 => 2 | 4 => 10 | 5 => 3 | 6 => 13 | 7 => 6 | 8 => 12 | _ => 7
theorem pair_lt (k : Nat) : P1 k < 14 := by unfold P1; split <;> omega
theorem pair_0 (k : Nat) (hk : k < 10) : pairC[k * 2]? = some (.int .i64 (P0 k : Nat)) := by
  match k, hk with
  | 0, _ => rfl
  | 1, _ => rfl
  | 2, _ => rfl
  | 3, _ => rfl
  | 4, _ => rfl
  | 5, _ => rfl
  | 6, _ => rfl
  | 7, _ => rfl
  | 8, _ => rfl
  | 9, _ => rfl
theorem pair_1 (k : Nat) (hk : k < 10) : pairC[k * 2 + 1]? = some (.int .i64 (P1 k : Nat)) := by
  match k, hk with
  | 0, _ => rfl
  | 1, _ => rfl
  | 2, _ => rfl
  | 3, _ => rfl
  | 4, _ => rfl
  | 5, _ => rfl
  | 6, _ => rfl
  | 7, _ => rfl
  | 8, _ => rfl
  | 9, _ => rfl
theorem not_lt_dec (a b : Int) : decide (a < b) = !decide (b ≤ a) := by rw [Bool.eq_iff_iff]; simp
theorem contrary (k : Nat) (hk : k < 10) (wide : Bool) (x y : Int) : cmpN (P1 k) wide x y = !cmpN (P0 k) wide x y := by
  match k, hk with
  | 0, _ => simp only [P0, P1, cmpN]; rfl
  | 1, _ => simp only [P0, P1, cmpN, bne, Bool.not_not]
  | 2, _ => simp [P0, P1, cmpN, not_lt_dec]
  | 3, _ => simp [P0, P1, cmpN, not_lt_dec]
  | 4, _ => simp [P0, P1, cmpN, not_lt_dec]
  | 5, _ => simp [P0, P1, cmpN, not_lt_dec]
  | 6, _ => simp [P0, P1, cmpN, not_lt_dec]
  | 7, _ => simp [P0, P1, cmpN, not_lt_dec]
  | 8, _ => simp [P0, P1, cmpN, not_lt_dec]
  | 9, _ => simp [P0, P1, cmpN, not_lt_dec]


/-! ### STEP 1: THE WALK: the Go text returns true. 'Grown w w'': the world has at most new blocks (Derived/RowKit3.lean). Part the cases AHEAD of 'go_enter' where a test parts the walk; take each callee by a contract of your own. -/
set_option maxRecDepth 100000 in
set_option maxHeartbeats 1000000 in
theorem walk (a0 : Int) (a1 : Bool) (a2 : Int) (a3 : Int) (w0 : (Lit.int .i64 a0).wf = true) (w2 : (Lit.int .u64 a2).wf = true) (w3 : (Lit.int .u64 a3).wf = true) (w : World) :
    Calls Try.prog 5 #[.int .i64 a0, .bool a1, .int .u64 a2, .int .u64 a3] w fun e w' => e = .returned (.bool true) ∧ Grown w w' := by
  obtain ⟨x, rfl, hx⟩ := nat_of_wf w2
  obtain ⟨y, rfl, hy⟩ := nat_of_wf w3
  have b0 := bounds_i64 w0
  clear w0 w2 w3
  obtain ⟨v, o, c1, c2, hP⟩ : ∃ (v o : Bool),
      (∀ w, Calls Try.prog 19 #[.int .i64 a0, .bool a1, .int .u64 x, .int .u64 y] w fun e w' => e = .returned (.tuple #[.bool v, .bool o]) ∧ Grown w w') ∧
      (∀ w, Calls Try.prog 20 #[.int .i64 a0, .bool a1, .int .u64 x, .int .u64 y] w fun e w' => e = .returned (.tuple #[.bool v, .bool o]) ∧ w = w') ∧
      (∀ k, k < 10 → (P0 k : Int) = a0 → cmpN (P1 k) a1 x y = !v) := by
    by_cases hk : 0 ≤ a0 ∧ a0 < 14
    · obtain ⟨k, rfl⟩ : ∃ k : Nat, a0 = k := ⟨a0.toNat, by omega⟩
      refine ⟨cmpN k a1 x y, okN k, cmp_any k (by omega) a1 x y hx hy, refc_any k (by omega) a1 x y hx hy, fun j hj he => ?_⟩
      have : P0 j = k := by omega
      rw [← this]
      exact contrary j hj a1 x y
    · refine ⟨false, false, cmp_out a0 (by omega) a1 x y, refc_out a0 (by omega) a1 x y hx hy, fun j hj he => ?_⟩
      exfalso
      have : P0 j < 14 := by unfold P0; split <;> omega
      omega
  have HP := Lib.hid hP
  have c3 : ∀ k w, Calls Try.prog 19 #[.int .i64 (P1 k : Nat), .bool a1, .int .u64 x, .int .u64 y] w fun e w' => e = .returned (.tuple #[.bool (cmpN (P1 k) a1 x y), .bool (okN (P1 k))]) ∧ Grown w w' := fun k => cmp_any (P1 k) (pair_lt k) a1 x y hx hy
  clear hP b0 hx hy
  go_enter Try.func5, Try.ntmps5
  go_wp2_with (first
    | (go_at_call 10; refine (known_any _).mono ?_; rintro e w1 ⟨rfl, gk⟩)
    | ((with_reducible refine (c1 _).mono ?_); rintro e w1 ⟨rfl, g1⟩)
    | ((with_reducible refine (c2 _).mono ?_); rintro e w1 ⟨rfl, rfl⟩)
    | ((with_reducible refine Great.wpList_allocTo (o := ⟨some 13, .alloc 34, _, _, _, _⟩) rfl (some 13) rfl (.pointer (some ⟨w1.heap.size, 0, none⟩)) (.cells (Array.replicate 20 (.int .i64 0)) 34) ?h0 ?h9); (case h0 => kernel_rfl))
    | ((with_reducible refine wpList_store_row (o := ⟨none, .store 34 (.tmp 13) (.tmp 53), _, _, _, _⟩) rfl 34 (.tmp 13) (.tmp 53) rfl w1.heap.size pairC ?h1 ?h2 34 (Array.replicate 20 (.int .i64 0)) ?h3 ?h4 ?h5 ?h6 ?h7); (case h1 => rfl); (case h2 => rfl); (case h3 => exact (heap_alloc_new _ _)); (case h4 => kernel_rfl); (case h5 => kernel_rfl); (case h6 => kernel_rfl); (rw [alloc_setRow])))
  go_loopw [14] (fun i wr => ∃ k : Nat, k ≤ 10 ∧ i = .int .i64 k ∧ Grown (w1.alloc (.cells pairC 34)) wr) (fun i _ => 10 - (intOf i).toNat)
  case atStart => exact ⟨0, by omega, rfl, Grown.refl _⟩
  case round =>
    obtain ⟨k, hk, rfl, hg⟩ := hrel
    rename_i wr
    have hsz : w1.heap.size < (w1.alloc (.cells pairC 34)).heap.size := by show _ < (w1.heap.push _).size; simp
    have hcell : ∀ j, wr.cell? ⟨w1.heap.size, j, none⟩ = pairC[j]? := fun j => (hg.1.cell hsz (fun h => h)).trans (cell_of_row _ _ _ _ _ (0, 0) (heap_alloc_new _ _))
    by_cases hlt : k < 10
    · have hc0 := (hcell (k * 2)).trans (pair_0 k hlt)
      have hc1 := (hcell (k * 2 + 1)).trans (pair_1 k hlt)
      clear hcell hsz
      by_cases heq : (P0 k : Int) = a0
      · have hu := HP.out k hlt heq
        have ht : ((P0 k : Int) == a0) = true := by simpa using heq
        have c4 : ∀ w, Calls Try.prog 19 #[.int .i64 (P1 k : Nat), .bool a1, .int .u64 x, .int .u64 y] w fun e w' => e = .returned (.tuple #[.bool (!v), .bool (okN (P1 k))]) ∧ Grown w w' := hu ▸ c3 k
        clear hu heq c3 c1 c2
        go_wp2_with ((with_reducible refine (c4 _).mono ?_); rintro e w2 ⟨rfl, g2⟩)
        go_roundw
        case rel => exact ⟨k + 1, by omega, by go_num, grown_trans hg g2⟩
        case measure => simp [intOf]; omega
      · have ht : ((P0 k : Int) == a0) = false := by simpa using heq
        clear heq c3 c1 c2
        go_wp2
        go_roundw
        case rel => exact ⟨k + 1, by omega, by go_num, hg⟩
        case measure => simp [intOf]; omega
    · clear hcell hsz c3 c1 c2
      go_wp2
      go_ret
      exact ⟨rfl, grown_trans gk (grown_trans g1 (grown_trans ((Grown.refl w1).alloc pairC 34) hg))⟩

/-! ### THE ROW's STEP: WRITTEN OUT: LEAVE IT -/
set_option maxRecDepth 100000 in
theorem lifted (os : Os) (started : os.Started) (H : Type) (enc : TypeId × Value → H) :
    ReturnsInHanded {} Try.checked os 5 .any (Rows.aluComparesSpec.pre6 enc Try.prog Try.f5 Rows.aluComparesRow.domain false) (Rows.aluComparesSpec.post enc Try.prog Try.f5 false true false false) := by
  refine returnsInHanded_of_change (C := Try.checked) own started (by kernel_rfl) Try.func5
    (ChangeSpec.witness6 (enc := enc) (C := Try.checked) false ⟨#[], #[.int .i64 0, .bool false, .int .u64 0, .int .u64 0], []⟩ 8 (by kernel_rfl) (by kernel_rfl) (by kernel_rfl) (by kernel_rfl)) ?_
  intro W base args ds gs before hval0 hW hcnd _
  have hval : ∀ (j : Nat) t v, Try.f5.params[j]? = some t → args[j]? = some v → Value.okWide Try.prog W .any base t v := hval0
  have hW' := hW
  obtain ⟨p, q, hA0, hV, rfl, hfz, hnd⟩ := hW
  have hA : DataW.TrodAll enc Try.prog W 0 (fun _ => true) true Try.f5.params.toList args.toList ds p := hA0
  rw [Try.params5] at hA hval
  obtain ⟨v0, vs0, d0, ds0, p0, q0, hargs, rfl, rfl, h0, r0⟩ := trodAll_cons hA
  obtain ⟨v1, vs1, d1, ds1, p1, q1, rfl, rfl, rfl, h1, r1⟩ := trodAll_cons r0
  obtain ⟨v2, vs2, d2, ds2, p2, q2, rfl, rfl, rfl, h2, r2⟩ := trodAll_cons r1
  obtain ⟨v3, vs3, d3, ds3, p3, q3, rfl, rfl, rfl, h3, r3⟩ := trodAll_cons r2
  obtain ⟨rfl, rfl, rfl⟩ := trodAll_nil r3
  obtain rfl : args = #[v0, v1, v2, v3] := by cases args; simp_all
  obtain ⟨rfl, rfl⟩ := trodVars_none hV
  obtain ⟨a0, rfl, rfl, rfl, w0⟩ := open_int Try.underlying3 (hval 0 3 v0 rfl rfl) h0
  obtain ⟨a1, rfl, rfl, rfl⟩ := open_bool Try.underlying4 (hval 1 4 v1 rfl rfl) h1
  obtain ⟨a2, rfl, rfl, rfl, w2⟩ := open_int Try.underlying22 (hval 2 22 v2 rfl rfl) h2
  obtain ⟨a3, rfl, rfl, rfl, w3⟩ := open_int Try.underlying22 (hval 3 22 v3 rfl rfl) h3
  clear hA0 hval0
  simp only [List.append_nil] at hW'
  refine (walk a0 a1 a2 a3 w0 w2 w3 W).mono fun e W' ⟨he, hg⟩ => ?_
  subst he
  exact ⟨_, rfl, post_of_same (pa := []) (pv := []) hW' (fun _ _ _ => (trodAll_cons_mk (shut_bool Try.underlying4 _) trodAll_mk0)) (fun sp _ => (trodAll_cons_mk (shut_int Try.underlying3 w0) (trodAll_cons_mk (shut_bool Try.underlying4 _) (trodAll_cons_mk (shut_int Try.underlying22 w2) (trodAll_cons_mk (shut_int Try.underlying22 w3) trodAll_mk0))))) (fun _ _ => rfl) rfl
    (hg.frame _) hg.2.1 (ok_one (by kernel_rfl) rfl (okWide_bool_mk Try.underlying4 _))⟩

theorem over : Rows.aluComparesRow.holds Try.pinned (OpenSpec.ofChange Rows.aluComparesSpec) :=
  OpenClaim.holds_of_wide 5 Try.f5 rfl rfl rfl rfl rfl rfl rfl ⟨rfl, rfl, rfl, rfl, rfl⟩ rfl rfl rfl rfl rfl (by kernel_rfl) Try.func5 (by kernel_rfl)
    (of_decide_eq_true (by kernel_rfl)) (by unfold Func.isWrapper; first | (rw [if_pos (by decide +kernel)]; kernel_rfl) | (rw [if_neg (by decide +kernel)]; exact ⟨rfl, rfl⟩))
    (fun os started H enc _ => lifted os started H enc)

/-- ████ THE STATEMENT ████ -/
theorem proved : Rows.AluComparesSaid :=
  over
#print axioms proved
end Go.Proofs.Ytilbfnnncmjmfaa.aluCompares
