/-
  Each helper's shape.
-/
import Derived.Test.YtknmpllnclkghaaBs
import Derived.Test.YtknmpllnclkghaaSp0
import Derived.Test.YtknmpllnclkghaaSp1
import Derived.Test.YtknmpllnclkghaaSp2
import Derived.Test.YtknmpllnclkghaaSp3
import Derived.ProofKit
namespace Go.Proofs.Ytknmpllnclkghaa.protoShape
open Go.ChangeShapes Go.WideShapes Go.ChangeAt Go.RowKit Go.Joins
set_option linter.unusedVariables false
set_option linter.unusedSimpArgs false
theorem eqZ : ∀ w, (binOp .eql 25 (.agg #[.string ⟨#[]⟩, .int .i64 0, .int .i64 0, .int .i64 0, .int .i64 0, .int .i64 0, .int .i64 0, .int .i64 0, .bool false, .bool false]) (.agg #[.string ⟨#[]⟩, .int .i64 0, .int .i64 0, .int .i64 0, .int .i64 0, .int .i64 0, .int .i64 0, .int .i64 0, .bool false, .bool false])).run Try.prog w = .ok (.bool true) w := fun _ => by kernel_rfl
set_option maxHeartbeats 1000000 in
set_option maxRecDepth 100000 in
theorem walkNo (n : Int) (h : n < 1 ∨ 28 < n) (w : World) : Calls Try.prog 4 #[.int .i64 n] w fun e w' => e = .returned (.bool true) ∧ Below w.heap.size w w' := by
  have hO := Lib.hid (of_no n h)
  rcases h with h | h
  all_goals
    first
      | (have t1 : decide (n < 1) = true := by simpa using h)
      | (have t1 : decide (n < 1) = false := by simp; omega
         have t2 : decide (28 < n) = true := by simpa using h)
    clear h
    have hE := eqZ
    go_enter Try.func4, Try.ntmps4
    go_wp2_with (first
      | ((with_reducible refine (known_any _).mono ?_); rintro e w1 ⟨rfl, g1⟩)
      | ((with_reducible refine (hO.out _).mono ?_); rintro e w2 ⟨rfl, g2⟩))
    go_ret
    exact ⟨rfl, Below.trans g1 (Below.trans (g2.mono g1.size) ((Below.refl _ _).alloc (Nat.le_trans g1.size g2.size) _))⟩
set_option maxRecDepth 100000 in
theorem walk (a0 : Int) (w : World) : Calls Try.prog 4 #[.int .i64 a0] w fun e w' => e = .returned (.bool true) ∧ Below w.heap.size w w' := by
  by_cases h : a0 < 1 ∨ 28 < a0
  · exact walkNo a0 h w
  · obtain ⟨n, rfl⟩ : ∃ n : Nat, a0 = n := ⟨a0.toNat, by omega⟩
    have h1 : 1 ≤ n := by omega
    have h2 : n ≤ 28 := by omega
    clear h
    match n, h1, h2 with
    | 1, _, _ => exact shape_1 w
    | 2, _, _ => exact shape_2 w
    | 3, _, _ => exact shape_3 w
    | 4, _, _ => exact shape_4 w
    | 5, _, _ => exact shape_5 w
    | 6, _, _ => exact shape_6 w
    | 7, _, _ => exact shape_7 w
    | 8, _, _ => exact shape_8 w
    | 9, _, _ => exact shape_9 w
    | 10, _, _ => exact shape_10 w
    | 11, _, _ => exact shape_11 w
    | 12, _, _ => exact shape_12 w
    | 13, _, _ => exact shape_13 w
    | 14, _, _ => exact shape_14 w
    | 15, _, _ => exact shape_15 w
    | 16, _, _ => exact shape_16 w
    | 17, _, _ => exact shape_17 w
    | 18, _, _ => exact shape_18 w
    | 19, _, _ => exact shape_19 w
    | 20, _, _ => exact shape_20 w
    | 21, _, _ => exact shape_21 w
    | 22, _, _ => exact shape_22 w
    | 23, _, _ => exact shape_23 w
    | 24, _, _ => exact shape_24 w
    | 25, _, _ => exact shape_25 w
    | 26, _, _ => exact shape_26 w
    | 27, _, _ => exact shape_27 w
    | 28, _, _ => exact shape_28 w
    | n + 29, _, h => omega

theorem own : ownKnob Try.prog.godebug = none := by kernel_rfl
set_option maxRecDepth 100000 in
theorem lifted (os : Os) (started : os.Started) (H : Type) (enc : TypeId × Value → H) :
    ReturnsInHanded {} Try.checked os 4 .any (Rows.protoShapeSpec.pre6 enc Try.prog Try.f4 Rows.protoShapeRow.domain false) (Rows.protoShapeSpec.post enc Try.prog Try.f4 false true false false) := by
  refine returnsInHanded_of_change (C := Try.checked) own started (by kernel_rfl) Try.func4
    (ChangeSpec.witness6 (enc := enc) (C := Try.checked) false ⟨#[], #[.int .i64 0], []⟩ 8 (by kernel_rfl) (by kernel_rfl) (by kernel_rfl) (by kernel_rfl)) ?_
  intro W base args ds gs before hval0 hW hcnd _
  have hval : ∀ (j : Nat) t v, Try.f4.params[j]? = some t → args[j]? = some v → Value.okWide Try.prog W .any base t v := hval0
  have hW' := hW
  obtain ⟨p, q, hA0, hV, rfl, hfz, hnd⟩ := hW
  have hA : DataW.TrodAll enc Try.prog W 0 (fun _ => true) true Try.f4.params.toList args.toList ds p := hA0
  rw [Try.params4] at hA hval
  obtain ⟨v0, vs0, d0, ds0, p0, q0, hargs, rfl, rfl, h0, r0⟩ := trodAll_cons hA
  obtain ⟨rfl, rfl, rfl⟩ := trodAll_nil r0
  obtain rfl : args = #[v0] := by cases args; simp_all
  obtain ⟨rfl, rfl⟩ := trodVars_none hV
  obtain ⟨a0, rfl, rfl, rfl, w0⟩ := open_int Try.underlying3 (hval 0 3 v0 rfl rfl) h0
  clear hA0 hval0
  simp only [List.append_nil] at hW'
  refine (walk a0 W).mono fun e W' ⟨he, hg⟩ => ?_
  subst he
  exact ⟨_, rfl, post_of_below (pa := []) (pv := []) hW' (fun _ _ _ => (trodAll_cons_mk (shut_bool Try.underlying4 _) trodAll_mk0)) (fun sp _ => (trodAll_cons_mk (shut_int Try.underlying3 w0) trodAll_mk0)) (fun _ _ => rfl) rfl
    hg (ok_one (by kernel_rfl) rfl (okWide_bool_mk Try.underlying4 _))⟩

theorem over : Rows.protoShapeRow.holds Try.pinned (OpenSpec.ofChange Rows.protoShapeSpec) :=
  OpenClaim.holds_of_wide 4 Try.f4 rfl rfl rfl rfl rfl rfl rfl ⟨rfl, rfl, rfl, rfl, rfl⟩ rfl rfl rfl rfl rfl (by kernel_rfl) Try.func4 (by kernel_rfl)
    (of_decide_eq_true (by kernel_rfl)) (by unfold Func.isWrapper; first | (rw [if_pos (by decide +kernel)]; kernel_rfl) | (rw [if_neg (by decide +kernel)]; exact ⟨rfl, rfl⟩))
    (fun os started H enc _ => lifted os started H enc)

/-- The statement. -/
theorem proved : Rows.ProtoShapeSaid :=
  over
end Go.Proofs.Ytknmpllnclkghaa.protoShape
