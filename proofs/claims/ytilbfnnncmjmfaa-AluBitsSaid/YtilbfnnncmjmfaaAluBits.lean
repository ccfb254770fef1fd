/-
  Or, And and Xor of alu.Do: the sum and the difference of what both and what one of two numbers have, and twice xored: for every input, without a condition.
-/
import Derived.Test.YtilbfnnncmjmfaaDo
import Derived.WalkKit
import Derived.ProofKit
import Derived.OpenShut
namespace Go.Proofs.Ytilbfnnncmjmfaa.aluBits
open Go.ChangeShapes Go.WideShapes Go.ChangeAt Go.RowKit
set_option linter.unusedVariables false      -- a walk need not use every 'w<i>' (that an integer argument fits its kind)


theorem own : ownKnob Try.prog.godebug = none := by kernel_rfl

/-! ### STEP 1: THE WALK: the Go text returns true. 'Grown w w'': the world has at most new blocks (Derived/RowKit3.lean). Part the cases AHEAD of 'go_enter' where a test parts the walk; take each callee by a contract of your own. -/
theorem walk (a0 : Bool) (a1 : Int) (a2 : Int) (w1 : (Lit.int .u64 a1).wf = true) (w2 : (Lit.int .u64 a2).wf = true) (w : World) :
    Calls Try.prog 9 #[.bool a0, .int .u64 a1, .int .u64 a2] w fun e w' => e = .returned (.bool true) ∧ Grown w w' := by
  obtain ⟨x, rfl, hx⟩ := nat_of_wf w1
  obtain ⟨y, rfl, hy⟩ := nat_of_wf w2
  clear w1 w2
  obtain ⟨e1, e2, e3⟩ := bits_laws a0 x y hx hy
  have h4 := doN_lt 4 a0 x y hx hy
  have h5 := doN_lt 5 a0 x y hx hy
  have h10 := doN_lt 10 a0 x y hx hy
  have c1 : ∀ w, Calls Try.prog 11 #[.int .i64 4, .bool a0, .int .u64 x, .int .u64 y] w fun e w' => e = .returned (.tuple #[.int .u64 (doN 4 a0 x y : Nat), .bool true]) ∧ Grown w w' := do_any 4 (by omega) a0 x y hx hy
  have c2 : ∀ w, Calls Try.prog 11 #[.int .i64 5, .bool a0, .int .u64 x, .int .u64 y] w fun e w' => e = .returned (.tuple #[.int .u64 (doN 5 a0 x y : Nat), .bool true]) ∧ Grown w w' := do_any 5 (by omega) a0 x y hx hy
  have c3 : ∀ w, Calls Try.prog 11 #[.int .i64 10, .bool a0, .int .u64 x, .int .u64 y] w fun e w' => e = .returned (.tuple #[.int .u64 (doN 10 a0 x y : Nat), .bool true]) ∧ Grown w w' := do_any 10 (by omega) a0 x y hx hy
  have c4 : ∀ w, Calls Try.prog 11 #[.int .i64 10, .bool a0, .int .u64 (doN 10 a0 x y : Nat), .int .u64 y] w fun e w' => e = .returned (.tuple #[.int .u64 (lowN a0 x : Nat), .bool true]) ∧ Grown w w' := e3 ▸ do_any 10 (by omega) a0 _ y h10 hy
  have c5 : ∀ w, Calls Try.prog 11 #[.int .i64 0, .bool a0, .int .u64 (doN 4 a0 x y : Nat), .int .u64 (doN 5 a0 x y : Nat)] w fun e w' => e = .returned (.tuple #[.int .u64 (doN 0 a0 x y : Nat), .bool true]) ∧ Grown w w' := e1 ▸ do_any 0 (by omega) a0 _ _ h4 h5
  have c6 : ∀ w, Calls Try.prog 11 #[.int .i64 0, .bool a0, .int .u64 x, .int .u64 y] w fun e w' => e = .returned (.tuple #[.int .u64 (doN 0 a0 x y : Nat), .bool true]) ∧ Grown w w' := do_any 0 (by omega) a0 x y hx hy
  have c7 : ∀ w, Calls Try.prog 11 #[.int .i64 1, .bool a0, .int .u64 (doN 4 a0 x y : Nat), .int .u64 (doN 5 a0 x y : Nat)] w fun e w' => e = .returned (.tuple #[.int .u64 (doN 10 a0 x y : Nat), .bool true]) ∧ Grown w w' := e2 ▸ do_any 1 (by omega) a0 _ _ h4 h5
  clear e1 e2 e3 h4 h5 h10
  cases a0
  all_goals
    go_enter Try.func9, Try.ntmps9
    go_wp2_with (first
      | (go_at_call 10; refine (known_any _).mono ?_; rintro e w1 ⟨rfl, g0⟩)
      | ((with_reducible refine (c1 _).mono ?_); rintro e w1 ⟨rfl, g1⟩)
      | ((with_reducible refine (c2 _).mono ?_); rintro e w1 ⟨rfl, g2⟩)
      | ((with_reducible refine (c3 _).mono ?_); rintro e w1 ⟨rfl, g3⟩)
      | ((with_reducible refine (c4 _).mono ?_); rintro e w1 ⟨rfl, g4⟩)
      | ((with_reducible refine (c5 _).mono ?_); rintro e w1 ⟨rfl, g5⟩)
      | ((with_reducible refine (c6 _).mono ?_); rintro e w1 ⟨rfl, g6⟩)
      | ((with_reducible refine (c7 _).mono ?_); rintro e w1 ⟨rfl, g7⟩))
    go_ret
    exact ⟨ret_true (by simp [lowN]), grown_trans g0 (grown_trans g1 (grown_trans g2 (grown_trans g3 (grown_trans g4 (grown_trans g5 (grown_trans g6 g7))))))⟩

/-! ### THE ROW's STEP: WRITTEN OUT: LEAVE IT -/
set_option maxRecDepth 100000 in
theorem lifted (os : Os) (started : os.Started) (H : Type) (enc : TypeId × Value → H) :
    ReturnsInHanded {} Try.checked os 9 .any (Rows.aluBitsSpec.pre6 enc Try.prog Try.f9 Rows.aluBitsRow.domain false) (Rows.aluBitsSpec.post enc Try.prog Try.f9 false true false false) := by
  refine returnsInHanded_of_change (C := Try.checked) own started (by kernel_rfl) Try.func9
    (ChangeSpec.witness6 (enc := enc) (C := Try.checked) false ⟨#[], #[.bool false, .int .u64 0, .int .u64 0], []⟩ 8 (by kernel_rfl) (by kernel_rfl) (by kernel_rfl) (by kernel_rfl)) ?_
  intro W base args ds gs before hval0 hW hcnd _
  have hval : ∀ (j : Nat) t v, Try.f9.params[j]? = some t → args[j]? = some v → Value.okWide Try.prog W .any base t v := hval0
  have hW' := hW
  obtain ⟨p, q, hA0, hV, rfl, hfz, hnd⟩ := hW
  have hA : DataW.TrodAll enc Try.prog W 0 (fun _ => true) true Try.f9.params.toList args.toList ds p := hA0
  rw [Try.params9] at hA hval
  obtain ⟨v0, vs0, d0, ds0, p0, q0, hargs, rfl, rfl, h0, r0⟩ := trodAll_cons hA
  obtain ⟨v1, vs1, d1, ds1, p1, q1, rfl, rfl, rfl, h1, r1⟩ := trodAll_cons r0
  obtain ⟨v2, vs2, d2, ds2, p2, q2, rfl, rfl, rfl, h2, r2⟩ := trodAll_cons r1
  obtain ⟨rfl, rfl, rfl⟩ := trodAll_nil r2
  obtain rfl : args = #[v0, v1, v2] := by cases args; simp_all
  obtain ⟨rfl, rfl⟩ := trodVars_none hV
  obtain ⟨a0, rfl, rfl, rfl⟩ := open_bool Try.underlying4 (hval 0 4 v0 rfl rfl) h0
  obtain ⟨a1, rfl, rfl, rfl, w1⟩ := open_int Try.underlying22 (hval 1 22 v1 rfl rfl) h1
  obtain ⟨a2, rfl, rfl, rfl, w2⟩ := open_int Try.underlying22 (hval 2 22 v2 rfl rfl) h2
  clear hA0 hval0
  simp only [List.append_nil] at hW'
  refine (walk a0 a1 a2 w1 w2 W).mono fun e W' ⟨he, hg⟩ => ?_
  subst he
  exact ⟨_, rfl, post_of_same (pa := []) (pv := []) hW' (fun _ _ _ => (trodAll_cons_mk (shut_bool Try.underlying4 _) trodAll_mk0)) (fun sp _ => (trodAll_cons_mk (shut_bool Try.underlying4 _) (trodAll_cons_mk (shut_int Try.underlying22 w1) (trodAll_cons_mk (shut_int Try.underlying22 w2) trodAll_mk0)))) (fun _ _ => rfl) rfl
    (hg.frame _) hg.2.1 (ok_one (by kernel_rfl) rfl (okWide_bool_mk Try.underlying4 _))⟩

theorem over : Rows.aluBitsRow.holds Try.pinned (OpenSpec.ofChange Rows.aluBitsSpec) :=
  OpenClaim.holds_of_wide 9 Try.f9 rfl rfl rfl rfl rfl rfl rfl ⟨rfl, rfl, rfl, rfl, rfl⟩ rfl rfl rfl rfl rfl (by kernel_rfl) Try.func9 (by kernel_rfl)
    (of_decide_eq_true (by kernel_rfl)) (by unfold Func.isWrapper; first | (rw [if_pos (by decide +kernel)]; kernel_rfl) | (rw [if_neg (by decide +kernel)]; exact ⟨rfl, rfl⟩))
    (fun os started H enc _ => lifted os started H enc)

/-- ████ THE STATEMENT ████ -/
theorem proved : Rows.AluBitsSaid :=
  over
#print axioms proved
end Go.Proofs.Ytilbfnnncmjmfaa.aluBits
