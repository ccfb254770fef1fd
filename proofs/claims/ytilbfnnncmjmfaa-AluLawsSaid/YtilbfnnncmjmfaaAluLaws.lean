/-
  Sums and products of alu.Do go both ways, quotient and rest make the number, and what is not wide hangs on the lowest 32 bits alone: for every input, without a condition.
-/
import Derived.Test.YtilbfnnncmjmfaaDo
import Derived.Test.YtilbfnnncmjmfaaMathB
import Derived.WalkKit
import Derived.ProofKit
import Derived.OpenShut
namespace Go.Proofs.Ytilbfnnncmjmfaa.aluLaws
open Go.ChangeShapes Go.WideShapes Go.ChangeAt Go.RowKit
set_option linter.unusedVariables false      -- a walk need not use every 'w<i>' (that an integer argument fits its kind)

theorem own : ownKnob Try.prog.godebug = none := by kernel_rfl


/-! ### STEP 1: THE WALK: the Go text returns true. 'Grown w w'': the world has at most new blocks (Derived/RowKit3.lean). Part the cases AHEAD of 'go_enter' where a test parts the walk; take each callee by a contract of your own. -/
set_option maxRecDepth 100000 in
set_option maxHeartbeats 1000000 in
theorem walk (a0 : Int) (a1 : Bool) (a2 : Int) (a3 : Int) (w0 : (Lit.int .i64 a0).wf = true) (w2 : (Lit.int .u64 a2).wf = true) (w3 : (Lit.int .u64 a3).wf = true) (w : World) :
    Calls Try.prog 6 #[.int .i64 a0, .bool a1, .int .u64 a2, .int .u64 a3] w fun e w' => e = .returned (.bool true) ∧ Grown w w' := by
  obtain ⟨x, rfl, hx⟩ := nat_of_wf w2
  obtain ⟨y, rfl, hy⟩ := nat_of_wf w3
  have b0 := bounds_i64 w0
  clear w0 w2 w3
  have h3 := doN_lt 3 a1 x y hx hy
  have h9 := doN_lt 9 a1 x y hx hy
  have h2 := doN_lt 2 a1 (doN 3 a1 x y) y h3 hy
  have ea := add_comm_do a1 x y
  have em := mul_comm_do a1 x y
  have eq := quo_rem a1 x y hx
  have c1 : ∀ w, Calls Try.prog 11 #[.int .i64 0, .bool a1, .int .u64 x, .int .u64 y] w fun e w' => e = .returned (.tuple #[.int .u64 (doN 0 a1 x y : Nat), .bool true]) ∧ Grown w w' := do_any 0 (by omega) a1 x y hx hy
  have c2 : ∀ w, Calls Try.prog 11 #[.int .i64 0, .bool a1, .int .u64 y, .int .u64 x] w fun e w' => e = .returned (.tuple #[.int .u64 (doN 0 a1 x y : Nat), .bool true]) ∧ Grown w w' := ea ▸ do_any 0 (by omega) a1 y x hy hx
  have c3 : ∀ w, Calls Try.prog 11 #[.int .i64 2, .bool a1, .int .u64 x, .int .u64 y] w fun e w' => e = .returned (.tuple #[.int .u64 (doN 2 a1 x y : Nat), .bool true]) ∧ Grown w w' := do_any 2 (by omega) a1 x y hx hy
  have c4 : ∀ w, Calls Try.prog 11 #[.int .i64 2, .bool a1, .int .u64 y, .int .u64 x] w fun e w' => e = .returned (.tuple #[.int .u64 (doN 2 a1 x y : Nat), .bool true]) ∧ Grown w w' := em ▸ do_any 2 (by omega) a1 y x hy hx
  have c5 : ∀ w, Calls Try.prog 11 #[.int .i64 3, .bool a1, .int .u64 x, .int .u64 y] w fun e w' => e = .returned (.tuple #[.int .u64 (doN 3 a1 x y : Nat), .bool true]) ∧ Grown w w' := do_any 3 (by omega) a1 x y hx hy
  have c6 : ∀ w, Calls Try.prog 11 #[.int .i64 9, .bool a1, .int .u64 x, .int .u64 y] w fun e w' => e = .returned (.tuple #[.int .u64 (doN 9 a1 x y : Nat), .bool true]) ∧ Grown w w' := do_any 9 (by omega) a1 x y hx hy
  have c7 : ∀ w, Calls Try.prog 11 #[.int .i64 2, .bool a1, .int .u64 (doN 3 a1 x y : Nat), .int .u64 y] w fun e w' => e = .returned (.tuple #[.int .u64 (doN 2 a1 (doN 3 a1 x y) y : Nat), .bool true]) ∧ Grown w w' := do_any 2 (by omega) a1 _ y h3 hy
  have c8 : ∀ w, Calls Try.prog 11 #[.int .i64 0, .bool a1, .int .u64 (doN 2 a1 (doN 3 a1 x y) y : Nat), .int .u64 (doN 9 a1 x y : Nat)] w fun e w' => e = .returned (.tuple #[.int .u64 (lowN a1 x : Nat), .bool true]) ∧ Grown w w' := eq ▸ do_any 0 (by omega) a1 _ _ h2 h9
  have ex : (x : Int) % 4294967296 = ((x % 4294967296 : Nat) : Int) := by omega
  have ey : (y : Int) % 4294967296 = ((y % 4294967296 : Nat) : Int) := by omega
  obtain ⟨r, o, hr, c9, c0⟩ : ∃ (r : Nat) (o : Bool), r < 4294967296 ∧
      (∀ w, Calls Try.prog 11 #[.int .i64 a0, .bool false, .int .u64 x, .int .u64 y] w fun e w' => e = .returned (.tuple #[.int .u64 r, .bool o]) ∧ Grown w w') ∧
      (∀ w, Calls Try.prog 11 #[.int .i64 a0, .bool false, .int .u64 ((x : Int) % 4294967296), .int .u64 ((y : Int) % 4294967296)] w fun e w' => e = .returned (.tuple #[.int .u64 r, .bool o]) ∧ Grown w w') := by
    rw [ex, ey]
    by_cases hk : 0 ≤ a0 ∧ a0 < 13
    · obtain ⟨k, rfl⟩ : ∃ k : Nat, a0 = k := ⟨a0.toNat, by omega⟩
      exact ⟨doN k false x y, true, doN_lt32 k x y, do_any k (by omega) false x y hx hy, low_do k x y ▸ do_any k (by omega) false _ _ (by omega) (by omega)⟩
    · exact ⟨0, false, by omega, do_none a0 (by omega) false x y, do_none a0 (by omega) false _ _⟩
  clear ea em eq h2 h3 h9 ex ey b0
  cases a1
  · have hl : ((lowN false x : Nat) : Int) = (x : Int) % 4294967296 := by simp [lowN]
    rw [hl] at c8
    clear hl
    go_enter Try.func6, Try.ntmps6
    go_wp2_with (first
      | (go_at_call 10; refine (known_any _).mono ?_; rintro e w1 ⟨rfl, gk⟩)
      | ((with_reducible refine (c1 _).mono ?_); rintro e w1 ⟨rfl, g1⟩)
      | ((with_reducible refine (c2 _).mono ?_); rintro e w1 ⟨rfl, g2⟩)
      | ((with_reducible refine (c3 _).mono ?_); rintro e w1 ⟨rfl, g3⟩)
      | ((with_reducible refine (c4 _).mono ?_); rintro e w1 ⟨rfl, g4⟩)
      | ((with_reducible refine (c5 _).mono ?_); rintro e w1 ⟨rfl, g5⟩)
      | ((with_reducible refine (c6 _).mono ?_); rintro e w1 ⟨rfl, g6⟩)
      | ((with_reducible refine (c7 _).mono ?_); rintro e w1 ⟨rfl, g7⟩)
      | ((with_reducible refine (c8 _).mono ?_); rintro e w1 ⟨rfl, g8⟩)
      | ((with_reducible refine (c9 _).mono ?_); rintro e w1 ⟨rfl, g9⟩)
      | ((with_reducible refine (c0 _).mono ?_); rintro e w1 ⟨rfl, g0⟩))
    go_ret
    exact ⟨ret_true (decide_eq_true (by omega)), grown_trans gk (grown_trans g1 (grown_trans g2 (grown_trans g3 (grown_trans g4 (grown_trans g5 (grown_trans g6 (grown_trans g7 (grown_trans g8 (grown_trans g9 g0)))))))))⟩
  · have hl : ((lowN true x : Nat) : Int) = (x : Int) := by simp [lowN]
    rw [hl] at c8
    clear hl
    go_enter Try.func6, Try.ntmps6
    go_wp2_with (first
      | (go_at_call 10; refine (known_any _).mono ?_; rintro e w1 ⟨rfl, gk⟩)
      | ((with_reducible refine (c1 _).mono ?_); rintro e w1 ⟨rfl, g1⟩)
      | ((with_reducible refine (c2 _).mono ?_); rintro e w1 ⟨rfl, g2⟩)
      | ((with_reducible refine (c3 _).mono ?_); rintro e w1 ⟨rfl, g3⟩)
      | ((with_reducible refine (c4 _).mono ?_); rintro e w1 ⟨rfl, g4⟩)
      | ((with_reducible refine (c5 _).mono ?_); rintro e w1 ⟨rfl, g5⟩)
      | ((with_reducible refine (c6 _).mono ?_); rintro e w1 ⟨rfl, g6⟩)
      | ((with_reducible refine (c7 _).mono ?_); rintro e w1 ⟨rfl, g7⟩)
      | ((with_reducible refine (c8 _).mono ?_); rintro e w1 ⟨rfl, g8⟩)
      | ((with_reducible refine (c9 _).mono ?_); rintro e w1 ⟨rfl, g9⟩)
      | ((with_reducible refine (c0 _).mono ?_); rintro e w1 ⟨rfl, g0⟩))
    go_ret
    exact ⟨ret_true (decide_eq_true (by omega)), grown_trans gk (grown_trans g1 (grown_trans g2 (grown_trans g3 (grown_trans g4 (grown_trans g5 (grown_trans g6 (grown_trans g7 (grown_trans g8 (grown_trans g9 g0)))))))))⟩

/-! ### THE ROW's STEP: WRITTEN OUT: LEAVE IT -/
set_option maxRecDepth 100000 in
theorem lifted (os : Os) (started : os.Started) (H : Type) (enc : TypeId × Value → H) :
    ReturnsInHanded {} Try.checked os 6 .any (Rows.aluLawsSpec.pre6 enc Try.prog Try.f6 Rows.aluLawsRow.domain false) (Rows.aluLawsSpec.post enc Try.prog Try.f6 false true false false) := by
  refine returnsInHanded_of_change (C := Try.checked) own started (by kernel_rfl) Try.func6
    (ChangeSpec.witness6 (enc := enc) (C := Try.checked) false ⟨#[], #[.int .i64 0, .bool false, .int .u64 0, .int .u64 0], []⟩ 8 (by kernel_rfl) (by kernel_rfl) (by kernel_rfl) (by kernel_rfl)) ?_
  intro W base args ds gs before hval0 hW hcnd _
  have hval : ∀ (j : Nat) t v, Try.f6.params[j]? = some t → args[j]? = some v → Value.okWide Try.prog W .any base t v := hval0
  have hW' := hW
  obtain ⟨p, q, hA0, hV, rfl, hfz, hnd⟩ := hW
  have hA : DataW.TrodAll enc Try.prog W 0 (fun _ => true) true Try.f6.params.toList args.toList ds p := hA0
  rw [Try.params6] at hA hval
  obtain ⟨v0, vs0, d0, ds0, p0, q0, hargs, rfl, rfl, h0, r0⟩ := trodAll_cons hA
  obtain ⟨v1, vs1, d1, ds1, p1, q1, rfl, rfl, rfl, h1, r1⟩ := trodAll_cons r0
  obtain ⟨v2, vs2, d2, ds2, p2, q2, rfl, rfl, rfl, h2, r2⟩ := trodAll_cons r1
  obtain ⟨v3, vs3, d3, ds3, p3, q3, rfl, rfl, rfl, h3, r3⟩ := trodAll_cons r2
  obtain ⟨rfl, rfl, rfl⟩ := trodAll_nil r3
  obtain rfl : args = #[v0, v1, v2, v3] := by cases args; simp_all
  obtain ⟨rfl, rfl⟩ := trodVars_none hV
  obtain ⟨a0, rfl, rfl, rfl, w0⟩ := open_int Try.underlying3 (hval 0 3 v0 rfl rfl) h0
  obtain ⟨a1, rfl, rfl, rfl⟩ := open_bool Try.underlying4 (hval 1 4 v1 rfl rfl) h1
  obtain ⟨a2, rfl, rfl, rfl, w2⟩ := open_int Try.underlying22 (hval 2 22 v2 rfl rfl) h2
  obtain ⟨a3, rfl, rfl, rfl, w3⟩ := open_int Try.underlying22 (hval 3 22 v3 rfl rfl) h3
  clear hA0 hval0
  simp only [List.append_nil] at hW'
  refine (walk a0 a1 a2 a3 w0 w2 w3 W).mono fun e W' ⟨he, hg⟩ => ?_
  subst he
  exact ⟨_, rfl, post_of_same (pa := []) (pv := []) hW' (fun _ _ _ => (trodAll_cons_mk (shut_bool Try.underlying4 _) trodAll_mk0)) (fun sp _ => (trodAll_cons_mk (shut_int Try.underlying3 w0) (trodAll_cons_mk (shut_bool Try.underlying4 _) (trodAll_cons_mk (shut_int Try.underlying22 w2) (trodAll_cons_mk (shut_int Try.underlying22 w3) trodAll_mk0))))) (fun _ _ => rfl) rfl
    (hg.frame _) hg.2.1 (ok_one (by kernel_rfl) rfl (okWide_bool_mk Try.underlying4 _))⟩

theorem over : Rows.aluLawsRow.holds Try.pinned (OpenSpec.ofChange Rows.aluLawsSpec) :=
  OpenClaim.holds_of_wide 6 Try.f6 rfl rfl rfl rfl rfl rfl rfl ⟨rfl, rfl, rfl, rfl, rfl⟩ rfl rfl rfl rfl rfl (by kernel_rfl) Try.func6 (by kernel_rfl)
    (of_decide_eq_true (by kernel_rfl)) (by unfold Func.isWrapper; first | (rw [if_pos (by decide +kernel)]; kernel_rfl) | (rw [if_neg (by decide +kernel)]; exact ⟨rfl, rfl⟩))
    (fun os started H enc _ => lifted os started H enc)

/-- ████ THE STATEMENT ████ -/
theorem proved : Rows.AluLawsSaid :=
  over
#print axioms proved
end Go.Proofs.Ytilbfnnncmjmfaa.aluLaws
