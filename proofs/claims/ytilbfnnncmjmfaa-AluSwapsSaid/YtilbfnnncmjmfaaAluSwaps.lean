/-
  alu.Swap, alu.Turn and alu.Sign answer as the document says, and what is turned twice are the number's lowest bits: for every input, without a condition.
-/
import Derived.Test.YtilbfnnncmjmfaaSw
import Derived.WalkKit
import Derived.ProofKit
import Derived.OpenShut
namespace Go.Proofs.Ytilbfnnncmjmfaa.aluSwaps
open Go.ChangeShapes Go.WideShapes Go.ChangeAt Go.RowKit
set_option linter.unusedVariables false      -- a walk need not use every 'w<i>' (that an integer argument fits its kind)

theorem own : ownKnob Try.prog.godebug = none := by kernel_rfl


/-! ### STEP 1: THE WALK: the Go text returns true. 'Grown w w'': the world has at most new blocks (Derived/RowKit3.lean). Part the cases AHEAD of 'go_enter' where a test parts the walk; take each callee by a contract of your own. -/
set_option maxRecDepth 100000 in
set_option maxHeartbeats 1000000 in
theorem walk (a0 : Int) (a1 : Bool) (a2 : Int) (a3 : Int) (w0 : (Lit.int .i64 a0).wf = true) (w2 : (Lit.int .u64 a2).wf = true) (w3 : (Lit.int .i32 a3).wf = true) (w : World) :
    Calls Try.prog 4 #[.int .i64 a0, .bool a1, .int .u64 a2, .int .i32 a3] w fun e w' => e = .returned (.bool true) ∧ Grown w w' := by
  obtain ⟨x, rfl, hx⟩ := nat_of_wf w2
  clear w0 w2 w3
  have c5 : ∀ w, Calls Try.prog 17 #[.int .i32 a3] w fun e w' => e = .returned (.int .u64 (IntKind.u64.wrap (wrap64 a3))) ∧ w = w' := sign_any a3
  have c6 : ∀ w, Calls Try.prog 18 #[.int .i32 a3] w fun e w' => e = .returned (.int .u64 (IntKind.u64.wrap (wrap64 a3))) ∧ w = w' := rsign_any a3
  by_cases h16 : a0 = 16
  · subst h16
    cases a1
    · have c1 : ∀ w, Calls Try.prog 13 #[.int .i64 16, .bool false, .int .u64 x] w fun e w' => e = .returned (.tuple #[.int .u64 ((x : Int) % 65536), .bool true]) ∧ w = w' := swap_low_16 x hx
      have c2 : ∀ w, Calls Try.prog 14 #[.int .i64 16, .bool false, .int .u64 x] w fun e w' => e = .returned (.tuple #[.int .u64 ((x : Int) % 65536), .bool true]) ∧ w = w' := rswap_low_16 x hx
      have c3 : ∀ w, Calls Try.prog 15 #[.int .i64 16, .int .u64 x] w fun e w' => e = .returned (.tuple #[.int .u64 (tn x 2 : Nat), .bool true]) ∧ w = w' := turn_16 x hx
      have c4 : ∀ w, Calls Try.prog 16 #[.int .i64 16, .int .u64 x] w fun e w' => e = .returned (.tuple #[.int .u64 (tn x 2 : Nat), .bool true]) ∧ w = w' := rturn_16 x hx
      have lt : tn x 2 < 18446744073709551616 := by have := (tn_2 x).2.2; omega
      have eb : ((tn (tn x 2) 2 : Nat) : Int) = ((x : Int) % 65536) := by rw [(tn_2 x).1]; omega
      have c7 : ∀ w, Calls Try.prog 15 #[.int .i64 16, .int .u64 (tn x 2 : Nat)] w fun e w' => e = .returned (.tuple #[.int .u64 ((x : Int) % 65536), .bool true]) ∧ w = w' := eb ▸ turn_16 (tn x 2) lt
      clear eb lt
      go_enter Try.func4, Try.ntmps4
      go_wp2_with (first
        | (go_at_call 10; refine (known_any _).mono ?_; rintro e w1 ⟨rfl, gk⟩)
        | ((with_reducible refine (c1 _).mono ?_); rintro e w1 ⟨rfl, rfl⟩)
        | ((with_reducible refine (c2 _).mono ?_); rintro e w1 ⟨rfl, rfl⟩)
        | ((with_reducible refine (c3 _).mono ?_); rintro e w1 ⟨rfl, rfl⟩)
        | ((with_reducible refine (c4 _).mono ?_); rintro e w1 ⟨rfl, rfl⟩)
        | ((with_reducible refine (c5 _).mono ?_); rintro e w1 ⟨rfl, rfl⟩)
        | ((with_reducible refine (c6 _).mono ?_); rintro e w1 ⟨rfl, rfl⟩)
        | ((with_reducible refine (c7 _).mono ?_); rintro e w1 ⟨rfl, rfl⟩))
      go_ret
      exact ⟨rfl, gk⟩
    · have c1 : ∀ w, Calls Try.prog 13 #[.int .i64 16, .bool true, .int .u64 x] w fun e w' => e = .returned (.tuple #[.int .u64 (tn x 2 : Nat), .bool true]) ∧ w = w' := swap_big_16 x hx
      have c2 : ∀ w, Calls Try.prog 14 #[.int .i64 16, .bool true, .int .u64 x] w fun e w' => e = .returned (.tuple #[.int .u64 (tn x 2 : Nat), .bool true]) ∧ w = w' := rswap_big_16 x hx
      have c3 : ∀ w, Calls Try.prog 15 #[.int .i64 16, .int .u64 x] w fun e w' => e = .returned (.tuple #[.int .u64 (tn x 2 : Nat), .bool true]) ∧ w = w' := turn_16 x hx
      have c4 : ∀ w, Calls Try.prog 16 #[.int .i64 16, .int .u64 x] w fun e w' => e = .returned (.tuple #[.int .u64 (tn x 2 : Nat), .bool true]) ∧ w = w' := rturn_16 x hx
      have lt : tn x 2 < 18446744073709551616 := by have := (tn_2 x).2.2; omega
      have eb : ((tn (tn x 2) 2 : Nat) : Int) = ((x : Int) % 65536) := by rw [(tn_2 x).1]; omega
      have c7 : ∀ w, Calls Try.prog 15 #[.int .i64 16, .int .u64 (tn x 2 : Nat)] w fun e w' => e = .returned (.tuple #[.int .u64 ((x : Int) % 65536), .bool true]) ∧ w = w' := eb ▸ turn_16 (tn x 2) lt
      clear eb lt
      go_enter Try.func4, Try.ntmps4
      go_wp2_with (first
        | (go_at_call 10; refine (known_any _).mono ?_; rintro e w1 ⟨rfl, gk⟩)
        | ((with_reducible refine (c1 _).mono ?_); rintro e w1 ⟨rfl, rfl⟩)
        | ((with_reducible refine (c2 _).mono ?_); rintro e w1 ⟨rfl, rfl⟩)
        | ((with_reducible refine (c3 _).mono ?_); rintro e w1 ⟨rfl, rfl⟩)
        | ((with_reducible refine (c4 _).mono ?_); rintro e w1 ⟨rfl, rfl⟩)
        | ((with_reducible refine (c5 _).mono ?_); rintro e w1 ⟨rfl, rfl⟩)
        | ((with_reducible refine (c6 _).mono ?_); rintro e w1 ⟨rfl, rfl⟩)
        | ((with_reducible refine (c7 _).mono ?_); rintro e w1 ⟨rfl, rfl⟩))
      go_ret
      exact ⟨rfl, gk⟩
  by_cases h32 : a0 = 32
  · subst h32
    cases a1
    · have c1 : ∀ w, Calls Try.prog 13 #[.int .i64 32, .bool false, .int .u64 x] w fun e w' => e = .returned (.tuple #[.int .u64 ((x : Int) % 4294967296), .bool true]) ∧ w = w' := swap_low_32 x hx
      have c2 : ∀ w, Calls Try.prog 14 #[.int .i64 32, .bool false, .int .u64 x] w fun e w' => e = .returned (.tuple #[.int .u64 ((x : Int) % 4294967296), .bool true]) ∧ w = w' := rswap_low_32 x hx
      have c3 : ∀ w, Calls Try.prog 15 #[.int .i64 32, .int .u64 x] w fun e w' => e = .returned (.tuple #[.int .u64 (tn x 4 : Nat), .bool true]) ∧ w = w' := turn_32 x hx
      have c4 : ∀ w, Calls Try.prog 16 #[.int .i64 32, .int .u64 x] w fun e w' => e = .returned (.tuple #[.int .u64 (tn x 4 : Nat), .bool true]) ∧ w = w' := rturn_32 x hx
      have lt : tn x 4 < 18446744073709551616 := by have := (tn_4 x).2.2; omega
      have eb : ((tn (tn x 4) 4 : Nat) : Int) = ((x : Int) % 4294967296) := by rw [(tn_4 x).1]; omega
      have c7 : ∀ w, Calls Try.prog 15 #[.int .i64 32, .int .u64 (tn x 4 : Nat)] w fun e w' => e = .returned (.tuple #[.int .u64 ((x : Int) % 4294967296), .bool true]) ∧ w = w' := eb ▸ turn_32 (tn x 4) lt
      clear eb lt
      go_enter Try.func4, Try.ntmps4
      go_wp2_with (first
        | (go_at_call 10; refine (known_any _).mono ?_; rintro e w1 ⟨rfl, gk⟩)
        | ((with_reducible refine (c1 _).mono ?_); rintro e w1 ⟨rfl, rfl⟩)
        | ((with_reducible refine (c2 _).mono ?_); rintro e w1 ⟨rfl, rfl⟩)
        | ((with_reducible refine (c3 _).mono ?_); rintro e w1 ⟨rfl, rfl⟩)
        | ((with_reducible refine (c4 _).mono ?_); rintro e w1 ⟨rfl, rfl⟩)
        | ((with_reducible refine (c5 _).mono ?_); rintro e w1 ⟨rfl, rfl⟩)
        | ((with_reducible refine (c6 _).mono ?_); rintro e w1 ⟨rfl, rfl⟩)
        | ((with_reducible refine (c7 _).mono ?_); rintro e w1 ⟨rfl, rfl⟩))
      go_ret
      exact ⟨rfl, gk⟩
    · have c1 : ∀ w, Calls Try.prog 13 #[.int .i64 32, .bool true, .int .u64 x] w fun e w' => e = .returned (.tuple #[.int .u64 (tn x 4 : Nat), .bool true]) ∧ w = w' := swap_big_32 x hx
      have c2 : ∀ w, Calls Try.prog 14 #[.int .i64 32, .bool true, .int .u64 x] w fun e w' => e = .returned (.tuple #[.int .u64 (tn x 4 : Nat), .bool true]) ∧ w = w' := rswap_big_32 x hx
      have c3 : ∀ w, Calls Try.prog 15 #[.int .i64 32, .int .u64 x] w fun e w' => e = .returned (.tuple #[.int .u64 (tn x 4 : Nat), .bool true]) ∧ w = w' := turn_32 x hx
      have c4 : ∀ w, Calls Try.prog 16 #[.int .i64 32, .int .u64 x] w fun e w' => e = .returned (.tuple #[.int .u64 (tn x 4 : Nat), .bool true]) ∧ w = w' := rturn_32 x hx
      have lt : tn x 4 < 18446744073709551616 := by have := (tn_4 x).2.2; omega
      have eb : ((tn (tn x 4) 4 : Nat) : Int) = ((x : Int) % 4294967296) := by rw [(tn_4 x).1]; omega
      have c7 : ∀ w, Calls Try.prog 15 #[.int .i64 32, .int .u64 (tn x 4 : Nat)] w fun e w' => e = .returned (.tuple #[.int .u64 ((x : Int) % 4294967296), .bool true]) ∧ w = w' := eb ▸ turn_32 (tn x 4) lt
      clear eb lt
      go_enter Try.func4, Try.ntmps4
      go_wp2_with (first
        | (go_at_call 10; refine (known_any _).mono ?_; rintro e w1 ⟨rfl, gk⟩)
        | ((with_reducible refine (c1 _).mono ?_); rintro e w1 ⟨rfl, rfl⟩)
        | ((with_reducible refine (c2 _).mono ?_); rintro e w1 ⟨rfl, rfl⟩)
        | ((with_reducible refine (c3 _).mono ?_); rintro e w1 ⟨rfl, rfl⟩)
        | ((with_reducible refine (c4 _).mono ?_); rintro e w1 ⟨rfl, rfl⟩)
        | ((with_reducible refine (c5 _).mono ?_); rintro e w1 ⟨rfl, rfl⟩)
        | ((with_reducible refine (c6 _).mono ?_); rintro e w1 ⟨rfl, rfl⟩)
        | ((with_reducible refine (c7 _).mono ?_); rintro e w1 ⟨rfl, rfl⟩))
      go_ret
      exact ⟨rfl, gk⟩
  by_cases h64 : a0 = 64
  · subst h64
    cases a1
    · have c1 : ∀ w, Calls Try.prog 13 #[.int .i64 64, .bool false, .int .u64 x] w fun e w' => e = .returned (.tuple #[.int .u64 (x : Int), .bool true]) ∧ w = w' := swap_low_64 x hx
      have c2 : ∀ w, Calls Try.prog 14 #[.int .i64 64, .bool false, .int .u64 x] w fun e w' => e = .returned (.tuple #[.int .u64 (x : Int), .bool true]) ∧ w = w' := rswap_low_64 x hx
      have c3 : ∀ w, Calls Try.prog 15 #[.int .i64 64, .int .u64 x] w fun e w' => e = .returned (.tuple #[.int .u64 (tn x 8 : Nat), .bool true]) ∧ w = w' := turn_64 x hx
      have c4 : ∀ w, Calls Try.prog 16 #[.int .i64 64, .int .u64 x] w fun e w' => e = .returned (.tuple #[.int .u64 (tn x 8 : Nat), .bool true]) ∧ w = w' := rturn_64 x hx
      have lt : tn x 8 < 18446744073709551616 := by exact (tn_8 x hx).2
      have eb : ((tn (tn x 8) 8 : Nat) : Int) = (x : Int) := by rw [(tn_8 x hx).1]
      have c7 : ∀ w, Calls Try.prog 15 #[.int .i64 64, .int .u64 (tn x 8 : Nat)] w fun e w' => e = .returned (.tuple #[.int .u64 (x : Int), .bool true]) ∧ w = w' := eb ▸ turn_64 (tn x 8) lt
      clear eb lt
      go_enter Try.func4, Try.ntmps4
      go_wp2_with (first
        | (go_at_call 10; refine (known_any _).mono ?_; rintro e w1 ⟨rfl, gk⟩)
        | ((with_reducible refine (c1 _).mono ?_); rintro e w1 ⟨rfl, rfl⟩)
        | ((with_reducible refine (c2 _).mono ?_); rintro e w1 ⟨rfl, rfl⟩)
        | ((with_reducible refine (c3 _).mono ?_); rintro e w1 ⟨rfl, rfl⟩)
        | ((with_reducible refine (c4 _).mono ?_); rintro e w1 ⟨rfl, rfl⟩)
        | ((with_reducible refine (c5 _).mono ?_); rintro e w1 ⟨rfl, rfl⟩)
        | ((with_reducible refine (c6 _).mono ?_); rintro e w1 ⟨rfl, rfl⟩)
        | ((with_reducible refine (c7 _).mono ?_); rintro e w1 ⟨rfl, rfl⟩))
      go_ret
      exact ⟨rfl, gk⟩
    · have c1 : ∀ w, Calls Try.prog 13 #[.int .i64 64, .bool true, .int .u64 x] w fun e w' => e = .returned (.tuple #[.int .u64 (tn x 8 : Nat), .bool true]) ∧ w = w' := swap_big_64 x hx
      have c2 : ∀ w, Calls Try.prog 14 #[.int .i64 64, .bool true, .int .u64 x] w fun e w' => e = .returned (.tuple #[.int .u64 (tn x 8 : Nat), .bool true]) ∧ w = w' := rswap_big_64 x hx
      have c3 : ∀ w, Calls Try.prog 15 #[.int .i64 64, .int .u64 x] w fun e w' => e = .returned (.tuple #[.int .u64 (tn x 8 : Nat), .bool true]) ∧ w = w' := turn_64 x hx
      have c4 : ∀ w, Calls Try.prog 16 #[.int .i64 64, .int .u64 x] w fun e w' => e = .returned (.tuple #[.int .u64 (tn x 8 : Nat), .bool true]) ∧ w = w' := rturn_64 x hx
      have lt : tn x 8 < 18446744073709551616 := by exact (tn_8 x hx).2
      have eb : ((tn (tn x 8) 8 : Nat) : Int) = (x : Int) := by rw [(tn_8 x hx).1]
      have c7 : ∀ w, Calls Try.prog 15 #[.int .i64 64, .int .u64 (tn x 8 : Nat)] w fun e w' => e = .returned (.tuple #[.int .u64 (x : Int), .bool true]) ∧ w = w' := eb ▸ turn_64 (tn x 8) lt
      clear eb lt
      go_enter Try.func4, Try.ntmps4
      go_wp2_with (first
        | (go_at_call 10; refine (known_any _).mono ?_; rintro e w1 ⟨rfl, gk⟩)
        | ((with_reducible refine (c1 _).mono ?_); rintro e w1 ⟨rfl, rfl⟩)
        | ((with_reducible refine (c2 _).mono ?_); rintro e w1 ⟨rfl, rfl⟩)
        | ((with_reducible refine (c3 _).mono ?_); rintro e w1 ⟨rfl, rfl⟩)
        | ((with_reducible refine (c4 _).mono ?_); rintro e w1 ⟨rfl, rfl⟩)
        | ((with_reducible refine (c5 _).mono ?_); rintro e w1 ⟨rfl, rfl⟩)
        | ((with_reducible refine (c6 _).mono ?_); rintro e w1 ⟨rfl, rfl⟩)
        | ((with_reducible refine (c7 _).mono ?_); rintro e w1 ⟨rfl, rfl⟩))
      go_ret
      exact ⟨rfl, gk⟩
  have c1 : ∀ w, Calls Try.prog 13 #[.int .i64 a0, .bool a1, .int .u64 x] w fun e w' => e = .returned (.tuple #[.int .u64 0, .bool false]) ∧ w = w' := swap_none a0 h16 h32 h64 a1 x
  have c2 : ∀ w, Calls Try.prog 14 #[.int .i64 a0, .bool a1, .int .u64 x] w fun e w' => e = .returned (.tuple #[.int .u64 0, .bool false]) ∧ w = w' := rswap_none a0 h16 h32 h64 a1 x
  have c3 : ∀ w, Calls Try.prog 15 #[.int .i64 a0, .int .u64 x] w fun e w' => e = .returned (.tuple #[.int .u64 0, .bool false]) ∧ w = w' := turn_none a0 h16 h32 h64 x
  have c4 : ∀ w, Calls Try.prog 16 #[.int .i64 a0, .int .u64 x] w fun e w' => e = .returned (.tuple #[.int .u64 0, .bool false]) ∧ w = w' := rturn_none a0 h16 h32 h64 x
  clear h16 h32 h64
  go_enter Try.func4, Try.ntmps4
  go_wp2_with (first
    | (go_at_call 10; refine (known_any _).mono ?_; rintro e w1 ⟨rfl, gk⟩)
    | ((with_reducible refine (c1 _).mono ?_); rintro e w1 ⟨rfl, rfl⟩)
    | ((with_reducible refine (c2 _).mono ?_); rintro e w1 ⟨rfl, rfl⟩)
    | ((with_reducible refine (c3 _).mono ?_); rintro e w1 ⟨rfl, rfl⟩)
    | ((with_reducible refine (c4 _).mono ?_); rintro e w1 ⟨rfl, rfl⟩)
    | ((with_reducible refine (c5 _).mono ?_); rintro e w1 ⟨rfl, rfl⟩)
    | ((with_reducible refine (c6 _).mono ?_); rintro e w1 ⟨rfl, rfl⟩))
  go_ret
  exact ⟨rfl, gk⟩

/-! ### THE ROW's STEP: WRITTEN OUT: LEAVE IT -/
set_option maxRecDepth 100000 in
theorem lifted (os : Os) (started : os.Started) (H : Type) (enc : TypeId × Value → H) :
    ReturnsInHanded {} Try.checked os 4 .any (Rows.aluSwapsSpec.pre6 enc Try.prog Try.f4 Rows.aluSwapsRow.domain false) (Rows.aluSwapsSpec.post enc Try.prog Try.f4 false true false false) := by
  refine returnsInHanded_of_change (C := Try.checked) own started (by kernel_rfl) Try.func4
    (ChangeSpec.witness6 (enc := enc) (C := Try.checked) false ⟨#[], #[.int .i64 0, .bool false, .int .u64 0, .int .i32 0], []⟩ 8 (by kernel_rfl) (by kernel_rfl) (by kernel_rfl) (by kernel_rfl)) ?_
  intro W base args ds gs before hval0 hW hcnd _
  have hval : ∀ (j : Nat) t v, Try.f4.params[j]? = some t → args[j]? = some v → Value.okWide Try.prog W .any base t v := hval0
  have hW' := hW
  obtain ⟨p, q, hA0, hV, rfl, hfz, hnd⟩ := hW
  have hA : DataW.TrodAll enc Try.prog W 0 (fun _ => true) true Try.f4.params.toList args.toList ds p := hA0
  rw [Try.params4] at hA hval
  obtain ⟨v0, vs0, d0, ds0, p0, q0, hargs, rfl, rfl, h0, r0⟩ := trodAll_cons hA
  obtain ⟨v1, vs1, d1, ds1, p1, q1, rfl, rfl, rfl, h1, r1⟩ := trodAll_cons r0
  obtain ⟨v2, vs2, d2, ds2, p2, q2, rfl, rfl, rfl, h2, r2⟩ := trodAll_cons r1
  obtain ⟨v3, vs3, d3, ds3, p3, q3, rfl, rfl, rfl, h3, r3⟩ := trodAll_cons r2
  obtain ⟨rfl, rfl, rfl⟩ := trodAll_nil r3
  obtain rfl : args = #[v0, v1, v2, v3] := by cases args; simp_all
  obtain ⟨rfl, rfl⟩ := trodVars_none hV
  obtain ⟨a0, rfl, rfl, rfl, w0⟩ := open_int Try.underlying3 (hval 0 3 v0 rfl rfl) h0
  obtain ⟨a1, rfl, rfl, rfl⟩ := open_bool Try.underlying4 (hval 1 4 v1 rfl rfl) h1
  obtain ⟨a2, rfl, rfl, rfl, w2⟩ := open_int Try.underlying22 (hval 2 22 v2 rfl rfl) h2
  obtain ⟨a3, rfl, rfl, rfl, w3⟩ := open_int Try.underlying21 (hval 3 21 v3 rfl rfl) h3
  clear hA0 hval0
  simp only [List.append_nil] at hW'
  refine (walk a0 a1 a2 a3 w0 w2 w3 W).mono fun e W' ⟨he, hg⟩ => ?_
  subst he
  exact ⟨_, rfl, post_of_same (pa := []) (pv := []) hW' (fun _ _ _ => (trodAll_cons_mk (shut_bool Try.underlying4 _) trodAll_mk0)) (fun sp _ => (trodAll_cons_mk (shut_int Try.underlying3 w0) (trodAll_cons_mk (shut_bool Try.underlying4 _) (trodAll_cons_mk (shut_int Try.underlying22 w2) (trodAll_cons_mk (shut_int Try.underlying21 w3) trodAll_mk0))))) (fun _ _ => rfl) rfl
    (hg.frame _) hg.2.1 (ok_one (by kernel_rfl) rfl (okWide_bool_mk Try.underlying4 _))⟩

theorem over : Rows.aluSwapsRow.holds Try.pinned (OpenSpec.ofChange Rows.aluSwapsSpec) :=
  OpenClaim.holds_of_wide 4 Try.f4 rfl rfl rfl rfl rfl rfl rfl ⟨rfl, rfl, rfl, rfl, rfl⟩ rfl rfl rfl rfl rfl (by kernel_rfl) Try.func4 (by kernel_rfl)
    (of_decide_eq_true (by kernel_rfl)) (by unfold Func.isWrapper; first | (rw [if_pos (by decide +kernel)]; kernel_rfl) | (rw [if_neg (by decide +kernel)]; exact ⟨rfl, rfl⟩))
    (fun os started H enc _ => lifted os started H enc)

/-- ████ THE STATEMENT ████ -/
theorem proved : Rows.AluSwapsSaid :=
  over
#print axioms proved
end Go.Proofs.Ytilbfnnncmjmfaa.aluSwaps
