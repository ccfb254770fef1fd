/-
  Shifted there and back by alu.Do a number has lost just the bits that went, and a shift by three times 64 (or 32) more is the same: for every input, without a condition.
-/
import Derived.Test.YtilbfnnncmjmfaaDo
import Derived.Test.YtilbfnnncmjmfaaMathB
import Derived.WalkKit
import Derived.ProofKit
import Derived.OpenShut
namespace Go.Proofs.Ytilbfnnncmjmfaa.aluShifts
open Go.ChangeShapes Go.WideShapes Go.ChangeAt Go.RowKit
set_option linter.unusedVariables false      -- a walk need not use every 'w<i>' (that an integer argument fits its kind)

theorem own : ownKnob Try.prog.godebug = none := by kernel_rfl


/-! ### STEP 1: THE WALK: the Go text returns true. 'Grown w w'': the world has at most new blocks (Derived/RowKit3.lean). Part the cases AHEAD of 'go_enter' where a test parts the walk; take each callee by a contract of your own. -/
set_option maxRecDepth 100000 in
set_option maxHeartbeats 1000000 in
theorem walk (a0 : Bool) (a1 : Int) (a2 : Int) (w1 : (Lit.int .u64 a1).wf = true) (w2 : (Lit.int .u64 a2).wf = true) (w : World) :
    Calls Try.prog 7 #[.bool a0, .int .u64 a1, .int .u64 a2] w fun e w' => e = .returned (.bool true) ∧ Grown w w' := by
  obtain ⟨x, rfl, hx⟩ := nat_of_wf w1
  obtain ⟨n, rfl, hn⟩ := nat_of_wf w2
  clear w1 w2
  cases a0
  · have h6 := doN_lt 6 false x n hx hn
    have h7 := doN_lt 7 false x n hx hn
    obtain ⟨e1, e2, e3⟩ := shifts32 x n
    have en : IntKind.u64.wrap ((n : Int) + 96) = (((n + 96) % 18446744073709551616 : Nat) : Int) := by rw [wrap_u64]; omega
    have c1 : ∀ w, Calls Try.prog 11 #[.int .i64 6, .bool false, .int .u64 x, .int .u64 n] w fun e w' => e = .returned (.tuple #[.int .u64 (doN 6 false x n : Nat), .bool true]) ∧ Grown w w' := do_any 6 (by omega) false x n hx hn
    have c2 : ∀ w, Calls Try.prog 11 #[.int .i64 7, .bool false, .int .u64 (doN 6 false x n : Nat), .int .u64 n] w fun e w' => e = .returned (.tuple #[.int .u64 (doN 7 false (doN 6 false x n) n : Nat), .bool true]) ∧ Grown w w' := do_any 7 (by omega) false _ n h6 hn
    have c3 : ∀ w, Calls Try.prog 11 #[.int .i64 7, .bool false, .int .u64 x, .int .u64 n] w fun e w' => e = .returned (.tuple #[.int .u64 (doN 7 false x n : Nat), .bool true]) ∧ Grown w w' := do_any 7 (by omega) false x n hx hn
    have c4 : ∀ w, Calls Try.prog 11 #[.int .i64 6, .bool false, .int .u64 (doN 7 false x n : Nat), .int .u64 n] w fun e w' => e = .returned (.tuple #[.int .u64 (doN 6 false (doN 7 false x n) n : Nat), .bool true]) ∧ Grown w w' := do_any 6 (by omega) false _ n h7 hn
    have c5 : ∀ w, Calls Try.prog 11 #[.int .i64 6, .bool false, .int .u64 x, .int .u64 (IntKind.u64.wrap ((n : Int) + 96))] w fun e w' => e = .returned (.tuple #[.int .u64 (doN 6 false x n : Nat), .bool true]) ∧ Grown w w' := en ▸ e3 ▸ do_any 6 (by omega) false x _ hx (by omega)
    obtain ⟨D1, hD1⟩ : ∃ D, D = 2 ^ (32 - n % 32) := ⟨_, rfl⟩
    obtain ⟨D2, hD2⟩ : ∃ D, D = 2 ^ (n % 32) := ⟨_, rfl⟩
    have p1 : 0 < D1 := hD1 ▸ Nat.two_pow_pos _
    have p2 : 0 < D2 := hD2 ▸ Nat.two_pow_pos _
    have q1 : D1 ≤ 2 ^ 63 := hD1 ▸ Nat.pow_le_pow_right (by omega) (by omega)
    have q2 : D2 ≤ 2 ^ 63 := hD2 ▸ Nat.pow_le_pow_right (by omega) (by omega)
    have k1 : IntKind.u64.wrap (2 ^ (32 - n % 32)) = (D1 : Int) := by
      have : (2 : Int) ^ (32 - n % 32) = (D1 : Int) := by rw [hD1]; simp
      rw [this, wrap_u64]; omega
    have k2 : IntKind.u64.wrap (2 ^ (n % 32)) = (D2 : Int) := by
      have : (2 : Int) ^ (n % 32) = (D2 : Int) := by rw [hD2]; simp
      rw [this, wrap_u64]; omega
    rw [← hD1] at e1
    rw [← hD2] at e2
    have m2 := Nat.mod_le (x % 4294967296) D2
    have r1 : ((doN 7 false (doN 6 false x n) n : Nat) : Int) = (x : Int) % 4294967296 % D1 := by rw [e1]; rfl
    have r2 : ((doN 6 false (doN 7 false x n) n : Nat) : Int) = (x : Int) % 4294967296 - (x : Int) % 4294967296 % D2 := by
      rw [e2, Int.ofNat_sub m2]; rfl
    have k3 : IntKind.u64.wrap ((x : Int) % 4294967296 - (x : Int) % 4294967296 % D2) = (x : Int) % 4294967296 - (x : Int) % 4294967296 % D2 := by
      have e := Int.ofNat_sub m2
      have e' : ((x : Int) % 4294967296 - (x : Int) % 4294967296 % D2 : Int) = (((x % 4294967296) - (x % 4294967296) % D2 : Nat) : Int) := e.symm
      rw [e', wrap_u64]
      have : (x % 4294967296) - (x % 4294967296) % D2 ≤ (x % 4294967296) := Nat.sub_le _ _
      generalize (x % 4294967296) - (x % 4294967296) % D2 = q at *
      omega
    rw [r1] at c2
    rw [r2] at c4
    clear e1 e2 e3 en h6 h7 r1 r2 m2 hD1 hD2 q1 q2
    go_enter Try.func7, Try.ntmps7
    go_wp2_with (first
      | (go_at_call 10; refine (known_any _).mono ?_; rintro e w1 ⟨rfl, gk⟩)
      | ((with_reducible refine (c1 _).mono ?_); rintro e w1 ⟨rfl, g1⟩)
      | ((with_reducible refine (c2 _).mono ?_); rintro e w1 ⟨rfl, g2⟩)
      | ((with_reducible refine (c3 _).mono ?_); rintro e w1 ⟨rfl, g3⟩)
      | ((with_reducible refine (c4 _).mono ?_); rintro e w1 ⟨rfl, g4⟩)
      | ((with_reducible refine (c5 _).mono ?_); rintro e w1 ⟨rfl, g5⟩))
    go_ret
    exact ⟨rfl, grown_trans gk (grown_trans g1 (grown_trans g2 (grown_trans g3 (grown_trans g4 g5))))⟩
  · by_cases hz : n % 64 = 0
    · have h6 := doN_lt 6 true x n hx hn
      have h7 := doN_lt 7 true x n hx hn
      obtain ⟨e1, e2, e3⟩ := shifts64 x n hx
      have en : IntKind.u64.wrap ((n : Int) + 192) = (((n + 192) % 18446744073709551616 : Nat) : Int) := by rw [wrap_u64]; omega
      have c1 : ∀ w, Calls Try.prog 11 #[.int .i64 6, .bool true, .int .u64 x, .int .u64 n] w fun e w' => e = .returned (.tuple #[.int .u64 (doN 6 true x n : Nat), .bool true]) ∧ Grown w w' := do_any 6 (by omega) true x n hx hn
      have c2 : ∀ w, Calls Try.prog 11 #[.int .i64 7, .bool true, .int .u64 (doN 6 true x n : Nat), .int .u64 n] w fun e w' => e = .returned (.tuple #[.int .u64 (doN 7 true (doN 6 true x n) n : Nat), .bool true]) ∧ Grown w w' := do_any 7 (by omega) true _ n h6 hn
      have c3 : ∀ w, Calls Try.prog 11 #[.int .i64 7, .bool true, .int .u64 x, .int .u64 n] w fun e w' => e = .returned (.tuple #[.int .u64 (doN 7 true x n : Nat), .bool true]) ∧ Grown w w' := do_any 7 (by omega) true x n hx hn
      have c4 : ∀ w, Calls Try.prog 11 #[.int .i64 6, .bool true, .int .u64 (doN 7 true x n : Nat), .int .u64 n] w fun e w' => e = .returned (.tuple #[.int .u64 (doN 6 true (doN 7 true x n) n : Nat), .bool true]) ∧ Grown w w' := do_any 6 (by omega) true _ n h7 hn
      have c5 : ∀ w, Calls Try.prog 11 #[.int .i64 6, .bool true, .int .u64 x, .int .u64 (IntKind.u64.wrap ((n : Int) + 192))] w fun e w' => e = .returned (.tuple #[.int .u64 (doN 6 true x n : Nat), .bool true]) ∧ Grown w w' := en ▸ e3 ▸ do_any 6 (by omega) true x _ hx (by omega)
      have hz' : (n : Int) % 64 = 0 := by omega
      have r1 : ((doN 7 true (doN 6 true x n) n : Nat) : Int) = x := by rw [e1, hz]; simp; omega
      have r2 : ((doN 6 true (doN 7 true x n) n : Nat) : Int) = x := by rw [e2, hz]; simp; omega
      rw [r1] at c2
      rw [r2] at c4
      clear e1 e2 e3 en h6 h7 r1 r2 hz
      go_enter Try.func7, Try.ntmps7
      go_wp2_with (first
        | (go_at_call 10; refine (known_any _).mono ?_; rintro e w1 ⟨rfl, gk⟩)
        | ((with_reducible refine (c1 _).mono ?_); rintro e w1 ⟨rfl, g1⟩)
        | ((with_reducible refine (c2 _).mono ?_); rintro e w1 ⟨rfl, g2⟩)
        | ((with_reducible refine (c3 _).mono ?_); rintro e w1 ⟨rfl, g3⟩)
        | ((with_reducible refine (c4 _).mono ?_); rintro e w1 ⟨rfl, g4⟩)
        | ((with_reducible refine (c5 _).mono ?_); rintro e w1 ⟨rfl, g5⟩))
      go_ret
      exact ⟨rfl, grown_trans gk (grown_trans g1 (grown_trans g2 (grown_trans g3 (grown_trans g4 g5))))⟩
    · have h6 := doN_lt 6 true x n hx hn
      have h7 := doN_lt 7 true x n hx hn
      obtain ⟨e1, e2, e3⟩ := shifts64 x n hx
      have en : IntKind.u64.wrap ((n : Int) + 192) = (((n + 192) % 18446744073709551616 : Nat) : Int) := by rw [wrap_u64]; omega
      have c1 : ∀ w, Calls Try.prog 11 #[.int .i64 6, .bool true, .int .u64 x, .int .u64 n] w fun e w' => e = .returned (.tuple #[.int .u64 (doN 6 true x n : Nat), .bool true]) ∧ Grown w w' := do_any 6 (by omega) true x n hx hn
      have c2 : ∀ w, Calls Try.prog 11 #[.int .i64 7, .bool true, .int .u64 (doN 6 true x n : Nat), .int .u64 n] w fun e w' => e = .returned (.tuple #[.int .u64 (doN 7 true (doN 6 true x n) n : Nat), .bool true]) ∧ Grown w w' := do_any 7 (by omega) true _ n h6 hn
      have c3 : ∀ w, Calls Try.prog 11 #[.int .i64 7, .bool true, .int .u64 x, .int .u64 n] w fun e w' => e = .returned (.tuple #[.int .u64 (doN 7 true x n : Nat), .bool true]) ∧ Grown w w' := do_any 7 (by omega) true x n hx hn
      have c4 : ∀ w, Calls Try.prog 11 #[.int .i64 6, .bool true, .int .u64 (doN 7 true x n : Nat), .int .u64 n] w fun e w' => e = .returned (.tuple #[.int .u64 (doN 6 true (doN 7 true x n) n : Nat), .bool true]) ∧ Grown w w' := do_any 6 (by omega) true _ n h7 hn
      have c5 : ∀ w, Calls Try.prog 11 #[.int .i64 6, .bool true, .int .u64 x, .int .u64 (IntKind.u64.wrap ((n : Int) + 192))] w fun e w' => e = .returned (.tuple #[.int .u64 (doN 6 true x n : Nat), .bool true]) ∧ Grown w w' := en ▸ e3 ▸ do_any 6 (by omega) true x _ hx (by omega)
      obtain ⟨D1, hD1⟩ : ∃ D, D = 2 ^ (64 - n % 64) := ⟨_, rfl⟩
      obtain ⟨D2, hD2⟩ : ∃ D, D = 2 ^ (n % 64) := ⟨_, rfl⟩
      have p1 : 0 < D1 := hD1 ▸ Nat.two_pow_pos _
      have p2 : 0 < D2 := hD2 ▸ Nat.two_pow_pos _
      have q1 : D1 ≤ 2 ^ 63 := hD1 ▸ Nat.pow_le_pow_right (by omega) (by omega)
      have q2 : D2 ≤ 2 ^ 63 := hD2 ▸ Nat.pow_le_pow_right (by omega) (by omega)
      have k1 : IntKind.u64.wrap (2 ^ (64 - n % 64)) = (D1 : Int) := by
        have : (2 : Int) ^ (64 - n % 64) = (D1 : Int) := by rw [hD1]; simp
        rw [this, wrap_u64]; omega
      have k2 : IntKind.u64.wrap (2 ^ (n % 64)) = (D2 : Int) := by
        have : (2 : Int) ^ (n % 64) = (D2 : Int) := by rw [hD2]; simp
        rw [this, wrap_u64]; omega
      rw [← hD1] at e1
      rw [← hD2] at e2
      have m2 := Nat.mod_le x D2
      have r1 : ((doN 7 true (doN 6 true x n) n : Nat) : Int) = (x : Int) % D1 := by rw [e1]; rfl
      have r2 : ((doN 6 true (doN 7 true x n) n : Nat) : Int) = (x : Int) - (x : Int) % D2 := by
        rw [e2, Int.ofNat_sub m2]; rfl
      have k3 : IntKind.u64.wrap ((x : Int) - (x : Int) % D2) = (x : Int) - (x : Int) % D2 := by
        have e := Int.ofNat_sub m2
        have e' : ((x : Int) - (x : Int) % D2 : Int) = ((x - x % D2 : Nat) : Int) := e.symm
        rw [e', wrap_u64]
        have : x - x % D2 ≤ x := Nat.sub_le _ _
        generalize x - x % D2 = q at *
        omega
      rw [r1] at c2
      rw [r2] at c4
      have HZ : (1 : Int) ≤ (n : Int) % 64 := by omega
      clear e1 e2 e3 en h6 h7 r1 r2 m2 hD1 hD2 q1 q2 hz
      go_enter Try.func7, Try.ntmps7
      go_wp2_with (first
        | (go_at_call 10; refine (known_any _).mono ?_; rintro e w1 ⟨rfl, gk⟩)
        | ((with_reducible refine (c1 _).mono ?_); rintro e w1 ⟨rfl, g1⟩)
        | ((with_reducible refine (c2 _).mono ?_); rintro e w1 ⟨rfl, g2⟩)
        | ((with_reducible refine (c3 _).mono ?_); rintro e w1 ⟨rfl, g3⟩)
        | ((with_reducible refine (c4 _).mono ?_); rintro e w1 ⟨rfl, g4⟩)
        | ((with_reducible refine (c5 _).mono ?_); rintro e w1 ⟨rfl, g5⟩))
      go_ret
      exact ⟨rfl, grown_trans gk (grown_trans g1 (grown_trans g2 (grown_trans g3 (grown_trans g4 g5))))⟩

/-! ### THE ROW's STEP: WRITTEN OUT: LEAVE IT -/
set_option maxRecDepth 100000 in
theorem lifted (os : Os) (started : os.Started) (H : Type) (enc : TypeId × Value → H) :
    ReturnsInHanded {} Try.checked os 7 .any (Rows.aluShiftsSpec.pre6 enc Try.prog Try.f7 Rows.aluShiftsRow.domain false) (Rows.aluShiftsSpec.post enc Try.prog Try.f7 false true false false) := by
  refine returnsInHanded_of_change (C := Try.checked) own started (by kernel_rfl) Try.func7
    (ChangeSpec.witness6 (enc := enc) (C := Try.checked) false ⟨#[], #[.bool false, .int .u64 0, .int .u64 0], []⟩ 8 (by kernel_rfl) (by kernel_rfl) (by kernel_rfl) (by kernel_rfl)) ?_
  intro W base args ds gs before hval0 hW hcnd _
  have hval : ∀ (j : Nat) t v, Try.f7.params[j]? = some t → args[j]? = some v → Value.okWide Try.prog W .any base t v := hval0
  have hW' := hW
  obtain ⟨p, q, hA0, hV, rfl, hfz, hnd⟩ := hW
  have hA : DataW.TrodAll enc Try.prog W 0 (fun _ => true) true Try.f7.params.toList args.toList ds p := hA0
  rw [Try.params7] at hA hval
  obtain ⟨v0, vs0, d0, ds0, p0, q0, hargs, rfl, rfl, h0, r0⟩ := trodAll_cons hA
  obtain ⟨v1, vs1, d1, ds1, p1, q1, rfl, rfl, rfl, h1, r1⟩ := trodAll_cons r0
  obtain ⟨v2, vs2, d2, ds2, p2, q2, rfl, rfl, rfl, h2, r2⟩ := trodAll_cons r1
  obtain ⟨rfl, rfl, rfl⟩ := trodAll_nil r2
  obtain rfl : args = #[v0, v1, v2] := by cases args; simp_all
  obtain ⟨rfl, rfl⟩ := trodVars_none hV
  obtain ⟨a0, rfl, rfl, rfl⟩ := open_bool Try.underlying4 (hval 0 4 v0 rfl rfl) h0
  obtain ⟨a1, rfl, rfl, rfl, w1⟩ := open_int Try.underlying22 (hval 1 22 v1 rfl rfl) h1
  obtain ⟨a2, rfl, rfl, rfl, w2⟩ := open_int Try.underlying22 (hval 2 22 v2 rfl rfl) h2
  clear hA0 hval0
  simp only [List.append_nil] at hW'
  refine (walk a0 a1 a2 w1 w2 W).mono fun e W' ⟨he, hg⟩ => ?_
  subst he
  exact ⟨_, rfl, post_of_same (pa := []) (pv := []) hW' (fun _ _ _ => (trodAll_cons_mk (shut_bool Try.underlying4 _) trodAll_mk0)) (fun sp _ => (trodAll_cons_mk (shut_bool Try.underlying4 _) (trodAll_cons_mk (shut_int Try.underlying22 w1) (trodAll_cons_mk (shut_int Try.underlying22 w2) trodAll_mk0)))) (fun _ _ => rfl) rfl
    (hg.frame _) hg.2.1 (ok_one (by kernel_rfl) rfl (okWide_bool_mk Try.underlying4 _))⟩

theorem over : Rows.aluShiftsRow.holds Try.pinned (OpenSpec.ofChange Rows.aluShiftsSpec) :=
  OpenClaim.holds_of_wide 7 Try.f7 rfl rfl rfl rfl rfl rfl rfl ⟨rfl, rfl, rfl, rfl, rfl⟩ rfl rfl rfl rfl rfl (by kernel_rfl) Try.func7 (by kernel_rfl)
    (of_decide_eq_true (by kernel_rfl)) (by unfold Func.isWrapper; first | (rw [if_pos (by decide +kernel)]; kernel_rfl) | (rw [if_neg (by decide +kernel)]; exact ⟨rfl, rfl⟩))
    (fun os started H enc _ => lifted os started H enc)

/-- ████ THE STATEMENT ████ -/
theorem proved : Rows.AluShiftsSaid :=
  over
#print axioms proved
end Go.Proofs.Ytilbfnnncmjmfaa.aluShifts
