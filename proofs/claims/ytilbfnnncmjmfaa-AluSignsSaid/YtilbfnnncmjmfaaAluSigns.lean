/-
  alu.Do's arithmetic shift divides by a power of two, downwards, and a number's contrary added to it is 0: for every input, without a condition.
-/
import Derived.Test.YtilbfnnncmjmfaaDo
import Derived.Test.YtilbfnnncmjmfaaMathB
import Derived.WalkKit
import Derived.ProofKit
import Derived.OpenShut
namespace Go.Proofs.Ytilbfnnncmjmfaa.aluSigns
open Go.ChangeShapes Go.WideShapes Go.ChangeAt Go.RowKit
set_option linter.unusedVariables false      -- a walk need not use every 'w<i>' (that an integer argument fits its kind)

theorem own : ownKnob Try.prog.godebug = none := by kernel_rfl


/-- An arithmetic shift of a number with a sign divides downwards. -/
theorem sign_shr (a : Int) (k : Nat) (hk : k < 63) (b : -9223372036854775808 ≤ a ∧ a ≤ 9223372036854775807) :
    ∃ V x : Nat, V = doN 12 true x k ∧ x < 18446744073709551616 ∧ IntKind.u64.wrap a = x ∧ wrap64 (V : Int) = a / (2 ^ k : Nat) ∧ doN 0 true x (doN 8 true x 0) = 0 := by
  obtain ⟨x, hx⟩ : ∃ x : Nat, (x : Int) = a % 18446744073709551616 := ⟨(a % 18446744073709551616).toNat, by omega⟩
  have lx : x < 18446744073709551616 := by omega
  refine ⟨doN 12 true x k, x, rfl, lx, by rw [wrap_u64, hx], ?_, ?_⟩
  · have e1 : doN 12 true x k = opN 64 12 x k := rfl
    have h := asr64 x (k % 64) lx
    rw [e1, opN_12, ← h, Nat.mod_eq_of_lt (by omega : k < 64), wrap_u64]
    have ew : wrap64 (x : Int) = a := by unfold wrap64; omega
    have ep : (2 : Int) ^ k = ((2 ^ k : Nat) : Int) := by simp
    rw [ew, ep]
    have hP : 0 < 2 ^ k := Nat.two_pow_pos k
    generalize 2 ^ k = P at *
    have h1 : a / (P : Int) * P ≤ a := Int.ediv_mul_le a (by omega)
    clear h e1 ep
    by_cases h0 : 0 ≤ a
    · have u := Int.ediv_le_self (P : Int) h0
      have v := Int.ediv_nonneg h0 (by omega : (0 : Int) ≤ P)
      generalize a / (P : Int) = q at *
      unfold wrap64; omega
    · obtain ⟨n, rfl⟩ : ∃ n : Nat, a = -(n : Int) - 1 := ⟨(-a - 1).toNat, by omega⟩
      have u := Nat.div_le_self n P
      rw [ediv_below n P hP]
      generalize n / P = q at *
      unfold wrap64; omega
  · simp only [doN, if_true, opN]
    omega
theorem tdiv_below (a : Int) (D : Nat) (hD : 0 < D) (h0 : a < 0) :
    (a.tmod D = 0 → a.tdiv D = a / D) ∧ (a.tmod D ≠ 0 → a.tdiv D - 1 = a / D) := by
  obtain ⟨N, rfl⟩ : ∃ N : Nat, a = -(N : Int) := ⟨(-a).toNat, by omega⟩
  have e1 : (-(N : Int)).tdiv D = -((N / D : Nat) : Int) := by rw [Int.neg_tdiv]; rfl
  have e2 : (-(N : Int)).tmod D = -((N % D : Nat) : Int) := by rw [Int.neg_tmod]; rfl
  rw [e1, e2]
  have hN : 0 < N := by omega
  have hd := Nat.div_add_mod N D
  refine ⟨fun h => ?_, fun h => ?_⟩
  · have hm : N % D = 0 := by omega
    have hk : N = D * (N / D) := by omega
    have : -(N : Int) = -((N / D : Nat) : Int) * (D : Int) := by
      rw [Int.neg_mul, ← Int.natCast_mul, Nat.mul_comm, ← hk]
    rw [this, Int.mul_ediv_cancel _ (by omega)]
  · have hm : 0 < N % D := by omega
    have hq : (N - 1) / D = N / D := by
      have hlt := Nat.mod_lt N hD
      have : N - 1 = N % D - 1 + D * (N / D) := by omega
      rw [this, Nat.add_mul_div_left _ _ hD, Nat.div_eq_of_lt (by omega)]
      omega
    have e := ediv_below (N - 1) D hD
    have en : -((N - 1 : Nat) : Int) - 1 = -(N : Int) := by omega
    rw [en, hq] at e
    exact e.symm

/-! ### STEP 1: THE WALK: the Go text returns true. 'Grown w w'': the world has at most new blocks (Derived/RowKit3.lean). Part the cases AHEAD of 'go_enter' where a test parts the walk; take each callee by a contract of your own. -/
set_option maxRecDepth 100000 in
set_option maxHeartbeats 1000000 in
theorem walk (a0 : Int) (a1 : Int) (w0 : (Lit.int .i64 a0).wf = true) (w1 : (Lit.int .u8 a1).wf = true) (w : World) :
    Calls Try.prog 8 #[.int .i64 a0, .int .u8 a1] w fun e w' => e = .returned (.bool true) ∧ Grown w w' := by
  have b0 := bounds_i64 w0
  obtain ⟨n, rfl⟩ : ∃ n : Nat, a1 = n := ⟨a1.toNat, by have := bounds_u8 w1; omega⟩
  have bn : n ≤ 255 := by have := bounds_u8 w1; omega
  clear w0 w1
  have hk : n % 63 < 63 := Nat.mod_lt _ (by omega)
  obtain ⟨V, x, hV, lx, hwx, hv, hz⟩ := sign_shr a0 (n % 63) hk b0
  obtain ⟨D, hD⟩ : ∃ D, D = 2 ^ (n % 63) := ⟨_, rfl⟩
  have p1 : 0 < D := hD ▸ Nat.two_pow_pos _
  have q1 : D ≤ 2 ^ 62 := hD ▸ Nat.pow_le_pow_right (by omega) (by omega)
  have k1 : wrap64 (2 ^ (n % 63)) = (D : Int) := by
    have : (2 : Int) ^ (n % 63) = (D : Int) := by rw [hD]; simp
    rw [this]; unfold wrap64; omega
  have h8 := doN_lt 8 true x 0 lx (by omega)
  have ek : (n : Int) % 63 = ((n % 63 : Nat) : Int) := by omega
  have c1 : ∀ w, Calls Try.prog 11 #[.int .i64 12, .bool true, .int .u64 (IntKind.u64.wrap a0), .int .u64 ((n : Int) % 63)] w fun e w' => e = .returned (.tuple #[.int .u64 (V : Nat), .bool true]) ∧ Grown w w' := by
    rw [hwx, ek, hV]
    exact do_any 12 (by omega) true x _ lx (by omega)
  have c2 : ∀ w, Calls Try.prog 11 #[.int .i64 8, .bool true, .int .u64 (IntKind.u64.wrap a0), .int .u64 0] w fun e w' => e = .returned (.tuple #[.int .u64 (doN 8 true x 0 : Nat), .bool true]) ∧ Grown w w' := by
    rw [hwx]
    exact do_any 8 (by omega) true x 0 lx (by omega)
  have c3 : ∀ w, Calls Try.prog 11 #[.int .i64 0, .bool true, .int .u64 (IntKind.u64.wrap a0), .int .u64 (doN 8 true x 0 : Nat)] w fun e w' => e = .returned (.tuple #[.int .u64 0, .bool true]) ∧ Grown w w' := by
    rw [hwx]
    have h := do_any 0 (by omega) true x _ lx h8
    rw [hz] at h
    exact h
  rw [← hD] at hv
  clear hwx hz hV ek h8 hD lx hk
  by_cases h0 : 0 ≤ a0
  · have e : IntKind.u64.wrap a0 = a0 := by rw [wrap_u64]; omega
    rw [e] at c1 c2 c3
    clear e
    go_enter Try.func8, Try.ntmps8
    go_wp2_with (first
      | (go_at_call 10; refine (known_any _).mono ?_; rintro e w1 ⟨rfl, gk⟩)
      | ((with_reducible refine (c1 _).mono ?_); rintro e w1 ⟨rfl, g1⟩)
      | ((with_reducible refine (c2 _).mono ?_); rintro e w1 ⟨rfl, g2⟩)
      | ((with_reducible refine (c3 _).mono ?_); rintro e w1 ⟨rfl, g3⟩))
    go_ret
    exact ⟨rfl, grown_trans gk (grown_trans g1 (grown_trans g2 g3))⟩
  · obtain ⟨t1, t2⟩ := tdiv_below a0 D p1 (by omega)
    by_cases hm : a0.tmod D = 0
    · rw [← t1 hm] at hv
      have hb : (a0.tmod D != 0) = false := by simp [hm]
      clear t1 t2 hm
      go_enter Try.func8, Try.ntmps8
      go_wp2_with (first
        | (go_at_call 10; refine (known_any _).mono ?_; rintro e w1 ⟨rfl, gk⟩)
        | ((with_reducible refine (c1 _).mono ?_); rintro e w1 ⟨rfl, g1⟩)
        | ((with_reducible refine (c2 _).mono ?_); rintro e w1 ⟨rfl, g2⟩)
        | ((with_reducible refine (c3 _).mono ?_); rintro e w1 ⟨rfl, g3⟩))
      go_ret
      exact ⟨rfl, grown_trans gk (grown_trans g1 (grown_trans g2 g3))⟩
    · have hq : wrap64 (a0.tdiv D - 1) = wrap64 (V : Int) := by
        rw [t2 hm, hv]
        have : wrap64 (wrap64 (V : Int)) = wrap64 (V : Int) := by unfold wrap64; omega
        rw [← hv, this]
      have hb : (a0.tmod D != 0) = true := by simp [hm]
      clear t1 t2 hm hv
      go_enter Try.func8, Try.ntmps8
      go_wp2_with (first
        | (go_at_call 10; refine (known_any _).mono ?_; rintro e w1 ⟨rfl, gk⟩)
        | ((with_reducible refine (c1 _).mono ?_); rintro e w1 ⟨rfl, g1⟩)
        | ((with_reducible refine (c2 _).mono ?_); rintro e w1 ⟨rfl, g2⟩)
        | ((with_reducible refine (c3 _).mono ?_); rintro e w1 ⟨rfl, g3⟩))
      go_ret
      exact ⟨rfl, grown_trans gk (grown_trans g1 (grown_trans g2 g3))⟩

/-! ### THE ROW's STEP: WRITTEN OUT: LEAVE IT -/
set_option maxRecDepth 100000 in
theorem lifted (os : Os) (started : os.Started) (H : Type) (enc : TypeId × Value → H) :
    ReturnsInHanded {} Try.checked os 8 .any (Rows.aluSignsSpec.pre6 enc Try.prog Try.f8 Rows.aluSignsRow.domain false) (Rows.aluSignsSpec.post enc Try.prog Try.f8 false true false false) := by
  refine returnsInHanded_of_change (C := Try.checked) own started (by kernel_rfl) Try.func8
    (ChangeSpec.witness6 (enc := enc) (C := Try.checked) false ⟨#[], #[.int .i64 0, .int .u8 0], []⟩ 8 (by kernel_rfl) (by kernel_rfl) (by kernel_rfl) (by kernel_rfl)) ?_
  intro W base args ds gs before hval0 hW hcnd _
  have hval : ∀ (j : Nat) t v, Try.f8.params[j]? = some t → args[j]? = some v → Value.okWide Try.prog W .any base t v := hval0
  have hW' := hW
  obtain ⟨p, q, hA0, hV, rfl, hfz, hnd⟩ := hW
  have hA : DataW.TrodAll enc Try.prog W 0 (fun _ => true) true Try.f8.params.toList args.toList ds p := hA0
  rw [Try.params8] at hA hval
  obtain ⟨v0, vs0, d0, ds0, p0, q0, hargs, rfl, rfl, h0, r0⟩ := trodAll_cons hA
  obtain ⟨v1, vs1, d1, ds1, p1, q1, rfl, rfl, rfl, h1, r1⟩ := trodAll_cons r0
  obtain ⟨rfl, rfl, rfl⟩ := trodAll_nil r1
  obtain rfl : args = #[v0, v1] := by cases args; simp_all
  obtain ⟨rfl, rfl⟩ := trodVars_none hV
  obtain ⟨a0, rfl, rfl, rfl, w0⟩ := open_int Try.underlying2 (hval 0 2 v0 rfl rfl) h0
  obtain ⟨a1, rfl, rfl, rfl, w1⟩ := open_int Try.underlying5 (hval 1 5 v1 rfl rfl) h1
  clear hA0 hval0
  simp only [List.append_nil] at hW'
  refine (walk a0 a1 w0 w1 W).mono fun e W' ⟨he, hg⟩ => ?_
  subst he
  exact ⟨_, rfl, post_of_same (pa := []) (pv := []) hW' (fun _ _ _ => (trodAll_cons_mk (shut_bool Try.underlying4 _) trodAll_mk0)) (fun sp _ => (trodAll_cons_mk (shut_int Try.underlying2 w0) (trodAll_cons_mk (shut_int Try.underlying5 w1) trodAll_mk0))) (fun _ _ => rfl) rfl
    (hg.frame _) hg.2.1 (ok_one (by kernel_rfl) rfl (okWide_bool_mk Try.underlying4 _))⟩

theorem over : Rows.aluSignsRow.holds Try.pinned (OpenSpec.ofChange Rows.aluSignsSpec) :=
  OpenClaim.holds_of_wide 8 Try.f8 rfl rfl rfl rfl rfl rfl rfl ⟨rfl, rfl, rfl, rfl, rfl⟩ rfl rfl rfl rfl rfl (by kernel_rfl) Try.func8 (by kernel_rfl)
    (of_decide_eq_true (by kernel_rfl)) (by unfold Func.isWrapper; first | (rw [if_pos (by decide +kernel)]; kernel_rfl) | (rw [if_neg (by decide +kernel)]; exact ⟨rfl, rfl⟩))
    (fun os started H enc _ => lifted os started H enc)

/-- ████ THE STATEMENT ████ -/
theorem proved : Rows.AluSignsSaid :=
  over
#print axioms proved
end Go.Proofs.Ytilbfnnncmjmfaa.aluSigns
