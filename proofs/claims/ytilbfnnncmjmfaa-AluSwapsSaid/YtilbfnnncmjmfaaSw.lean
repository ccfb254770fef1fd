/-
  What alu.Swap, alu.Turn and alu.Sign answer, and what the document's (the reference of layer 2) do, as contracts over the program's own text: no condition.
-/
import Derived.Test.YtilbfnnncmjmfaaDo
import Derived.Test.YtilbfnnncmjmfaaMathD
import Derived.Laws.Bits64b
import Derived.Laws.Closers25b
import Derived.Lib.Hide
namespace Go.Proofs.Ytilbfnnncmjmfaa
open Go.ChangeShapes Go.WideShapes Go.ChangeAt Go.RowKit
set_option linter.unusedVariables false
set_option linter.unusedSimpArgs false

theorem wrap_u16 (n : Int) : IntKind.u16.wrap n = n % 65536 := by
  simp [IntKind.wrap, IntKind.signed, IntKind.bits]
theorem bits_or_u16 (a b : Nat) (ha : a < 65536) (hb : b < 65536) : bits .or .u16 (a : Int) (b : Int) = ((a ||| b : Nat) : Int) := by
  have hx : a ||| b < 2 ^ 16 := Nat.or_lt_two_pow (by omega) (by omega)
  have h1 : (BitVec.ofInt 16 (a : Int)).toNat = a := by
    rw [BitVec.ofInt_natCast, BitVec.toNat_ofNat]; exact Nat.mod_eq_of_lt (by omega)
  have h2 : (BitVec.ofInt 16 (b : Int)).toNat = b := by
    rw [BitVec.ofInt_natCast, BitVec.toNat_ofNat]; exact Nat.mod_eq_of_lt (by omega)
  show IntKind.u16.wrap ((BitVec.ofInt 16 (a : Int) ||| BitVec.ofInt 16 (b : Int)).toNat : Int) = _
  rw [BitVec.toNat_or, h1, h2, wrap_u16]
  omega
theorem tn_lt (a : Nat) : ∀ k, tn a k < 256 ^ k
  | 0 => by simp [tn]
  | k + 1 => by
    have ih := tn_lt a k
    have hb : a / 2 ^ (8 * k) % 256 < 256 := Nat.mod_lt _ (by omega)
    show 256 * tn a k + a / 2 ^ (8 * k) % 256 < 256 ^ (k + 1)
    rw [Nat.pow_succ]
    generalize 256 ^ k = P at *
    omega
theorem mix64 (a K M : Nat) (Ki Mi : Int) (hK : Ki = K) (hM : Mi = M) (ha : a < 18446744073709551616) (hM' : M < 18446744073709551616) :
    bits .or .u64 (bits .and .u64 ((a : Int) / Ki) Mi) (IntKind.u64.wrap (bits .and .u64 (a : Int) Mi * Ki)) = (((a / K &&& M) ||| ((a &&& M) * K % 18446744073709551616) : Nat) : Int) := by
  subst hK hM
  have h1 : a / K < 18446744073709551616 := Nat.lt_of_le_of_lt (Nat.div_le_self _ _) ha
  rw [← Int.natCast_ediv, bits_and_u64_nat _ _ h1 hM', bits_and_u64_nat _ _ ha hM', wrap_u64, ← Int.natCast_mul]
  have l1 : a / K &&& M < 2 ^ 64 := Nat.and_lt_two_pow _ hM'
  generalize a / K &&& M = p at *
  generalize (a &&& M) * K = q at *
  have e : (q : Int) % 18446744073709551616 = ((q % 18446744073709551616 : Nat) : Int) := by omega
  rw [e]
  exact bits_or_u64_nat _ _ (by omega) (by omega)
theorem last64 (a K : Nat) (Ki : Int) (hK : Ki = K) (ha : a < 18446744073709551616) :
    bits .or .u64 ((a : Int) / Ki) (IntKind.u64.wrap ((a : Int) * Ki)) = (((a / K) ||| (a * K % 18446744073709551616) : Nat) : Int) := by
  subst hK
  have h1 : a / K < 18446744073709551616 := Nat.lt_of_le_of_lt (Nat.div_le_self _ _) ha
  rw [← Int.natCast_ediv, wrap_u64, ← Int.natCast_mul]
  generalize a / K = p at *
  generalize a * K = q at *
  have e : (q : Int) % 18446744073709551616 = ((q % 18446744073709551616 : Nat) : Int) := by omega
  rw [e]
  exact bits_or_u64_nat _ _ (by omega) (by omega)
theorem mix32 (a K M : Nat) (Ki Mi : Int) (hK : Ki = K) (hM : Mi = M) (ha : a < 4294967296) (hM' : M < 4294967296) :
    bits .or .u32 (bits .and .u32 ((a : Int) / Ki) Mi) (bits .and .u32 (a : Int) Mi * Ki % 4294967296) = (((a / K &&& M) ||| ((a &&& M) * K % 4294967296) : Nat) : Int) := by
  subst hK hM
  have h1 : a / K < 4294967296 := Nat.lt_of_le_of_lt (Nat.div_le_self _ _) ha
  rw [← Int.natCast_ediv, bits_and_u32 _ _ h1 hM', bits_and_u32 _ _ ha hM', ← Int.natCast_mul]
  have l1 : a / K &&& M < 2 ^ 32 := Nat.and_lt_two_pow _ hM'
  generalize a / K &&& M = p at *
  generalize (a &&& M) * K = q at *
  have e : (q : Int) % 4294967296 = ((q % 4294967296 : Nat) : Int) := by omega
  rw [e]
  exact bits_or_u32 _ _ (by omega) (by omega)
theorem last32 (a K : Nat) (Ki : Int) (hK : Ki = K) (ha : a < 4294967296) :
    bits .or .u32 ((a : Int) / Ki) ((a : Int) * Ki % 4294967296) = (((a / K) ||| (a * K % 4294967296) : Nat) : Int) := by
  subst hK
  have h1 : a / K < 4294967296 := Nat.lt_of_le_of_lt (Nat.div_le_self _ _) ha
  rw [← Int.natCast_ediv, ← Int.natCast_mul]
  generalize a / K = p at *
  generalize a * K = q at *
  have e : (q : Int) % 4294967296 = ((q % 4294967296 : Nat) : Int) := by omega
  rw [e]
  exact bits_or_u32 _ _ (by omega) (by omega)
theorem rb16 (a : Nat) (h : a < 65536) (w : World) : Calls Try.prog 23 #[.int .u16 a] w fun e w' => e = .returned (.int .u16 (tn a 2 : Nat)) ∧ w = w' := by
  go_enter Try.func23, Try.ntmps23
  go_wp2
  go_ret
  refine ⟨ret_int ?_, rfl⟩
  have e1 : (a : Int) / 256 = ((a / 256 : Nat) : Int) := by omega
  have e2 : IntKind.u16.wrap ((a : Int) * 256) = ((a * 256 % 65536 : Nat) : Int) := by rw [wrap_u16]; omega
  rw [e1, e2, bits_or_u16 _ _ (by omega) (by omega), rev16 a h]
theorem rb32 (a : Nat) (h : a < 4294967296) (w : World) : Calls Try.prog 24 #[.int .u32 a] w fun e w' => e = .returned (.int .u32 (tn a 4 : Nat)) ∧ w = w' := by
  go_enter Try.func24, Try.ntmps24
  go_wp2
  go_ret
  refine ⟨ret_int ?_, rfl⟩
  obtain ⟨s, hs⟩ : ∃ s, s = (a / 256 &&& 16711935) ||| ((a &&& 16711935) * 256 % 4294967296) := ⟨_, rfl⟩
  have ls : s < 2 ^ 32 := hs ▸ Nat.or_lt_two_pow (Nat.and_lt_two_pow _ (by omega)) (Nat.mod_lt _ (by omega))
  rw [mix32 a 256 16711935 256 16711935 rfl rfl h (by omega), ← hs, last32 s 65536 65536 rfl (by omega), rev32 a h s hs]
theorem rb64 (a : Nat) (h : a < 18446744073709551616) (w : World) : Calls Try.prog 25 #[.int .u64 a] w fun e w' => e = .returned (.int .u64 (tn a 8 : Nat)) ∧ w = w' := by
  go_enter Try.func25, Try.ntmps25
  go_wp2
  go_ret
  refine ⟨ret_int ?_, rfl⟩
  obtain ⟨s, hs⟩ : ∃ s, s = (a / 256 &&& 71777214294589695) ||| ((a &&& 71777214294589695) * 256 % 18446744073709551616) := ⟨_, rfl⟩
  have ls : s < 2 ^ 64 := hs ▸ Nat.or_lt_two_pow (Nat.and_lt_two_pow _ (by omega)) (Nat.mod_lt _ (by omega))
  obtain ⟨t, ht⟩ : ∃ t, t = (s / 65536 &&& 281470681808895) ||| ((s &&& 281470681808895) * 65536 % 18446744073709551616) := ⟨_, rfl⟩
  have lt : t < 2 ^ 64 := ht ▸ Nat.or_lt_two_pow (Nat.and_lt_two_pow _ (by omega)) (Nat.mod_lt _ (by omega))
  rw [mix64 a 256 71777214294589695 256 71777214294589695 rfl rfl h (by omega), ← hs, mix64 s 65536 281470681808895 65536 281470681808895 rfl rfl (by omega) (by omega), ← ht, last64 t 4294967296 4294967296 rfl (by omega), rev64 a h s t hs ht]
theorem turn_16 (a : Nat) (h : a < 18446744073709551616) (w : World) : Calls Try.prog 15 #[.int .i64 16, .int .u64 a] w fun e w' => e = .returned (.tuple #[.int .u64 (tn a 2 : Nat), .bool true]) ∧ w = w' := by
  have e : IntKind.u16.wrap (a : Int) = ((a % 65536 : Nat) : Int) := by rw [wrap_u16]; omega
  have c : ∀ w, Calls Try.prog 23 #[.int .u16 (IntKind.u16.wrap (a : Int))] w fun e w' => e = .returned (.int .u16 (tn a 2 : Nat)) ∧ w = w' := fun w => by
    have := rb16 (a % 65536) (by omega) w
    rw [(tn_2 a).2.1, ← e] at this
    exact this
  have l := (tn_2 a).2.2
  clear e
  go_enter Try.func15, Try.ntmps15
  go_wp2_with ((with_reducible refine (c _).mono ?_); rintro e w1 ⟨rfl, rfl⟩)
  go_ret2
  exact ⟨rfl, rfl⟩
theorem turn_32 (a : Nat) (h : a < 18446744073709551616) (w : World) : Calls Try.prog 15 #[.int .i64 32, .int .u64 a] w fun e w' => e = .returned (.tuple #[.int .u64 (tn a 4 : Nat), .bool true]) ∧ w = w' := by
  have e : (a : Int) % 4294967296 = ((a % 4294967296 : Nat) : Int) := by omega
  have c : ∀ w, Calls Try.prog 24 #[.int .u32 ((a : Int) % 4294967296)] w fun e w' => e = .returned (.int .u32 (tn a 4 : Nat)) ∧ w = w' := fun w => by
    have := rb32 (a % 4294967296) (by omega) w
    rw [(tn_4 a).2.1, ← e] at this
    exact this
  have l := (tn_4 a).2.2
  clear e
  go_enter Try.func15, Try.ntmps15
  go_wp2_with ((with_reducible refine (c _).mono ?_); rintro e w1 ⟨rfl, rfl⟩)
  go_ret2
  exact ⟨rfl, rfl⟩
theorem turn_64 (a : Nat) (h : a < 18446744073709551616) (w : World) : Calls Try.prog 15 #[.int .i64 64, .int .u64 a] w fun e w' => e = .returned (.tuple #[.int .u64 (tn a 8 : Nat), .bool true]) ∧ w = w' := by
  have c := rb64 a h
  go_enter Try.func15, Try.ntmps15
  go_wp2_with ((with_reducible refine (c _).mono ?_); rintro e w1 ⟨rfl, rfl⟩)
  go_ret2
  exact ⟨rfl, rfl⟩
theorem turn_none (to : Int) (h1 : to ≠ 16) (h2 : to ≠ 32) (h3 : to ≠ 64) (a : Nat) (w : World) : Calls Try.prog 15 #[.int .i64 to, .int .u64 a] w fun e w' => e = .returned (.tuple #[.int .u64 0, .bool false]) ∧ w = w' := by
  have n1 : (to == 16) = false := by simpa using h1
  have n2 : (to == 32) = false := by simpa using h2
  have n3 : (to == 64) = false := by simpa using h3
  clear h1 h2 h3
  go_enter Try.func15, Try.ntmps15
  go_wp2_with fail
  go_ret2
  exact ⟨rfl, rfl⟩
theorem rturn_none (to : Int) (h1 : to ≠ 16) (h2 : to ≠ 32) (h3 : to ≠ 64) (a : Nat) (w : World) : Calls Try.prog 16 #[.int .i64 to, .int .u64 a] w fun e w' => e = .returned (.tuple #[.int .u64 0, .bool false]) ∧ w = w' := by
  have n1 : (to != 16) = true := by simpa using h1
  have n2 : (to != 32) = true := by simpa using h2
  have n3 : (to != 64) = true := by simpa using h3
  clear h1 h2 h3
  go_enter Try.func16, Try.ntmps16
  go_wp2_with fail
  go_ret2
  exact ⟨rfl, rfl⟩
theorem turn_step (a k : Nat) (hk : k < 8) : IntKind.u64.wrap (IntKind.u64.wrap (256 * (tn a k : Nat)) + ((a : Int) / 2 ^ (8 * k)).tmod 256) = ((tn a (k + 1) : Nat) : Int) := by
  have l := tn_lt a k
  have l7 : 256 ^ k ≤ 256 ^ 7 := Nat.pow_le_pow_right (by omega) (by omega)
  have e : (2 : Int) ^ (8 * k) = ((2 ^ (8 * k) : Nat) : Int) := (by simp)
  have et : tn a (k + 1) = 256 * tn a k + a / 2 ^ (8 * k) % 256 := rfl
  rw [e, ← Int.natCast_ediv, et]
  have em : ((a / 2 ^ (8 * k) : Nat) : Int).tmod 256 = ((a / 2 ^ (8 * k) % 256 : Nat) : Int) := rfl
  rw [em, wrap_u64, wrap_u64]
  clear e et em
  have hb : a / 2 ^ (8 * k) % 256 < 256 := Nat.mod_lt _ (by omega)
  generalize a / 2 ^ (8 * k) % 256 = b at *
  generalize tn a k = t at *
  generalize 256 ^ k = P at *
  omega
theorem rturn_16 (a : Nat) (h : a < 18446744073709551616) (w : World) : Calls Try.prog 16 #[.int .i64 16, .int .u64 a] w fun e w' => e = .returned (.tuple #[.int .u64 (tn a 2 : Nat), .bool true]) ∧ w = w' := by
  go_enter Try.func16, Try.ntmps16
  go_wp2_with fail
  go_loop [6, 7] (fun v i => ∃ k : Nat, k ≤ 2 ∧ i = .int .i64 k ∧ v = .int .u64 (tn a k : Nat)) (fun _ i => 2 - (intOf i).toNat)
  case atStart => exact ⟨0, by omega, rfl, rfl⟩
  case round =>
    obtain ⟨k, hk, rfl, rfl⟩ := hrel
    by_cases hlt : k < 2
    · have R : Hid (IntKind.u64.wrap (IntKind.u64.wrap (256 * (tn a k : Nat)) + ((a : Int) / 2 ^ (8 * k)).tmod 256) = ((tn a (k + 1) : Nat) : Int)) := Lib.hid (turn_step a k (by omega))
      go_wp2
      go_round
      case rel => exact ⟨k + 1, by omega, by go_num, congrArg (Value.int .u64) R.out⟩
      case measure => simp [intOf]; omega
    · obtain rfl : k = 2 := by omega
      go_wp2
      go_ret2
      exact ⟨rfl, rfl⟩
theorem rturn_32 (a : Nat) (h : a < 18446744073709551616) (w : World) : Calls Try.prog 16 #[.int .i64 32, .int .u64 a] w fun e w' => e = .returned (.tuple #[.int .u64 (tn a 4 : Nat), .bool true]) ∧ w = w' := by
  go_enter Try.func16, Try.ntmps16
  go_wp2_with fail
  go_loop [6, 7] (fun v i => ∃ k : Nat, k ≤ 4 ∧ i = .int .i64 k ∧ v = .int .u64 (tn a k : Nat)) (fun _ i => 4 - (intOf i).toNat)
  case atStart => exact ⟨0, by omega, rfl, rfl⟩
  case round =>
    obtain ⟨k, hk, rfl, rfl⟩ := hrel
    by_cases hlt : k < 4
    · have R : Hid (IntKind.u64.wrap (IntKind.u64.wrap (256 * (tn a k : Nat)) + ((a : Int) / 2 ^ (8 * k)).tmod 256) = ((tn a (k + 1) : Nat) : Int)) := Lib.hid (turn_step a k (by omega))
      go_wp2
      go_round
      case rel => exact ⟨k + 1, by omega, by go_num, congrArg (Value.int .u64) R.out⟩
      case measure => simp [intOf]; omega
    · obtain rfl : k = 4 := by omega
      go_wp2
      go_ret2
      exact ⟨rfl, rfl⟩
theorem rturn_64 (a : Nat) (h : a < 18446744073709551616) (w : World) : Calls Try.prog 16 #[.int .i64 64, .int .u64 a] w fun e w' => e = .returned (.tuple #[.int .u64 (tn a 8 : Nat), .bool true]) ∧ w = w' := by
  go_enter Try.func16, Try.ntmps16
  go_wp2_with fail
  go_loop [6, 7] (fun v i => ∃ k : Nat, k ≤ 8 ∧ i = .int .i64 k ∧ v = .int .u64 (tn a k : Nat)) (fun _ i => 8 - (intOf i).toNat)
  case atStart => exact ⟨0, by omega, rfl, rfl⟩
  case round =>
    obtain ⟨k, hk, rfl, rfl⟩ := hrel
    by_cases hlt : k < 8
    · have R : Hid (IntKind.u64.wrap (IntKind.u64.wrap (256 * (tn a k : Nat)) + ((a : Int) / 2 ^ (8 * k)).tmod 256) = ((tn a (k + 1) : Nat) : Int)) := Lib.hid (turn_step a k (by omega))
      go_wp2
      go_round
      case rel => exact ⟨k + 1, by omega, by go_num, congrArg (Value.int .u64) R.out⟩
      case measure => simp [intOf]; omega
    · obtain rfl : k = 8 := by omega
      go_wp2
      go_ret2
      exact ⟨rfl, rfl⟩
theorem sign_any (n : Int) (w : World) : Calls Try.prog 17 #[.int .i32 n] w fun e w' => e = .returned (.int .u64 (IntKind.u64.wrap (wrap64 n))) ∧ w = w' := by
  go_enter Try.func17, Try.ntmps17
  go_wp2
  go_ret
  exact ⟨rfl, rfl⟩
theorem rsign_any (n : Int) (w : World) : Calls Try.prog 18 #[.int .i32 n] w fun e w' => e = .returned (.int .u64 (IntKind.u64.wrap (wrap64 n))) ∧ w = w' := by
  go_enter Try.func18, Try.ntmps18
  go_wp2
  go_ret
  exact ⟨rfl, rfl⟩
theorem swap_big_16 (a : Nat) (h : a < 18446744073709551616) (w : World) : Calls Try.prog 13 #[.int .i64 16, .bool true, .int .u64 a] w fun e w' => e = .returned (.tuple #[.int .u64 (tn a 2 : Nat), .bool true]) ∧ w = w' := by
  have c := turn_16 a h
  go_enter Try.func13, Try.ntmps13
  go_wp2_with ((with_reducible refine (c _).mono ?_); rintro e w1 ⟨rfl, rfl⟩)
  go_ret2
  exact ⟨rfl, rfl⟩
theorem swap_low_16 (a : Nat) (h : a < 18446744073709551616) (w : World) : Calls Try.prog 13 #[.int .i64 16, .bool false, .int .u64 a] w fun e w' => e = .returned (.tuple #[.int .u64 ((a : Int) % 65536), .bool true]) ∧ w = w' := by
  go_enter Try.func13, Try.ntmps13
  go_wp2_with fail
  go_ret2
  exact ⟨by first | rfl | (have e : IntKind.u64.wrap (IntKind.u16.wrap (a : Int)) = (a : Int) % 65536 := (by rw [wrap_u16, wrap_u64]; omega); show Ending.returned (.tuple #[.int .u64 (IntKind.u64.wrap (IntKind.u16.wrap (a : Int))), .bool true]) = _; rw [e]), rfl⟩
theorem swap_big_32 (a : Nat) (h : a < 18446744073709551616) (w : World) : Calls Try.prog 13 #[.int .i64 32, .bool true, .int .u64 a] w fun e w' => e = .returned (.tuple #[.int .u64 (tn a 4 : Nat), .bool true]) ∧ w = w' := by
  have c := turn_32 a h
  go_enter Try.func13, Try.ntmps13
  go_wp2_with ((with_reducible refine (c _).mono ?_); rintro e w1 ⟨rfl, rfl⟩)
  go_ret2
  exact ⟨rfl, rfl⟩
theorem swap_low_32 (a : Nat) (h : a < 18446744073709551616) (w : World) : Calls Try.prog 13 #[.int .i64 32, .bool false, .int .u64 a] w fun e w' => e = .returned (.tuple #[.int .u64 ((a : Int) % 4294967296), .bool true]) ∧ w = w' := by
  go_enter Try.func13, Try.ntmps13
  go_wp2_with fail
  go_ret2
  exact ⟨by first | rfl | (have e : IntKind.u64.wrap (IntKind.u16.wrap (a : Int)) = (a : Int) % 65536 := (by rw [wrap_u16, wrap_u64]; omega); show Ending.returned (.tuple #[.int .u64 (IntKind.u64.wrap (IntKind.u16.wrap (a : Int))), .bool true]) = _; rw [e]), rfl⟩
theorem swap_big_64 (a : Nat) (h : a < 18446744073709551616) (w : World) : Calls Try.prog 13 #[.int .i64 64, .bool true, .int .u64 a] w fun e w' => e = .returned (.tuple #[.int .u64 (tn a 8 : Nat), .bool true]) ∧ w = w' := by
  have c := turn_64 a h
  go_enter Try.func13, Try.ntmps13
  go_wp2_with ((with_reducible refine (c _).mono ?_); rintro e w1 ⟨rfl, rfl⟩)
  go_ret2
  exact ⟨rfl, rfl⟩
theorem swap_low_64 (a : Nat) (h : a < 18446744073709551616) (w : World) : Calls Try.prog 13 #[.int .i64 64, .bool false, .int .u64 a] w fun e w' => e = .returned (.tuple #[.int .u64 (a : Int), .bool true]) ∧ w = w' := by
  go_enter Try.func13, Try.ntmps13
  go_wp2_with fail
  go_ret2
  exact ⟨by first | rfl | (have e : IntKind.u64.wrap (IntKind.u16.wrap (a : Int)) = (a : Int) % 65536 := (by rw [wrap_u16, wrap_u64]; omega); show Ending.returned (.tuple #[.int .u64 (IntKind.u64.wrap (IntKind.u16.wrap (a : Int))), .bool true]) = _; rw [e]), rfl⟩
theorem swap_none (to : Int) (h1 : to ≠ 16) (h2 : to ≠ 32) (h3 : to ≠ 64) (big : Bool) (a : Nat) (w : World) : Calls Try.prog 13 #[.int .i64 to, .bool big, .int .u64 a] w fun e w' => e = .returned (.tuple #[.int .u64 0, .bool false]) ∧ w = w' := by
  have c := turn_none to h1 h2 h3 a
  have n1 : (to == 16) = false := by simpa using h1
  have n2 : (to == 32) = false := by simpa using h2
  have n3 : (to == 64) = false := by simpa using h3
  have m1 : (to != 16) = true := by simpa using h1
  have m2 : (to != 32) = true := by simpa using h2
  have m3 : (to != 64) = true := by simpa using h3
  clear h1 h2 h3
  cases big
  all_goals
    go_enter Try.func13, Try.ntmps13
    go_wp2_with ((with_reducible refine (c _).mono ?_); rintro e w1 ⟨rfl, rfl⟩)
    go_ret2
    exact ⟨rfl, rfl⟩
theorem rswap_big_16 (a : Nat) (h : a < 18446744073709551616) (w : World) : Calls Try.prog 14 #[.int .i64 16, .bool true, .int .u64 a] w fun e w' => e = .returned (.tuple #[.int .u64 (tn a 2 : Nat), .bool true]) ∧ w = w' := by
  have c := rturn_16 a h
  go_enter Try.func14, Try.ntmps14
  go_wp2_with ((with_reducible refine (c _).mono ?_); rintro e w1 ⟨rfl, rfl⟩)
  go_ret2
  exact ⟨rfl, rfl⟩
theorem rswap_low_16 (a : Nat) (h : a < 18446744073709551616) (w : World) : Calls Try.prog 14 #[.int .i64 16, .bool false, .int .u64 a] w fun e w' => e = .returned (.tuple #[.int .u64 ((a : Int) % 65536), .bool true]) ∧ w = w' := by
  go_enter Try.func14, Try.ntmps14
  go_wp2_with fail
  go_ret2
  exact ⟨by first | rfl | (have e : IntKind.u64.wrap (IntKind.u16.wrap (a : Int)) = (a : Int) % 65536 := (by rw [wrap_u16, wrap_u64]; omega); show Ending.returned (.tuple #[.int .u64 (IntKind.u64.wrap (IntKind.u16.wrap (a : Int))), .bool true]) = _; rw [e]), rfl⟩
theorem rswap_big_32 (a : Nat) (h : a < 18446744073709551616) (w : World) : Calls Try.prog 14 #[.int .i64 32, .bool true, .int .u64 a] w fun e w' => e = .returned (.tuple #[.int .u64 (tn a 4 : Nat), .bool true]) ∧ w = w' := by
  have c := rturn_32 a h
  go_enter Try.func14, Try.ntmps14
  go_wp2_with ((with_reducible refine (c _).mono ?_); rintro e w1 ⟨rfl, rfl⟩)
  go_ret2
  exact ⟨rfl, rfl⟩
theorem rswap_low_32 (a : Nat) (h : a < 18446744073709551616) (w : World) : Calls Try.prog 14 #[.int .i64 32, .bool false, .int .u64 a] w fun e w' => e = .returned (.tuple #[.int .u64 ((a : Int) % 4294967296), .bool true]) ∧ w = w' := by
  go_enter Try.func14, Try.ntmps14
  go_wp2_with fail
  go_ret2
  exact ⟨by first | rfl | (have e : IntKind.u64.wrap (IntKind.u16.wrap (a : Int)) = (a : Int) % 65536 := (by rw [wrap_u16, wrap_u64]; omega); show Ending.returned (.tuple #[.int .u64 (IntKind.u64.wrap (IntKind.u16.wrap (a : Int))), .bool true]) = _; rw [e]), rfl⟩
theorem rswap_big_64 (a : Nat) (h : a < 18446744073709551616) (w : World) : Calls Try.prog 14 #[.int .i64 64, .bool true, .int .u64 a] w fun e w' => e = .returned (.tuple #[.int .u64 (tn a 8 : Nat), .bool true]) ∧ w = w' := by
  have c := rturn_64 a h
  go_enter Try.func14, Try.ntmps14
  go_wp2_with ((with_reducible refine (c _).mono ?_); rintro e w1 ⟨rfl, rfl⟩)
  go_ret2
  exact ⟨rfl, rfl⟩
theorem rswap_low_64 (a : Nat) (h : a < 18446744073709551616) (w : World) : Calls Try.prog 14 #[.int .i64 64, .bool false, .int .u64 a] w fun e w' => e = .returned (.tuple #[.int .u64 (a : Int), .bool true]) ∧ w = w' := by
  go_enter Try.func14, Try.ntmps14
  go_wp2_with fail
  go_ret2
  exact ⟨by first | rfl | (have e : IntKind.u64.wrap (IntKind.u16.wrap (a : Int)) = (a : Int) % 65536 := (by rw [wrap_u16, wrap_u64]; omega); show Ending.returned (.tuple #[.int .u64 (IntKind.u64.wrap (IntKind.u16.wrap (a : Int))), .bool true]) = _; rw [e]), rfl⟩
theorem rswap_none (to : Int) (h1 : to ≠ 16) (h2 : to ≠ 32) (h3 : to ≠ 64) (big : Bool) (a : Nat) (w : World) : Calls Try.prog 14 #[.int .i64 to, .bool big, .int .u64 a] w fun e w' => e = .returned (.tuple #[.int .u64 0, .bool false]) ∧ w = w' := by
  have c := rturn_none to h1 h2 h3 a
  have n1 : (to == 16) = false := by simpa using h1
  have n2 : (to == 32) = false := by simpa using h2
  have n3 : (to == 64) = false := by simpa using h3
  have m1 : (to != 16) = true := by simpa using h1
  have m2 : (to != 32) = true := by simpa using h2
  have m3 : (to != 64) = true := by simpa using h3
  clear h1 h2 h3
  cases big
  all_goals
    go_enter Try.func14, Try.ntmps14
    go_wp2_with ((with_reducible refine (c _).mono ?_); rintro e w1 ⟨rfl, rfl⟩)
    go_ret2
    exact ⟨rfl, rfl⟩
end Go.Proofs.Ytilbfnnncmjmfaa
