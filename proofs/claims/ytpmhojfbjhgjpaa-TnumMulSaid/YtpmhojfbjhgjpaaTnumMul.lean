/-
  The law of products.
-/
import Derived.Test.YtpmhojfbjhgjpaaNou
import Derived.Deep.DeepCutAuto
import Derived.Deep.RegionHeld3
import Derived.Outline
import Derived.ProofKit
import Derived.ChangeSame
namespace Go.Proofs.Ytpmhojfbjhgjpaa.tnumMul
open Go.ChangeShapes Go.WideShapes Go.ChangeAt Go.RowKit Go.Joins
set_option linter.unusedVariables false
set_option linter.unusedSimpArgs false
theorem At.drew {w : World} {b : Nat} {t : T} (h : At w b t) : At w.drew b t := h.next (Below.drew (Below.refl _ _))
def QQ (wb w : World) (ba bb bm : Nat) (a b m : T) : Prop := At w ba a ∧ At w bb b ∧ At w bm m ∧ Below wb.heap.size wb w
theorem QQ.next {wb w w1 : World} {ba bb bm : Nat} {a b m : T} (h : QQ wb w ba bb bm a b m) (g : Below w.heap.size w w1) : QQ wb w1 ba bb bm a b m :=
  ⟨h.1.next g, h.2.1.next g, h.2.2.1.next g, bl_trans h.2.2.2 g⟩
theorem keepq {wb w w1 : World} {ba bb bm : Nat} {a b m : T} (g : Below w.heap.size w w1)
    (h : w.cell? ⟨ba, 0, none⟩ = some (.int .u64 (nn a.v)) ∧ w.cell? ⟨ba, 1, none⟩ = some (.int .u64 (nn a.m)) ∧ w.cell? ⟨bb, 0, none⟩ = some (.int .u64 (nn b.v)) ∧ w.cell? ⟨bb, 1, none⟩ = some (.int .u64 (nn b.m)) ∧ QQ wb w ba bb bm a b m) :
    w1.cell? ⟨ba, 0, none⟩ = some (.int .u64 (nn a.v)) ∧ w1.cell? ⟨ba, 1, none⟩ = some (.int .u64 (nn a.m)) ∧ w1.cell? ⟨bb, 0, none⟩ = some (.int .u64 (nn b.v)) ∧ w1.cell? ⟨bb, 1, none⟩ = some (.int .u64 (nn b.m)) ∧ QQ wb w1 ba bb bm a b m := by
  have q := h.2.2.2.2.next g
  exact ⟨q.1.1, q.1.2.1, q.2.1.1, q.2.1.2.1, q⟩
theorem wf_mul (a b : T) : wf (mul a b) := wf_pmul _ _
theorem kn_mul (a b : T) : kn (mul a b) = mul a b := kn_wf (wf_mul a b)
theorem mul_const {a b : T} (h1 : a.m = 0#64) (h2 : b.m = 0#64) : mul a b = ⟨a.v * b.v, 0#64⟩ := by
  obtain ⟨v, m⟩ := a
  obtain ⟨x, n⟩ := b
  simp only at h1 h2
  subst h1 h2
  unfold mul
  rw [kn_const, kn_const, pmul_const]
theorem mulc_any (a b : T) (h1 : a.m = 0#64) (h2 : b.m = 0#64) (w : World) : Calls Try.prog 46 #[.agg #[.int .u64 (nn a.v), .int .u64 (nn a.m)], .agg #[.int .u64 (nn b.v), .int .u64 (nn b.m)]] w fun e w' => e = .returned (.agg #[.int .u64 (nn (a.v * b.v)), .int .u64 0]) ∧ Below w.heap.size w w' := by
  have h := mul_any a b w
  rw [mul_const h1 h2] at h
  exact h
theorem ZT_of {n : Nat} {t : T} (h : Z n (hi t)) : ZT n t := by
  rw [Z_iff] at h
  constructor <;> rw [Z_iff] <;> intro i hi' <;> have := h i hi' <;> simp only [hi, BitVec.getLsbD_or, Bool.or_eq_false_iff] at this
  · exact this.1
  · exact this.2
theorem mul_low {a b : T} (ha : wf a) (hb : wf b) {p q : Nat} (h1 : Z p (hi a)) (h2 : Z q (hi b)) (n : Nat) (hn : n ≤ 64) (h : n ≤ p + q) : Z n (hi (mul a b)) := by
  have := ZT_pmul (ZT_of h1) (ZT_of h2) hn h
  unfold mul
  rw [kn_wf ha, kn_wf hb]
  exact Z_or this.1 this.2
theorem mostm_any (a b : T) (w : World) : Calls Try.prog 44 #[.agg #[.int .u64 (nn (mul a b).v), .int .u64 (nn (mul a b).m)]] w fun e w' => e = .returned (.int .u64 (nn (hi (mul a b)))) ∧ Below w.heap.size w w' := by
  have h := most_any (mul a b) w
  rw [kn_mul] at h
  exact h
theorem bit1_nz {n : Nat} (hn : n < 64) : nn (bit1 n) = 2 ^ n := by
  unfold nn bit1
  rw [BitVec.toNat_twoPow, Nat.mod_eq_of_lt (Nat.pow_lt_pow_right (by omega : 1 < 2) hn)]
  simp
theorem Z64 {x : BitVec 64} (h : Z 64 x) : nn x = 0 := by
  unfold Z at h
  have := x.isLt
  unfold nn
  obtain ⟨k, hk⟩ := h
  have : k = 0 := by omega
  subst this
  omega
theorem Z_mod {x : BitVec 64} {n : Nat} (hn : n < 64) (h : Z n x) : (nn x).tmod (2 ^ n) = 0 := by
  unfold Z at h
  unfold nn
  rw [Int.tmod_eq_emod_of_nonneg (by omega)]
  have := Nat.mod_eq_zero_of_dvd h
  have e : (2 : Int) ^ n = ((2 ^ n : Nat) : Int) := by simp
  rw [e]
  omega
set_option maxHeartbeats 1000000 in
set_option maxRecDepth 100000 in
theorem walk1 (a0 : T) (a1 : T) (ha : ¬ wf a0) (w : World) : Calls Try.prog 6 #[.agg #[.int .u64 (nn a0.v), .int .u64 (nn a0.m)], .agg #[.int .u64 (nn a1.v), .int .u64 (nn a1.m)]] w fun e w' => e = .returned (.bool true) ∧ Below w.heap.size w w' := by
  have hk := Lib.hid known_any
  obtain ⟨A0, B0⟩ := at_box w a0 a1
  have g0 := bl_box w (.cells #[.int .u64 (nn a0.v), .int .u64 (nn a0.m)] 24) (.cells #[.int .u64 (nn a1.v), .int .u64 (nn a1.m)] 24)
  go_enter Try.func6, Try.ntmps6
  go_upto_region 3 with (((with_reducible refine (hk.out _).mono ?_); rintro e w1 ⟨rfl, g1⟩))
  have A1 := A0.next g1
  have B1 := B0.next g1
  obtain ⟨x1, x2, x3⟩ := id A1
  obtain ⟨y1, y2, y3⟩ := id B1
  go_upto_region 4 with (((with_reducible refine (mul_any _ _ _).mono ?_); rintro e w2 ⟨rfl, g2⟩; simp only [tv]))
  have A2 := (A1.next g2).alloc (.cells #[.int .u64 (nn (mul a0 a1).v), .int .u64 (nn (mul a0 a1).m)] 24)
  have B2 := (B1.next g2).alloc (.cells #[.int .u64 (nn (mul a0 a1).v), .int .u64 (nn (mul a0 a1).m)] 24)
  have M2 := At.new w2 (mul a0 a1) 24
  clear x1 x2 x3 y1 y2 y3
  obtain ⟨x1, x2, x3⟩ := id A2
  obtain ⟨y1, y2, y3⟩ := id B2
  go_upto_region 5 with (((with_reducible refine (is_no _ ha _).mono ?_); rintro e w3 ⟨rfl, g3⟩))
  have M3 := M2.next g3
  clear x1 x2 x3 y1 y2 y3
  obtain ⟨x1, x2, x3⟩ := id M3
  go_wp2_with (((with_reducible refine (is_yes _ (wf_mul _ _) _).mono ?_); rintro e w4 ⟨rfl, g4⟩))
  go_ret
  exact ⟨rfl, bl_trans g0 (bl_trans g1 (bl_trans (bl_alloc g2 _) (bl_trans g3 g4)))⟩
set_option maxHeartbeats 1000000 in
set_option maxRecDepth 100000 in
theorem walk2 (a0 : T) (a1 : T) (ha : wf a0) (hb : ¬ wf a1) (w : World) : Calls Try.prog 6 #[.agg #[.int .u64 (nn a0.v), .int .u64 (nn a0.m)], .agg #[.int .u64 (nn a1.v), .int .u64 (nn a1.m)]] w fun e w' => e = .returned (.bool true) ∧ Below w.heap.size w w' := by
  have hk := Lib.hid known_any
  obtain ⟨A0, B0⟩ := at_box w a0 a1
  have g0 := bl_box w (.cells #[.int .u64 (nn a0.v), .int .u64 (nn a0.m)] 24) (.cells #[.int .u64 (nn a1.v), .int .u64 (nn a1.m)] 24)
  go_enter Try.func6, Try.ntmps6
  go_upto_region 3 with (((with_reducible refine (hk.out _).mono ?_); rintro e w1 ⟨rfl, g1⟩))
  have A1 := A0.next g1
  have B1 := B0.next g1
  obtain ⟨x1, x2, x3⟩ := id A1
  obtain ⟨y1, y2, y3⟩ := id B1
  go_upto_region 4 with (((with_reducible refine (mul_any _ _ _).mono ?_); rintro e w2 ⟨rfl, g2⟩; simp only [tv]))
  have A2 := (A1.next g2).alloc (.cells #[.int .u64 (nn (mul a0 a1).v), .int .u64 (nn (mul a0 a1).m)] 24)
  have B2 := (B1.next g2).alloc (.cells #[.int .u64 (nn (mul a0 a1).v), .int .u64 (nn (mul a0 a1).m)] 24)
  have M2 := At.new w2 (mul a0 a1) 24
  clear x1 x2 x3 y1 y2 y3
  obtain ⟨x1, x2, x3⟩ := id A2
  obtain ⟨y1, y2, y3⟩ := id B2
  go_upto_region 5 with (first
    | ((with_reducible refine (is_yes a0 ha _).mono ?_); rintro e w3 ⟨rfl, g3⟩; have M3 := M2.next g3; have B3 := B2.next g3; obtain ⟨z1, z2, z3⟩ := id B3)
    | ((with_reducible refine (is_no a1 hb _).mono ?_); rintro e w4 ⟨rfl, g4⟩))
  have M4 := M3.next g4
  clear x1 x2 x3 y1 y2 y3
  obtain ⟨x1, x2, x3⟩ := id M4
  go_wp2_with (((with_reducible refine (is_yes _ (wf_mul _ _) _).mono ?_); rintro e w5 ⟨rfl, g5⟩))
  go_ret
  exact ⟨rfl, bl_trans g0 (bl_trans g1 (bl_trans (bl_alloc g2 _) (bl_trans g3 (bl_trans g4 g5))))⟩
set_option maxHeartbeats 1000000 in
set_option maxRecDepth 100000 in
theorem walk3 (a0 : T) (a1 : T) (ha : wf a0) (hb : wf a1) (hm : a0.m = 0#64) (hn : a1.m = 0#64) (w : World) : Calls Try.prog 6 #[.agg #[.int .u64 (nn a0.v), .int .u64 (nn a0.m)], .agg #[.int .u64 (nn a1.v), .int .u64 (nn a1.m)]] w fun e w' => e = .returned (.bool true) ∧ Below w.heap.size w w' := by
  have hk := Lib.hid known_any
  obtain ⟨A0, B0⟩ := at_box w a0 a1
  have g0 := bl_box w (.cells #[.int .u64 (nn a0.v), .int .u64 (nn a0.m)] 24) (.cells #[.int .u64 (nn a1.v), .int .u64 (nn a1.m)] 24)
  have HM := Lib.hid hm
  have HN := Lib.hid hn
  clear hm hn
  go_enter Try.func6, Try.ntmps6
  go_upto_region 3 with (((with_reducible refine (hk.out _).mono ?_); rintro e w1 ⟨rfl, g1⟩))
  have A1 := A0.next g1
  have B1 := B0.next g1
  obtain ⟨x1, x2, x3⟩ := id A1
  obtain ⟨y1, y2, y3⟩ := id B1
  go_upto_region 4 with (((with_reducible refine (mulc_any _ _ HM.out HN.out _).mono ?_); rintro e w2 ⟨rfl, g2⟩; skip))
  have A2 := (A1.next g2).alloc (.cells #[.int .u64 (nn (a0.v * a1.v)), .int .u64 (0)] 24)
  have B2 := (B1.next g2).alloc (.cells #[.int .u64 (nn (a0.v * a1.v)), .int .u64 (0)] 24)
  have M2 := At.new w2 ⟨a0.v * a1.v, 0#64⟩ 24
  clear x1 x2 x3 y1 y2 y3
  obtain ⟨x1, x2, x3⟩ := id A2
  obtain ⟨y1, y2, y3⟩ := id B2
  go_upto_region 6 with (first
    | ((with_reducible refine (is_yes a0 ha _).mono ?_); rintro e w3 ⟨rfl, g3⟩; have A3 := A2.next g3; have M3 := M2.next g3; have B3 := B2.next g3; obtain ⟨z1, z2, z3⟩ := id B3)
    | ((with_reducible refine (is_yes a1 hb _).mono ?_); rintro e w4 ⟨rfl, g4⟩))
  have M4 := M3.next g4
  have A4 := A3.next g4
  have B4 := B3.next g4
  clear x1 x2 x3 y1 y2 y3
  obtain ⟨x1, x2, x3⟩ := id A4
  obtain ⟨y1, y2, y3⟩ := id B4
  obtain ⟨u1, u2, u3⟩ := id M4
  have hE := eqT
  have t1 : (nn a0.m == 0) = true := by rw [b_eq0]; simp [HM.out]
  have t2 : (nn a1.m == 0) = true := by rw [b_eq0]; simp [HN.out]
  have hp : IntKind.u64.wrap (nn a0.v * nn a1.v) = nn (a0.v * a1.v) := b_mul _ _
  have u2 : w4.cell? ⟨w2.heap.size, 1, none⟩ = some (.int .u64 0) := u2
  go_wp2
  clear hE
  go_ret
  exact ⟨rfl, bl_trans g0 (bl_trans g1 (bl_trans (bl_alloc g2 _) (bl_trans g3 g4)))⟩
set_option maxHeartbeats 1000000 in
set_option maxRecDepth 100000 in
theorem walk4 (a0 : T) (a1 : T) (ha : wf a0) (hb : wf a1) (t1 : (nn a0.m == 0) = false) (w : World) : Calls Try.prog 6 #[.agg #[.int .u64 (nn a0.v), .int .u64 (nn a0.m)], .agg #[.int .u64 (nn a1.v), .int .u64 (nn a1.m)]] w fun e w' => e = .returned (.bool true) ∧ Below w.heap.size w w' := by
  have hk := Lib.hid known_any
  obtain ⟨A0, B0⟩ := at_box w a0 a1
  have g0 := bl_box w (.cells #[.int .u64 (nn a0.v), .int .u64 (nn a0.m)] 24) (.cells #[.int .u64 (nn a1.v), .int .u64 (nn a1.m)] 24)
  have T1 := Lib.hid t1
  clear t1
  go_enter Try.func6, Try.ntmps6
  go_upto_region 3 with (((with_reducible refine (hk.out _).mono ?_); rintro e w1 ⟨rfl, g1⟩))
  have A1 := A0.next g1
  have B1 := B0.next g1
  obtain ⟨x1, x2, x3⟩ := id A1
  obtain ⟨y1, y2, y3⟩ := id B1
  go_upto_region 4 with (((with_reducible refine (mul_any _ _ _).mono ?_); rintro e w2 ⟨rfl, g2⟩; simp only [tv]))
  have A2 := (A1.next g2).alloc (.cells #[.int .u64 (nn (mul a0 a1).v), .int .u64 (nn (mul a0 a1).m)] 24)
  have B2 := (B1.next g2).alloc (.cells #[.int .u64 (nn (mul a0 a1).v), .int .u64 (nn (mul a0 a1).m)] 24)
  have M2 := At.new w2 (mul a0 a1) 24
  clear x1 x2 x3 y1 y2 y3
  obtain ⟨x1, x2, x3⟩ := id A2
  obtain ⟨y1, y2, y3⟩ := id B2
  go_upto_region 6 with (first
    | ((with_reducible refine (is_yes a0 ha _).mono ?_); rintro e w3 ⟨rfl, g3⟩; have A3 := A2.next g3; have M3 := M2.next g3; have B3 := B2.next g3; obtain ⟨z1, z2, z3⟩ := id B3)
    | ((with_reducible refine (is_yes a1 hb _).mono ?_); rintro e w4 ⟨rfl, g4⟩))
  have M4 := M3.next g4
  have A4 := A3.next g4
  have B4 := B3.next g4
  clear x1 x2 x3 y1 y2 y3
  obtain ⟨x1, x2, x3⟩ := id A4
  obtain ⟨y1, y2, y3⟩ := id B4
  obtain ⟨u1, u2, u3⟩ := id M4
  have t1 := T1.out
  go_upto_region 8 with (fail)
  clear t1
  have hq : QQ w4 w4 w.heap.size (w.heap.size + 1) w2.heap.size a0 a1 (mul a0 a1) := ⟨A4, B4, M4, Below.refl _ _⟩
  go_region_held3 (fun w' => w'.cell? ⟨w.heap.size, 0, none⟩ = some (.int .u64 (nn a0.v)) ∧ w'.cell? ⟨w.heap.size, 1, none⟩ = some (.int .u64 (nn a0.m)) ∧ w'.cell? ⟨w.heap.size + 1, 0, none⟩ = some (.int .u64 (nn a1.v)) ∧ w'.cell? ⟨w.heap.size + 1, 1, none⟩ = some (.int .u64 (nn a1.m)) ∧ QQ w4 w' w.heap.size (w.heap.size + 1) w2.heap.size a0 a1 (mul a0 a1))
    (first | exact keepq (by assumption) (by assumption) | exact ⟨x1, x2, y1, y2, QQ.next hq (Below.drew (Below.refl _ _))⟩ | assumption)
    (first
      | (go_at_call 49; (with_reducible refine (noughts_any a0 _).mono ?_); rintro e w5 ⟨n1, l1, z1, rfl, g5⟩; skip)
      | (go_at_call 49; (with_reducible refine (noughts_any a1 _).mono ?_); rintro e w6 ⟨n2, l2, z2, rfl, g6⟩; have hs : IntKind.i64.wrap ((n1 : Int) + (n2 : Int)) = ((n1 + n2 : Nat) : Int) := by rw [IntKind.wrap_i64]; omega))
  obtain ⟨_, _, _, _, q⟩ := ‹_ ∧ _ ∧ _ ∧ _ ∧ QQ _ _ _ _ _ _ _ _›
  obtain ⟨n, en, hn, hl⟩ : ∃ n : Nat, (if (64 : Int) < (n1 : Int) + (n2 : Int) then (64 : Int) else (n1 : Int) + (n2 : Int)) = (n : Int) ∧ n ≤ 64 ∧ n ≤ n1 + n2 := by
    by_cases h : (64 : Int) < (n1 : Int) + (n2 : Int)
    · exact ⟨64, by rw [if_pos h]; rfl, by omega, by omega⟩
    · exact ⟨n1 + n2, by rw [if_neg h]; omega, by omega, by omega⟩
  have hz := Lib.hid (mul_low ha hb z1 z2 n hn hl)
  clear hs
  rw [en]
  clear en hl l1 l2 z1 z2 x1 x2 x3 y1 y2 y3 u1 u2 u3
  obtain ⟨u1, u2, u3⟩ := id q.2.2.1
  by_cases hlt : n < 64
  · have hd : decide ((n : Int) < 64) = true := by simp; omega
    have hm : min n 64 = n := by omega
    have h1 : IntKind.u64.wrap (2 ^ n) = nn (bit1 n) := b_one n
    have h2 : (nn (bit1 n) == 0) = false := by
      rw [bit1_nz hlt]
      have e : (2 : Int) ^ n = ((2 ^ n : Nat) : Int) := by simp
      have := Nat.two_pow_pos n
      rw [e, beq_eq_false_iff_ne]
      omega
    have h3 : ((nn (hi (mul a0 a1))).tmod (nn (bit1 n)) == 0) = true := by rw [bit1_nz hlt, Z_mod hlt hz.out]; rfl
    have H := Lib.hid (And.intro hm (And.intro h1 (And.intro h2 h3)))
    clear hlt hn hm h1 h2 h3
    go_upto_region 10 with ((with_reducible refine (mostm_any _ _ _).mono ?_); rintro e w7 ⟨rfl, g7⟩)
    have M7 := q.2.2.1.next g7
    clear u1 u2 u3
    obtain ⟨u1, u2, u3⟩ := id M7
    go_upto_region 11 with (fail)
    obtain ⟨hm, h1, h2, h3⟩ := H.out
    clear H
    go_wp2_with ((with_reducible refine (is_yes _ (wf_mul _ _) _).mono ?_); rintro e w8 ⟨rfl, g8⟩)
    · exfalso
      have hq : nn (bit1 n) = 0 := by first | assumption | (simp_all; done)
      rw [hq] at h2
      simp at h2
    · go_ret
      exact ⟨rfl, bl_trans g0 (bl_trans g1 (bl_trans (bl_alloc g2 _) (bl_trans g3 (bl_trans g4 (bl_trans q.2.2.2 (bl_trans g7 g8))))))⟩
  · obtain rfl : n = 64 := by omega
    have h3 : (nn (hi (mul a0 a1)) == 0) = true := by rw [Z64 hz.out]; rfl
    have H := Lib.hid h3
    clear hlt hn h3
    go_upto_region 10 with ((with_reducible refine (mostm_any _ _ _).mono ?_); rintro e w7 ⟨rfl, g7⟩)
    have M7 := q.2.2.1.next g7
    clear u1 u2 u3
    obtain ⟨u1, u2, u3⟩ := id M7
    have h3 := H.out
    go_wp2_with ((with_reducible refine (is_yes _ (wf_mul _ _) _).mono ?_); rintro e w8 ⟨rfl, g8⟩)
    go_ret
    exact ⟨rfl, bl_trans g0 (bl_trans g1 (bl_trans (bl_alloc g2 _) (bl_trans g3 (bl_trans g4 (bl_trans q.2.2.2 (bl_trans g7 g8))))))⟩
set_option maxHeartbeats 1000000 in
set_option maxRecDepth 100000 in
theorem walk5 (a0 : T) (a1 : T) (ha : wf a0) (hb : wf a1) (t1 : (nn a0.m == 0) = true) (t2 : (nn a1.m == 0) = false) (w : World) : Calls Try.prog 6 #[.agg #[.int .u64 (nn a0.v), .int .u64 (nn a0.m)], .agg #[.int .u64 (nn a1.v), .int .u64 (nn a1.m)]] w fun e w' => e = .returned (.bool true) ∧ Below w.heap.size w w' := by
  have hk := Lib.hid known_any
  obtain ⟨A0, B0⟩ := at_box w a0 a1
  have g0 := bl_box w (.cells #[.int .u64 (nn a0.v), .int .u64 (nn a0.m)] 24) (.cells #[.int .u64 (nn a1.v), .int .u64 (nn a1.m)] 24)
  have T1 := Lib.hid t1
  have T2 := Lib.hid t2
  clear t1 t2
  go_enter Try.func6, Try.ntmps6
  go_upto_region 3 with (((with_reducible refine (hk.out _).mono ?_); rintro e w1 ⟨rfl, g1⟩))
  have A1 := A0.next g1
  have B1 := B0.next g1
  obtain ⟨x1, x2, x3⟩ := id A1
  obtain ⟨y1, y2, y3⟩ := id B1
  go_upto_region 4 with (((with_reducible refine (mul_any _ _ _).mono ?_); rintro e w2 ⟨rfl, g2⟩; simp only [tv]))
  have A2 := (A1.next g2).alloc (.cells #[.int .u64 (nn (mul a0 a1).v), .int .u64 (nn (mul a0 a1).m)] 24)
  have B2 := (B1.next g2).alloc (.cells #[.int .u64 (nn (mul a0 a1).v), .int .u64 (nn (mul a0 a1).m)] 24)
  have M2 := At.new w2 (mul a0 a1) 24
  clear x1 x2 x3 y1 y2 y3
  obtain ⟨x1, x2, x3⟩ := id A2
  obtain ⟨y1, y2, y3⟩ := id B2
  go_upto_region 6 with (first
    | ((with_reducible refine (is_yes a0 ha _).mono ?_); rintro e w3 ⟨rfl, g3⟩; have A3 := A2.next g3; have M3 := M2.next g3; have B3 := B2.next g3; obtain ⟨z1, z2, z3⟩ := id B3)
    | ((with_reducible refine (is_yes a1 hb _).mono ?_); rintro e w4 ⟨rfl, g4⟩))
  have M4 := M3.next g4
  have A4 := A3.next g4
  have B4 := B3.next g4
  clear x1 x2 x3 y1 y2 y3
  obtain ⟨x1, x2, x3⟩ := id A4
  obtain ⟨y1, y2, y3⟩ := id B4
  obtain ⟨u1, u2, u3⟩ := id M4
  have t1 := T1.out
  have t2 := T2.out
  go_upto_region 8 with (fail)
  clear t1
  have hq : QQ w4 w4 w.heap.size (w.heap.size + 1) w2.heap.size a0 a1 (mul a0 a1) := ⟨A4, B4, M4, Below.refl _ _⟩
  go_region_held3 (fun w' => w'.cell? ⟨w.heap.size, 0, none⟩ = some (.int .u64 (nn a0.v)) ∧ w'.cell? ⟨w.heap.size, 1, none⟩ = some (.int .u64 (nn a0.m)) ∧ w'.cell? ⟨w.heap.size + 1, 0, none⟩ = some (.int .u64 (nn a1.v)) ∧ w'.cell? ⟨w.heap.size + 1, 1, none⟩ = some (.int .u64 (nn a1.m)) ∧ QQ w4 w' w.heap.size (w.heap.size + 1) w2.heap.size a0 a1 (mul a0 a1))
    (first | exact keepq (by assumption) (by assumption) | exact ⟨x1, x2, y1, y2, QQ.next hq (Below.drew (Below.refl _ _))⟩ | assumption)
    (first
      | (go_at_call 49; (with_reducible refine (noughts_any a0 _).mono ?_); rintro e w5 ⟨n1, l1, z1, rfl, g5⟩; skip)
      | (go_at_call 49; (with_reducible refine (noughts_any a1 _).mono ?_); rintro e w6 ⟨n2, l2, z2, rfl, g6⟩; have hs : IntKind.i64.wrap ((n1 : Int) + (n2 : Int)) = ((n1 + n2 : Nat) : Int) := by rw [IntKind.wrap_i64]; omega))
  obtain ⟨_, _, _, _, q⟩ := ‹_ ∧ _ ∧ _ ∧ _ ∧ QQ _ _ _ _ _ _ _ _›
  obtain ⟨n, en, hn, hl⟩ : ∃ n : Nat, (if (64 : Int) < (n1 : Int) + (n2 : Int) then (64 : Int) else (n1 : Int) + (n2 : Int)) = (n : Int) ∧ n ≤ 64 ∧ n ≤ n1 + n2 := by
    by_cases h : (64 : Int) < (n1 : Int) + (n2 : Int)
    · exact ⟨64, by rw [if_pos h]; rfl, by omega, by omega⟩
    · exact ⟨n1 + n2, by rw [if_neg h]; omega, by omega, by omega⟩
  have hz := Lib.hid (mul_low ha hb z1 z2 n hn hl)
  clear hs
  rw [en]
  clear en hl l1 l2 z1 z2 x1 x2 x3 y1 y2 y3 u1 u2 u3
  obtain ⟨u1, u2, u3⟩ := id q.2.2.1
  by_cases hlt : n < 64
  · have hd : decide ((n : Int) < 64) = true := by simp; omega
    have hm : min n 64 = n := by omega
    have h1 : IntKind.u64.wrap (2 ^ n) = nn (bit1 n) := b_one n
    have h2 : (nn (bit1 n) == 0) = false := by
      rw [bit1_nz hlt]
      have e : (2 : Int) ^ n = ((2 ^ n : Nat) : Int) := by simp
      have := Nat.two_pow_pos n
      rw [e, beq_eq_false_iff_ne]
      omega
    have h3 : ((nn (hi (mul a0 a1))).tmod (nn (bit1 n)) == 0) = true := by rw [bit1_nz hlt, Z_mod hlt hz.out]; rfl
    have H := Lib.hid (And.intro hm (And.intro h1 (And.intro h2 h3)))
    clear hlt hn hm h1 h2 h3
    go_upto_region 10 with ((with_reducible refine (mostm_any _ _ _).mono ?_); rintro e w7 ⟨rfl, g7⟩)
    have M7 := q.2.2.1.next g7
    clear u1 u2 u3
    obtain ⟨u1, u2, u3⟩ := id M7
    go_upto_region 11 with (fail)
    obtain ⟨hm, h1, h2, h3⟩ := H.out
    clear H
    go_wp2_with ((with_reducible refine (is_yes _ (wf_mul _ _) _).mono ?_); rintro e w8 ⟨rfl, g8⟩)
    · exfalso
      have hq : nn (bit1 n) = 0 := by first | assumption | (simp_all; done)
      rw [hq] at h2
      simp at h2
    · go_ret
      exact ⟨rfl, bl_trans g0 (bl_trans g1 (bl_trans (bl_alloc g2 _) (bl_trans g3 (bl_trans g4 (bl_trans q.2.2.2 (bl_trans g7 g8))))))⟩
  · obtain rfl : n = 64 := by omega
    have h3 : (nn (hi (mul a0 a1)) == 0) = true := by rw [Z64 hz.out]; rfl
    have H := Lib.hid h3
    clear hlt hn h3
    go_upto_region 10 with ((with_reducible refine (mostm_any _ _ _).mono ?_); rintro e w7 ⟨rfl, g7⟩)
    have M7 := q.2.2.1.next g7
    clear u1 u2 u3
    obtain ⟨u1, u2, u3⟩ := id M7
    have h3 := H.out
    go_wp2_with ((with_reducible refine (is_yes _ (wf_mul _ _) _).mono ?_); rintro e w8 ⟨rfl, g8⟩)
    go_ret
    exact ⟨rfl, bl_trans g0 (bl_trans g1 (bl_trans (bl_alloc g2 _) (bl_trans g3 (bl_trans g4 (bl_trans q.2.2.2 (bl_trans g7 g8))))))⟩
set_option maxHeartbeats 1000000 in
set_option maxRecDepth 100000 in
theorem walk (a0 : T) (a1 : T) (w : World) : Calls Try.prog 6 #[.agg #[.int .u64 (nn a0.v), .int .u64 (nn a0.m)], .agg #[.int .u64 (nn a1.v), .int .u64 (nn a1.m)]] w fun e w' => e = .returned (.bool true) ∧ Below w.heap.size w w' := by
  by_cases ha : wf a0
  · by_cases hb : wf a1
    · by_cases hm : a0.m = 0#64
      · by_cases hn : a1.m = 0#64
        · exact walk3 a0 a1 ha hb hm hn w
        · exact walk5 a0 a1 ha hb (by rw [b_eq0]; simp [hm]) (by rw [b_eq0]; simp [hn]) w
      · exact walk4 a0 a1 ha hb (by rw [b_eq0]; simp [hm]) w
    · exact walk2 a0 a1 ha hb w
  · exact walk1 a0 a1 ha w

set_option maxRecDepth 100000 in
theorem lifted (os : Os) (started : os.Started) (H : Type) (enc : TypeId × Value → H) :
    ReturnsInHanded {} Try.checked os 6 .any (Rows.tnumMulSpec.pre6 enc Try.prog Try.f6 Rows.tnumMulRow.domain false) (Rows.tnumMulSpec.post enc Try.prog Try.f6 false true false false) := by
  refine returnsInHanded_of_change (C := Try.checked) own started (by kernel_rfl) Try.func6
    (ChangeSpec.witness6 (enc := enc) (C := Try.checked) false ⟨#[], #[.agg #[.int .u64 0, .int .u64 0], .agg #[.int .u64 0, .int .u64 0]], []⟩ 8 (by kernel_rfl) (by kernel_rfl) (by kernel_rfl) (by kernel_rfl)) ?_
  intro W base args ds gs before hval0 hW hcnd _
  have hval : ∀ (j : Nat) t v, Try.f6.params[j]? = some t → args[j]? = some v → Value.okWide Try.prog W .any base t v := hval0
  have hW' := hW
  obtain ⟨p, q, hA0, hV, rfl, hfz, hnd⟩ := hW
  have hA : DataW.TrodAll enc Try.prog W 0 (fun _ => true) true Try.f6.params.toList args.toList ds p := hA0
  rw [Try.params6] at hA hval
  obtain ⟨v0, vs0, d0, ds0, p0, q0, hargs, rfl, rfl, h0, r0⟩ := trodAll_cons hA
  obtain ⟨v1, vs1, d1, ds1, p1, q1, rfl, rfl, rfl, h1, r1⟩ := trodAll_cons r0
  obtain ⟨rfl, rfl, rfl⟩ := trodAll_nil r1
  obtain rfl : args = #[v0, v1] := by cases args; simp_all
  obtain ⟨rfl, rfl⟩ := trodVars_none hV
  obtain ⟨a0, rfl, rfl, rfl⟩ := open_T (hval 0 24 v0 rfl rfl) h0
  obtain ⟨a1, rfl, rfl, rfl⟩ := open_T (hval 1 24 v1 rfl rfl) h1
  clear hA0 hval0
  simp only [List.append_nil] at hW'
  refine (walk a0 a1 W).mono fun e W' ⟨he, hg⟩ => ?_
  subst he
  exact ⟨_, rfl, post_of_below (pa := []) (pv := []) hW' (fun _ _ _ => (trodAll_cons_mk (shut_bool Try.underlying4 _) trodAll_mk0)) (fun sp _ => (trodAll_cons_mk (shut_T a0) (trodAll_cons_mk (shut_T a1) trodAll_mk0))) (fun _ _ => rfl) rfl
    hg (ok_one (by kernel_rfl) rfl (okWide_bool_mk Try.underlying4 _))⟩

theorem over : Rows.tnumMulRow.holds Try.pinned (OpenSpec.ofChange Rows.tnumMulSpec) :=
  OpenClaim.holds_of_wide 6 Try.f6 rfl rfl rfl rfl rfl rfl rfl ⟨rfl, rfl, rfl, rfl, rfl⟩ rfl rfl rfl rfl rfl (by kernel_rfl) Try.func6 (by kernel_rfl)
    (of_decide_eq_true (by kernel_rfl)) (by unfold Func.isWrapper; first | (rw [if_pos (by decide +kernel)]; kernel_rfl) | (rw [if_neg (by decide +kernel)]; exact ⟨rfl, rfl⟩))
    (fun os started H enc _ => lifted os started H enc)

/-- The statement. -/
theorem proved : Rows.TnumMulSaid :=
  over
end Go.Proofs.Ytpmhojfbjhgjpaa.tnumMul
