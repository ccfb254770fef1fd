/-
  Sums, differences, quotients, rests of scalars keep all numbers.
-/
import Derived.Test.YtmhiiahfjoijgaaGreatL7M6
namespace Go.Proofs.YtmhiiahfjoijgaaGreat
open Go.RowKit
set_option linter.unusedVariables false
set_option linter.unusedSimpArgs false
theorem tadd_has {a b : T} {x y : BitVec 64} (ha : has a x) (hb : has b y) : has (m_tnum_Add a b) (x + y) := by
  rw [add_eq', kn_wf ha.1, kn_wf hb.1]; exact padd_has ha hb
theorem tsub_has {a b : T} {x y : BitVec 64} (ha : has a x) (hb : has b y) : has (m_tnum_Sub a b) (x - y) := by
  rw [sub_eq', kn_wf ha.1, kn_wf hb.1]; exact psub_has ha hb
theorem add_n (x y : BitVec 64) : (x + y).toNat = (x.toNat + y.toNat) % 18446744073709551616 := BitVec.toNat_add ..
theorem sub_n (x y : BitVec 64) : (x - y).toNat = (x.toNat + 18446744073709551616 - y.toNat) % 18446744073709551616 := by
  rw [BitVec.toNat_sub]; have := y.isLt; congr 1; omega
theorem addSigned_1 (u v : BitVec 64) : (m_scalar_addSigned u v).1 = u + v := by
  unfold m_scalar_addSigned
  cases BitVec.slt u 0#64 <;> cases BitVec.slt v 0#64 <;> cases BitVec.slt (u + v) 0#64 <;> rfl
theorem addSigned_2 {u v : BitVec 64} (h : (m_scalar_addSigned u v).2 = true) : (u + v).toInt = u.toInt + v.toInt := by
  unfold m_scalar_addSigned at h
  rw [slt0, slt0, slt0] at h
  have h1 := toInt_cond u
  have h2 := toInt_cond v
  have h3 := toInt_cond (u + v)
  rw [add_n] at h3
  have := u.isLt
  have := v.isLt
  by_cases c1 : u.toInt < 0 <;> by_cases c2 : v.toInt < 0 <;> by_cases c3 : (u + v).toInt < 0 <;> simp only [c1, c2, c3, decide_true, decide_false, cond_true, cond_false] at h <;> first
    | (cases h; done)
    | (split at h1 <;> split at h2 <;> split at h3 <;> omega)
theorem subSigned_1 (u v : BitVec 64) : (m_scalar_subSigned u v).1 = u - v := by
  unfold m_scalar_subSigned
  cases BitVec.slt u 0#64 <;> cases BitVec.slt v 0#64 <;> cases BitVec.slt (u - v) 0#64 <;> rfl
theorem subSigned_2 {u v : BitVec 64} (h : (m_scalar_subSigned u v).2 = true) : (u - v).toInt = u.toInt - v.toInt := by
  unfold m_scalar_subSigned at h
  rw [slt0, slt0, slt0] at h
  have h1 := toInt_cond u
  have h2 := toInt_cond v
  have h3 := toInt_cond (u - v)
  rw [sub_n] at h3
  have := u.isLt
  have := v.isLt
  by_cases c1 : u.toInt < 0 <;> by_cases c2 : v.toInt < 0 <;> by_cases c3 : (u - v).toInt < 0 <;> simp only [c1, c2, c3, decide_true, decide_false, cond_true, cond_false] at h <;> first
    | (cases h; done)
    | (split at h1 <;> split at h2 <;> split at h3 <;> omega)
section
variable {a b : S} {w x y : BitVec 64}
theorem add_u (hx : hs a x) (hy : hs b y) (h : (addc a.umin b.umin == addc a.umax b.umax) = true) : (a.umin + b.umin).toNat ≤ (x + y).toNat ∧ (x + y).toNat ≤ (a.umax + b.umax).toNat := by
  have h1 := hx.2.1
  have h2 := hx.2.2.1
  have h3 := hy.2.1
  have h4 := hy.2.2.1
  have b1 := a.umax.isLt
  have b2 := b.umax.isLt
  rw [add_n, add_n, add_n]
  have e := congrArg BitVec.toNat (eq_of_beq h)
  unfold addc at e
  by_cases c1 : 18446744073709551616 ≤ a.umin.toNat + b.umin.toNat <;> by_cases c2 : 18446744073709551616 ≤ a.umax.toNat + b.umax.toNat <;> simp only [c1, c2, decide_true, decide_false, cond_true, cond_false] at e
  · omega
  · exact absurd e (by decide)
  · exact absurd e (by decide)
  · omega
theorem add_s (hx : hs a x) (hy : hs b y) (h : (m_scalar_addSigned a.smin b.smin).2 = true) (h' : (m_scalar_addSigned a.smax b.smax).2 = true) : (m_scalar_addSigned a.smin b.smin).1.toInt ≤ (x + y).toInt ∧ (x + y).toInt ≤ (m_scalar_addSigned a.smax b.smax).1.toInt := by
  rw [addSigned_1, addSigned_1, addSigned_2 h, addSigned_2 h']
  have e1 := addSigned_2 h
  have e2 := addSigned_2 h'
  have h1 := hx.2.2.2.1
  have h2 := hx.2.2.2.2
  have h3 := hy.2.2.2.1
  have h4 := hy.2.2.2.2
  have c1 := toInt_cond (a.smin + b.smin)
  have c2 := toInt_cond (a.smax + b.smax)
  have c3 := toInt_cond x
  have c4 := toInt_cond y
  have c5 := toInt_cond (x + y)
  have b1 := (a.smin + b.smin).isLt
  have b2 := (a.smax + b.smax).isLt
  have b3 := x.isLt
  have b4 := y.isLt
  rw [add_n x y] at c5
  have lo : -9223372036854775808 ≤ (a.smin + b.smin).toInt := by split at c1 <;> omega
  have up : (a.smax + b.smax).toInt < 9223372036854775808 := by split at c2 <;> omega
  clear c1 c2 b1 b2
  split at c3 <;> split at c4 <;> split at c5 <;> omega
theorem op_add (hx : hs a x) (hy : hs b y) : hs (m_scalar_operands_add ⟨a, b, w⟩) (x + y) ∧ isS (m_scalar_operands_add ⟨a, b, w⟩) := by
  have t := tadd_has hx.1 hy.1
  have hu := add_u hx hy
  have hsg := add_s hx hy
  unfold m_scalar_operands_add
  dsimp only [m_scalar_ofBits]
  cases c1 : addc a.umin b.umin == addc a.umax b.umax <;> cases c2 : (m_scalar_addSigned a.smin b.smin).2 <;> cases c3 : (m_scalar_addSigned a.smax b.smax).2 <;> simp only [cond_true, cond_false] <;> refine settle_keep (mk_hs t ?_ ?_ ?_ ?_) <;> first
    | exact u0 _
    | exact uM _
    | exact s0' _
    | exact sM _
    | exact (hu c1).1
    | exact (hu c1).2
    | exact (hsg c2 c3).1
    | exact (hsg c2 c3).2
theorem sub_u (hx : hs a x) (hy : hs b y) (h : (subc a.umin b.umax == subc a.umax b.umin) = true) : (a.umin - b.umax).toNat ≤ (x - y).toNat ∧ (x - y).toNat ≤ (a.umax - b.umin).toNat := by
  have h1 := hx.2.1
  have h2 := hx.2.2.1
  have h3 := hy.2.1
  have h4 := hy.2.2.1
  have b1 := a.umax.isLt
  have b2 := b.umax.isLt
  rw [sub_n, sub_n, sub_n]
  have e := congrArg BitVec.toNat (eq_of_beq h)
  unfold subc at e
  rw [ult_iff, ult_iff] at e
  by_cases c1 : a.umin.toNat < b.umax.toNat <;> by_cases c2 : a.umax.toNat < b.umin.toNat <;> simp only [c1, c2, decide_true, decide_false, cond_true, cond_false] at e
  · omega
  · exact absurd e (by decide)
  · exact absurd e (by decide)
  · omega
theorem sub_s (hx : hs a x) (hy : hs b y) (h : (m_scalar_subSigned a.smin b.smax).2 = true) (h' : (m_scalar_subSigned a.smax b.smin).2 = true) : (m_scalar_subSigned a.smin b.smax).1.toInt ≤ (x - y).toInt ∧ (x - y).toInt ≤ (m_scalar_subSigned a.smax b.smin).1.toInt := by
  rw [subSigned_1, subSigned_1, subSigned_2 h, subSigned_2 h']
  have e1 := subSigned_2 h
  have e2 := subSigned_2 h'
  have h1 := hx.2.2.2.1
  have h2 := hx.2.2.2.2
  have h3 := hy.2.2.2.1
  have h4 := hy.2.2.2.2
  have c1 := toInt_cond (a.smin - b.smax)
  have c2 := toInt_cond (a.smax - b.smin)
  have c3 := toInt_cond x
  have c4 := toInt_cond y
  have c5 := toInt_cond (x - y)
  have b1 := (a.smin - b.smax).isLt
  have b2 := (a.smax - b.smin).isLt
  have b3 := x.isLt
  have b4 := y.isLt
  rw [sub_n x y] at c5
  have lo : -9223372036854775808 ≤ (a.smin - b.smax).toInt := by split at c1 <;> omega
  have up : (a.smax - b.smin).toInt < 9223372036854775808 := by split at c2 <;> omega
  clear c1 c2 b1 b2
  split at c3 <;> split at c4 <;> split at c5 <;> omega
theorem op_sub (hx : hs a x) (hy : hs b y) : hs (m_scalar_operands_sub ⟨a, b, w⟩) (x - y) ∧ isS (m_scalar_operands_sub ⟨a, b, w⟩) := by
  have t := tsub_has hx.1 hy.1
  have hu := sub_u hx hy
  have hsg := sub_s hx hy
  unfold m_scalar_operands_sub
  dsimp only [m_scalar_ofBits]
  cases c1 : subc a.umin b.umax == subc a.umax b.umin <;> cases c2 : (m_scalar_subSigned a.smin b.smax).2 <;> cases c3 : (m_scalar_subSigned a.smax b.smin).2 <;> simp only [cond_true, cond_false] <;> refine settle_keep (mk_hs t ?_ ?_ ?_ ?_) <;> first
    | exact u0 _
    | exact uM _
    | exact s0' _
    | exact sM _
    | exact (hu c1).1
    | exact (hu c1).2
    | exact (hsg c2 c3).1
    | exact (hsg c2 c3).2
theorem op_neg (hx : hs a x) : hs (m_scalar_operands_neg ⟨a, b, w⟩) (-x) ∧ isS (m_scalar_operands_neg ⟨a, b, w⟩) := by
  have := op_sub (a := K 0#64) (b := a) (w := w) (x := 0#64) (hs_K.2 rfl) hx
  rw [BitVec.zero_sub] at this
  unfold m_scalar_operands_neg
  dsimp only
  exact this
/-- A quotient of words, 0 where the divisor is. -/
def qu (x y : BitVec 64) : BitVec 64 := bif y == 0#64 then 0#64 else x / y
theorem qu_n (x y : BitVec 64) : (qu x y).toNat = if y.toNat = 0 then 0 else x.toNat / y.toNat := by
  unfold qu
  have hz : (y == 0#64) = decide (y.toNat = 0) := by rw [Bool.eq_iff_iff, beq_iff_eq, decide_eq_true_eq, BitVec.toNat_eq]; rfl
  rw [hz]
  by_cases c : y.toNat = 0
  · simp [c]
  · simp [c, BitVec.toNat_udiv]
theorem div_between {l1 l2 m1 m2 z : BitVec 64} (c : Bool) (h1 : c = true → m1.toNat ≤ z.toNat ∧ z.toNat ≤ m2.toNat) (h2 : c = false → l1.toNat ≤ z.toNat ∧ z.toNat ≤ l2.toNat) :
    hs (bif c then m_scalar_Between m1 m2 else m_scalar_Between l1 l2) z ∧ isS (bif c then m_scalar_Between m1 m2 else m_scalar_Between l1 l2) := by
  cases c
  · obtain ⟨a, b⟩ := h2 rfl
    rw [cond_false]
    exact ⟨(between_has (by omega)).2 ⟨a, b⟩, between_is _ _⟩
  · obtain ⟨a, b⟩ := h1 rfl
    rw [cond_true]
    exact ⟨(between_has (by omega)).2 ⟨a, b⟩, between_is _ _⟩
theorem op_div (hx : hs a x) (hy : hs b y) : hs (m_scalar_operands_div ⟨a, b, w⟩) (qu x y) ∧ isS (m_scalar_operands_div ⟨a, b, w⟩) := by
  have h1 := hx.2.1
  have h2 := hx.2.2.1
  have h3 := hy.2.1
  have h4 := hy.2.2.1
  have hd := qu_n x y
  generalize qu x y = z at *
  unfold m_scalar_operands_div
  dsimp only
  refine div_between _ (fun _ => ⟨u0 _, ?_⟩) (fun c => ?_)
  · rw [hd]
    split
    · exact Nat.zero_le _
    · have := Nat.div_le_self x.toNat y.toNat; omega
  · have c : ¬ b.umin.toNat = 0 := fun e => by
      have : b.umin = 0#64 := BitVec.eq_of_toNat_eq e
      rw [this] at c; simp at c
    have k1 : a.umin.toNat / b.umax.toNat ≤ x.toNat / y.toNat := Nat.div_le_div h1 h4 (by omega)
    have k2 : x.toNat / y.toNat ≤ a.umax.toNat / b.umin.toNat := Nat.div_le_div h2 h3 (by omega)
    have hy0 : ¬ y.toNat = 0 := by omega
    rw [hd, if_neg hy0, BitVec.toNat_udiv, BitVec.toNat_udiv]
    exact ⟨k1, k2⟩
end
end Go.Proofs.YtmhiiahfjoijgaaGreat
