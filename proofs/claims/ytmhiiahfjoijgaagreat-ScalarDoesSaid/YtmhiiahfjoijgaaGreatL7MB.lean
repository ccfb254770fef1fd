/-
  Shifts of scalars by scalars keep all numbers.
-/
import Derived.Test.YtmhiiahfjoijgaaGreatL7MA
namespace Go.Proofs.YtmhiiahfjoijgaaGreat
open Go.RowKit
set_option linter.unusedVariables false
set_option linter.unusedSimpArgs false
section
variable {a b c : S} {w x y : BitVec 64}
/-- Widths: 64 and 32, as powers of two. -/
def Wd (w : BitVec 64) (k : Nat) : Prop := (w = 64#64 ∧ k = 6) ∨ (w = 32#64 ∧ k = 5)
theorem Wd.mask {w : BitVec 64} {k : Nat} (h : Wd w k) : (w - 1#64).toNat = 2 ^ k - 1 := by
  rcases h with ⟨rfl, rfl⟩ | ⟨rfl, rfl⟩ <;> decide
theorem Wd.le {w : BitVec 64} {k : Nat} (h : Wd w k) : BitVec.ult 64#64 w = false := by
  rcases h with ⟨rfl, rfl⟩ | ⟨rfl, rfl⟩ <;> decide
theorem Wd.int {w : BitVec 64} {k : Nat} (h : Wd w k) : w.toInt = 2 ^ k ∧ 2 ^ k ≤ 64 := by
  rcases h with ⟨rfl, rfl⟩ | ⟨rfl, rfl⟩ <;> decide
theorem cnt_lt {k : Nat} (h : Wd w k) : (y &&& (w - 1#64)).toNat < 2 ^ k := by
  rw [and_mod y k _ h.mask]; exact Nat.mod_lt _ (Nat.two_pow_pos k)
theorem shift_any {F : S → BitVec 64 → S} {x0 : OO} {x1 : S} {μ : (BitVec 64) × (Bool) × (S) → Nat} {zr : S × Bool} {k : Nat} {z : BitVec 64} (hw : Wd x0.w k) (hy : hs x0.b y)
    (hf : Falls (stG F x0 x1 (m_tnum_And x0.b.t (m_tnum_Const (x0.w - 1#64)))) μ (fun s => (0 : Int) ≤ s.1.toInt)) (hz : hs (F x1 (y &&& (x0.w - 1#64))) z) :
    (lp (stG F x0 x1 (m_tnum_And x0.b.t (m_tnum_Const (x0.w - 1#64)))) zr μ (0#64, true, zS)).2 = false ∧ hs (lp (stG F x0 x1 (m_tnum_And x0.b.t (m_tnum_Const (x0.w - 1#64)))) zr μ (0#64, true, zS)).1 z := by
  have hl := cnt_lt (y := y) hw
  have hi := hw.int
  have hm := hw.mask
  have e := and_mod y k _ hm
  generalize hn : y &&& (x0.w - 1#64) = n0 at *
  have nt := toInt_cond n0
  have h64 : (2 : Nat) ^ k ≤ 64 := by
    rcases hw with ⟨_, rfl⟩ | ⟨_, rfl⟩ <;> decide
  have ei : ((2 ^ k : Nat) : Int) = 2 ^ k := by simp
  have hpos : n0.toInt = (n0.toNat : Int) := by split at nt <;> omega
  refine lpG hf (n0 := n0) hz ?_ ?_ ?_ (by omega) (0#64, true, zS) (by show (0 : Int) ≤ (0#64).toInt; decide) (.inl (by show (0#64).toNat ≤ _; exact Nat.zero_le _))
  · rw [slt_iff, decide_eq_true_eq, hi.1]; omega
  · rw [thas_iff, ← hn]; exact tand_has hy.1 (tconst_has _)
  · intro c
    rw [ult_iff, decide_eq_false_iff_not, hm] at c
    have h1 := hy.2.1
    have h2 := hy.2.2.1
    have : y.toNat % 2 ^ k = y.toNat := Nat.mod_eq_of_lt (by have := Nat.two_pow_pos k; omega)
    rw [ult_iff, ult_iff, decide_eq_false_iff_not, decide_eq_false_iff_not]
    omega
theorem st134_eq (x0 : OO) (x1 : S) (r0 r1 : T) : st_scalar_operands_shift_134_L0 x0 x1 r0 r1 = stG m_scalar_shiftLeft x0 x1 r1 := funext fun ⟨s0, s1, s2⟩ => rfl
theorem st135_eq (x0 : OO) (x1 : S) (r0 r1 : T) : st_scalar_operands_shift_135_L0 x0 x1 r0 r1 = stG m_scalar_shiftRight x0 x1 r1 := funext fun ⟨s0, s1, s2⟩ => rfl
theorem st137_eq (x0 : OO) (x1 : S) (r0 r1 : T) : st_scalar_operands_shift_137_L0 x0 x1 r0 r1 = stG m_scalar_shiftSigned x0 x1 r1 := funext fun ⟨s0, s1, s2⟩ => rfl
theorem finish {r : S × Bool} {z : BitVec 64} (h : r.2 = false ∧ hs r.1 z) : hs (bif r.2 then m_scalar_Unknown else m_scalar_settle r.1) z ∧ isS (bif r.2 then m_scalar_Unknown else m_scalar_settle r.1) := by
  rw [h.1, cond_false]; exact settle_keep h.2
theorem op_lsh {k : Nat} (hw : Wd w k) (hx : hs a x) (hy : hs b y) : hs (m_scalar_operands_lsh ⟨a, b, w⟩) (x <<< (y &&& (w - 1#64)).toNat) ∧ isS (m_scalar_operands_lsh ⟨a, b, w⟩) := by
  unfold m_scalar_operands_lsh m_scalar_operands_shift_134 lp_scalar_operands_shift_134_L0
  have hf := dec_scalar_operands_shift_134_L0 ⟨a, b, w⟩ a (m_tnum_Const (w - 1#64)) (m_tnum_And b.t (m_tnum_Const (w - 1#64))) hw.le
  rw [st134_eq] at hf ⊢
  have hl := cnt_lt (y := y) hw
  have h64 : (2 : Nat) ^ k ≤ 64 := by rcases hw with ⟨_, rfl⟩ | ⟨_, rfl⟩ <;> decide
  exact finish (shift_any (x0 := ⟨a, b, w⟩) hw hy hf (by_left hx (Nat.lt_of_lt_of_le hl h64)))
theorem op_rsh {k : Nat} (hw : Wd w k) (hx : hs a x) (hy : hs b y) : hs (m_scalar_operands_rsh ⟨a, b, w⟩) (x >>> (y &&& (w - 1#64)).toNat) ∧ isS (m_scalar_operands_rsh ⟨a, b, w⟩) := by
  unfold m_scalar_operands_rsh m_scalar_operands_shift_135 lp_scalar_operands_shift_135_L0
  have hf := dec_scalar_operands_shift_135_L0 ⟨a, b, w⟩ a (m_tnum_Const (w - 1#64)) (m_tnum_And b.t (m_tnum_Const (w - 1#64))) hw.le
  rw [st135_eq] at hf ⊢
  have hl := cnt_lt (y := y) hw
  have h64 : (2 : Nat) ^ k ≤ 64 := by rcases hw with ⟨_, rfl⟩ | ⟨_, rfl⟩ <;> decide
  exact finish (shift_any (x0 := ⟨a, b, w⟩) hw hy hf (by_right hx (Nat.lt_of_lt_of_le hl h64)))
theorem sh_signed {k : Nat} (hw : Wd w k) (hx : hs c x) (hy : hs b y) : hs (m_scalar_operands_shift_137 ⟨a, b, w⟩ c) (x.sshiftRight (y &&& (w - 1#64)).toNat) ∧ isS (m_scalar_operands_shift_137 ⟨a, b, w⟩ c) := by
  unfold m_scalar_operands_shift_137 lp_scalar_operands_shift_137_L0
  have hf := dec_scalar_operands_shift_137_L0 ⟨a, b, w⟩ c (m_tnum_Const (w - 1#64)) (m_tnum_And b.t (m_tnum_Const (w - 1#64))) hw.le
  rw [st137_eq] at hf ⊢
  have hl := cnt_lt (y := y) hw
  have h64 : (2 : Nat) ^ k ≤ 64 := by rcases hw with ⟨_, rfl⟩ | ⟨_, rfl⟩ <;> decide
  exact finish (shift_any (x0 := ⟨a, b, w⟩) hw hy hf (by_signed hx (Nat.lt_of_lt_of_le hl h64)))
end
end Go.Proofs.YtmhiiahfjoijgaaGreat
