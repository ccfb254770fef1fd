/-
  Facts that decide the tests of the laws on branches.
-/
import Derived.Test.YtmhiiahfjoijgaaGreatL7P4
import Derived.Test.YtmhiiahfjoijgaaGreatL7M7
import Derived.Test.YtmhiiahfjoijgaaGreatL7O
namespace Go.Proofs.YtmhiiahfjoijgaaGreat
open Go.RowKit
set_option linter.unusedVariables false
set_option linter.unusedSimpArgs false
theorem made_is (a b c d : BitVec 64) : isS (m_barbicanlaw7_made_4 a b c d) := (made_has a b c d).1
theorem made_sel (a b c d : BitVec 64) (n : Nat) : hs (m_barbicanlaw7_made_4 a b c d) (sel4 a b c d n) := by
  obtain ⟨_, h1, h2, h3, h4⟩ := made_has a b c d
  unfold sel4
  split <;> assumption
section
variable {op : BitVec 64} {w s v : Bool} {a b : S} {x y : BitVec 64}
theorem br_is1 (h : (m_alu_Cmp op w x y).2 = true) (ha : isS a) (hb : isS b) (hm : (m_scalar_Branch op w s a b).2.2 = true) : m_scalar_Is (m_scalar_Branch op w s a b).1 = true ∧ m_scalar_Is (m_scalar_Branch op w s a b).2.1 = true ∧ m_scalar_In (m_scalar_Branch op w s a b).1 a = true ∧ m_scalar_In (m_scalar_Branch op w s a b).2.1 b = true := by
  obtain ⟨q, hq, e⟩ := branch_any ha hb (taken := s) h
  rw [e] at hm ⊢
  unfold pack at hm ⊢
  cases hq2 : q.2
  · rw [hq2, cond_f'] at hm; cases hm
  · rw [cond_t']
    obtain ⟨i1, i2, s1, s2⟩ := hq.isa hq2
    exact ⟨(is_iff _).2 i1, (is_iff _).2 i2, (in_iff i1 ha).2 s1, (in_iff i2 hb).2 s2⟩
theorem br_no (h : (m_alu_Cmp op w x y).2 = true) (ha : isS a) (hb : isS b) (hm : (m_scalar_Branch op w s a b).2.2 = false) : decide ((m_scalar_Branch op w s a b).1 = zS) = true ∧ decide ((m_scalar_Branch op w s a b).2.1 = zS) = true := by
  obtain ⟨q, hq, e⟩ := branch_any ha hb (taken := s) h
  rw [e] at hm ⊢
  unfold pack at hm ⊢
  cases hq2 : q.2
  · rw [cond_f']; exact ⟨decide_eq_true rfl, decide_eq_true rfl⟩
  · rw [hq2, cond_t'] at hm; cases hm
theorem br_keep (h : (m_alu_Cmp op w x y).2 = true) (ha : isS a) (hb : isS b) (hx : hs a x) (hy : hs b y) (hv : (m_alu_Cmp op w x y).1 = s) : (m_scalar_Branch op w s a b).2.2 = true ∧ m_scalar_Has (m_scalar_Branch op w s a b).1 x = true ∧ m_scalar_Has (m_scalar_Branch op w s a b).2.1 y = true := by
  obtain ⟨q, hq, e⟩ := branch_any ha hb (taken := s) h
  obtain ⟨h1, h2, h3⟩ := hq.keep x y hx hy hv
  rw [e]
  unfold pack
  rw [h1, cond_t']
  exact ⟨rfl, (has_iff _ _).2 h2, (has_iff _ _).2 h3⟩
theorem br_nok (h : (m_alu_Cmp op w x y).2 = false) (ha : isS a) (hb : isS b) : (m_scalar_Branch op w s a b).2.2 = true ∧ decide ((m_scalar_Branch op w s a b).1 = a) = true ∧ decide ((m_scalar_Branch op w s a b).2.1 = b) = true := by
  have e : (m_alu_Cmp op w 0#64 0#64).2 = false := by
    cases e : (m_alu_Cmp op w 0#64 0#64).2
    · rfl
    · have := cmp_same e x y
      rw [h] at this; cases this
  unfold m_scalar_Branch
  rw [e, cond_f', known_of ha, known_of hb]
  exact ⟨rfl, decide_eq_true rfl, decide_eq_true rfl⟩
theorem dcd2 (h : (m_alu_Cmp op w x y).2 = true) (ha : isS a) (hb : isS b) (hx : hs a x) (hy : hs b y) (hd : (m_scalar_Decided op w a b).1 = true) (hv : (m_alu_Cmp op w x y).1 = v) : (m_scalar_Decided op w a b).2 = v := by
  unfold m_scalar_Decided at hd ⊢
  rw [cmp_same h 0#64 0#64, cond_t'] at hd ⊢
  cases e1 : (m_scalar_Branch op w true a b).2.2
  · rw [cond_f']
    cases v
    · rfl
    · have := (br_keep h ha hb hx hy hv).1
      rw [e1] at this; cases this
  · rw [e1, cond_t'] at hd
    rw [cond_t']
    cases e2 : (m_scalar_Branch op w false a b).2.2
    · rw [cond_f']
      cases v
      · have := (br_keep h ha hb hx hy hv).1
        rw [e2] at this; cases this
      · rfl
    · rw [e2, cond_t'] at hd; cases hd
/-! ### Meetings, joins -/
theorem mt_has (ha : isS a) (hb : isS b) (h1 : m_scalar_Has a y = true) (hy : hs b y) : (m_scalar_Meet a b).2 = true ∧ m_scalar_Is (m_scalar_Meet a b).1 = true ∧ m_scalar_Has (m_scalar_Meet a b).1 y = true := by
  have hx := (has_iff _ _).1 h1
  rcases meet_any ha hb with ⟨_, _, k⟩ | ⟨e, i, _, _, k⟩
  · exact absurd hy (k y hx)
  · exact ⟨e, (is_iff _).2 i, (has_iff _ _).2 (k y hx hy)⟩
theorem mt_is (ha : isS a) (hb : isS b) (h : (m_scalar_Meet a b).2 = true) : m_scalar_Is (m_scalar_Meet a b).1 = true := by
  rcases meet_any ha hb with ⟨e, _, _⟩ | ⟨_, i, _⟩
  · rw [e] at h; cases h
  · exact (is_iff _).2 i
theorem jn_all (ha : isS a) (hb : isS b) (hx : hs a x) (hy : hs b y) : m_scalar_Is (m_scalar_Join a b) = true ∧ m_scalar_Has (m_scalar_Join a b) x = true ∧ m_scalar_Has (m_scalar_Join a b) y = true ∧ m_scalar_In a (m_scalar_Join a b) = true ∧ m_scalar_In b (m_scalar_Join a b) = true :=
  have j := join_is ha hb
  ⟨(is_iff _).2 j, (has_iff _ _).2 (hs_sub j (join_left ha hb) hx), (has_iff _ _).2 (hs_sub j (join_right ha hb) hy), (in_iff ha j).2 (join_left ha hb), (in_iff hb j).2 (join_right ha hb)⟩
/-! ### Operations -/
theorem ds_is (ha : isS a) (hb : isS b) (hx : hs a x) (hy : hs b y) : m_scalar_Is (m_scalar_Do op w a b) = true := (is_iff _).2 (does_has (op := op) (w := w) ha hb hx hy).1
theorem ds_has (ha : isS a) (hb : isS b) (hx : hs a x) (hy : hs b y) (h : (m_alu_Do op w x y).2 = true) : m_scalar_Has (m_scalar_Do op w a b) (m_alu_Do op w x y).1 = true := (has_iff _ _).2 ((does_has ha hb hx hy).2.1 h)
theorem ds_no (ha : isS a) (hb : isS b) (hx : hs a x) (hy : hs b y) (h : (m_alu_Do op w x y).2 = false) : decide (m_scalar_Do op w a b = m_scalar_Unknown) = true := decide_eq_true ((does_has ha hb hx hy).2.2 h)
theorem mk_is (ha : isS a) : m_scalar_Is a = true := (is_iff _).2 ha
theorem mk_has (hx : hs a x) : m_scalar_Has a x = true := (has_iff _ _).2 hx
end
end Go.Proofs.YtmhiiahfjoijgaaGreat
