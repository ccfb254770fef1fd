/-
  Operations on scalars keep all numbers (its rows written by genMF.py).
-/
import Derived.Test.YtmhiiahfjoijgaaGreatL7ME
namespace Go.Proofs.YtmhiiahfjoijgaaGreat
open Go.RowKit
set_option linter.unusedVariables false
set_option linter.unusedSimpArgs false
theorem cond_t' {α : Type} (A B : α) : (bif true then A else B) = A := by
  generalize h : true = c
  cases c
  · cases h
  · rfl
theorem cond_f' {α : Type} (A B : α) : (bif false then A else B) = B := by
  generalize h : false = c
  cases c
  · rfl
  · cases h
theorem const_x {a : S} {x : BitVec 64} (ha : isS a) (hx : hs a x) (h : m_scalar_isConst a = true) : a.umin = x := by
  have e := const_of ha (eq_of_beq h)
  rw [e] at hx
  exact (hs_K.1 hx).symm
/-- What an operation makes of operands, wide or not. -/
def opw (op : OO → S) (w : Bool) (a b : S) : S :=
  bif w then op ⟨m_scalar_exact a, m_scalar_exact b, 64#64⟩ else m_scalar_low (op ⟨m_scalar_exact (m_scalar_low a), m_scalar_exact (m_scalar_low b), 32#64⟩)
theorem do_gen {op : OO → S} {v64 v32 r32 : BitVec 64} {K0 D a b : S} {w : Bool} {x y : BitVec 64} (ha : isS a) (hb : isS b) (hx : hs a x) (hy : hs b y)
    (hD : D = bif m_scalar_isConst a then (bif m_scalar_isConst b then K0 else D) else opw op w a b) (NG : Bool) (hD2 : m_scalar_isConst a = true → m_scalar_isConst b = false → D = bif NG then K0 else opw op w a b) (hK : m_scalar_isConst a = true → (m_scalar_isConst b = true ∨ NG = true) → K0 = K (bif w then v64 else v32))
    (h64 : ∀ a' b', isS a' → hs a' x → hs b' y → hs (op ⟨a', b', 64#64⟩) v64 ∧ isS (op ⟨a', b', 64#64⟩))
    (h32 : ∀ a' b', isS a' → hs a' (lo x) → hs b' (lo y) → hs (op ⟨a', b', 32#64⟩) r32 ∧ isS (op ⟨a', b', 32#64⟩)) (hr : lo r32 = v32) :
    hs D (bif w then v64 else v32) ∧ isS D := by
  have main : hs (opw op w a b) (bif w then v64 else v32) ∧ isS (opw op w a b) := by
    unfold opw
    cases w
    · simp only [cond_false]
      have la := low_has ha hx
      have lb := low_has hb hy
      have h := h32 _ _ (exact_spec la.2).1 ((exact_spec la.2).2.1 _ la.1) ((exact_spec lb.2).2.1 _ lb.1)
      have := low_has h.2 h.1
      rw [show r32 &&& 4294967295#64 = v32 from hr] at this
      exact this
    · simp only [cond_true]
      exact h64 _ _ (exact_spec ha).1 ((exact_spec ha).2.1 _ hx) ((exact_spec hb).2.1 _ hy)
  cases ca : m_scalar_isConst a
  · rw [ca] at hD
    rw [hD]; exact main
  · cases cb : m_scalar_isConst b
    · have e := hD2 ca cb
      cases hn : NG
      · rw [hn] at e; rw [e]; exact main
      · rw [hn] at e
        have := hK ca (.inr hn)
        rw [e]
        show hs K0 _ ∧ isS K0
        rw [this]; exact ⟨hs_K.2 rfl, isS_K _⟩
    · rw [ca, cb] at hD
      rw [hD]
      have := hK ca (.inl cb)
      show hs K0 _ ∧ isS K0
      rw [this]; exact ⟨hs_K.2 rfl, isS_K _⟩
section
variable {a b : S} {w : Bool} {x y : BitVec 64}
theorem alu0 : m_alu_Do 0#64 w x y = ((bif w then x + y else (x.setWidth 32 + y.setWidth 32).setWidth 64), true) := by
  unfold m_alu_Do
  simp only [BitVec.reduceBEq, BitVec.reduceSLT, cond_true, cond_false]
  cases w <;> rfl
theorem dod0 (ha : isS a) (hb : isS b) : m_scalar_Do 0#64 w a b = bif m_scalar_isConst a then (bif m_scalar_isConst b then K (m_alu_Do 0#64 w a.umin b.umin).1 else opw m_scalar_operands_add w a b) else opw m_scalar_operands_add w a b := by
  unfold m_scalar_Do opw
  rw [known_of ha, known_of hb]
  simp only [BitVec.reduceBEq, BitVec.reduceSLT, cond_t', cond_f']
theorem dos0 (ha : isS a) (hb : isS b) (hx : hs a x) (hy : hs b y) : hs (m_scalar_Do 0#64 w a b) (m_alu_Do 0#64 w x y).1 ∧ isS (m_scalar_Do 0#64 w a b) := by
  rw [alu0]
  have h := dod0 (w := w) ha hb
  refine do_gen (op := m_scalar_operands_add) (v64 := x + y) (v32 := (x.setWidth 32 + y.setWidth 32).setWidth 64) (r32 := lo x + lo y) (K0 := K (m_alu_Do 0#64 w a.umin b.umin).1) ha hb hx hy ?_ false ?_ ?_ (fun a' b' ia hx hy => op_add hx hy) (fun a' b' ia hx hy => op_add hx hy) (nw_add x y)
  · cases ca : m_scalar_isConst a <;> cases cb : m_scalar_isConst b <;> rw [ca, cb] at h <;> simp only [cond_t', cond_f'] at h ⊢ <;> exact h
  · intro ca cb
    rw [ca, cb] at h
    simp only [cond_t', cond_f'] at h ⊢
    exact h
  · intro ca hh
    rw [const_x ha hx ca]
    rcases hh with hh | hh
    · rw [alu0, const_x hb hy hh]
    · cases hh
theorem alu1 : m_alu_Do 1#64 w x y = ((bif w then x - y else (x.setWidth 32 - y.setWidth 32).setWidth 64), true) := by
  unfold m_alu_Do
  simp only [BitVec.reduceBEq, BitVec.reduceSLT, cond_true, cond_false]
  cases w <;> rfl
theorem dod1 (ha : isS a) (hb : isS b) : m_scalar_Do 1#64 w a b = bif m_scalar_isConst a then (bif m_scalar_isConst b then K (m_alu_Do 1#64 w a.umin b.umin).1 else opw m_scalar_operands_sub w a b) else opw m_scalar_operands_sub w a b := by
  unfold m_scalar_Do opw
  rw [known_of ha, known_of hb]
  simp only [BitVec.reduceBEq, BitVec.reduceSLT, cond_t', cond_f']
theorem dos1 (ha : isS a) (hb : isS b) (hx : hs a x) (hy : hs b y) : hs (m_scalar_Do 1#64 w a b) (m_alu_Do 1#64 w x y).1 ∧ isS (m_scalar_Do 1#64 w a b) := by
  rw [alu1]
  have h := dod1 (w := w) ha hb
  refine do_gen (op := m_scalar_operands_sub) (v64 := x - y) (v32 := (x.setWidth 32 - y.setWidth 32).setWidth 64) (r32 := lo x - lo y) (K0 := K (m_alu_Do 1#64 w a.umin b.umin).1) ha hb hx hy ?_ false ?_ ?_ (fun a' b' ia hx hy => op_sub hx hy) (fun a' b' ia hx hy => op_sub hx hy) (nw_sub x y)
  · cases ca : m_scalar_isConst a <;> cases cb : m_scalar_isConst b <;> rw [ca, cb] at h <;> simp only [cond_t', cond_f'] at h ⊢ <;> exact h
  · intro ca cb
    rw [ca, cb] at h
    simp only [cond_t', cond_f'] at h ⊢
    exact h
  · intro ca hh
    rw [const_x ha hx ca]
    rcases hh with hh | hh
    · rw [alu1, const_x hb hy hh]
    · cases hh
theorem alu2 : m_alu_Do 2#64 w x y = ((bif w then x * y else (x.setWidth 32 * y.setWidth 32).setWidth 64), true) := by
  unfold m_alu_Do
  simp only [BitVec.reduceBEq, BitVec.reduceSLT, cond_true, cond_false]
  cases w <;> rfl
theorem dod2 (ha : isS a) (hb : isS b) : m_scalar_Do 2#64 w a b = bif m_scalar_isConst a then (bif m_scalar_isConst b then K (m_alu_Do 2#64 w a.umin b.umin).1 else opw m_scalar_operands_mul w a b) else opw m_scalar_operands_mul w a b := by
  unfold m_scalar_Do opw
  rw [known_of ha, known_of hb]
  simp only [BitVec.reduceBEq, BitVec.reduceSLT, cond_t', cond_f']
theorem dos2 (ha : isS a) (hb : isS b) (hx : hs a x) (hy : hs b y) : hs (m_scalar_Do 2#64 w a b) (m_alu_Do 2#64 w x y).1 ∧ isS (m_scalar_Do 2#64 w a b) := by
  rw [alu2]
  have h := dod2 (w := w) ha hb
  refine do_gen (op := m_scalar_operands_mul) (v64 := x * y) (v32 := (x.setWidth 32 * y.setWidth 32).setWidth 64) (r32 := lo x * lo y) (K0 := K (m_alu_Do 2#64 w a.umin b.umin).1) ha hb hx hy ?_ false ?_ ?_ (fun a' b' ia hx hy => op_mul hx hy) (fun a' b' ia hx hy => op_mul hx hy) (nw_mul x y)
  · cases ca : m_scalar_isConst a <;> cases cb : m_scalar_isConst b <;> rw [ca, cb] at h <;> simp only [cond_t', cond_f'] at h ⊢ <;> exact h
  · intro ca cb
    rw [ca, cb] at h
    simp only [cond_t', cond_f'] at h ⊢
    exact h
  · intro ca hh
    rw [const_x ha hx ca]
    rcases hh with hh | hh
    · rw [alu2, const_x hb hy hh]
    · cases hh
theorem alu3 : m_alu_Do 3#64 w x y = ((bif w then qu x y else (bif y.setWidth 32 == 0#32 then 0#32 else x.setWidth 32 / y.setWidth 32).setWidth 64), true) := by
  unfold m_alu_Do
  simp only [BitVec.reduceBEq, BitVec.reduceSLT, cond_true, cond_false]
  cases w <;> rfl
theorem dod3 (ha : isS a) (hb : isS b) : m_scalar_Do 3#64 w a b = bif m_scalar_isConst a then (bif m_scalar_isConst b then K (m_alu_Do 3#64 w a.umin b.umin).1 else opw m_scalar_operands_div w a b) else opw m_scalar_operands_div w a b := by
  unfold m_scalar_Do opw
  rw [known_of ha, known_of hb]
  simp only [BitVec.reduceBEq, BitVec.reduceSLT, cond_t', cond_f']
theorem dos3 (ha : isS a) (hb : isS b) (hx : hs a x) (hy : hs b y) : hs (m_scalar_Do 3#64 w a b) (m_alu_Do 3#64 w x y).1 ∧ isS (m_scalar_Do 3#64 w a b) := by
  rw [alu3]
  have h := dod3 (w := w) ha hb
  refine do_gen (op := m_scalar_operands_div) (v64 := qu x y) (v32 := (bif y.setWidth 32 == 0#32 then 0#32 else x.setWidth 32 / y.setWidth 32).setWidth 64) (r32 := qu (lo x) (lo y)) (K0 := K (m_alu_Do 3#64 w a.umin b.umin).1) ha hb hx hy ?_ false ?_ ?_ (fun a' b' ia hx hy => op_div hx hy) (fun a' b' ia hx hy => op_div hx hy) (nw_div x y)
  · cases ca : m_scalar_isConst a <;> cases cb : m_scalar_isConst b <;> rw [ca, cb] at h <;> simp only [cond_t', cond_f'] at h ⊢ <;> exact h
  · intro ca cb
    rw [ca, cb] at h
    simp only [cond_t', cond_f'] at h ⊢
    exact h
  · intro ca hh
    rw [const_x ha hx ca]
    rcases hh with hh | hh
    · rw [alu3, const_x hb hy hh]
    · cases hh
theorem alu4 : m_alu_Do 4#64 w x y = ((bif w then x ||| y else (x.setWidth 32 ||| y.setWidth 32).setWidth 64), true) := by
  unfold m_alu_Do
  simp only [BitVec.reduceBEq, BitVec.reduceSLT, cond_true, cond_false]
  cases w <;> rfl
theorem dod4 (ha : isS a) (hb : isS b) : m_scalar_Do 4#64 w a b = bif m_scalar_isConst a then (bif m_scalar_isConst b then K (m_alu_Do 4#64 w a.umin b.umin).1 else opw m_scalar_operands_or w a b) else opw m_scalar_operands_or w a b := by
  unfold m_scalar_Do opw
  rw [known_of ha, known_of hb]
  simp only [BitVec.reduceBEq, BitVec.reduceSLT, cond_t', cond_f']
theorem dos4 (ha : isS a) (hb : isS b) (hx : hs a x) (hy : hs b y) : hs (m_scalar_Do 4#64 w a b) (m_alu_Do 4#64 w x y).1 ∧ isS (m_scalar_Do 4#64 w a b) := by
  rw [alu4]
  have h := dod4 (w := w) ha hb
  refine do_gen (op := m_scalar_operands_or) (v64 := x ||| y) (v32 := (x.setWidth 32 ||| y.setWidth 32).setWidth 64) (r32 := lo x ||| lo y) (K0 := K (m_alu_Do 4#64 w a.umin b.umin).1) ha hb hx hy ?_ false ?_ ?_ (fun a' b' ia hx hy => op_or hx hy) (fun a' b' ia hx hy => op_or hx hy) (nw_or x y)
  · cases ca : m_scalar_isConst a <;> cases cb : m_scalar_isConst b <;> rw [ca, cb] at h <;> simp only [cond_t', cond_f'] at h ⊢ <;> exact h
  · intro ca cb
    rw [ca, cb] at h
    simp only [cond_t', cond_f'] at h ⊢
    exact h
  · intro ca hh
    rw [const_x ha hx ca]
    rcases hh with hh | hh
    · rw [alu4, const_x hb hy hh]
    · cases hh
theorem alu5 : m_alu_Do 5#64 w x y = ((bif w then x &&& y else (x.setWidth 32 &&& y.setWidth 32).setWidth 64), true) := by
  unfold m_alu_Do
  simp only [BitVec.reduceBEq, BitVec.reduceSLT, cond_true, cond_false]
  cases w <;> rfl
theorem dod5 (ha : isS a) (hb : isS b) : m_scalar_Do 5#64 w a b = bif m_scalar_isConst a then (bif m_scalar_isConst b then K (m_alu_Do 5#64 w a.umin b.umin).1 else opw m_scalar_operands_and w a b) else opw m_scalar_operands_and w a b := by
  unfold m_scalar_Do opw
  rw [known_of ha, known_of hb]
  simp only [BitVec.reduceBEq, BitVec.reduceSLT, cond_t', cond_f']
theorem dos5 (ha : isS a) (hb : isS b) (hx : hs a x) (hy : hs b y) : hs (m_scalar_Do 5#64 w a b) (m_alu_Do 5#64 w x y).1 ∧ isS (m_scalar_Do 5#64 w a b) := by
  rw [alu5]
  have h := dod5 (w := w) ha hb
  refine do_gen (op := m_scalar_operands_and) (v64 := x &&& y) (v32 := (x.setWidth 32 &&& y.setWidth 32).setWidth 64) (r32 := lo x &&& lo y) (K0 := K (m_alu_Do 5#64 w a.umin b.umin).1) ha hb hx hy ?_ false ?_ ?_ (fun a' b' ia hx hy => ⟨(op_and hx hy).1, (op_and hx hy).2.1⟩) (fun a' b' ia hx hy => ⟨(op_and hx hy).1, (op_and hx hy).2.1⟩) (nw_and x y)
  · cases ca : m_scalar_isConst a <;> cases cb : m_scalar_isConst b <;> rw [ca, cb] at h <;> simp only [cond_t', cond_f'] at h ⊢ <;> exact h
  · intro ca cb
    rw [ca, cb] at h
    simp only [cond_t', cond_f'] at h ⊢
    exact h
  · intro ca hh
    rw [const_x ha hx ca]
    rcases hh with hh | hh
    · rw [alu5, const_x hb hy hh]
    · cases hh
theorem alu6 : m_alu_Do 6#64 w x y = ((bif w then x <<< (y % 64#64).toNat else (x.setWidth 32 <<< (y.setWidth 32 % 32#32).toNat).setWidth 64), true) := by
  unfold m_alu_Do
  simp only [BitVec.reduceBEq, BitVec.reduceSLT, cond_true, cond_false]
  cases w <;> rfl
theorem dod6 (ha : isS a) (hb : isS b) : m_scalar_Do 6#64 w a b = bif m_scalar_isConst a then (bif m_scalar_isConst b then K (m_alu_Do 6#64 w a.umin b.umin).1 else opw m_scalar_operands_lsh w a b) else opw m_scalar_operands_lsh w a b := by
  unfold m_scalar_Do opw
  rw [known_of ha, known_of hb]
  simp only [BitVec.reduceBEq, BitVec.reduceSLT, cond_t', cond_f']
theorem dos6 (ha : isS a) (hb : isS b) (hx : hs a x) (hy : hs b y) : hs (m_scalar_Do 6#64 w a b) (m_alu_Do 6#64 w x y).1 ∧ isS (m_scalar_Do 6#64 w a b) := by
  rw [alu6]
  have h := dod6 (w := w) ha hb
  refine do_gen (op := m_scalar_operands_lsh) (v64 := x <<< (y % 64#64).toNat) (v32 := (x.setWidth 32 <<< (y.setWidth 32 % 32#32).toNat).setWidth 64) (r32 := lo x <<< (y.setWidth 32 % 32#32).toNat) (K0 := K (m_alu_Do 6#64 w a.umin b.umin).1) ha hb hx hy ?_ false ?_ ?_ (fun a' b' ia hx hy => cnt64 y ▸ op_lsh (k := 6) (.inl ⟨rfl, rfl⟩) hx hy) (fun a' b' ia hx hy => cnt32 y ▸ op_lsh (k := 5) (.inr ⟨rfl, rfl⟩) hx hy) (nw_lsh x _)
  · cases ca : m_scalar_isConst a <;> cases cb : m_scalar_isConst b <;> rw [ca, cb] at h <;> simp only [cond_t', cond_f'] at h ⊢ <;> exact h
  · intro ca cb
    rw [ca, cb] at h
    simp only [cond_t', cond_f'] at h ⊢
    exact h
  · intro ca hh
    rw [const_x ha hx ca]
    rcases hh with hh | hh
    · rw [alu6, const_x hb hy hh]
    · cases hh
theorem alu7 : m_alu_Do 7#64 w x y = ((bif w then x >>> (y % 64#64).toNat else (x.setWidth 32 >>> (y.setWidth 32 % 32#32).toNat).setWidth 64), true) := by
  unfold m_alu_Do
  simp only [BitVec.reduceBEq, BitVec.reduceSLT, cond_true, cond_false]
  cases w <;> rfl
theorem dod7 (ha : isS a) (hb : isS b) : m_scalar_Do 7#64 w a b = bif m_scalar_isConst a then (bif m_scalar_isConst b then K (m_alu_Do 7#64 w a.umin b.umin).1 else opw m_scalar_operands_rsh w a b) else opw m_scalar_operands_rsh w a b := by
  unfold m_scalar_Do opw
  rw [known_of ha, known_of hb]
  simp only [BitVec.reduceBEq, BitVec.reduceSLT, cond_t', cond_f']
theorem dos7 (ha : isS a) (hb : isS b) (hx : hs a x) (hy : hs b y) : hs (m_scalar_Do 7#64 w a b) (m_alu_Do 7#64 w x y).1 ∧ isS (m_scalar_Do 7#64 w a b) := by
  rw [alu7]
  have h := dod7 (w := w) ha hb
  refine do_gen (op := m_scalar_operands_rsh) (v64 := x >>> (y % 64#64).toNat) (v32 := (x.setWidth 32 >>> (y.setWidth 32 % 32#32).toNat).setWidth 64) (r32 := lo x >>> (y.setWidth 32 % 32#32).toNat) (K0 := K (m_alu_Do 7#64 w a.umin b.umin).1) ha hb hx hy ?_ false ?_ ?_ (fun a' b' ia hx hy => cnt64 y ▸ op_rsh (k := 6) (.inl ⟨rfl, rfl⟩) hx hy) (fun a' b' ia hx hy => cnt32 y ▸ op_rsh (k := 5) (.inr ⟨rfl, rfl⟩) hx hy) (nw_rsh x _)
  · cases ca : m_scalar_isConst a <;> cases cb : m_scalar_isConst b <;> rw [ca, cb] at h <;> simp only [cond_t', cond_f'] at h ⊢ <;> exact h
  · intro ca cb
    rw [ca, cb] at h
    simp only [cond_t', cond_f'] at h ⊢
    exact h
  · intro ca hh
    rw [const_x ha hx ca]
    rcases hh with hh | hh
    · rw [alu7, const_x hb hy hh]
    · cases hh
theorem alu8 : m_alu_Do 8#64 w x y = ((bif w then -x else (-(x.setWidth 32)).setWidth 64), true) := by
  unfold m_alu_Do
  simp only [BitVec.reduceBEq, BitVec.reduceSLT, cond_true, cond_false]
  cases w <;> rfl
theorem dod8 (ha : isS a) (hb : isS b) : m_scalar_Do 8#64 w a b = bif m_scalar_isConst a then (bif m_scalar_isConst b then K (m_alu_Do 8#64 w a.umin b.umin).1 else K (m_alu_Do 8#64 w a.umin b.umin).1) else opw m_scalar_operands_neg w a b := by
  unfold m_scalar_Do opw
  rw [known_of ha, known_of hb]
  simp only [BitVec.reduceBEq, BitVec.reduceSLT, cond_t', cond_f']
theorem dos8 (ha : isS a) (hb : isS b) (hx : hs a x) (hy : hs b y) : hs (m_scalar_Do 8#64 w a b) (m_alu_Do 8#64 w x y).1 ∧ isS (m_scalar_Do 8#64 w a b) := by
  rw [alu8]
  have h := dod8 (w := w) ha hb
  refine do_gen (op := m_scalar_operands_neg) (v64 := -x) (v32 := (-(x.setWidth 32)).setWidth 64) (r32 := -lo x) (K0 := K (m_alu_Do 8#64 w a.umin b.umin).1) ha hb hx hy ?_ true ?_ ?_ (fun a' b' ia hx hy => op_neg hx) (fun a' b' ia hx hy => op_neg hx) (nw_neg x)
  · cases ca : m_scalar_isConst a <;> cases cb : m_scalar_isConst b <;> rw [ca, cb] at h <;> simp only [cond_t', cond_f'] at h ⊢ <;> exact h
  · intro ca cb
    rw [ca, cb] at h
    simp only [cond_t', cond_f'] at h ⊢
    exact h
  · intro ca _
    rw [alu8, const_x ha hx ca]
theorem alu9 : m_alu_Do 9#64 w x y = ((bif w then re x y else (bif y.setWidth 32 == 0#32 then x.setWidth 32 else x.setWidth 32 % y.setWidth 32).setWidth 64), true) := by
  unfold m_alu_Do
  simp only [BitVec.reduceBEq, BitVec.reduceSLT, cond_true, cond_false]
  cases w <;> rfl
theorem dod9 (ha : isS a) (hb : isS b) : m_scalar_Do 9#64 w a b = bif m_scalar_isConst a then (bif m_scalar_isConst b then K (m_alu_Do 9#64 w a.umin b.umin).1 else opw m_scalar_operands_mod w a b) else opw m_scalar_operands_mod w a b := by
  unfold m_scalar_Do opw
  rw [known_of ha, known_of hb]
  simp only [BitVec.reduceBEq, BitVec.reduceSLT, cond_t', cond_f']
theorem dos9 (ha : isS a) (hb : isS b) (hx : hs a x) (hy : hs b y) : hs (m_scalar_Do 9#64 w a b) (m_alu_Do 9#64 w x y).1 ∧ isS (m_scalar_Do 9#64 w a b) := by
  rw [alu9]
  have h := dod9 (w := w) ha hb
  refine do_gen (op := m_scalar_operands_mod) (v64 := re x y) (v32 := (bif y.setWidth 32 == 0#32 then x.setWidth 32 else x.setWidth 32 % y.setWidth 32).setWidth 64) (r32 := re (lo x) (lo y)) (K0 := K (m_alu_Do 9#64 w a.umin b.umin).1) ha hb hx hy ?_ false ?_ ?_ (fun a' b' ia hx hy => op_mod ia hx hy) (fun a' b' ia hx hy => op_mod ia hx hy) (nw_mod x y)
  · cases ca : m_scalar_isConst a <;> cases cb : m_scalar_isConst b <;> rw [ca, cb] at h <;> simp only [cond_t', cond_f'] at h ⊢ <;> exact h
  · intro ca cb
    rw [ca, cb] at h
    simp only [cond_t', cond_f'] at h ⊢
    exact h
  · intro ca hh
    rw [const_x ha hx ca]
    rcases hh with hh | hh
    · rw [alu9, const_x hb hy hh]
    · cases hh
theorem alu10 : m_alu_Do 10#64 w x y = ((bif w then x ^^^ y else (x.setWidth 32 ^^^ y.setWidth 32).setWidth 64), true) := by
  unfold m_alu_Do
  simp only [BitVec.reduceBEq, BitVec.reduceSLT, cond_true, cond_false]
  cases w <;> rfl
theorem dod10 (ha : isS a) (hb : isS b) : m_scalar_Do 10#64 w a b = bif m_scalar_isConst a then (bif m_scalar_isConst b then K (m_alu_Do 10#64 w a.umin b.umin).1 else opw m_scalar_operands_xor w a b) else opw m_scalar_operands_xor w a b := by
  unfold m_scalar_Do opw
  rw [known_of ha, known_of hb]
  simp only [BitVec.reduceBEq, BitVec.reduceSLT, cond_t', cond_f']
theorem dos10 (ha : isS a) (hb : isS b) (hx : hs a x) (hy : hs b y) : hs (m_scalar_Do 10#64 w a b) (m_alu_Do 10#64 w x y).1 ∧ isS (m_scalar_Do 10#64 w a b) := by
  rw [alu10]
  have h := dod10 (w := w) ha hb
  refine do_gen (op := m_scalar_operands_xor) (v64 := x ^^^ y) (v32 := (x.setWidth 32 ^^^ y.setWidth 32).setWidth 64) (r32 := lo x ^^^ lo y) (K0 := K (m_alu_Do 10#64 w a.umin b.umin).1) ha hb hx hy ?_ false ?_ ?_ (fun a' b' ia hx hy => op_xor hx hy) (fun a' b' ia hx hy => op_xor hx hy) (nw_xor x y)
  · cases ca : m_scalar_isConst a <;> cases cb : m_scalar_isConst b <;> rw [ca, cb] at h <;> simp only [cond_t', cond_f'] at h ⊢ <;> exact h
  · intro ca cb
    rw [ca, cb] at h
    simp only [cond_t', cond_f'] at h ⊢
    exact h
  · intro ca hh
    rw [const_x ha hx ca]
    rcases hh with hh | hh
    · rw [alu10, const_x hb hy hh]
    · cases hh
theorem alu12 : m_alu_Do 12#64 w x y = ((bif w then x.sshiftRight (y % 64#64).toNat else ((x.setWidth 32).sshiftRight (y.setWidth 32 % 32#32).toNat).setWidth 64), true) := by
  unfold m_alu_Do
  simp only [BitVec.reduceBEq, BitVec.reduceSLT, cond_true, cond_false]
  cases w <;> rfl
theorem dod12 (ha : isS a) (hb : isS b) : m_scalar_Do 12#64 w a b = bif m_scalar_isConst a then (bif m_scalar_isConst b then K (m_alu_Do 12#64 w a.umin b.umin).1 else opw m_scalar_operands_arsh w a b) else opw m_scalar_operands_arsh w a b := by
  unfold m_scalar_Do opw
  rw [known_of ha, known_of hb]
  simp only [BitVec.reduceBEq, BitVec.reduceSLT, cond_t', cond_f']
theorem dos12 (ha : isS a) (hb : isS b) (hx : hs a x) (hy : hs b y) : hs (m_scalar_Do 12#64 w a b) (m_alu_Do 12#64 w x y).1 ∧ isS (m_scalar_Do 12#64 w a b) := by
  rw [alu12]
  have h := dod12 (w := w) ha hb
  refine do_gen (op := m_scalar_operands_arsh) (v64 := x.sshiftRight (y % 64#64).toNat) (v32 := ((x.setWidth 32).sshiftRight (y.setWidth 32 % 32#32).toNat).setWidth 64) (r32 := (sx (lo x)).sshiftRight (y.setWidth 32 % 32#32).toNat) (K0 := K (m_alu_Do 12#64 w a.umin b.umin).1) ha hb hx hy ?_ false ?_ ?_ (fun a' b' ia hx hy => cnt64 y ▸ op_arsh64 hx hy) (fun a' b' ia hx hy => cnt32 y ▸ op_arsh32 hx hy) (nw_arsh x _)
  · cases ca : m_scalar_isConst a <;> cases cb : m_scalar_isConst b <;> rw [ca, cb] at h <;> simp only [cond_t', cond_f'] at h ⊢ <;> exact h
  · intro ca cb
    rw [ca, cb] at h
    simp only [cond_t', cond_f'] at h ⊢
    exact h
  · intro ca hh
    rw [const_x ha hx ca]
    rcases hh with hh | hh
    · rw [alu12, const_x hb hy hh]
    · cases hh
end
end Go.Proofs.YtmhiiahfjoijgaaGreat
