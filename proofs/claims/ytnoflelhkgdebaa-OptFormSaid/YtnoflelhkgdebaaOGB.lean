/-
  What is trimmed is well formed, in plain words.
-/
import Derived.Test.YtnoflelhkgdebaaOGA
namespace Go.Proofs.Ytnoflelhkgdebaa
open Go.RowKit
set_option linter.unusedVariables false
set_option linter.unusedSimpArgs false
theorem ii_of16 {x : Int} (h0 : -32768 ≤ x) (h1 : x < 32768) : ii (BitVec.ofInt 16 x) = x := by
  unfold ii
  rw [BitVec.toInt_ofInt, Int.bmod_eq_of_le] <;> omega
theorem ii_of32 {x : Int} (h0 : -32768 ≤ x) (h1 : x < 32768) : ii (BitVec.ofInt 32 x) = x := by
  unfold ii
  rw [BitVec.toInt_ofInt, Int.bmod_eq_of_le] <;> omega
theorem jumps_low {x : Insn} (h : m_op_Jumps x = true) : ((x.fOp &&& 7#8) == 4#8) = false ∧ ((x.fOp &&& 7#8) == 7#8) = false := by
  unfold m_op_Jumps at h
  revert h
  generalize x.fOp = o
  revert o
  decide
theorem jumps_same {x y : Insn} (h : y.fOp = x.fOp) : m_op_Jumps y = m_op_Jumps x := by
  unfold m_op_Jumps
  rw [h]
theorem names_same {x y : Insn} (h : y.fOp = x.fOp) (h2 : y.fSrc = x.fSrc) : m_insn_names y = m_insn_names x := by
  unfold m_insn_names
  rw [h, h2]
theorem known_off {x : Insn} (h : m_op_Jumps x = true) (o : BitVec 16) : m_insn_known (⟨x.fOp, x.fDst, x.fSrc, o, x.fImm⟩ : Insn) = m_insn_known x := by
  obtain ⟨h24, h133, h149, _⟩ := jumps_not h
  obtain ⟨h4, h7⟩ := jumps_low h
  unfold m_insn_known m_insn_compares m_insn_plainOperand
  simp only [h24, h133, h149, h4, h7, cond_false, beq_self_eq_true]
theorem names_op {x : Insn} (h : m_insn_names x = true) : (x.fOp = 24#8 ∧ (x.fSrc == 4#8) = true) ∨ (x.fOp = 133#8 ∧ (x.fSrc == 1#8) = true) := by
  unfold m_insn_names at h
  cases h1 : (x.fOp == 24#8)
  · rw [h1, cf rfl] at h
    cases h2 : (x.fOp == 133#8)
    · rw [h2] at h; cases h
    · rw [h2, ct rfl] at h
      exact .inr ⟨by simpa using h2, h⟩
  · rw [h1, ct rfl] at h
    exact .inl ⟨by simpa using h1, h⟩
theorem known_imm {x : Insn} (h : m_insn_names x = true) (i : BitVec 32) : m_insn_known (⟨x.fOp, x.fDst, x.fSrc, x.fOff, i⟩ : Insn) = m_insn_known x := by
  unfold m_insn_known
  rcases names_op h with ⟨h1, _⟩ | ⟨h1, _⟩
  · simp only [h1]
    rfl
  · simp only [h1]
    rfl
/-- What the errors of a slot are made of. -/
theorem errB_iff {n : Nat} {A : Nat → Insn} {k : Nat} : errB n A k = 0 ↔ m_insn_known (A k) = true ∧ (BitVec.ult 10#8 (A k).fDst || (BitVec.ult 10#8 (A k).fSrc || (((A k).fDst == 10#8) && m_insn_writes (A k)))) = false ∧ (wideB (A k) && !rightB n A k) = false ∧
    (((A k).fOp == 133#8) && (((A k).fSrc == 0#8) && (BitVec.slt (A k).fImm 1#32 || BitVec.slt 28#32 (A k).fImm))) = false ∧ (m_insn_names (A k) && !callB n A ((k : Int) + 1 + ii (A k).fImm)) = false := by
  unfold errB
  generalize m_insn_known (A k) = b1
  generalize (BitVec.ult 10#8 (A k).fDst || (BitVec.ult 10#8 (A k).fSrc || (((A k).fDst == 10#8) && m_insn_writes (A k)))) = b2
  generalize (wideB (A k) && !rightB n A k) = b3
  generalize (((A k).fOp == 133#8) && (((A k).fSrc == 0#8) && (BitVec.slt (A k).fImm 1#32 || BitVec.slt 28#32 (A k).fImm))) = b4
  generalize (m_insn_names (A k) && !callB n A ((k : Int) + 1 + ii (A k).fImm)) = b5
  revert b1 b2 b3 b4 b5
  decide
noncomputable def tgt (n : Nat) (A : Nat → Insn) (k : Nat) : Int × Bool := (m_insn_Target n A (k : Int)).getD (0, false)
def goto (A : Nat → Insn) (k : Nat) : Nat := ((k : Int) + 1 + ii (A k).fOff).toNat
/-- A program that is well formed, with its subprograms. -/
structure Good (n : Nat) (A : Nat → Insn) (N : Nat) (P : Nat → Part) : Prop where
  fine : Fine n A N P
  pos : 0 < n
  begs : ∃ g, (∀ j, g j = true ↔ Beg n A j) ∧ Parts g n N P
  few : N ≤ 64
  subs : SubsIs n A (.e1 N P)
theorem good_of {n : Nat} {A : Nat → Insn} {r : Int × Int} (hc : m_insn_Check n A = some r) (h : r.2 = 0) : ∃ N P, Good n A N P := by
  obtain ⟨r', hr', hf⟩ := check_fine n A
  rw [hc] at hr'
  cases hr'
  obtain ⟨N, P, hF⟩ := hf h
  obtain ⟨s, hs, hsi⟩ := subs_is n A
  rw [hF.subs] at hs
  cases hs
  refine ⟨N, P, ?_⟩
  have hsi' := hsi
  cases hsi with
  | fine h0 hn hok g hg _ _ hN hP h64 he => exact ⟨hF, h0, ⟨g, hg, hP⟩, h64, hsi'⟩
theorem check_right {n N : Nat} {A : Nat → Insn} {P : Nat → Part} (h : SubsIs n A (.e1 N P)) (h6 : ∀ i, i < N → ∀ j : Nat, (P i).fFrom ≤ j → (j : Int) < (P i).fTo → sec A j = false → badJump A (P i) j = false) : m_insn_Check n A = some (0, 0) := by
  have h1 := refcheck (.fine N P h h6)
  obtain ⟨r, hr, hc⟩ := check_is n A
  have h2 := refcheck hc
  rw [hr, ← h2, h1]
section
variable {n N : Nat} {A : Nat → Insn} {P : Nat → Part} {r G : Nat → Bool}
theorem Fine.sec_op (h : Fine n A N P) {k : Nat} (hk : k < n) (hs : sec A k = true) : (A k).fOp = 0#8 ∧ ∃ j, k = j + 1 ∧ wideB (A j) = true ∧ sec A j = false := by
  cases k with
  | zero => cases hs
  | succ j =>
    have hs2 : wideB (A j) = true ∧ sec A j = false := by
      have : (wideB (A j) && !sec A j) = true := hs
      simpa using this
    exact ⟨right_op (err_right (h.ok j (by omega) (by omega) hs2.2) hs2.1), j, rfl, hs2⟩
theorem tgt_some (h : Fine n A N P) {k : Nat} (hk : k < n) : m_insn_Target n A (k : Int) = some (tgt n A k) := by
  obtain ⟨x, hx, _⟩ := target_spec h.most hk
  unfold tgt
  rw [hx]
  rfl
theorem tgt_jump (h : Fine n A N P) {k : Nat} (hk : Slot n A k) (hj : m_op_Jumps (A k) = true) : tgt n A k = ((k : Int) + 1 + ii (A k).fOff, true) := by
  unfold tgt
  rw [target_jump h hk hj]
  rfl
theorem tgt_name (h : Fine n A N P) {k : Nat} (hk : Slot n A k) (hj : m_insn_names (A k) = true) : tgt n A k = ((k : Int) + 1 + ii (A k).fImm, true) := by
  unfold tgt
  rw [target_name h hk hj]
  rfl
theorem tgt_none (h : Fine n A N P) {k : Nat} (hk : k < n) (hn : sec A k = true ∨ m_insn_names (A k) = false ∧ m_op_Jumps (A k) = false) : (tgt n A k).2 = false := by
  obtain ⟨x, hx⟩ := target_none h hk hn
  unfold tgt
  rw [hx]
  rfl
theorem tgt_edge (h : Fine n A N P) {k : Nat} (hk : k < n) (ht : (tgt n A k).2 = true) : Slot n A k ∧ ∃ t : Nat, (tgt n A k).1 = (t : Int) ∧ Edge A k t ∧ (k : Int) + 1 + (if m_op_Jumps (A k) then ii (A k).fOff else ii (A k).fImm) = (t : Int) := by
  cases hs : sec A k
  · have hk' : Slot n A k := ⟨hk, hs⟩
    refine ⟨hk', ?_⟩
    cases hj : m_op_Jumps (A k)
    · cases hn : m_insn_names (A k)
      · rw [tgt_none h hk (.inr ⟨hn, hj⟩)] at ht; cases ht
      · obtain ⟨t, e, _⟩ := h.nameTo hk hs hn
        exact ⟨t, by rw [tgt_name h hk' hn]; exact e, .inr (.inr ⟨hn, e⟩), e⟩
    · obtain ⟨g, hP⟩ := h.parts
      obtain ⟨i, hi, q3, q4⟩ := part_of hP hk
      obtain ⟨t, e, _⟩ := h.jumpIn hi q3 q4 hs hj
      exact ⟨t, by rw [tgt_jump h hk' hj]; exact e, .inl ⟨hj, e⟩, e⟩
  · rw [tgt_none h hk (.inl hs)] at ht; cases ht
theorem keep1_is (h : Fine n A N P) (hR : Reach n A r) : ∀ {k : Nat}, k < n → keep1 A r k = true → r k = true ∨ ∃ j, k = j + 1 ∧ wideB (A j) = true ∧ r j = true ∧ sec A k = true
  | 0, _, hk => .inl hk
  | k + 1, hkn, hk => by
    have hk : (r (k + 1) || (((A k).fOp == 24#8) && keep1 A r k)) = true := hk
    rw [Bool.or_eq_true, Bool.and_eq_true] at hk
    rcases hk with hk | ⟨h1, h2⟩
    · exact .inl hk
    · rcases keep1_is h hR (show k < n by omega) h2 with q | ⟨j, _, _, _, q⟩
      · refine .inr ⟨k, rfl, h1, q, ?_⟩
        show (wideB (A k) && !sec A k) = true
        rw [show wideB (A k) = true from h1, (hR.first k q).1.2]
        rfl
      · rw [(h.sec_op (by omega) q).1] at h1; cases h1
theorem keep1_r {k : Nat} (h : r k = true) : keep1 A r k = true := by
  cases k with
  | zero => exact h
  | succ k =>
    show (r (k + 1) || _) = true
    rw [h]
    rfl
theorem trims (h : Fine n A N P) (hR : Reach n A r) (hc : m_insn_Check n A = some (0, 0)) (hr : m_flow_Reached n A = some (.e0 r)) : Trims n A r (goto A) (tgt n A) := by
  refine ⟨h.most, hc, hr, fun k hk ho => ?_, fun k hk _ => tgt_some h hk, fun k hk _ ht => ?_, fun k hk _ ho => ?_⟩
  · have hs : sec A k = false := by
      cases c : sec A k
      · rfl
      · rw [(h.sec_op hk c).1] at ho; cases ho
    have hr := err_right (h.ok k hk hk hs) ho
    unfold rightB at hr
    rw [Bool.and_eq_true] at hr
    exact of_decide_eq_true hr.1
  · obtain ⟨hs, t, e, he, _⟩ := tgt_edge h hk ht
    have := (h.edge hs he).1
    omega
  · have hs : sec A k = false := by
      cases c : sec A k
      · rfl
      · rw [(h.sec_op hk c).1] at ho; cases ho
    have hj := ja_jumps ho
    obtain ⟨g, hP⟩ := h.parts
    obtain ⟨i, hi, q3, q4⟩ := part_of hP hk
    obtain ⟨t, e, _⟩ := h.jumpIn hi q3 q4 hs hj
    have := (h.edge ⟨hk, hs⟩ (.inl ⟨hj, e⟩)).1
    have e2 : goto A k = t := by unfold goto; omega
    refine ⟨by omega, true, ?_⟩
    rw [target_jump h ⟨hk, hs⟩ hj, e, e2]
/-- What is known of a program and of the slots that stay. -/
structure Stay (n : Nat) (A : Nat → Insn) (N : Nat) (P : Nat → Part) (r G : Nat → Bool) : Prop where
  good : Good n A N P
  reach : Reach n A r
  last : Last A r (goto A) n 0 G
theorem Stay.is (h : Stay n A N P r G) {k : Nat} (hk : k < n) (hG : G k = true) : r k = true ∨ ∃ j, k = j + 1 ∧ wideB (A j) = true ∧ r j = true ∧ sec A k = true :=
  keep1_is h.good.fine h.reach hk (last_keep h.last hk hG)
theorem Stay.slot (h : Stay n A N P r G) {k : Nat} (hk : k < n) (hG : G k = true) (hs : sec A k = false) : r k = true := by
  rcases h.is hk hG with q | ⟨_, _, _, _, q⟩
  · exact q
  · rw [hs] at q; cases q
theorem Stay.yes (h : Stay n A N P r G) {k : Nat} (hk : k < n) (h1 : keep1 A r k = true) (h2 : ((A k).fOp == 5#8) = false) : G k = true := by
  rw [h.last k (Nat.zero_le _) hk, h1, h2]
  rfl
theorem Stay.no (h : Stay n A N P r G) {k : Nat} (hk : r k = true) (hG : G k = false) : ((A k).fOp == 5#8) = true ∧ goneK G k (goto A k) = true := by
  have hkn := (h.reach.first k hk).1.1
  rw [h.last k (Nat.zero_le _) hkn, keep1_r hk, Bool.true_and] at hG
  have : (((A k).fOp == 5#8) && goneK G k (goto A k)) = true := by simpa using hG
  exact Bool.and_eq_true_iff.1 this
theorem Stay.wide (h : Stay n A N P r G) {k : Nat} (hk : r k = true) (hw : wideB (A k) = true) : k + 1 < n ∧ G k = true ∧ G (k + 1) = true ∧ sec A (k + 1) = true := by
  obtain ⟨⟨hkn, hs⟩, _⟩ := h.reach.first k hk
  have hr := err_right (h.good.fine.ok k hkn hkn hs) hw
  have h0 := right_op hr
  unfold rightB at hr
  rw [Bool.and_eq_true] at hr
  have h1 := of_decide_eq_true hr.1
  have hw' : (A k).fOp = 24#8 := by simpa [wideB] using hw
  refine ⟨h1, h.yes hkn (keep1_r hk) (by rw [hw']; rfl), h.yes h1 ?_ (by rw [h0]; rfl), ?_⟩
  · show (r (k + 1) || (((A k).fOp == 24#8) && keep1 A r k)) = true
    rw [hw', keep1_r hk]
    simp
  · show (wideB (A k) && !sec A k) = true
    rw [hw, hs]; rfl
theorem goto_of {k t : Nat} (e : (k : Int) + 1 + ii (A k).fOff = (t : Int)) : goto A k = t := by unfold goto; omega
/-- What a reached slot gives way to. -/
theorem Stay.rep (h : Stay n A N P r G) {i : Nat} (hi : i < N) : ∀ d k, n ≤ k + d → (P i).fFrom ≤ (k : Int) → (k : Int) < (P i).fTo → r k = true → ∃ y, k ≤ y ∧ (y : Int) < (P i).fTo ∧ G y = true ∧ r y = true ∧ cnt G y = cnt G k
  | 0, k, hd, h1, h2, hr => by have := (h.reach.first k hr).1.1; omega
  | d + 1, k, hd, h1, h2, hr => by
    cases hG : G k
    · obtain ⟨h5, hg⟩ := h.no hr hG
      have hs := (h.reach.first k hr).1
      obtain ⟨t, e, q1, q2, q3⟩ := h.good.fine.jumpIn hi h1 h2 hs.2 (ja_jumps h5)
      rw [goto_of e] at hg
      have hc := cnt_gone hg hG
      have hkt : k < t := by
        unfold goneK at hg
        exact of_decide_eq_true (Bool.and_eq_true_iff.1 hg).1
      obtain ⟨y, a1, a2, a3, a4, a5⟩ := h.rep hi d t (by omega) q1 q2 (h.reach.closed k t hr (.inl ⟨ja_jumps h5, e⟩))
      exact ⟨y, by omega, a2, a3, a4, by rw [a5, hc]⟩
    · exact ⟨k, Nat.le_refl _, h2, hG, hr, rfl⟩
theorem Stay.reps (h : Stay n A N P r G) {k : Nat} (hr : r k = true) : ∃ y, k ≤ y ∧ y < n ∧ G y = true ∧ r y = true ∧ cnt G y = cnt G k := by
  obtain ⟨g, _, hP⟩ := h.good.begs
  obtain ⟨i, hi, h1, h2⟩ := part_of hP (h.reach.first k hr).1.1
  obtain ⟨y, a1, a2, a3⟩ := h.rep hi n k (by omega) h1 h2 hr
  have := hP.to hi
  exact ⟨y, a1, by omega, a3⟩
theorem cnt_yes {k : Nat} (h : G k = true) : cnt G (k + 1) = cnt G k + 1 := by show (if G k then _ else _) = _; rw [if_pos h]
theorem Stay.pos (h : Stay n A N P r G) : 0 < cnt G n := by
  obtain ⟨y, _, a1, a2, _⟩ := h.reps h.reach.zero
  have := cnt_lt G a1 a2
  omega
theorem Stay.most (h : Stay n A N P r G) : n ≤ 4096 := h.good.fine.most
end
/-- The trimmed row. -/
structure Img (n : Nat) (A : Nat → Insn) (G : Nat → Bool) (B : Nat → Insn) : Prop where
  at_ : ∀ k, k < n → G k = true → B (cnt G k) = fitK A G (tgt n A) k
section
variable {n N : Nat} {A B : Nat → Insn} {P : Nat → Part} {r G : Nat → Bool}
theorem Img.op (H : Img n A G B) {k : Nat} (hk : k < n) (hG : G k = true) : (B (cnt G k)).fOp = (A k).fOp ∧ (B (cnt G k)).fDst = (A k).fDst ∧ (B (cnt G k)).fSrc = (A k).fSrc := by
  rw [H.at_ k hk hG]
  exact fitK_keeps _ _ _ _
theorem Img.plain (H : Img n A G B) {k : Nat} (hk : k < n) (hG : G k = true) (ht : (tgt n A k).2 = false) : B (cnt G k) = A k := by
  rw [H.at_ k hk hG]
  unfold fitK
  rw [ht]
  rfl
theorem Img.jump (H : Img n A G B) (h : Stay n A N P r G) {k t : Nat} (hr : r k = true) (hG : G k = true) (hj : m_op_Jumps (A k) = true) (e : (k : Int) + 1 + ii (A k).fOff = (t : Int)) :
    B (cnt G k) = ⟨(A k).fOp, (A k).fDst, (A k).fSrc, BitVec.ofInt 16 ((cnt G t : Int) - (cnt G k : Int) - 1), (A k).fImm⟩ := by
  have hs := (h.reach.first k hr).1
  rw [H.at_ k hs.1 hG]
  unfold fitK
  rw [tgt_jump h.good.fine hs hj, if_pos rfl, e, Int.toNat_natCast]
  unfold m_opt_fitted
  rw [ct hj]
theorem Img.name (H : Img n A G B) (h : Stay n A N P r G) {k t : Nat} (hr : r k = true) (hG : G k = true) (hj : m_insn_names (A k) = true) (e : (k : Int) + 1 + ii (A k).fImm = (t : Int)) :
    B (cnt G k) = ⟨(A k).fOp, (A k).fDst, (A k).fSrc, (A k).fOff, BitVec.ofInt 32 ((cnt G t : Int) - (cnt G k : Int) - 1)⟩ := by
  have hs := (h.reach.first k hr).1
  rw [H.at_ k hs.1 hG]
  unfold fitK
  rw [tgt_name h.good.fine hs hj, if_pos rfl, e, Int.toNat_natCast]
  unfold m_opt_fitted
  rw [cf (names_jumps hj)]
theorem Img.jumpTo (H : Img n A G B) (h : Stay n A N P r G) {k t : Nat} (hr : r k = true) (hG : G k = true) (ht : t ≤ n) (hj : m_op_Jumps (A k) = true) (e : (k : Int) + 1 + ii (A k).fOff = (t : Int)) : ((cnt G k : Nat) : Int) + 1 + ii (B (cnt G k)).fOff = (cnt G t : Int) := by
  have hm := h.most
  have h1 := cnt_le G t
  have h2 := cnt_le G k
  have hkn := (h.reach.first k hr).1.1
  rw [H.jump h hr hG hj e]
  show ((cnt G k : Nat) : Int) + 1 + ii (BitVec.ofInt 16 ((cnt G t : Int) - (cnt G k : Int) - 1)) = (cnt G t : Int)
  rw [ii_of16 (by omega) (by omega)]
  omega
theorem Img.nameTo (H : Img n A G B) (h : Stay n A N P r G) {k t : Nat} (hr : r k = true) (hG : G k = true) (ht : t ≤ n) (hj : m_insn_names (A k) = true) (e : (k : Int) + 1 + ii (A k).fImm = (t : Int)) : ((cnt G k : Nat) : Int) + 1 + ii (B (cnt G k)).fImm = (cnt G t : Int) := by
  have hm := h.most
  have h1 := cnt_le G t
  have h2 := cnt_le G k
  have hkn := (h.reach.first k hr).1.1
  rw [H.name h hr hG hj e]
  show ((cnt G k : Nat) : Int) + 1 + ii (BitVec.ofInt 32 ((cnt G t : Int) - (cnt G k : Int) - 1)) = (cnt G t : Int)
  rw [ii_of32 (by omega) (by omega)]
  omega
theorem Img.wide (H : Img n A G B) {k : Nat} (hk : k < n) (hG : G k = true) : wideB (B (cnt G k)) = wideB (A k) := by unfold wideB; rw [(H.op hk hG).1]
/-- Second slots stay second slots. -/
theorem Img.sec (H : Img n A G B) (h : Stay n A N P r G) : ∀ k, k < n → G k = true → sec B (cnt G k) = sec A k := by
  intro k
  induction k using Nat.strongRecOn with
  | _ k ih =>
    intro hk hG
    cases hc : cnt G k with
    | zero =>
      cases hs : Go.Proofs.Ytnoflelhkgdebaa.sec A k
      · rfl
      · rcases h.is hk hG with q | ⟨j, rfl, hw, q, _⟩
        · rw [(h.reach.first k q).1.2] at hs; cases hs
        · have := cnt_yes (h.wide q hw).2.1
          omega
    | succ c =>
      obtain ⟨p, hp, hGp, ep⟩ := cnt_surj G k c (by omega)
      have hpn : p < n := by omega
      show (wideB (B c) && !Go.Proofs.Ytnoflelhkgdebaa.sec B c) = Go.Proofs.Ytnoflelhkgdebaa.sec A k
      rw [← ep, H.wide hpn hGp, ih p hp hpn hGp]
      cases hs : Go.Proofs.Ytnoflelhkgdebaa.sec A k
      · cases hw : wideB (A p)
        · rfl
        · cases hsp : Go.Proofs.Ytnoflelhkgdebaa.sec A p
          · exfalso
            obtain ⟨_, _, w3, w4⟩ := h.wide (h.slot hpn hGp hsp) hw
            have e1 := cnt_yes hGp
            have : p + 1 = k := cnt_inj G w3 hG (by omega)
            rw [this, hs] at w4
            cases w4
          · rfl
      · rcases h.is hk hG with q | ⟨j, rfl, hw, q, _⟩
        · rw [(h.reach.first k q).1.2] at hs; cases hs
        · have hGj := (h.wide q hw).2.1
          have e1 := cnt_yes hGj
          have : p = j := cnt_inj G hGp hGj (by omega)
          subst this
          rw [hw, (h.reach.first p q).1.2]
          rfl
/-- Each slot of the trimmed row is what stands for one that stays. -/
theorem Img.of (H : Img n A G B) (h : Stay n A N P r G) {j : Nat} (hj : j < cnt G n) (hs : Go.Proofs.Ytnoflelhkgdebaa.sec B j = false) : ∃ k, k < n ∧ G k = true ∧ cnt G k = j ∧ r k = true ∧ Go.Proofs.Ytnoflelhkgdebaa.sec A k = false := by
  obtain ⟨k, hk, hG, e⟩ := cnt_surj G n j hj
  have hsA : Go.Proofs.Ytnoflelhkgdebaa.sec A k = false := by rw [← H.sec h k hk hG, e]; exact hs
  exact ⟨k, hk, hG, e, h.slot hk hG hsA, hsA⟩
theorem Img.jumps (H : Img n A G B) {k : Nat} (hk : k < n) (hG : G k = true) : m_op_Jumps (B (cnt G k)) = m_op_Jumps (A k) := jumps_same (H.op hk hG).1
theorem Img.names (H : Img n A G B) {k : Nat} (hk : k < n) (hG : G k = true) : m_insn_names (B (cnt G k)) = m_insn_names (A k) := names_same (H.op hk hG).1 (H.op hk hG).2.2
/-- A subprogram's first slot. -/
theorem Good.beg_from (h : Good n A N P) {u i : Nat} (hu : Beg n A u) (hi : i < N) (h1 : (P i).fFrom ≤ (u : Int)) (h2 : (u : Int) < (P i).fTo) : (P i).fFrom = (u : Int) := by
  obtain ⟨g, hg, hP⟩ := h.begs
  apply Classical.byContradiction
  intro c
  have := hP.inner i hi u (by omega) h2
  rw [(hg u).2 hu] at this
  cases this
/-- A slot that is named gives way to one behind another that stays. -/
theorem Stay.after (h : Stay n A N P r G) {u : Nat} (hu : Beg n A u) (h0 : 0 < u) (hun : u < n) : 0 < cnt G u := by
  obtain ⟨g, hg, hP⟩ := h.good.begs
  have hp := hP.pos
  have hl := hP.lt 0 hp
  have hf := hP.first
  obtain ⟨y, _, a2, a3, _⟩ := h.rep hp n 0 (by omega) (by omega) (by omega) h.reach.zero
  have : ¬ (u : Int) < (P 0).fTo := fun c => by have := h.good.beg_from hu hp (by omega) c; omega
  have := cnt_lt G (show y < u by omega) a3
  omega
theorem Stay.edge_name (h : Stay n A N P r G) {k : Nat} (hr : r k = true) (hn : m_insn_names (A k) = true) : ∃ t : Nat, (k : Int) + 1 + ii (A k).fImm = (t : Int) ∧ Slot n A t ∧ 0 < t ∧ r t = true ∧ Beg n A t := by
  have hs := (h.reach.first k hr).1
  obtain ⟨t, e, h0, h1, h2⟩ := h.good.fine.nameTo hs.1 hs.2 hn
  exact ⟨t, e, ⟨h1, h2⟩, h0, h.reach.closed k t hr (.inr (.inr ⟨hn, e⟩)), .inr ⟨k, hs.1, hs.2, hn, e⟩⟩
theorem Img.ok (H : Img n A G B) (h : Stay n A N P r G) : okTo (cnt G n) B (cnt G n) := by
  intro j hj _ hs
  obtain ⟨k, hk, hG, rfl, hr, hsA⟩ := H.of h hj hs
  obtain ⟨e1, e2, e3, e4, e5⟩ := errB_iff.1 (h.good.fine.ok k hk hk hsA)
  obtain ⟨o1, o2, o3⟩ := H.op hk hG
  have hwr : m_insn_writes (B (cnt G k)) = m_insn_writes (A k) := by unfold m_insn_writes; rw [o1]
  have hpl : m_op_Jumps (A k) = false → m_insn_names (A k) = false → B (cnt G k) = A k := fun q1 q2 => H.plain hk hG (tgt_none h.good.fine hk (.inr ⟨q2, q1⟩))
  refine errB_iff.2 ⟨?_, by rw [o2, o3, hwr]; exact e2, ?_, ?_, ?_⟩
  · cases hj : m_op_Jumps (A k)
    · cases hn : m_insn_names (A k)
      · rw [hpl hj hn]; exact e1
      · obtain ⟨t, e, _⟩ := h.edge_name hr hn
        rw [H.name h hr hG hn e, known_imm hn]; exact e1
    · obtain ⟨g, _, hP⟩ := h.good.begs
      obtain ⟨i, hi, q1, q2⟩ := part_of hP hk
      obtain ⟨t, e, _⟩ := h.good.fine.jumpIn hi q1 q2 hsA hj
      rw [H.jump h hr hG hj e, known_off hj]; exact e1
  · rw [H.wide hk hG]
    cases hw : wideB (A k)
    · rfl
    · obtain ⟨w1, _, w3, w4⟩ := h.wide hr hw
      have ec := cnt_yes hG
      have hB1 : B (cnt G k + 1) = A (k + 1) := by
        rw [← ec]
        exact H.plain w1 w3 (tgt_none h.good.fine w1 (.inl w4))
      have hlt := cnt_lt G w1 w3
      have hrt := err_right (h.good.fine.ok k hk hk hsA) hw
      unfold rightB at hrt ⊢
      rw [hB1, o3, d_t (by omega)]
      rw [d_t w1] at hrt
      rw [hrt]
      rfl
  · rw [o1, o3]
    cases h1 : ((A k).fOp == 133#8)
    · rfl
    · cases h2 : ((A k).fSrc == 0#8)
      · rfl
      · have q1 : m_op_Jumps (A k) = false := by
          cases c : m_op_Jumps (A k)
          · rfl
          · rw [(jumps_not c).2.1] at h1; cases h1
        have q2 : m_insn_names (A k) = false := by
          cases c : m_insn_names (A k)
          · rfl
          · have hs0 : (A k).fSrc = 0#8 := by simpa using h2
            rcases names_op c with ⟨_, a⟩ | ⟨_, a⟩ <;> rw [hs0] at a <;> cases a
        rw [hpl q1 q2]
        rw [h1, h2] at e4
        exact e4
  · rw [H.names hk hG]
    cases hn : m_insn_names (A k)
    · rfl
    · obtain ⟨t, e, ht, h0, hrt, hb⟩ := h.edge_name hr hn
      obtain ⟨y, y1, y2, y3, y4, y5⟩ := h.reps hrt
      have hc := cnt_lt G y2 y3
      have hpos := h.after hb h0 ht.1
      have hsy : Go.Proofs.Ytnoflelhkgdebaa.sec B (cnt G t) = false := by rw [← y5, H.sec h y y2 y3]; exact (h.reach.first y y4).1.2
      rw [H.nameTo h hr hG (by have := ht.1; omega) hn e, callB_iff.2 ⟨by omega, by omega, by rw [Int.toNat_natCast]; exact hsy⟩]
      rfl
theorem Img.beg (H : Img n A G B) (h : Stay n A N P r G) {j : Nat} (hb : Beg (cnt G n) B j) : j = 0 ∨ ∃ u, u < n ∧ Beg n A u ∧ 0 < u ∧ r u = true ∧ cnt G u = j := by
  rcases hb with rfl | ⟨k', hk', hs, hn, e⟩
  · exact .inl rfl
  · obtain ⟨k, hk, hG, rfl, hr, hsA⟩ := H.of h hk' hs
    rw [H.names hk hG] at hn
    obtain ⟨t, et, ht, h0, hrt, hb⟩ := h.edge_name hr hn
    have := H.nameTo h hr hG (by have := ht.1; omega) hn et
    exact .inr ⟨t, ht.1, hb, h0, hrt, by omega⟩
theorem rise_le {N N' : Nat} {f : Nat → Nat} (h1 : ∀ i, i < N' → f i < N) (h2 : ∀ i j, i < j → j < N' → f i < f j) : N' ≤ N := by
  have key : ∀ i, i < N' → i ≤ f i := by
    intro i
    induction i with
    | zero => intro _; omega
    | succ i ih =>
      intro hi
      have := ih (by omega)
      have := h2 i (i + 1) (by omega) hi
      omega
  by_cases c : N' = 0
  · omega
  · have := key (N' - 1) (by omega)
    have := h1 (N' - 1) (by omega)
    omega
theorem Img.good (H : Img n A G B) (h : Stay n A N P r G) : m_insn_Check (cnt G n) B = some (0, 0) := by
  classical
  obtain ⟨gA, hgA, hPA⟩ := h.good.begs
  have hF := h.good.fine
  have hm := h.most
  have hmn := cnt_le G n
  have hpos := h.pos
  obtain ⟨gB, hgB⟩ : ∃ gB : Nat → Bool, ∀ j, gB j = true ↔ Beg (cnt G n) B j := ⟨fun j => decide (Beg (cnt G n) B j), fun j => by simp⟩
  obtain ⟨N', P', -, hN', hP'⟩ := parts_spec (n := cnt G n) (g := gB) (by omega) hpos ((hgB 0).2 (.inl rfl))
  have hok := H.ok h
  -- a subprogram's first slot comes from one's first slot
  have hfrom : ∀ i', i' < N' → ∃ i, i < N ∧ (P' i').fFrom = (cnt G (P i).fFrom.toNat : Int) := fun i' hi' => by
    have hl := hP'.lt i' hi'
    rcases H.beg h ((hgB _).1 (hP'.beg i' hi')) with q | ⟨u, hu, hb, h0, hr, e⟩
    · refine ⟨0, hPA.pos, ?_⟩
      rw [hPA.first]
      show _ = ((0 : Nat) : Int)
      omega
    · obtain ⟨i, hi, q1, q2⟩ := part_of hPA hu
      refine ⟨i, hi, ?_⟩
      rw [h.good.beg_from hb hi q1 q2, Int.toNat_natCast]
      omega
  have hfew : N' ≤ N := by
    have hex : ∀ i', ∃ i, i' < N' → i < N ∧ (P' i').fFrom = (cnt G (P i).fFrom.toNat : Int) := fun i' => by
      by_cases c : i' < N'
      · obtain ⟨i, q⟩ := hfrom i' c
        exact ⟨i, fun _ => q⟩
      · exact ⟨0, fun q => absurd q c⟩
    refine rise_le (f := fun i' => Classical.choose (hex i')) (fun i' hi' => (Classical.choose_spec (hex i') hi').1) fun i' j' hij hj' => ?_
    obtain ⟨a1, a2⟩ := Classical.choose_spec (hex i') (by omega)
    obtain ⟨b1, b2⟩ := Classical.choose_spec (hex j') hj'
    have hl := hP'.lt i' (by omega)
    have hm' := hP'.mono' hij hj'
    apply Classical.byContradiction
    intro c
    have c : Classical.choose (hex j') ≤ Classical.choose (hex i') := by omega
    have hle : (P (Classical.choose (hex j'))).fFrom ≤ (P (Classical.choose (hex i'))).fFrom := by
      have := hPA.mono (Classical.choose (hex i') - Classical.choose (hex j')) (Classical.choose (hex j')) (by omega)
      rw [show Classical.choose (hex j') + (Classical.choose (hex i') - Classical.choose (hex j')) = Classical.choose (hex i') by omega] at this
      exact this
    have := cnt_mono G (show (P (Classical.choose (hex j'))).fFrom.toNat ≤ (P (Classical.choose (hex i'))).fFrom.toNat by omega)
    omega
  have hends : ∀ i', i' < N' → endOk B (P' i').fTo.toNat = true := fun i' hi' => by
    have hl := hP'.lt i' hi'
    have hto := hP'.to hi'
    obtain ⟨e, he⟩ := Int.eq_ofNat_of_zero_le (show 0 ≤ (P' i').fTo by omega)
    -- the slot at which the next subprogram begins
    obtain ⟨T, hT1, hT2, hT3⟩ : ∃ T, T ≤ n ∧ cnt G T = e ∧ (T = n ∨ Beg n A T) := by
      by_cases c : i' + 1 < N'
      · have hn := hP'.next i' c
        rcases H.beg h ((hgB _).1 (hP'.beg (i' + 1) c)) with q | ⟨u, hu, hb, h0, hr, q⟩
        · omega
        · exact ⟨u, by omega, by omega, .inr hb⟩
      · have hla := hP'.last
        rw [show N' - 1 = i' by omega] at hla
        exact ⟨n, Nat.le_refl _, by omega, .inl rfl⟩
    obtain ⟨k, hkT, hG, hck⟩ := cnt_surj G T (e - 1) (by omega)
    have hkn : k < n := by omega
    have hnone : ∀ y, k < y → y < T → G y = true → False := fun y q1 q2 q3 => by
      have a1 := cnt_lt G q1 hG
      have a2 := cnt_lt G q2 q3
      omega
    obtain ⟨i, hi, p1, p2⟩ := part_of hPA hkn
    have hpT : (P i).fTo ≤ (T : Int) := by
      rcases hT3 with rfl | hb
      · exact hPA.to hi
      · apply Classical.byContradiction
        intro c
        have := h.good.beg_from hb hi (by omega) (by omega)
        omega
    have hno : ∀ x, r x = true → k < x → (x : Int) < (P i).fTo → False := fun x q1 q2 q3 => by
      obtain ⟨y, y1, y2, y3, _⟩ := h.rep hi n x (by omega) (by omega) q3 q1
      exact hnone y (by omega) (by omega) y3
    have hsk : Go.Proofs.Ytnoflelhkgdebaa.sec A k = false := by
      rcases h.is hkn hG with q | ⟨j, rfl, hw, q, hs⟩
      · exact (h.reach.first k q).1.2
      · exfalso
        have hsj := (h.reach.first j q).1.2
        have hop : (A j).fOp = 24#8 := by simpa [wideB] using hw
        have hfj : (P i).fFrom ≤ (j : Int) := by
          have hb := hF.beg i hi
          have hl2 := hPA.lt i hi
          by_cases c : (P i).fFrom = ((j + 1 : Nat) : Int)
          · rw [c, Int.toNat_natCast, hs] at hb; cases hb
          · omega
        have h1 : ((A j).fOp == 149#8) = false := by rw [hop]; rfl
        have h2 : ((A j).fOp == 5#8) = false := by rw [hop]; rfl
        have hf := hF.fallIn hi (by omega) hsj h1 h2
        have hwd : wid (A j) = 2 := by unfold wid; rw [if_pos hw]
        exact hno (j + wid (A j)) (h.reach.closed j _ q (.inr (.inl ⟨h1, h2, rfl⟩))) (by omega) hf
    have hrk := h.slot hkn hG hsk
    have hlast : lastAt B e = cnt G k := by
      unfold lastAt
      rw [← hck, H.sec h k hkn hG, hsk]
      rfl
    unfold endOk
    rw [he]
    rw [Int.toNat_natCast, hlast, (H.op hkn hG).1]
    cases h1 : ((A k).fOp == 149#8)
    · cases h2 : ((A k).fOp == 5#8)
      · exfalso
        have hf := hF.fallIn hi p2 hsk h1 h2
        have hw := wid_pos (A k)
        exact hno (k + wid (A k)) (h.reach.closed k _ hrk (.inr (.inl ⟨h1, h2, rfl⟩))) (by omega) hf
      · rfl
    · rfl
  have hstay : ∀ i', i' < N' → ∀ j : Nat, (P' i').fFrom ≤ j → (j : Int) < (P' i').fTo → Go.Proofs.Ytnoflelhkgdebaa.sec B j = false → badJump B (P' i') j = false := fun i' hi' j h1 h2 h3 => by
    have hl := hP'.lt i' hi'
    have hto := hP'.to hi'
    obtain ⟨k, hkn, hG, rfl, hr, hsk⟩ := H.of h (show j < cnt G n by omega) h3
    unfold badJump
    rw [H.jumps hkn hG]
    cases hj : m_op_Jumps (A k)
    · rfl
    · obtain ⟨i, hi, p1, p2⟩ := part_of hPA hkn
      obtain ⟨t, et, q1, q2, q3⟩ := hF.jumpIn hi p1 p2 hsk hj
      have htn : t < n := by have := hPA.to hi; omega
      have hrt := h.reach.closed k t hr (.inl ⟨hj, et⟩)
      obtain ⟨y, y1, y2, y3, y4, y5⟩ := h.rep hi n t (by omega) q1 q2 hrt
      have hyn : y < n := by have := hPA.to hi; omega
      have hcy := cnt_lt G hyn y3
      have hsy : Go.Proofs.Ytnoflelhkgdebaa.sec B (cnt G t) = false := by rw [← y5, H.sec h y hyn y3]; exact (h.reach.first y y4).1.2
      rw [H.jumpTo h hr hG (by omega) hj et, Int.toNat_natCast, hsy, d_f, d_f]
      · rfl
      · intro c
        by_cases c2 : i' + 1 < N'
        · have hn := hP'.next i' c2
          rcases H.beg h ((hgB _).1 (hP'.beg (i' + 1) c2)) with q | ⟨u, hu, hb, h0, hru, q⟩
          · omega
          · have ku : k < u := by
              apply Classical.byContradiction
              intro c3
              have := cnt_mono G (show u ≤ k by omega)
              omega
            by_cases c3 : (u : Int) < (P i).fTo
            · have := h.good.beg_from hb hi (by omega) c3
              omega
            · have := cnt_lt G (show y < u by omega) y3
              omega
        · have hla := hP'.last
          rw [show N' - 1 = i' by omega] at hla
          omega
      · intro c
        rcases H.beg h ((hgB _).1 (hP'.beg i' hi')) with q | ⟨u, hu, hb, h0, hru, q⟩
        · omega
        · have tu : t < u := by
            apply Classical.byContradiction
            intro c3
            have := cnt_mono G (show u ≤ t by omega)
            omega
          have uk : u ≤ k := by
            apply Classical.byContradiction
            intro c3
            have := cnt_lt G (show k < u by omega) hG
            omega
          have := h.good.beg_from hb hi (by omega) (by omega)
          omega
  exact check_right (.fine hpos (by omega) hok gB hgB N' P' hN' hP' (by have := h.good.few; omega) hends) hstay
/-- The image of an edge is an edge. -/
theorem Img.edge (H : Img n A G B) (h : Stay n A N P r G) {k t : Nat} (hr : r k = true) (he : Edge A k t) (hG : G k = true) : Edge B (cnt G k) (cnt G t) := by
  obtain ⟨⟨hkn, hsk⟩, _⟩ := h.reach.first k hr
  have ht := h.good.fine.edge ⟨hkn, hsk⟩ he
  have htn := ht.1
  rcases he with ⟨hj, e⟩ | ⟨h1, h2, rfl⟩ | ⟨hn, e⟩
  · exact .inl ⟨by rw [H.jumps hkn hG]; exact hj, H.jumpTo h hr hG (by omega) hj e⟩
  · refine .inr (.inl ⟨by rw [(H.op hkn hG).1]; exact h1, by rw [(H.op hkn hG).1]; exact h2, ?_⟩)
    have hw := H.wide hkn hG
    unfold wid
    rw [hw]
    cases hwk : wideB (A k)
    · simp only [Bool.false_eq_true, if_false]
      exact cnt_yes hG
    · obtain ⟨_, _, w3, _⟩ := h.wide hr hwk
      simp only [if_true]
      have e1 := cnt_yes hG
      have e2 := cnt_yes w3
      rw [show k + 2 = k + 1 + 1 by omega]
      omega
  · exact .inr (.inr ⟨by rw [H.names hkn hG]; exact hn, H.nameTo h hr hG (by omega) hn e⟩)
/-- All operations of the trimmed row are reached. -/
theorem Img.reached (H : Img n A G B) (h : Stay n A N P r G) {R : Nat → Bool} (hR : Reach (cnt G n) B R) {j : Nat} (hj : j < cnt G n) (hs : Go.Proofs.Ytnoflelhkgdebaa.sec B j = false) : R j = true := by
  obtain ⟨k, hkn, hG, rfl, hr, hsk⟩ := H.of h hj hs
  have hall : ∀ a, Way (Edge A) a → r a = true := fun a w => by
    induction w with
    | root => exact h.reach.zero
    | step _ he ih => exact h.reach.closed _ _ ih he
  have hw : Way (Edge B) (cnt G k) := way_img (E := Edge A) (g := G) (fun a t w he hg => H.edge h (hall a w) he hg) (fun a t w he hg => by
    obtain ⟨h5, hgo⟩ := h.no (hall a w) hg
    have hj5 := ja_jumps h5
    rcases he with ⟨_, e⟩ | ⟨_, h2, _⟩ | ⟨hn, _⟩
    · rw [goto_of e] at hgo
      exact cnt_gone hgo hg
    · rw [h5] at h2; cases h2
    · rw [jumps_names hj5] at hn; cases hn) (h.reach.first k hr).2
  have hallR : ∀ a, Way (Edge B) a → R a = true := fun a w => by
    induction w with
    | root => exact hR.zero
    | step _ he ih => exact hR.closed _ _ ih he
  exact hallR _ hw
/-- No Ja of the trimmed row goes to the slot behind it. -/
theorem Img.noja (H : Img n A G B) (h : Stay n A N P r G) {j : Nat} (hj : j < cnt G n) (hs : Go.Proofs.Ytnoflelhkgdebaa.sec B j = false) (h5 : ((B j).fOp == 5#8) = true) : ((B j).fOff == 0#16) = false ∧ goto B j ≠ j + 1 := by
  obtain ⟨k, hkn, hG, rfl, hr, hsk⟩ := H.of h hj hs
  rw [(H.op hkn hG).1] at h5
  have hj5 := ja_jumps h5
  obtain ⟨g, hg, hPA⟩ := h.good.begs
  obtain ⟨i, hi, p1, p2⟩ := part_of hPA hkn
  obtain ⟨t, et, q1, q2, q3⟩ := h.good.fine.jumpIn hi p1 p2 hsk hj5
  have htn : t < n := by have := hPA.to hi; omega
  have hto := H.jumpTo h hr hG (by omega) hj5 et
  have hne : cnt G t ≠ cnt G k + 1 := fun c => by
    have hkt : k < t := by
      apply Classical.byContradiction
      intro c3
      have := cnt_mono G (show t ≤ k by omega)
      omega
    have hgo : goneK G k t = true := by
      unfold goneK
      rw [Bool.and_eq_true]
      refine ⟨decide_eq_true hkt, (noneK_iff G _ _).2 fun y y1 y2 => ?_⟩
      cases hy : G y
      · rfl
      · have a1 := cnt_lt G (show k < y by omega) hG
        have a2 := cnt_lt G (show y < t by omega) hy
        omega
    have := h.last k (Nat.zero_le _) hkn
    rw [hG, h5, goto_of et, hgo] at this
    simp at this
  refine ⟨?_, fun c => hne ?_⟩
  · cases c : ((B (cnt G k)).fOff == 0#16)
    · rfl
    · rw [ii16_0 _ c] at hto
      exact absurd (by omega) hne
  · rw [goto_of hto] at c
    exact c
end
end Go.Proofs.Ytnoflelhkgdebaa

