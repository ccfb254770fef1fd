/-
  Live registers of a row of operations without jumps, in plain words (no program).
-/
import Derived.Test.YtjfiakgkeniocaaS1O
import Derived.Test.YtjfiakgkeniocaaL16Cc
namespace Go.Proofs.Ytjfiakgkeniocaa
open Go.RowKit
set_option linter.unusedVariables false
set_option linter.unusedSimpArgs false
/-! ### One operation -/
def xit : Insn := ⟨149#8, 0#8, 0#8, 0#16, 0#32⟩
/-- One that law looks at: neither a jump nor a wide load. -/
def plainC (x : Insn) : Prop := x.fOp &&& 7#8 = 4#8 ∨ x.fOp &&& 7#8 = 7#8 ∨ x.fOp &&& 7#8 = 1#8 ∨ x.fOp &&& 7#8 = 2#8 ∨ x.fOp &&& 7#8 = 3#8
theorem plain_op {x : Insn} (h : plainC x) : (x.fOp == 24#8) = false ∧ (x.fOp == 149#8) = false ∧ m_op_Jumps x = false := by
  have key : ∀ c : BitVec 8, c &&& 7#8 ≠ x.fOp &&& 7#8 → (x.fOp == c) = false := fun c hc => by
    rw [beq_eq_false_iff_ne]
    rintro rfl
    exact hc rfl
  refine ⟨key _ ?_, key _ ?_, ?_⟩
  · rcases h with h | h | h | h | h <;> rw [h] <;> decide
  · rcases h with h | h | h | h | h <;> rw [h] <;> decide
  · unfold m_op_Jumps
    rcases h with h | h | h | h | h <;> rw [h] <;> rfl
theorem known_live {n : Nat} {A : Nat → Insn} {k : Nat} (h : errB n A k = 0) : m_live_known_v3 (A k) = some true := by
  unfold errB at h
  cases h1 : m_insn_known (A k) with
  | false => rw [h1] at h; cases h
  | true =>
    rw [h1] at h
    simp only [Bool.not_true, cond_false] at h
    cases h2 : BitVec.ult 10#8 (A k).fDst with
    | true => rw [h2] at h; cases h
    | false =>
      rw [h2] at h
      cases h3 : BitVec.ult 10#8 (A k).fSrc with
      | true => rw [h3] at h; cases h
      | false =>
        obtain ⟨r, hr, hi⟩ := check_is 1 (fun _ => A k)
        have hne : (r.2 == 11) = false := by
          cases hi with
          | subs a e hs =>
            cases hs with
            | many h => rfl
            | subs => rfl
            | ends => rfl
            | slot hn j hj hs he hok =>
              show (errB 1 (fun _ => A k) j == 11) = false
              unfold errB
              rw [h1]
              simp only [Bool.not_true, cond_false]
              generalize (BitVec.ult 10#8 (A k).fDst || (BitVec.ult 10#8 (A k).fSrc || (((A k).fDst == 10#8) && m_insn_writes (A k)))) = b1
              generalize (wideB (A k) && !rightB 1 (fun _ => A k) j) = b2
              generalize (((A k).fOp == 133#8) && (((A k).fSrc == 0#8) && (BitVec.slt (A k).fImm 1#32 || BitVec.slt 28#32 (A k).fImm))) = b3
              generalize (m_insn_names (A k) && !callB 1 (fun _ => A k) ((j : Int) + 1 + ii (A k).fImm)) = b4
              revert b1 b2 b3 b4
              decide
          | jump => rfl
          | fine => rfl
        unfold m_live_known_v3
        rw [hr, Option.bind_some, hne, h2, h3]
        rfl
theorem reads_some {x : Insn} (hx : plainC x ∨ x = xit) (hk : m_live_known_v3 x = some true) : ∃ a b, m_live_Reads_v3 x = some (a, true) ∧ m_live_Writes_v3 x = some (b, true) := by
  unfold m_live_Reads_v3 m_live_Writes_v3
  rw [hk]
  simp only [Option.bind_some, cond_true]
  rcases hx with (h | h | h | h | h) | rfl
  · rw [h]; exact ⟨_, _, rfl, rfl⟩
  · rw [h]; exact ⟨_, _, rfl, rfl⟩
  · rw [h]; exact ⟨_, _, rfl, rfl⟩
  · rw [h]; exact ⟨_, _, rfl, rfl⟩
  · rw [h]; exact ⟨_, _, rfl, rfl⟩
  · exact ⟨1#16, 0#16, rfl, rfl⟩
/-! ### A row that ends in an exit -/
structure Straight (n : Nat) (P : Nat → Insn) : Prop where
  most : n ≤ 1000
  plain : ∀ k, k < n → plainC (P k)
  last : P n = xit
  fine : ∃ a, m_insn_Check (n + 1) P = some (a, 0)
namespace Straight
variable {n : Nat} {P : Nat → Insn}
theorem op24 (h : Straight n P) {k : Nat} (hk : k ≤ n) : ((P k).fOp == 24#8) = false := by
  by_cases e : k = n
  · subst e; rw [h.last]; rfl
  · exact (plain_op (h.plain k (by omega))).1
theorem sec0 (h : Straight n P) : ∀ k, k ≤ n + 1 → sec P k = false
  | 0, _ => rfl
  | k + 1, hk => by
    unfold sec wideB
    rw [h.op24 (by omega)]
    rfl
theorem err (h : Straight n P) {k : Nat} (hk : k ≤ n) : errB (n + 1) P k = 0 := by
  obtain ⟨a, ha⟩ := h.fine
  obtain ⟨r, hr, hi⟩ := check_is (n + 1) P
  obtain rfl : r = (a, 0) := Option.some.inj (hr.symm.trans ha)
  have go : ∀ {N Q}, SubsIs (n + 1) P (.e1 N Q) → errB (n + 1) P k = 0 := fun hs => by
    cases hs with
    | fine h0 hn hok => exact hok k (by omega) (by omega) (h.sec0 k (by omega))
  generalize hz : (0 : Int) = z at hi
  cases hi with
  | subs a e hs => exact absurd hz.symm hs.err
  | jump => cases hz
  | fine N Q hs => exact go hs
theorem known (h : Straight n P) {k : Nat} (hk : k ≤ n) : m_live_known_v3 (P k) = some true := known_live (h.err hk)
theorem rw_ (h : Straight n P) {k : Nat} (hk : k ≤ n) : ∃ a b, m_live_Reads_v3 (P k) = some (a, true) ∧ m_live_Writes_v3 (P k) = some (b, true) := by
  refine reads_some ?_ (h.known hk)
  by_cases e : k = n
  · exact .inr (by rw [e]; exact h.last)
  · exact .inl (h.plain k (by omega))
end Straight
noncomputable def rdB (P : Nat → Insn) (k : Nat) : BitVec 16 := ((m_live_Reads_v3 (P k)).getD (0#16, false)).1
noncomputable def wrB (P : Nat → Insn) (k : Nat) : BitVec 16 := ((m_live_Writes_v3 (P k)).getD (0#16, false)).1
namespace Straight
variable {n : Nat} {P : Nat → Insn}
theorem rd (h : Straight n P) {k : Nat} (hk : k ≤ n) : m_live_Reads_v3 (P k) = some (rdB P k, true) := by
  obtain ⟨a, b, h1, h2⟩ := h.rw_ hk
  unfold rdB; rw [h1]; rfl
theorem wt (h : Straight n P) {k : Nat} (hk : k ≤ n) : m_live_Writes_v3 (P k) = some (wrB P k, true) := by
  obtain ⟨a, b, h1, h2⟩ := h.rw_ hk
  unfold wrB; rw [h2]; rfl
theorem second (h : Straight n P) {k : Nat} (hk : k ≤ n) : m_flow_program_isSecond_v3 (n + 1) P (k : Int) = some false := by
  have := h.most
  unfold m_flow_program_isSecond_v3
  by_cases h0 : k = 0
  · subst h0; rfl
  · have e1 : IntKind.i64.wrap ((k : Int) - 1) = ((k - 1 : Nat) : Int) := by rw [wr] <;> omega
    rw [d_t (show (0 : Int) < (k : Int) by omega), e1, inR_nat' (by omega), Int.toNat_natCast, h.op24 (by omega)]
    rfl
theorem next (h : Straight n P) {k : Nat} (hk : k ≤ n) : m_flow_Next_v3 (n + 1) P (k : Int) = some (if k = n then .e0 0 else .e1 ((k + 1 : Nat) : Int)) := by
  have := h.most
  obtain ⟨a, ha⟩ := h.fine
  unfold m_flow_Next_v3 m_flow_program_next_v3
  rw [ha, Option.bind_some, h.second hk]
  simp only [beq_self_eq_true, cond_true, Option.bind_some, d_f (show ¬ ((k : Int) < 0) by omega), d_f (show ¬ (((n + 1 : Nat) : Int) ≤ (k : Int)) by omega), cond_false, inR_nat' (show k < n + 1 by omega), Int.toNat_natCast, bindT]
  by_cases e : k = n
  · rw [if_pos e, e, h.last]
    rfl
  · obtain ⟨p1, p2, p3⟩ := plain_op (h.plain k (by omega))
    have e1 : IntKind.i64.wrap ((k : Int) + m_op_Width (P k)) = ((k + 1 : Nat) : Int) := by
      rw [width_eq]
      unfold wid wideB
      rw [p1, wr] <;> simp <;> omega
    rw [if_neg e, p2, p3, e1]
    rfl
end Straight
/-- Where each goes on. -/
def nxF (n : Nat) (k : Nat) : Nat × (Nat → Int) := if k = n then (0, fun _ => 0) else (1, fun _ => ((k + 1 : Nat) : Int))
theorem look0 {n : Nat} {P : Nat → Insn} (h : Straight n P) : ∃ R W v X, lpO (st_live_look_v1_L0 (n + 1) P) (.c0 (fun _ => 0#16) (fun _ => 0#16) (fun _ => (0, fun _ => 0)) 0) = some (.e0 R W v X) ∧
    (∀ k, k ≤ n → R k = rdB P k ∧ W k = wrB P k ∧ (X k).1 = (nxF n k).1 ∧ ∀ j, j < (X k).1 → (X k).2 j = (nxF n k).2 j) ∧ ∀ k, v k = 0#16 := by
  have hm := h.most
  have key := lpO_ind (st := st_live_look_v1_L0 (n + 1) P)
    (fun | .c0 R W X a => ∃ k : Nat, a = (k : Int) ∧ k ≤ n + 1 ∧ ∀ j, j < k → R j = rdB P j ∧ W j = wrB P j ∧ (X j).1 = (nxF n j).1 ∧ ∀ i, i < (X j).1 → (X j).2 i = (nxF n j).2 i)
    (fun | .c0 _ _ _ a => n + 1 - a.toNat)
    (fun _ r => match r with | .e0 R W v X => (∀ k, k ≤ n → R k = rdB P k ∧ W k = wrB P k ∧ (X k).1 = (nxF n k).1 ∧ ∀ j, j < (X k).1 → (X k).2 j = (nxF n k).2 j) ∧ ∀ k, v k = 0#16)
    (fun s hI => by
      obtain ⟨R, W, X, a⟩ := s
      obtain ⟨k, rfl, hk, hok⟩ := hI
      by_cases hkn : k < n + 1
      · have e1 : IntKind.i64.wrap ((k : Int) + 1) = ((k + 1 : Nat) : Int) := by rw [wr] <;> omega
        refine .inl ⟨.c0 (updF R k (rdB P k)) (updF W k (wrB P k)) (updF X k (if k = n then (0, fun _ => 0) else (1, fun _ => ((k + 1 : Nat) : Int)))) ((k + 1 : Nat) : Int), ?_, ⟨k + 1, rfl, by omega, fun j hj => ?_⟩, by show n + 1 - ((k + 1 : Nat) : Int).toNat < n + 1 - (k : Int).toNat; omega, fun r hr => hr⟩
        · unfold st_live_look_v1_L0
          simp only [d_t (show (k : Int) < ((n + 1 : Nat) : Int) by omega), cond_true, inR_nat' hkn, h.next (show k ≤ n by omega), Option.bind_some, Int.toNat_natCast, h.rd (show k ≤ n by omega), h.wt (show k ≤ n by omega), e1]
          by_cases e : k = n
          · simp only [if_pos e]
            rfl
          · simp only [if_neg e]
        · by_cases hjk : j = k
          · subst hjk
            rw [updF_at, updF_at, updF_at]
            exact ⟨rfl, rfl, rfl, fun i hi => rfl⟩
          · rw [updF_ne _ _ hjk, updF_ne _ _ hjk, updF_ne _ _ hjk]
            exact hok j (by omega)
      · refine .inr ⟨.e0 R W (fun _ => 0#16) X, ?_, fun j hj => hok j (by omega), fun _ => rfl⟩
        unfold st_live_look_v1_L0
        simp only [d_f (show ¬ ((k : Int) < ((n + 1 : Nat) : Int)) by omega), cond_false])
    (.c0 (fun _ => 0#16) (fun _ => 0#16) (fun _ => (0, fun _ => 0)) 0) ⟨0, rfl, by omega, fun j hj => by omega⟩
  obtain ⟨r, hr, hp⟩ := key
  obtain ⟨R, W, v, X⟩ := r
  exact ⟨R, W, v, X, hr, hp⟩
/-! ### What is live -/
/-- So many slots ahead of the last one. -/
noncomputable def lvD (n : Nat) (P : Nat → Insn) : Nat → BitVec 16
  | 0 => rdB P n
  | d + 1 => rdB P (n - (d + 1)) ||| (lvD n P d &&& ~~~(wrB P (n - (d + 1))))
noncomputable def lv (n : Nat) (P : Nat → Insn) (k : Nat) : BitVec 16 := lvD n P (n - k)
theorem lv_last (n : Nat) (P : Nat → Insn) : lv n P n = rdB P n := by unfold lv; rw [Nat.sub_self]; rfl
theorem lv_step {n : Nat} (P : Nat → Insn) {k : Nat} (hk : k < n) : lv n P k = rdB P k ||| (lv n P (k + 1) &&& ~~~(wrB P k)) := by
  unfold lv
  have e : n - k = (n - (k + 1)) + 1 := by omega
  rw [e]
  show rdB P (n - ((n - (k + 1)) + 1)) ||| (lvD n P (n - (k + 1)) &&& ~~~(wrB P (n - ((n - (k + 1)) + 1)))) = _
  rw [show n - ((n - (k + 1)) + 1) = k by omega]
structure Rows (n : Nat) (P : Nat → Insn) (R W : Nat → BitVec 16) (X : Nat → Nat × (Nat → Int)) : Prop where
  most : n ≤ 1000
  is : ∀ k, k ≤ n → R k = rdB P k ∧ W k = wrB P k ∧ (X k).1 = (nxF n k).1 ∧ ∀ j, j < (X k).1 → (X k).2 j = (nxF n k).2 j
theorem Rows.behind {n : Nat} {P : Nat → Insn} {R W : Nat → BitVec 16} {X : Nat → Nat × (Nat → Int)} (h : Rows n P R W X) (v : Nat → BitVec 16) {k : Nat} (hk : k ≤ n) :
    m_live_rows_behind_v4 (k : Int) (n + 1) R W v X = some (.e0 (if k = n then 0#16 else v (k + 1))) := by
  have hm := h.most
  obtain ⟨_, _, h1, h2⟩ := h.is k hk
  unfold m_live_rows_behind_v4
  rw [inR_nat' (show k < n + 1 by omega)]
  simp only [cond_true, Int.toNat_natCast]
  by_cases e : k = n
  · have e0 : (X k).1 = 0 := by rw [h1]; simp [nxF, e]
    rw [if_pos e, d_f (show ¬ (0 < (X k).1) by omega)]
    rfl
  · have e0 : (X k).1 = 1 := by rw [h1]; simp [nxF, e]
    have e1 : (X k).2 0 = ((k + 1 : Nat) : Int) := by rw [h2 0 (by omega)]; simp [nxF, e]
    have s1 : st_live_rows_behind_v4_L0 (k : Int) (n + 1) v X (.c0 (0#16) 0) = some (.inl (.c0 (v (k + 1)) 1)) := by
      unfold st_live_rows_behind_v4_L0
      simp only [Int.toNat_natCast, e0]
      rw [d_t (show (0 : Int) < ((1 : Nat) : Int) by decide), show inR 0 1 = true from rfl]
      simp only [cond_true, Int.toNat_zero, e1, inR_nat' (show k < n + 1 by omega), inR_nat' (show k + 1 < n + 1 by omega), Int.toNat_natCast]
      rw [show IntKind.i64.wrap (0 + 1) = 1 by rw [wr] <;> omega]
      simp
    have s2 : st_live_rows_behind_v4_L0 (k : Int) (n + 1) v X (.c0 (v (k + 1)) 1) = some (.inr (.e0 (v (k + 1)))) := by
      unfold st_live_rows_behind_v4_L0
      simp only [Int.toNat_natCast, e0]
      rw [d_f (show ¬ ((1 : Int) < ((1 : Nat) : Int)) by decide)]
      rfl
    rw [if_neg e, d_t (show 0 < (X k).1 by omega), cond_true, lpO_next s1, lpO_end s2]
    rfl
theorem Rows.join {n : Nat} {P : Nat → Insn} {R W : Nat → BitVec 16} {X : Nat → Nat × (Nat → Int)} (h : Rows n P R W X) (v : Nat → BitVec 16) {k : Nat} (hk : k ≤ n) (hb : k < n → v (k + 1) = lv n P (k + 1)) :
    m_live_rows_join_v4 (k : Int) (n + 1) R W v X = some (.e0 (updF v k (v k ||| lv n P k)) (!((v k ||| lv n P k) == v k))) := by
  obtain ⟨h1, h2, _, _⟩ := h.is k hk
  have e : R k ||| ((if k = n then 0#16 else v (k + 1)) &&& ~~~(W k)) = lv n P k := by
    rw [h1, h2]
    by_cases e : k = n
    · rw [if_pos e, e, lv_last]
      simp
    · rw [if_neg e, hb (by omega)]
      exact (lv_step P (k := k) (by omega)).symm
  unfold m_live_rows_join_v4
  rw [inR_nat' (show k < n + 1 by omega), h.behind v hk]
  simp only [cond_true, Option.bind_some, bindT, Int.toNat_natCast, e, updF_at]
theorem Rows.changes {n : Nat} {P : Nat → Insn} {R W : Nat → BitVec 16} {X : Nat → Nat × (Nat → Int)} (h : Rows n P R W X) (v : Nat → BitVec 16) (hv : ∀ k, k ≤ n → v k ||| lv n P k = lv n P k) :
    ∃ v' c, m_live_changes_v2 ((n + 1 : Nat) : Int) (n + 1) R W v X = some (.e0 v' c) ∧ (∀ k, k ≤ n → v' k = lv n P k) ∧ ((∀ k, k ≤ n → v k = lv n P k) → c = false) := by
  have hm := h.most
  have key := lpO_ind (st := st_live_changes_v2_L0 (n + 1) R W X)
    (fun | .c0 u c a => ∃ k : Nat, k ≤ n + 1 ∧ a = (k : Int) - 1 ∧ (∀ j, j ≤ n → k ≤ j → u j = lv n P j) ∧ (∀ j, j < k → u j = v j) ∧ ((∀ k, k ≤ n → v k = lv n P k) → c = false))
    (fun | .c0 _ _ a => (a + 1).toNat)
    (fun _ r => match r with | .e0 u c _ _ => (∀ k, k ≤ n → u k = lv n P k) ∧ ((∀ k, k ≤ n → v k = lv n P k) → c = false))
    (fun s hI => by
      obtain ⟨u, c, a⟩ := s
      obtain ⟨k, hk, rfl, h1, h2, h3⟩ := hI
      match k, hk, h1, h2 with
      | 0, hk, h1, h2 =>
        refine .inr ⟨.e0 u c ((0 : Nat) - 1 : Int) ((0 : Nat) - 1 : Int), ?_, fun j hj => h1 j hj (by omega), h3⟩
        unfold st_live_changes_v2_L0
        simp only [d_f (show ¬ ((0 : Int) ≤ ((0 : Nat) : Int) - 1) by decide), cond_false]
      | k + 1, hk, h1, h2 =>
        have e0 : (((k + 1 : Nat) : Int) - 1) = (k : Int) := by omega
        have e1 : IntKind.i64.wrap ((k : Int) - 1) = (k : Int) - 1 := by rw [wr] <;> omega
        have hj := h.join u (k := k) (by omega) (fun hkn => h1 (k + 1) (by omega) (by omega))
        have huk : u k = v k := h2 k (by omega)
        have hul : u k ||| lv n P k = lv n P k := by rw [huk]; exact hv k (by omega)
        rw [hul] at hj
        have rest : ∀ c', ((∀ k, k ≤ n → v k = lv n P k) → c' = false) → ∃ k' : Nat, k' ≤ n + 1 ∧ (k : Int) - 1 = (k' : Int) - 1 ∧ (∀ j, j ≤ n → k' ≤ j → updF u k (lv n P k) j = lv n P j) ∧ (∀ j, j < k' → updF u k (lv n P k) j = v j) ∧ ((∀ k, k ≤ n → v k = lv n P k) → c' = false) := fun c' hc' =>
          ⟨k, by omega, rfl, fun j h4 h5 => by
            by_cases hjk : j = k
            · rw [hjk, updF_at]
            · rw [updF_ne _ _ hjk]; exact h1 j h4 (by omega), fun j h4 => by rw [updF_ne _ _ (by omega)]; exact h2 j (by omega), hc'⟩
        rw [e0]
        cases hb : (!(lv n P k == u k)) with
        | true =>
          rw [hb] at hj
          refine .inl ⟨.c0 (updF u k (lv n P k)) true ((k : Int) - 1), ?_, rest true (fun hall => ?_), by show ((k : Int) - 1 + 1).toNat < ((k : Int) + 1).toNat; omega, fun r hr => hr⟩
          · unfold st_live_changes_v2_L0
            simp only [d_t (show (0 : Int) ≤ (k : Int) by omega), cond_true, hj, Option.bind_some, e1]
          · rw [huk, hall k (by omega)] at hb
            simp at hb
        | false =>
          rw [hb] at hj
          refine .inl ⟨.c0 (updF u k (lv n P k)) c ((k : Int) - 1), ?_, rest c h3, by show ((k : Int) - 1 + 1).toNat < ((k : Int) + 1).toNat; omega, fun r hr => hr⟩
          unfold st_live_changes_v2_L0
          simp only [d_t (show (0 : Int) ≤ (k : Int) by omega), cond_true, cond_false, hj, Option.bind_some, e1])
    (.c0 v false (IntKind.i64.wrap (((n + 1 : Nat) : Int) - 1))) ⟨n + 1, by omega, by rw [wr] <;> omega, fun j h1 h2 => by omega, fun j _ => rfl, fun _ => rfl⟩
  obtain ⟨r, hr, hp⟩ := key
  obtain ⟨u, c, x, y⟩ := r
  refine ⟨u, c, ?_, hp⟩
  unfold m_live_changes_v2
  rw [hr]
  rfl
theorem look_is {n : Nat} {P : Nat → Insn} (h : Straight n P) : ∃ R W v X, m_live_look_v1 (n + 1) P = some (.e0 R W v X) ∧ Rows n P R W X ∧ ∀ k, k ≤ n → v k = lv n P k := by
  have hm := h.most
  obtain ⟨R, W, v, X, h1, h2, h3⟩ := look0 h
  have hr : Rows n P R W X := ⟨hm, h2⟩
  obtain ⟨v1, c1, h4, h5, _⟩ := hr.changes v (fun k _ => by rw [h3]; simp)
  obtain ⟨v2, c2, h6, h7, h8⟩ := hr.changes v1 (fun k hk => by rw [h5 k hk]; simp)
  obtain rfl : c2 = false := h8 h5
  have s2 : st_live_look_v1_L1 (n + 1) R W X (.c0 v1) = some (.inr (.e0 v2)) := by
    unfold st_live_look_v1_L1
    simp only [h6, Option.bind_some, cond_false]
  have s1 : ∃ u, lpO (st_live_look_v1_L1 (n + 1) R W X) (.c0 v) = some (.e0 u) ∧ ∀ k, k ≤ n → u k = lv n P k := by
    cases c1 with
    | true =>
      refine ⟨v2, ?_, h7⟩
      rw [lpO_next (s' := .c0 v1) (by unfold st_live_look_v1_L1; simp only [h4, Option.bind_some, cond_true])]
      exact lpO_end s2
    | false =>
      refine ⟨v1, lpO_end ?_, h5⟩
      unfold st_live_look_v1_L1
      simp only [h4, Option.bind_some, cond_false]
  obtain ⟨u, h9, h10⟩ := s1
  refine ⟨R, W, u, X, ?_, hr, h10⟩
  unfold m_live_look_v1
  rw [d_t (show n + 1 ≤ 1000000 by omega), cond_true, h1]
  simp only [Option.bind_some, h9]
end Go.Proofs.Ytjfiakgkeniocaa

