/-
  Programs threaded: the program's loops, the law's, in plain words.
-/
import Derived.Test.YtkfmmcobmjkilaaOTM
import Derived.Test.YtkfmmcobmjkilaaOPk
namespace Go.Proofs.Ytkfmmcobmjkilaa
open Go.RowKit
set_option linter.unusedVariables false
set_option linter.unusedSimpArgs false
section
variable {n N : Nat} {A M : Nat → Insn} {P : Nat → Part}
theorem Fine.inp (h : Fine n A N P) {k : Nat} (hk : k < n) (hs : sec A k = false) : ∃ i, i < N ∧ InP A (P i) k := by
  obtain ⟨g, hP⟩ := h.parts
  obtain ⟨i, hi, h1, h2⟩ := part_of hP hk
  exact ⟨i, hi, h1, h2, hs⟩
theorem Fine.lt0 (h : Fine n A N P) : ∀ i, i < N → 0 ≤ (P i).fFrom := by
  obtain ⟨g, hP⟩ := h.parts
  exact fun i hi => (hP.lt i hi).1
theorem Fine.inp_lt (h : Fine n A N P) {i k : Nat} (hi : i < N) (hk : InP A (P i) k) : k < n := by
  obtain ⟨g, hP⟩ := h.parts
  have := hP.to hi
  have := hk.2.1
  omega
theorem Fine.tgt (h : Fine n A N P) {i k : Nat} (hi : i < N) (hk : InP A (P i) k) (hj : m_op_Jumps (A k) = true) : m_insn_Target n A (k : Int) = Option.some (((goto A k : Nat) : Int), true) := by
  rw [target_jump h (h.inp_lt hi hk) hk.2.2 hj, (goto_in h.stay h.lt0 hi hk hj).1]
theorem near_any {k t : Nat} (hk : k < 4096) (ht : t < 4096) : m_opt_near (k : Int) (t : Int) = true := by
  have e1 : IntKind.i64.wrap ((t : Int) - (k : Int)) = (t : Int) - (k : Int) := by rw [wr] <;> omega
  have e2 : IntKind.i64.wrap ((t : Int) - (k : Int) - 1) = (t : Int) - (k : Int) - 1 := by rw [wr] <;> omega
  unfold m_opt_near
  rw [e1, e2, ct (d_t (by omega)), d_t (by omega)]
def cnt (R : Nat → Bool) : Nat → Nat
  | 0 => 0
  | n + 1 => cnt R n + (if R n then 0 else 1)
theorem cnt_congr {R R' : Nat → Bool} : ∀ {n : Nat}, (∀ k, k < n → R k = R' k) → cnt R n = cnt R' n
  | 0, _ => rfl
  | n + 1, h => by unfold cnt; rw [cnt_congr (n := n) fun k hk => h k (by omega), h n (by omega)]
theorem cnt_upd {R : Nat → Bool} {t : Nat} (h0 : R t = false) : ∀ {n : Nat}, t < n → cnt (updF R t true) n + 1 = cnt R n
  | 0, h => by omega
  | n + 1, h => by
    unfold cnt
    by_cases e : t = n
    · subst e
      rw [updF_at, h0, cnt_congr (R' := R) fun k hk => updF_ne R true (by omega)]
      simp
    · rw [updF_ne R true (show n ≠ t by omega), ← cnt_upd h0 (show t < n by omega)]
      omega
theorem marks {D : Nat → Int} {t : Nat} {v : Int} : (fun j => updF D t v j == v) = updF (fun j => D j == v) t true := by
  funext j
  unfold updF
  split
  · simp
  · rfl
/-- A jump's way: it ends behind the Jas, or they come round. -/
theorem Fine.walk (h : Fine n A N P) {i a : Nat} (hi : i < N) (ha : InP A (P i) a) (hj : m_op_Jumps (A a) = true) {C : Nat → Int} (hC : ∀ j, C j ≤ (a : Int)) :
    ∃ C' m x y z, lpO (st_opt_Thread_L0_L1v2 n A (a : Int)) (.c0 C ((goto A a : Nat) : Int)) = Option.some (.e0 C' ((way A a m : Nat) : Int) x y z) ∧ (∀ j, C' j ≤ ((a + 1 : Nat) : Int)) ∧ (isJa A (way A a m) = true → ∀ j, isJa A (way A a j) = true) := by
  have hm := h.most
  have han := h.inp_lt hi ha
  have hw := fun m => way_in h.stay h.lt0 hi ha hj m
  have hwn := fun m => h.inp_lt hi (hw m)
  obtain ⟨r, h1, h2⟩ := lpO_ind (st := st_opt_Thread_L0_L1v2 n A (a : Int))
    (fun s => match s with | .c0 D t => ∃ m : Nat, t = ((way A a m : Nat) : Int) ∧ (∀ j, D j ≤ ((a + 1 : Nat) : Int)) ∧ (∀ j, D j = ((a + 1 : Nat) : Int) → ∃ q, q < m ∧ way A a q = j) ∧ (∀ q, q < m → isJa A (way A a q) = true) ∧ (isJa A (way A a m) = true → D (way A a m) ≠ ((a + 1 : Nat) : Int)))
    (fun s => match s with | .c0 D t => cnt (fun j => D j == ((a + 1 : Nat) : Int)) n)
    (fun _ r => ∃ C' m x y z, r = .e0 C' ((way A a m : Nat) : Int) x y z ∧ (∀ j, C' j ≤ ((a + 1 : Nat) : Int)) ∧ (isJa A (way A a m) = true → ∀ j, isJa A (way A a j) = true)) (fun s hs => by
      obtain ⟨D, t⟩ := s
      obtain ⟨m, rfl, hD1, hD2, hJ, hD3⟩ := hs
      cases hja : isJa A (way A a m)
      · refine .inr ⟨.e0 D ((way A a m : Nat) : Int) ((way A a m : Nat) : Int) (A (way A a m)).fOp false, ?_, D, m, _, _, _, rfl, hD1, fun c => by rw [hja] at c; cases c⟩
        unfold st_opt_Thread_L0_L1v2
        simp only
        rw [ct (inR_nat' (hwn m)), Int.toNat_natCast, cf (show ((A (way A a m)).fOp == 5#8) = false from hja)]
      · have hnx : goto A (way A a m) = way A a (m + 1) := (way_ja hja).symm
        have hall : ∀ q, q ≤ m → isJa A (way A a q) = true := fun q hq => by
          by_cases c : q = m
          · subst c; exact hja
          · exact hJ q (by omega)
        have hD1' : ∀ j, updF D (way A a m) ((a + 1 : Nat) : Int) j ≤ ((a + 1 : Nat) : Int) := fun j => by
          unfold updF
          split
          · exact Int.le_refl _
          · exact hD1 j
        have hD2' : ∀ j, updF D (way A a m) ((a + 1 : Nat) : Int) j = ((a + 1 : Nat) : Int) → ∃ q, q < m + 1 ∧ way A a q = j := fun j q => by
          unfold updF at q
          split at q
          · rename_i e
            exact ⟨m, by omega, e.symm⟩
          · obtain ⟨q', h1, h2⟩ := hD2 j q
            exact ⟨q', by omega, h2⟩
        have hμ : cnt (fun j => updF D (way A a m) ((a + 1 : Nat) : Int) j == ((a + 1 : Nat) : Int)) n < cnt (fun j => D j == ((a + 1 : Nat) : Int)) n := by
          have h0 : (D (way A a m) == ((a + 1 : Nat) : Int)) = false := by simpa using hD3 hja
          rw [marks, ← cnt_upd (R := fun j => D j == ((a + 1 : Nat) : Int)) h0 (hwn m)]
          omega
        have hst : st_opt_Thread_L0_L1v2 n A (a : Int) (.c0 D ((way A a m : Nat) : Int)) = (bif isJa A (way A a (m + 1)) then
            (bif updF D (way A a m) ((a + 1 : Nat) : Int) (way A a (m + 1)) == ((a + 1 : Nat) : Int) then Option.some (.inr (.e0 (updF D (way A a m) ((a + 1 : Nat) : Int)) ((way A a m : Nat) : Int) ((way A a m : Nat) : Int) (A (way A a m)).fOp true))
             else Option.some (.inl (.c0 (updF D (way A a m) ((a + 1 : Nat) : Int)) ((way A a (m + 1) : Nat) : Int))))
            else Option.some (.inl (.c0 (updF D (way A a m) ((a + 1 : Nat) : Int)) ((way A a (m + 1) : Nat) : Int)))) := by
          unfold st_opt_Thread_L0_L1v2
          simp only
          have hm' := hwn m
          have hm2 := hwn (m + 1)
          rw [ct (inR_nat' (hwn m)), Int.toNat_natCast, ct (show ((A (way A a m)).fOp == 5#8) = true from hja), ct (inR_nat' (show way A a m < 4096 by omega)), h.tgt hi (hw m) (isJa_jumps hja), hnx]
          simp only [Option.bind_some]
          rw [ct (inR_nat' (hwn (m + 1))), Int.toNat_natCast, w_succ (show a < 1000000 by omega), ct (inR_nat' (show way A a (m + 1) < 4096 by omega)), ct (near_any (show a < 4096 by omega) (show way A a (m + 1) < 4096 by omega))]
          rfl
        cases hj2 : isJa A (way A a (m + 1))
        · refine .inl ⟨.c0 (updF D (way A a m) ((a + 1 : Nat) : Int)) ((way A a (m + 1) : Nat) : Int), ?_, ⟨m + 1, rfl, hD1', hD2', fun q hq => hall q (by omega), fun c => by rw [hj2] at c; cases c⟩, hμ, fun r hr => hr⟩
          rw [hst, cf hj2]
        · cases ht : (updF D (way A a m) ((a + 1 : Nat) : Int) (way A a (m + 1)) == ((a + 1 : Nat) : Int))
          · refine .inl ⟨.c0 (updF D (way A a m) ((a + 1 : Nat) : Int)) ((way A a (m + 1) : Nat) : Int), ?_, ⟨m + 1, rfl, hD1', hD2', fun q hq => hall q (by omega), fun _ => by simpa using ht⟩, hμ, fun r hr => hr⟩
            rw [hst, ct hj2, cf ht]
          · refine .inr ⟨.e0 (updF D (way A a m) ((a + 1 : Nat) : Int)) ((way A a m : Nat) : Int) ((way A a m : Nat) : Int) (A (way A a m)).fOp true, ?_, _, m, _, _, _, rfl, hD1', fun _ => ?_⟩
            · rw [hst, ct hj2, ct ht]
            · obtain ⟨q, hq, e⟩ := hD2' _ (by simpa using ht)
              exact way_round (show q ≤ m by omega) hall e.symm) (.c0 C ((goto A a : Nat) : Int)) ⟨0, rfl, fun j => by have := hC j; omega, fun j hj => by have := hC j; omega, fun q hq => by omega, fun _ => by have := hC (way A a 0); omega⟩
  obtain ⟨C', m, x, y, z, rfl, h3, h4⟩ := h2
  exact ⟨C', m, x, y, z, h1, h3, h4⟩
theorem Fine.jumps_sec (h : Fine n A N P) {k : Nat} (hk : k < n) (hj : m_op_Jumps (A k) = true) : sec A k = false := by
  cases hs : sec A k
  · rfl
  · exfalso
    cases k with
    | zero => cases hs
    | succ k =>
      have hs2 : wideB (A k) = true ∧ sec A k = false := by
        have : (wideB (A k) && !sec A k) = true := hs
        simpa using this
      have := op0_jumps (right_op (err_right (h.ok k (by omega) (by omega) hs2.2) hs2.1))
      rw [hj] at this
      cases this
/-- A slot as it is threaded. -/
def Done (A : Nat → Insn) (k : Nat) (x : Insn) : Prop :=
  (m_op_Jumps (A k) = false → x = A k) ∧ (m_op_Jumps (A k) = true → ∃ m, x = ⟨(A k).fOp, (A k).fDst, (A k).fSrc, BitVec.ofInt 16 (((way A k m : Nat) : Int) - (k : Int) - 1), (A k).fImm⟩ ∧ (isJa A (way A k m) = true → ∀ j, isJa A (way A k j) = true))
theorem Fine.thread (h : Fine n A N P) {r : Int × Int} (hc : m_insn_Check n A = Option.some r) (hr : r.2 = 0) : ∃ M, m_opt_Thread n A = Option.some (.e0 M) ∧ ∀ k, k < n → Done A k (M k) := by
  have hm := h.most
  obtain ⟨r', h1, h2⟩ := lpO_ind (st := st_opt_Thread_L0 n A)
    (fun s => match s with | .c0 M C y => ∃ k : Nat, y = (k : Int) ∧ k ≤ n ∧ (∀ j, j < k → Done A j (M j)) ∧ (∀ j, k ≤ j → M j = A j) ∧ ∀ j, C j ≤ (k : Int)) (fun s => match s with | .c0 M C y => n - y.toNat)
    (fun _ r => ∃ M C, r = .e0 M C ∧ ∀ k, k < n → Done A k (M k)) (fun s hs => by
      obtain ⟨M, C, y⟩ := s
      obtain ⟨k, rfl, hk, hM1, hM2, hC⟩ := hs
      by_cases q : k < n
      · have hμ : n - ((k + 1 : Nat) : Int).toNat < n - (k : Int).toNat := by omega
        cases hj : m_op_Jumps (A k)
        · refine .inl ⟨.c0 M C ((k + 1 : Nat) : Int), ?_, ⟨k + 1, rfl, by omega, fun j hj' => ?_, fun j hj' => hM2 j (by omega), fun j => by have := hC j; omega⟩, hμ, fun r hr => hr⟩
          · unfold st_opt_Thread_L0
            simp only [bindT]
            rw [ct (d_t (by omega)), ct (inR_nat' q), Int.toNat_natCast, cf hj, w_succ (by omega)]
          · by_cases e : j = k
            · subst e
              refine ⟨fun _ => hM2 j (Nat.le_refl _), fun c => (by rw [hj] at c; cases c)⟩
            · exact hM1 j (by omega)
        · obtain ⟨i, hi, ha⟩ := h.inp q (h.jumps_sec q hj)
          obtain ⟨C', m, x, y, z, hg, hC', hway⟩ := h.walk hi ha hj hC
          have hwn := h.inp_lt hi (way_in h.stay h.lt0 hi ha hj m)
          have e1 : IntKind.i64.wrap (((way A k m : Nat) : Int) - (k : Int)) = ((way A k m : Nat) : Int) - (k : Int) := by rw [wr] <;> omega
          have e2 : IntKind.i64.wrap (((way A k m : Nat) : Int) - (k : Int) - 1) = ((way A k m : Nat) : Int) - (k : Int) - 1 := by rw [wr] <;> omega
          refine .inl ⟨.c0 (updF M k ⟨(A k).fOp, (A k).fDst, (A k).fSrc, BitVec.ofInt 16 (((way A k m : Nat) : Int) - (k : Int) - 1), (A k).fImm⟩) C' ((k + 1 : Nat) : Int), ?_, ⟨k + 1, rfl, by omega, fun j hj' => ?_, fun j hj' => ?_, hC'⟩, hμ, fun r hr => hr⟩
          · unfold st_opt_Thread_L0
            simp only [bindT]
            rw [ct (d_t (by omega)), ct (inR_nat' q), Int.toNat_natCast, ct hj, h.tgt hi ha hj]
            simp only [Option.bind_some]
            rw [hg]
            simp only [Option.bind_some]
            rw [hM2 k (Nat.le_refl _), w_succ (by omega), e1, e2]
          · by_cases e : j = k
            · subst e
              rw [updF_at]
              exact ⟨fun c => (by rw [hj] at c; cases c), fun _ => ⟨m, rfl, hway⟩⟩
            · rw [updF_ne M _ e]
              exact hM1 j (by omega)
          · rw [updF_ne M _ (show j ≠ k by omega)]
            exact hM2 j (by omega)
      · obtain rfl : k = n := by omega
        refine .inr ⟨.e0 M C, ?_, M, C, rfl, fun j hj => hM1 j hj⟩
        unfold st_opt_Thread_L0
        simp only [bindT]
        rw [cf (d_f (by omega))]) (.c0 A (fun _ => 0) 0) ⟨0, rfl, by omega, fun j hj => by omega, fun j _ => rfl, fun j => Int.le_refl _⟩
  obtain ⟨M, C, rfl, h3⟩ := h2
  refine ⟨M, ?_, h3⟩
  unfold m_opt_Thread
  rw [hc]
  simp only [Option.bind_some]
  rw [ct (by rw [hr]; rfl), ct (d_t (by omega)), h1]
  rfl
theorem done_alike (hd : ∀ k, k < n → Done A k (M k)) : Alike n A M := by
  have key : ∀ k, k < n → ∃ o, M k = ⟨(A k).fOp, (A k).fDst, (A k).fSrc, o, (A k).fImm⟩ := fun k hk => by
    cases hj : m_op_Jumps (A k)
    · exact ⟨_, (hd k hk).1 hj⟩
    · obtain ⟨m, e, _⟩ := (hd k hk).2 hj
      exact ⟨_, e⟩
  refine ⟨fun k hk => ?_, fun k hk => ?_, fun k hk => ?_, fun k hk => ?_, fun k hk hj => ?_⟩
  · obtain ⟨o, e⟩ := key k hk; rw [e]
  · obtain ⟨o, e⟩ := key k hk; rw [e]
  · obtain ⟨o, e⟩ := key k hk; rw [e]
  · obtain ⟨o, e⟩ := key k hk; rw [e]
  · rw [(hd k hk).1 hj]
/-- Where a threaded jump goes. -/
theorem Fine.goesTo (h : Fine n A N P) {k : Nat} (hk : k < n) (hj : m_op_Jumps (A k) = true) {m : Nat} (hm : way A k m < n) {x : Insn} (e : x = ⟨(A k).fOp, (A k).fDst, (A k).fSrc, BitVec.ofInt 16 (((way A k m : Nat) : Int) - (k : Int) - 1), (A k).fImm⟩) : (k : Int) + 1 + ii x.fOff = ((way A k m : Nat) : Int) := by
  have hn := h.most
  rw [e]
  show (k : Int) + 1 + ii (BitVec.ofInt 16 (((way A k m : Nat) : Int) - (k : Int) - 1)) = _
  rw [ii_of16 (by omega) (by omega)]
  omega
theorem Fine.stays (h : Fine n A N P) (hd : ∀ k, k < n → Done A k (M k)) : ∀ i, i < N → ∀ j : Nat, (P i).fFrom ≤ j → (j : Int) < (P i).fTo → sec M j = false → badJump M (P i) j = false := by
  intro i hi j h1 h2 h3
  have ha := done_alike hd
  have hjn : j < n := by
    obtain ⟨g, hP⟩ := h.parts
    have := hP.to hi
    omega
  have hs : sec A j = false := by rw [← ha.sec (show j ≤ n by omega)]; exact h3
  unfold badJump
  rw [jumps_same (ha.op j hjn)]
  cases hj : m_op_Jumps (A j)
  · rfl
  · obtain ⟨m, e, _⟩ := (hd j hjn).2 hj
    have hw := way_in h.stay h.lt0 hi ⟨h1, h2, hs⟩ hj m
    have hwn := h.inp_lt hi hw
    rw [h.goesTo hjn hj hwn e, d_f (show ¬ ((way A j m : Nat) : Int) < (P i).fFrom by have := hw.1; omega), d_f (show ¬ (P i).fTo ≤ ((way A j m : Nat) : Int) by have := hw.2.1; omega), Int.toNat_natCast, ha.sec (show way A j m ≤ n by omega), hw.2.2]
    rfl
theorem way_same {k m q : Nat} (h : isJa A (way A k m) = true → ∀ j, isJa A (way A k j) = true) (hq : isJa A (way A k q) = false) : way A k m = way A k q := by
  have hm : isJa A (way A k m) = false := by
    cases c : isJa A (way A k m)
    · rfl
    · have := h c q
      rw [hq] at this
      cases this
  by_cases c : m ≤ q
  · have := way_stay hm (q - m)
    rw [show m + (q - m) = q by omega] at this
    exact this.symm
  · have := way_stay hq (m - q)
    rw [show q + (m - q) = m by omega] at this
    exact this
theorem Fine.isja (h : Fine n A N P) {i k : Nat} (hi : i < N) (hk : InP A (P i) k) : m_barbicanref1_Is (A k) 0 = isJa A k := ja_eq (h.known (h.inp_lt hi hk) hk.2.2)
theorem inner_barbicanlaw20_OptThreads_L0_L1v4 (h : Fine n A N P) {i a : Nat} (hi : i < N) (ha : InP A (P i) a) (hj : m_op_Jumps (A a) = true) :
    ∃ q v0 v1 v2 v3 v4 v6 v7 v8 v9 v10, lpO (st_barbicanlaw20_OptThreads_L0_L1v4 n A M (a : Int)) (.c0 ((goto A a : Nat) : Int) 0) = Option.some (.e0 v0 v1 v2 v3 v4 ((way A a q : Nat) : Int) v6 v7 v8 v9 v10) := by
  have hm := h.most
  have hw := fun m => way_in h.stay h.lt0 hi ha hj m
  have hwn := fun m => h.inp_lt hi (hw m)
  have han := h.inp_lt hi ha
  obtain ⟨r, h1, h2⟩ := lpO_ind (st := st_barbicanlaw20_OptThreads_L0_L1v4 n A M (a : Int)) (fun s => match s with | .c0 t y => ∃ q : Nat, t = ((way A a q : Nat) : Int) ∧ y = (q : Int) ∧ q ≤ n) (fun s => match s with | .c0 t y => n - y.toNat)
    (fun _ r => ∃ q v0 v1 v2 v3 v4 v6 v7 v8 v9 v10, r = .e0 v0 v1 v2 v3 v4 ((way A a q : Nat) : Int) v6 v7 v8 v9 v10) (fun s hs => by
      obtain ⟨t, y⟩ := s
      obtain ⟨q, rfl, rfl, hq⟩ := hs
      by_cases c : q < n
      · cases hja : isJa A (way A a q)
        · refine .inr ⟨.e0 (A a).fOp (A a).fDst (A a).fSrc (M a).fOff (A a).fImm ((way A a q : Nat) : Int) (q : Int) (q : Int) (n : Int) true true, ?_, q, _, _, _, _, _, _, _, _, _, _, rfl⟩
          unfold st_barbicanlaw20_OptThreads_L0_L1v4
          simp only
          rw [ct (d_t (by omega)), ct (inR_nat' (hwn q)), Int.toNat_natCast, cf (by rw [h.isja hi (hw q)]; exact hja), Int.toNat_natCast]
        · have hnx := (goto_in h.stay h.lt0 hi (hw q) (isJa_jumps hja)).1
          have hq1 := hwn q
          have hq2 := hwn (q + 1)
          rw [← way_ja hja] at hnx
          have e1 : IntKind.i64.wrap (((way A a q : Nat) : Int) + 1) = ((way A a q : Nat) : Int) + 1 := by rw [wr] <;> omega
          have e2 : IntKind.i64.wrap (((way A a (q + 1) : Nat) : Int)) = ((way A a (q + 1) : Nat) : Int) := by rw [wr] <;> omega
          refine .inl ⟨.c0 ((way A a (q + 1) : Nat) : Int) ((q + 1 : Nat) : Int), ?_, ⟨q + 1, rfl, rfl, by omega⟩, by show n - ((q + 1 : Nat) : Int).toNat < n - (q : Int).toNat; omega, fun r hr => hr⟩
          unfold st_barbicanlaw20_OptThreads_L0_L1v4
          simp only
          rw [ct (d_t (by omega)), ct (inR_nat' (hwn q)), Int.toNat_natCast, ct (by rw [h.isja hi (hw q)]; exact hja), e1, hnx, e2, w_succ (by omega)]
      · refine .inr ⟨.e0 (A a).fOp (A a).fDst (A a).fSrc (M a).fOff (A a).fImm ((way A a q : Nat) : Int) (q : Int) (q : Int) (n : Int) false false, ?_, q, _, _, _, _, _, _, _, _, _, _, rfl⟩
        unfold st_barbicanlaw20_OptThreads_L0_L1v4
        simp only
        rw [cf (d_f (by omega)), Int.toNat_natCast]) (.c0 ((goto A a : Nat) : Int) 0) ⟨0, rfl, rfl, by omega⟩
  obtain ⟨q, v0, v1, v2, v3, v4, v6, v7, v8, v9, v10, rfl⟩ := h2
  exact ⟨q, v0, v1, v2, v3, v4, v6, v7, v8, v9, v10, h1⟩
theorem inner_barbicanlaw20_OptThreads_L0_L1v5 (h : Fine n A N P) {i a : Nat} (hi : i < N) (ha : InP A (P i) a) (hj : m_op_Jumps (A a) = true) :
    ∃ q v0 v1 v2 v3 v4 v6 v7 v8 v9 v10, lpO (st_barbicanlaw20_OptThreads_L0_L1v5 n A M (a : Int)) (.c0 ((goto A a : Nat) : Int) 0) = Option.some (.e0 v0 v1 v2 v3 v4 ((way A a q : Nat) : Int) v6 v7 v8 v9 v10) := by
  have hm := h.most
  have hw := fun m => way_in h.stay h.lt0 hi ha hj m
  have hwn := fun m => h.inp_lt hi (hw m)
  have han := h.inp_lt hi ha
  obtain ⟨r, h1, h2⟩ := lpO_ind (st := st_barbicanlaw20_OptThreads_L0_L1v5 n A M (a : Int)) (fun s => match s with | .c0 t y => ∃ q : Nat, t = ((way A a q : Nat) : Int) ∧ y = (q : Int) ∧ q ≤ n) (fun s => match s with | .c0 t y => n - y.toNat)
    (fun _ r => ∃ q v0 v1 v2 v3 v4 v6 v7 v8 v9 v10, r = .e0 v0 v1 v2 v3 v4 ((way A a q : Nat) : Int) v6 v7 v8 v9 v10) (fun s hs => by
      obtain ⟨t, y⟩ := s
      obtain ⟨q, rfl, rfl, hq⟩ := hs
      by_cases c : q < n
      · cases hja : isJa A (way A a q)
        · refine .inr ⟨.e0 (A a).fOp (A a).fDst (A a).fSrc (M a).fOff (A a).fImm ((way A a q : Nat) : Int) (q : Int) (q : Int) (n : Int) true true, ?_, q, _, _, _, _, _, _, _, _, _, _, rfl⟩
          unfold st_barbicanlaw20_OptThreads_L0_L1v5
          simp only
          rw [ct (d_t (by omega)), ct (inR_nat' (hwn q)), Int.toNat_natCast, cf (by rw [h.isja hi (hw q)]; exact hja), Int.toNat_natCast]
        · have hnx := (goto_in h.stay h.lt0 hi (hw q) (isJa_jumps hja)).1
          have hq1 := hwn q
          have hq2 := hwn (q + 1)
          rw [← way_ja hja] at hnx
          have e1 : IntKind.i64.wrap (((way A a q : Nat) : Int) + 1) = ((way A a q : Nat) : Int) + 1 := by rw [wr] <;> omega
          have e2 : IntKind.i64.wrap (((way A a (q + 1) : Nat) : Int)) = ((way A a (q + 1) : Nat) : Int) := by rw [wr] <;> omega
          refine .inl ⟨.c0 ((way A a (q + 1) : Nat) : Int) ((q + 1 : Nat) : Int), ?_, ⟨q + 1, rfl, rfl, by omega⟩, by show n - ((q + 1 : Nat) : Int).toNat < n - (q : Int).toNat; omega, fun r hr => hr⟩
          unfold st_barbicanlaw20_OptThreads_L0_L1v5
          simp only
          rw [ct (d_t (by omega)), ct (inR_nat' (hwn q)), Int.toNat_natCast, ct (by rw [h.isja hi (hw q)]; exact hja), e1, hnx, e2, w_succ (by omega)]
      · refine .inr ⟨.e0 (A a).fOp (A a).fDst (A a).fSrc (M a).fOff (A a).fImm ((way A a q : Nat) : Int) (q : Int) (q : Int) (n : Int) false false, ?_, q, _, _, _, _, _, _, _, _, _, _, rfl⟩
        unfold st_barbicanlaw20_OptThreads_L0_L1v5
        simp only
        rw [cf (d_f (by omega)), Int.toNat_natCast]) (.c0 ((goto A a : Nat) : Int) 0) ⟨0, rfl, rfl, by omega⟩
  obtain ⟨q, v0, v1, v2, v3, v4, v6, v7, v8, v9, v10, rfl⟩ := h2
  exact ⟨q, v0, v1, v2, v3, v4, v6, v7, v8, v9, v10, h1⟩
theorem Fine.slots (h : Fine n A N P) (hd : ∀ k, k < n → Done A k (M k)) {G : Nat → Bool} (hG : ∀ k, k < n → G k = sec A k) : lpO (st_barbicanlaw20_OptThreads_L0 n A M G) (.c0 0) = Option.some .e0 := by
  have hm := h.most
  have ha := done_alike hd
  obtain ⟨r, h1, h2⟩ := lpO_ind (st := st_barbicanlaw20_OptThreads_L0 n A M G) (fun s => match s with | .c0 y => ∃ k : Nat, y = (k : Int) ∧ k ≤ n) (fun s => match s with | .c0 y => n - y.toNat) (fun _ r => r = .e0) (fun s hs => by
    obtain ⟨y⟩ := s
    obtain ⟨k, rfl, hk⟩ := hs
    by_cases q : k < n
    · refine .inl ⟨.c0 ((k + 1 : Nat) : Int), ?_, ⟨k + 1, rfl, by omega⟩, by show n - ((k + 1 : Nat) : Int).toNat < n - (k : Int).toNat; omega, fun r hr => hr⟩
      have hsame : (((A k).fOp == (M k).fOp) && (((A k).fDst == (M k).fDst) && (((A k).fSrc == (M k).fSrc) && (((M k).fOff == (M k).fOff) && ((A k).fImm == (M k).fImm))))) = true := by
        rw [ha.op k q, ha.dst k q, ha.src k q, ha.imm k q]
        simp
      unfold st_barbicanlaw20_OptThreads_L0
      simp only
      rw [ct (d_t (by omega)), ct (inR_nat' q), Int.toNat_natCast, ct hsame, Int.toNat_natCast, ct (inR_nat' q), hG k q]
      cases hs : sec A k
      · rw [cf rfl]
        have hkn : m_insn_known (M k) = true := by rw [ha.known q]; exact h.known q hs
        rw [← ha.eq q, ja_eq hkn]
        have hje := jumps_eq hkn
        rw [ja_eq hkn, jumps_same (ha.op k q)] at hje
        have rest : ∀ (hjA : m_op_Jumps (A k) = true) (p : Nat), IntKind.i64.wrap (IntKind.i64.wrap ((k : Int) + 1) + ii (A k).fOff) = ((goto A k : Nat) : Int) ∧ inR ((way A k p : Nat) : Int) n = true ∧
            (m_barbicanref1_Is (A (way A k p)) 0 = false → (IntKind.i64.wrap (IntKind.i64.wrap ((k : Int) + 1) + ii (M k).fOff) == ((way A k p : Nat) : Int)) = true) := fun hjA p => by
          obtain ⟨i, hi, hin⟩ := h.inp q hs
          have hwn := fun m => h.inp_lt hi (way_in h.stay h.lt0 hi hin hjA m)
          have e1 : IntKind.i64.wrap ((k : Int) + 1) = (k : Int) + 1 := by rw [wr] <;> omega
          refine ⟨?_, inR_nat' (hwn p), fun hp => ?_⟩
          · have := hwn 0
            have e0 := (goto_in h.stay h.lt0 hi hin hjA).1
            rw [e1, e0]
            have e3 : way A k 0 = goto A k := rfl
            rw [e3] at this
            rw [wr] <;> omega
          · obtain ⟨m, e, hall⟩ := (hd k q).2 hjA
            rw [h.isja hi (way_in h.stay h.lt0 hi hin hjA p)] at hp
            have hm' := hwn m
            rw [e1, h.goesTo q hjA hm' e, way_same hall hp]
            have hp' := hwn p
            rw [show IntKind.i64.wrap ((way A k p : Nat) : Int) = ((way A k p : Nat) : Int) by rw [wr] <;> omega]
            simp
        cases hja : ((M k).fOp == 5#8)
        · rw [cf rfl]
          rw [hja, Bool.false_or] at hje
          cases hcm : m_barbicanref1_Compares (M k)
          · rw [hcm] at hje
            rw [cf rfl, ha.off k q hje.symm, ct (by simp), w_succ (by omega)]
          · rw [hcm] at hje
            have hjA := hje.symm
            obtain ⟨i, hi, hin⟩ := h.inp q hs
            obtain ⟨p, v0, v1, v2, v3, v4, v6, v7, v8, v9, v10, hin'⟩ := inner_barbicanlaw20_OptThreads_L0_L1v5 (M := M) h hi hin hjA
            obtain ⟨r1, r2, r3⟩ := rest hjA p
            rw [ct rfl, r1, hin']
            simp only [Option.bind_some]
            rw [ct r2, Int.toNat_natCast]
            cases hp : m_barbicanref1_Is (A (way A k p)) 0
            · rw [cf rfl, ct (r3 hp), w_succ (by omega)]
            · rw [ct rfl, w_succ (by omega)]
        · rw [ct rfl]
          rw [hja, Bool.true_or] at hje
          have hjA := hje.symm
          obtain ⟨i, hi, hin⟩ := h.inp q hs
          obtain ⟨p, v0, v1, v2, v3, v4, v6, v7, v8, v9, v10, hin'⟩ := inner_barbicanlaw20_OptThreads_L0_L1v4 (M := M) h hi hin hjA
          obtain ⟨r1, r2, r3⟩ := rest hjA p
          rw [r1, hin']
          simp only [Option.bind_some]
          rw [ct r2, Int.toNat_natCast]
          cases hp : m_barbicanref1_Is (A (way A k p)) 0
          · rw [cf rfl, ct (r3 hp), w_succ (by omega)]
          · rw [ct rfl, w_succ (by omega)]
      · have hjn : m_op_Jumps (A k) = false := by
          cases c : m_op_Jumps (A k)
          · rfl
          · have := h.jumps_sec q c
            rw [hs] at this
            cases this
        rw [ct rfl, ha.plain q hjn, ct (by simp), ct (by simp), w_succ (by omega)]
    · refine .inr ⟨_, ?_, rfl⟩
      unfold st_barbicanlaw20_OptThreads_L0
      simp only
      rw [cf (d_f (by omega))]) (.c0 0) ⟨0, rfl, by omega⟩
  rw [h1, h2]
end
theorem e_same : ∀ (x : Int), (x == x) = true := fun x => by simp
/-- The law answers true. -/
theorem optthreads_true (n : Nat) (A : Nat → Insn) : m_barbicanlaw20_OptThreads n A = Option.some true := by
  unfold m_barbicanlaw20_OptThreads
  rw [known_true]
  simp only [Option.bind_some]
  rw [ct (b := true) rfl]
  by_cases hn : 150 < (n : Int)
  · rw [ct (d_t hn)]
  rw [cf (d_f hn)]
  obtain ⟨r, hr, hc⟩ := check_is n A
  rw [refcheck hc]
  simp only [Option.bind_some]
  by_cases h0 : r.2 = 0
  · obtain ⟨r', hr', hf⟩ := check_fine n A
    rw [hr] at hr'
    cases hr'
    obtain ⟨N, P, h⟩ := hf h0
    obtain ⟨s, hs, hsi⟩ := subs_is n A
    rw [h.subs] at hs
    cases hs
    obtain ⟨M, hM, hd⟩ := h.thread hr h0
    have hcM : m_barbicanref1_Check n M = Option.some (0, 0) := refcheck (.fine N P ((done_alike hd).subs hsi) (h.stays hd))
    obtain ⟨G, hG, hGs⟩ := seconds_spec (show n ≤ 1000000 by omega) A
    rw [hM]
    simp only [Option.bind_some]
    rw [ct (by rw [h0]; rfl), hcM, Option.bind_some, ct (by rfl), ct (e_same (n : Int)), hG]
    simp only [Option.bind_some]
    rw [h.slots hd hGs]
    rfl
  · have hb : (r.2 == 0) = false := by simpa using h0
    have ht : m_opt_Thread n A = Option.some (.e1 r.2) := by
      unfold m_opt_Thread
      rw [hr, Option.bind_some, cf hb]
    rw [ht]
    simp only [Option.bind_some]
    rw [cf hb, ct (e_same r.2)]
end Go.Proofs.Ytkfmmcobmjkilaa

