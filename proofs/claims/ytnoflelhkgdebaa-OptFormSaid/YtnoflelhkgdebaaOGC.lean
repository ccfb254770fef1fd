/-
  The law on the form of trimmed programs, in plain words.
-/
import Derived.Test.YtnoflelhkgdebaaOGB
import Derived.Test.YtnoflelhkgdebaaS1P
import Derived.Test.YtnoflelhkgdebaaOFL
namespace Go.Proofs.Ytnoflelhkgdebaa
open Go.RowKit
set_option linter.unusedVariables false
set_option linter.unusedSimpArgs false
theorem trimmed {n N : Nat} {A : Nat → Insn} {P : Nat → Part} (h : Good n A N P) (hc : m_insn_Check n A = some (0, 0)) : ∃ r G R O, Stay n A N P r G ∧ m_opt_Trim n A = some (.e0 (cnt G n) R (cnt G n) O) ∧ Img n A G R ∧ ∀ k, k < n → G k = true → O (cnt G k) = (k : Int) := by
  obtain ⟨r, hr, hR⟩ := flow_reach h.fine h.pos hc rfl
  obtain ⟨G, R, O, hL, ht, hk⟩ := (trims h.fine hR hc hr).trim
  exact ⟨r, G, R, O, ⟨h, hR, hL⟩, ht, ⟨fun k q1 q2 => (hk k q1 q2).1⟩, fun k q1 q2 => (hk k q1 q2).2⟩
/-- Where all is reached and no Ja goes to the slot behind it all stays. -/
theorem Stay.all {n N : Nat} {A : Nat → Insn} {P : Nat → Part} {r G : Nat → Bool} (h : Stay n A N P r G) (hr : ∀ j, j < n → sec A j = false → r j = true) (hj : ∀ j, j < n → sec A j = false → ((A j).fOp == 5#8) = true → goto A j ≠ j + 1) : ∀ d j, n ≤ j + d → j < n → G j = true
  | 0, j, h1, h2 => by omega
  | d + 1, j, h1, h2 => by
    cases hs : sec A j
    · cases hG : G j
      · exfalso
        obtain ⟨h5, hg⟩ := h.no (hr j h2 hs) hG
        have hj5 := ja_jumps h5
        obtain ⟨g, hP⟩ := h.good.fine.parts
        obtain ⟨i, hi, p1, p2⟩ := part_of hP h2
        obtain ⟨t, et, q1, q2, q3⟩ := h.good.fine.jumpIn hi p1 p2 hs hj5
        have htn : t < n := by have := hP.to hi; omega
        have hne := hj j h2 hs h5
        rw [goto_of et] at hg hne
        unfold goneK at hg
        obtain ⟨g1, g2⟩ := Bool.and_eq_true_iff.1 hg
        have g1 := of_decide_eq_true g1
        have := (noneK_iff G _ _).1 g2 (j + 1) (Nat.le_refl _) (by omega)
        rw [h.all hr hj d (j + 1) (by omega) (by omega)] at this
        cases this
      · rfl
    · obtain ⟨_, i, rfl, hw, hsi⟩ := h.good.fine.sec_op h2 hs
      exact (h.wide (hr i (by omega) hsi) hw).2.2.1
theorem ints_same {n : Nat} {A B : Nat → Int} (hn : n ≤ 100000) (h : ∀ k, k < n → A k = B k) : m_barbicanhelp_Ints n A n B = some true := by
  unfold m_barbicanhelp_Ints
  rw [ct (by simp)]
  obtain ⟨r, h1, h2⟩ := lpO_ind (st := st_barbicanhelp_Ints_L0 n A n B) (fun s => match s with | .c0 y => ∃ k : Nat, y = (k : Int) ∧ k ≤ n) (fun s => match s with | .c0 y => n - y.toNat) (fun _ r => r = .e0) (fun s hs => by
    obtain ⟨y⟩ := s
    obtain ⟨k, rfl, hk⟩ := hs
    by_cases h' : k < n
    · refine .inl ⟨.c0 ((k + 1 : Nat) : Int), ?_, ⟨k + 1, rfl, by omega⟩, by show n - ((k + 1 : Nat) : Int).toNat < n - (k : Int).toNat; omega, fun r hr => hr⟩
      unfold st_barbicanhelp_Ints_L0
      simp only
      rw [ct (d_t (by omega)), ct (inR_nat' h'), ct (inR_nat' h'), Int.toNat_natCast, ct (by rw [h k h']; simp), w_succ (by omega)]
    · refine .inr ⟨_, ?_, rfl⟩
      unfold st_barbicanhelp_Ints_L0
      simp only
      rw [cf (d_f (by omega))]) (.c0 0) ⟨0, rfl, by omega⟩
  rw [h1, h2]
  rfl
theorem insns_same {n : Nat} {A B : Nat → Insn} (hn : n ≤ 100000) (h : ∀ k, k < n → A k = B k) : m_barbicanhelp_Insns n A n B = some true := by
  unfold m_barbicanhelp_Insns
  rw [ct (by simp)]
  obtain ⟨r, h1, h2⟩ := lpO_ind (st := st_barbicanhelp_Insns_L0 n A n B) (fun s => match s with | .c0 y => ∃ k : Nat, y = (k : Int) ∧ k ≤ n) (fun s => match s with | .c0 y => n - y.toNat) (fun _ r => r = .e0) (fun s hs => by
    obtain ⟨y⟩ := s
    obtain ⟨k, rfl, hk⟩ := hs
    by_cases h' : k < n
    · refine .inl ⟨.c0 ((k + 1 : Nat) : Int), ?_, ⟨k + 1, rfl, by omega⟩, by show n - ((k + 1 : Nat) : Int).toNat < n - (k : Int).toNat; omega, fun r hr => hr⟩
      unfold st_barbicanhelp_Insns_L0
      simp only
      rw [ct (d_t (by omega)), ct (inR_nat' h'), ct (inR_nat' h'), Int.toNat_natCast, ct (by rw [h k h']; simp), w_succ (by omega)]
    · refine .inr ⟨_, ?_, rfl⟩
      unfold st_barbicanhelp_Insns_L0
      simp only
      rw [cf (d_f (by omega))]) (.c0 0) ⟨0, rfl, by omega⟩
  rw [h1, h2]
  rfl
/-- Trimmed again it is the same. -/
theorem again {n N : Nat} {A : Nat → Insn} {P : Nat → Part} (h : Good n A N P) (hc : m_insn_Check n A = some (0, 0)) (hr : ∀ R, Reach n A R → ∀ j, j < n → sec A j = false → R j = true) (hj : ∀ j, j < n → sec A j = false → ((A j).fOp == 5#8) = true → goto A j ≠ j + 1) :
    ∃ R O, m_opt_Trim n A = some (.e0 n R n O) ∧ ∀ k, k < n → R k = A k := by
  obtain ⟨r, G, R, O, hS, ht, hI, _⟩ := trimmed h hc
  have hall : ∀ k, k < n → G k = true := fun k hk => hS.all (hr r hS.reach) hj n k (by omega) hk
  have hcn : ∀ k, k ≤ n → cnt G k = k := cnt_all hall
  rw [hcn n (Nat.le_refl _)] at ht
  refine ⟨R, O, ht, fun k hk => ?_⟩
  have := hI.at_ k hk (hall k hk)
  rw [hcn k (by omega)] at this
  rw [this]
  refine fitK_all hall hk fun q => ?_
  obtain ⟨hs, t, e, he, e2⟩ := tgt_edge h.fine hk q
  have := (h.fine.edge hs he).1
  rw [e, e2]
  omega
theorem is0 {x : Insn} (h : x.fOp = 0#8) : m_barbicanref1_Is x 0 = false := by
  unfold m_barbicanref1_Is m_barbicanref1_Class
  rw [h]
  rfl
section
variable {n N : Nat} {A B : Nat → Insn} {P : Nat → Part} {r G : Nat → Bool}
theorem law_loop (h : Stay n A N P r G) (H : Img n A G B) {N' : Nat} {P' : Nat → Part} (hg : Good (cnt G n) B N' P') {O : Nat → Int} (hO : ∀ k, k < n → G k = true → O (cnt G k) = (k : Int)) {R S : Nat → Bool} (hR : Reach (cnt G n) B R) (hS : ∀ k, k < cnt G n → S k = sec B k) {Q : Nat → Part} (hQ : ∀ i, i < N' → Q i = P' i) :
    lpO (st_barbicanlaw20_OptForm_L0 n A (cnt G n) B (cnt G n) O R S N' Q) (.c0 0) = some .e0 := by
  have hm := h.most
  have hmn := cnt_le G n
  obtain ⟨g, _, hP'⟩ := hg.begs
  have hN' : N' ≤ cnt G n := hg.fine.some
  obtain ⟨w, h1, h2⟩ := lpO_ind (st := st_barbicanlaw20_OptForm_L0 n A (cnt G n) B (cnt G n) O R S N' Q) (fun s => match s with | .c0 y => ∃ k : Nat, y = (k : Int) ∧ k ≤ cnt G n) (fun s => match s with | .c0 y => cnt G n - y.toNat) (fun _ r => r = .e0) (fun s hs => by
    obtain ⟨y⟩ := s
    obtain ⟨j, rfl, hj⟩ := hs
    by_cases q : j < cnt G n
    · refine .inl ⟨.c0 ((j + 1 : Nat) : Int), ?_, ⟨j + 1, rfl, by omega⟩, by show cnt G n - ((j + 1 : Nat) : Int).toNat < cnt G n - (j : Int).toNat; omega, fun r hr => hr⟩
      obtain ⟨k, hk, hG, rfl⟩ := cnt_surj G n j q
      have hOk := hO k hk hG
      obtain ⟨o1, o2, o3⟩ := H.op hk hG
      obtain ⟨i, hi, _, _, hof⟩ := of_spec (show cnt G n ≤ 4096 by omega) hP' hN' hQ q
      have rest : (bif (S (cnt G k)) then ((m_barbicanref1_Of N' Q ((cnt G k : Nat) : Int)).bind fun rb0 =>
            bif m_barbicanref1_Is (B (cnt G k)) 0 then (bif (B (cnt G k)).fOff == 0#16 then none else (some (Sum.inl (Sh_barbicanlaw20_OptForm_L0.c0 ((cnt G k + 1 : Nat) : Int)))))
            else (some (Sum.inl (Sh_barbicanlaw20_OptForm_L0.c0 ((cnt G k + 1 : Nat) : Int)))))
          else (bif (R (cnt G k)) then ((m_barbicanref1_Of N' Q ((cnt G k : Nat) : Int)).bind fun rb0 =>
            bif m_barbicanref1_Is (B (cnt G k)) 0 then (bif (B (cnt G k)).fOff == 0#16 then none else (some (Sum.inl (Sh_barbicanlaw20_OptForm_L0.c0 ((cnt G k + 1 : Nat) : Int)))))
            else (some (Sum.inl (Sh_barbicanlaw20_OptForm_L0.c0 ((cnt G k + 1 : Nat) : Int)))))
          else none)) = some (Sum.inl (β := Ex_barbicanlaw20_OptForm_L0) (Sh_barbicanlaw20_OptForm_L0.c0 ((cnt G k + 1 : Nat) : Int))) := by
        rw [hof]
        simp only [Option.bind_some]
        rw [hS _ q]
        cases hs : sec B (cnt G k)
        · rw [cf rfl, ct (H.reached h hR q hs), ja_eq (hg.fine.known q hs)]
          cases h5 : ((B (cnt G k)).fOp == 5#8)
          · rw [cf rfl]
          · rw [ct rfl, cf (H.noja h q hs h5).1]
        · rw [ct rfl, is0 (hg.fine.sec_op q hs).1, cf rfl]
      unfold st_barbicanlaw20_OptForm_L0
      simp only [Int.toNat_natCast, hOk]
      rw [ct (d_t (by omega)), ct (inR_nat' q), cf (d_f (by omega)), cf (d_f (by omega)), w_succ (by omega), ct (inR_nat' hk), ct (b := (A k).fOp == _) (by rw [o1]; simp), ct (b := (A k).fDst == _) (by rw [o2]; simp), ct (b := (A k).fSrc == _) (by rw [o3]; simp)]
      by_cases c : 0 < cnt G k
      · obtain ⟨p, hp, hGp, ep⟩ := cnt_surj G k (cnt G k - 1) (by omega)
        have e1 : IntKind.i64.wrap (((cnt G k : Nat) : Int) - 1) = ((cnt G p : Nat) : Int) := by rw [ep, wr] <;> omega
        have hOp := hO p (by omega) hGp
        simp only [e1, Int.toNat_natCast, hOp]
        rw [ct (d_t (by omega)), ct (inR_nat' (by omega)), cf (d_f (by omega))]
        rw [ct (inR_nat' q), ct (inR_nat' q)]
        exact rest
      · rw [cf (d_f (by omega)), ct (inR_nat' q), ct (inR_nat' q)]
        exact rest
    · refine .inr ⟨_, ?_, rfl⟩
      unfold st_barbicanlaw20_OptForm_L0
      simp only
      rw [cf (d_f (by omega))]) (.c0 0) ⟨0, rfl, by omega⟩
  rw [h1, h2]
end
/-- The row of the first statement. -/
def ex3 : Nat → Insn := fun k => if k = 0 then (⟨5#8, 0#8, 0#8, 0#16, 0#32⟩ : Insn) else if k = 1 then (⟨183#8, 0#8, 0#8, 0#16, 0#32⟩ : Insn) else (⟨149#8, 0#8, 0#8, 0#16, 0#32⟩ : Insn)
theorem ex3_cases {k : Nat} (hk : k < 3) : k = 0 ∨ k = 1 ∨ k = 2 := by omega
theorem ex3_plain : Plain 3 ex3 := by
  refine ⟨by omega, by omega, fun k hk hk' hs => ?_, fun k hk hs => ?_, rfl⟩
  · rcases ex3_cases hk with rfl | rfl | rfl <;> rfl
  · rcases ex3_cases hk with rfl | rfl | rfl <;> rfl
theorem ex3_check : m_insn_Check 3 ex3 = some (0, 0) := by
  refine ex3_plain.check fun p h0 h1 k hk hs => ?_
  unfold badJump
  rcases ex3_cases hk with rfl | rfl | rfl
  · have e : ii (ex3 0).fOff = 0 := rfl
    rw [e, h0, h1, d_f (by omega), d_f (by omega)]
    rfl
  · rfl
  · rfl
theorem ex3_e01 : Edge ex3 0 1 := .inl ⟨rfl, rfl⟩
theorem ex3_e12 : Edge ex3 1 2 := .inr (.inl ⟨rfl, rfl, rfl⟩)
theorem ex3_goto : goto ex3 0 = 1 := rfl
theorem ex3_gone (G : Nat → Bool) : goneK G 0 (goto ex3 0) = true := by rw [ex3_goto]; rfl
theorem ex3_op : ((ex3 2).fOp == 5#8) = false ∧ ((ex3 1).fOp == 5#8) = false ∧ ((ex3 0).fOp == 5#8) = true ∧ ((ex3 1).fOp == 183#8) = true := ⟨rfl, rfl, rfl, rfl⟩
theorem ex3_stays {N : Nat} {P : Nat → Part} {r G : Nat → Bool} (hS : Stay 3 ex3 N P r G) : G 2 = true ∧ G 1 = true ∧ G 0 = false := by
  have r0 := hS.reach.zero
  have r1 : r 1 = true := hS.reach.closed 0 1 r0 ex3_e01
  have r2 : r 2 = true := hS.reach.closed 1 2 r1 ex3_e12
  refine ⟨hS.yes (by omega) (keep1_r r2) ex3_op.1, hS.yes (by omega) (keep1_r r1) ex3_op.2.1, ?_⟩
  rw [hS.last 0 (Nat.zero_le _) (by omega), ex3_gone, ex3_op.2.2.1]
  simp
theorem ex3_cnt {G : Nat → Bool} (g : G 2 = true ∧ G 1 = true ∧ G 0 = false) : cnt G 1 = 0 ∧ cnt G 2 = 1 ∧ cnt G 3 = 2 := by
  have c1 : cnt G 1 = 0 := by show (if G 0 then _ else cnt G 0) = _; rw [g.2.2]; rfl
  have h2 : cnt G 2 = cnt G 1 + 1 := cnt_yes g.2.1
  have h3 : cnt G 3 = cnt G 2 + 1 := cnt_yes g.1
  omega
theorem ex3_trim : ∃ R O, m_opt_Trim 3 ex3 = some (.e0 2 R 2 O) ∧ ((R 0).fOp == 183#8) = true ∧ O 0 = 1 ∧ O 1 = 2 := by
  obtain ⟨N, P, hg⟩ := good_of ex3_check rfl
  obtain ⟨r, G, R, O, hS, ht, hI, hO⟩ := trimmed hg ex3_check
  have g := ex3_stays hS
  obtain ⟨c1, c2, c3⟩ := ex3_cnt g
  have o1 := hO 1 (by omega) g.2.1
  have o2 := hO 2 (by omega) g.1
  have b1 := (hI.op (by omega) g.2.1).1
  rw [c1] at o1 b1
  rw [c2] at o2
  rw [c3] at ht
  exact ⟨R, O, ht, by rw [b1]; exact ex3_op.2.2.2, o1, o2⟩
theorem known_true : m_barbicanlaw20_known = some true := by
  obtain ⟨R, O, ht, hb, o1, o2⟩ := ex3_trim
  have hi : m_barbicanhelp_Ints 2 O 2 (fun k => if k = 0 then 1 else 2) = some true := ints_same (by omega) (fun k hk => by
    rcases (show k = 0 ∨ k = 1 by omega) with rfl | rfl
    · rw [o1]; rfl
    · rw [o2]; rfl)
  unfold m_barbicanlaw20_known
  have ht : m_opt_Trim 3 (fun k => if k = 0 then (⟨5#8, 0#8, 0#8, 0#16, 0#32⟩ : Insn) else if k = 1 then (⟨183#8, 0#8, 0#8, 0#16, 0#32⟩ : Insn) else (⟨149#8, 0#8, 0#8, 0#16, 0#32⟩ : Insn)) = some (.e0 2 R 2 O) := ht
  rw [ht, Option.bind_some]
  show (bif ((2 : Nat) : Int) == 2 then (bif inR 0 2 then (bif (R 0).fOp == 183#8 then ((m_barbicanhelp_Ints 2 O 2 (fun k => if k = 0 then 1 else 2)).bind fun r1 => some r1) else (some false)) else none) else (some false)) = some true
  rw [hi, Option.bind_some, ct hb, ct (show inR 0 2 = true by decide), ct (by rfl)]
theorem e_same : ∀ (x : Int), (x == x) = true := fun x => by simp
/-- The law answers true. -/
theorem optform_true (n : Nat) (A : Nat → Insn) : m_barbicanlaw20_OptForm n A = some true := by
  unfold m_barbicanlaw20_OptForm
  rw [known_true]
  simp only [Option.bind_some]
  rw [ct (b := true) rfl]
  by_cases hn : 150 < (n : Int)
  · rw [ct (d_t hn)]
  rw [cf (d_f hn)]
  obtain ⟨w, hw, hc⟩ := check_is n A
  rw [refcheck hc]
  simp only [Option.bind_some]
  by_cases h0 : w.2 = 0
  · obtain ⟨N, P, hg⟩ := good_of hw h0
    have hw0 : w = (0, 0) := by
      cases hc with
      | subs a e h => exact absurd h0 h.err
      | jump => exact absurd h0 (show ¬ ((15 : Int) = 0) by decide)
      | fine => rfl
    have hw1 : m_insn_Check n A = some (0, 0) := by rw [hw, hw0]
    obtain ⟨r, G, B, O, hS, ht, hI, hO⟩ := trimmed hg hw1
    have hcB := hI.good hS
    obtain ⟨N', P', hgB⟩ := good_of hcB rfl
    have hmn := cnt_le G n
    obtain ⟨w2, hw2, hc2⟩ := check_is (cnt G n) B
    have hz : w2.2 = 0 := by
      rw [hcB] at hw2
      injection hw2 with e
      rw [← e]
    obtain ⟨R, hR1, hR⟩ := ref_reach hgB.fine hgB.pos
    obtain ⟨S, hS1, hS2⟩ := seconds_spec (show cnt G n ≤ 1000000 by omega) B
    obtain ⟨r', hr', hsame⟩ := refsubs hgB.subs
    rw [ht]
    simp only [Option.bind_some]
    rw [ct (by rw [h0]; rfl), refcheck hc2]
    simp only [Option.bind_some]
    rw [ct (by rw [hz]; rfl), cf (d_f (by omega)), ct (e_same _), hR1, Option.bind_some]
    dsimp only
    rw [hS1, Option.bind_some]
    dsimp only
    rw [hr', Option.bind_some]
    rcases r' with ⟨a, e⟩ | ⟨M, Q⟩
    · exact hsame.elim
    · obtain ⟨rfl, hQ⟩ := hsame
      dsimp only
      rw [law_loop hS hI hgB hO hR hS2 hQ, Option.bind_some]
      obtain ⟨R2, O2, ht2, hsm⟩ := again hgB hcB (fun R' hR' j hj hs => hI.reached hS hR' hj hs) (fun j hj hs h5 => (hI.noja hS hj hs h5).2)
      rw [ht2, Option.bind_some]
      dsimp only
      rw [insns_same (by omega) hsm]
      rfl
  · have hb : (w.2 == 0) = false := by simpa using h0
    have ht : m_opt_Trim n A = some (.e1 w.2) := by
      unfold m_opt_Trim
      rw [hw, Option.bind_some, cf hb]
    rw [ht]
    simp only [Option.bind_some]
    rw [cf hb, ct (e_same _)]
end Go.Proofs.Ytnoflelhkgdebaa

