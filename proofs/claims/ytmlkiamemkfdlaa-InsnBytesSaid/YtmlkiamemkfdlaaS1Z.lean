/-
  Instructions: the law InsnBytes, in plain words.
-/
import Derived.Test.YtmlkiamemkfdlaaS1U
namespace Go.Proofs.Ytmlkiamemkfdlaa
open Go.RowKit
set_option linter.unusedVariables false
set_option linter.unusedSimpArgs false
theorem bytes_true {a b : Nat} {E E' : Nat → BitVec 8} (hn : a = b) (h : ∀ k, k < a → E k = E' k) : m_barbicanhelp_Bytes a E b E' = true := by
  unfold m_barbicanhelp_Bytes
  rw [bstr_congr hn h, beq_toListBytes]
  exact beq_self_eq_true _
theorem by8 {n : Nat} {E E' : Nat → BitVec 8} {F : Nat → Nat → BitVec 8} (h : ∀ k, k < n → ∀ i, i < 8 → E (8 * k + i) = F k i) (h' : ∀ k, k < n → ∀ i, i < 8 → E' (8 * k + i) = F k i) : ∀ j, j < 8 * n → E j = E' j := fun j hj => by
  have h1 := h (j / 8) (by omega) (j % 8) (by omega)
  have h2 := h' (j / 8) (by omega) (j % 8) (by omega)
  have e : 8 * (j / 8) + j % 8 = j := by omega
  rw [e] at h1 h2
  rw [h1, h2]
theorem enc_of_dec {n : Nat} (hn : n ≤ 20000) (h8 : n % 8 = 0) {A : Nat → BitVec 8} {D : Nat → Insn} (hD : ∀ k, k < n / 8 → D k = decS (fun i => A (8 * k + i))) : ∃ E, m_insn_Encode (n / 8) D = some (.e0 (8 * (n / 8)) E) ∧ m_barbicanhelp_Bytes (8 * (n / 8)) E n A = true := by
  obtain ⟨E, h1, h2⟩ := enc_spec (show n / 8 ≤ 100000 by omega) D
  refine ⟨E, h1, bytes_true (by omega) (by8 h2 fun k hk i hi => ?_)⟩
  rw [hD k hk, enc_dec _ hi]
theorem zq8 {n : Nat} (hn : n < 1000000000) : (zquo (n : Int) 8).toNat = n / 8 := by
  rw [zq_nat (by omega) (by omega) (by omega)]; omega
theorem dec_of_enc {n : Nat} (hn : n ≤ 2000) {A : Nat → Insn} {E : Nat → BitVec 8} (hE : ∀ k, k < n → ∀ i, i < 8 → E (8 * k + i) = encB (A k) i) (hA : ∀ k, k < n → (A k).fDst.toNat ≤ 15 ∧ (A k).fSrc.toNat ≤ 15) :
    ∃ D, m_insn_Decode_v1 (8 * n) E = some (.e0 D) ∧ m_barbicanhelp_Insns ((zquo ((8 * n : Nat) : Int) 8)).toNat D n A = some true := by
  obtain ⟨D, h1, h2⟩ := dec_spec (show 8 * n ≤ 8000000 by omega) (by omega) E
  refine ⟨D, h1, ?_⟩
  rw [zq8 (by omega), show 8 * n / 8 = n by omega]
  refine insns_loop (by omega) fun k hk => ?_
  rw [h2 k (by omega)]
  have := dec_enc (A k) (hA k hk).1 (hA k hk).2
  rw [← this]
  have e := hE k hk
  show decS _ = decS _
  simp only [decS, e 0 (by omega), e 1 (by omega), e 2 (by omega), e 3 (by omega), e 4 (by omega), e 5 (by omega), e 6 (by omega), e 7 (by omega)]
  try rw [this]
theorem loopv0 {n : Nat} (hn : n ≤ 2000) (A : Nat → Insn) : (lpO (st_barbicanlaw1_InsnBytes_L0 n A) (.c0 0) = some .e0 ∧ ∀ k, k < n → (A k).fDst.toNat ≤ 15 ∧ (A k).fSrc.toNat ≤ 15) ∨ lpO (st_barbicanlaw1_InsnBytes_L0 n A) (.c0 0) = some .e1 := by
  have key : ∃ r, lpO (st_barbicanlaw1_InsnBytes_L0 n A) (.c0 0) = some r ∧ ((r = .e0 ∧ ∀ k, k < n → (A k).fDst.toNat ≤ 15 ∧ (A k).fSrc.toNat ≤ 15) ∨ r = .e1) := by
    refine lpO_ind (st := st_barbicanlaw1_InsnBytes_L0 n A) (fun s => match s with | .c0 x => ∃ k : Nat, x = (k : Int) ∧ k ≤ n ∧ ∀ k', k' < k → (A k').fDst.toNat ≤ 15 ∧ (A k').fSrc.toNat ≤ 15) (fun s => match s with | .c0 x => n - x.toNat)
      (fun _ r => (r = .e0 ∧ ∀ k, k < n → (A k).fDst.toNat ≤ 15 ∧ (A k).fSrc.toNat ≤ 15) ∨ r = .e1) ?_ _ ⟨0, rfl, by omega, fun k hk => by omega⟩
    rintro ⟨x⟩ ⟨k, rfl, hk, hA⟩
    by_cases h : k < n
    · have e2 : IntKind.i64.wrap ((k : Int) + 1) = ((k + 1 : Nat) : Int) := by rw [wz] <;> omega
      cases hd : BitVec.ult 15#8 (A k).fDst
      · cases hs : BitVec.ult 15#8 (A k).fSrc
        · refine .inl ⟨.c0 ((k + 1 : Nat) : Int), ?_, ⟨k + 1, rfl, by omega, fun k' hk' => ?_⟩, by show n - ((k + 1 : Nat) : Int).toNat < n - (k : Int).toNat; omega, fun r hr => hr⟩
          · unfold st_barbicanlaw1_InsnBytes_L0
            dsimp only
            rw [bd_t (by omega), bi_t (by omega), Int.toNat_natCast, hd, b_f, hs, b_f, e2]
          · by_cases c : k' = k
            · subst c
              have h1 := BitVec.ult_eq_decide (x := 15#8) (y := (A k').fDst)
              have h2 := BitVec.ult_eq_decide (x := 15#8) (y := (A k').fSrc)
              rw [hd] at h1
              rw [hs] at h2
              have h3 := of_decide_eq_false h1.symm
              have h4 := of_decide_eq_false h2.symm
              simp only [BitVec.toNat_ofNat] at h3 h4
              omega
            · exact hA k' (by omega)
        · refine .inr ⟨.e1, ?_, .inr rfl⟩
          unfold st_barbicanlaw1_InsnBytes_L0
          dsimp only
          rw [bd_t (by omega), bi_t (by omega), Int.toNat_natCast, hd, b_f, hs, b_t]
      · refine .inr ⟨.e1, ?_, .inr rfl⟩
        unfold st_barbicanlaw1_InsnBytes_L0
        dsimp only
        rw [bd_t (by omega), bi_t (by omega), Int.toNat_natCast, hd, b_t]
    · obtain rfl : k = n := by omega
      refine .inr ⟨.e0, ?_, .inl ⟨rfl, hA⟩⟩
      unfold st_barbicanlaw1_InsnBytes_L0
      dsimp only
      rw [bd_f (by omega)]
  obtain ⟨r, hr, ⟨rfl, h⟩ | rfl⟩ := key
  · exact .inl ⟨hr, h⟩
  · exact .inr hr
theorem loopv1 {n : Nat} (hn : n ≤ 2000) (A : Nat → Insn) : (lpO (st_barbicanlaw1_InsnBytes_L0v1 n A) (.c0 0) = some .e0 ∧ ∀ k, k < n → (A k).fDst.toNat ≤ 15 ∧ (A k).fSrc.toNat ≤ 15) ∨ lpO (st_barbicanlaw1_InsnBytes_L0v1 n A) (.c0 0) = some .e1 := by
  have key : ∃ r, lpO (st_barbicanlaw1_InsnBytes_L0v1 n A) (.c0 0) = some r ∧ ((r = .e0 ∧ ∀ k, k < n → (A k).fDst.toNat ≤ 15 ∧ (A k).fSrc.toNat ≤ 15) ∨ r = .e1) := by
    refine lpO_ind (st := st_barbicanlaw1_InsnBytes_L0v1 n A) (fun s => match s with | .c0 x => ∃ k : Nat, x = (k : Int) ∧ k ≤ n ∧ ∀ k', k' < k → (A k').fDst.toNat ≤ 15 ∧ (A k').fSrc.toNat ≤ 15) (fun s => match s with | .c0 x => n - x.toNat)
      (fun _ r => (r = .e0 ∧ ∀ k, k < n → (A k).fDst.toNat ≤ 15 ∧ (A k).fSrc.toNat ≤ 15) ∨ r = .e1) ?_ _ ⟨0, rfl, by omega, fun k hk => by omega⟩
    rintro ⟨x⟩ ⟨k, rfl, hk, hA⟩
    by_cases h : k < n
    · have e2 : IntKind.i64.wrap ((k : Int) + 1) = ((k + 1 : Nat) : Int) := by rw [wz] <;> omega
      cases hd : BitVec.ult 15#8 (A k).fDst
      · cases hs : BitVec.ult 15#8 (A k).fSrc
        · refine .inl ⟨.c0 ((k + 1 : Nat) : Int), ?_, ⟨k + 1, rfl, by omega, fun k' hk' => ?_⟩, by show n - ((k + 1 : Nat) : Int).toNat < n - (k : Int).toNat; omega, fun r hr => hr⟩
          · unfold st_barbicanlaw1_InsnBytes_L0v1
            dsimp only
            rw [bd_t (by omega), bi_t (by omega), Int.toNat_natCast, hd, b_f, hs, b_f, e2]
          · by_cases c : k' = k
            · subst c
              have h1 := BitVec.ult_eq_decide (x := 15#8) (y := (A k').fDst)
              have h2 := BitVec.ult_eq_decide (x := 15#8) (y := (A k').fSrc)
              rw [hd] at h1
              rw [hs] at h2
              have h3 := of_decide_eq_false h1.symm
              have h4 := of_decide_eq_false h2.symm
              simp only [BitVec.toNat_ofNat] at h3 h4
              omega
            · exact hA k' (by omega)
        · refine .inr ⟨.e1, ?_, .inr rfl⟩
          unfold st_barbicanlaw1_InsnBytes_L0v1
          dsimp only
          rw [bd_t (by omega), bi_t (by omega), Int.toNat_natCast, hd, b_f, hs, b_t]
      · refine .inr ⟨.e1, ?_, .inr rfl⟩
        unfold st_barbicanlaw1_InsnBytes_L0v1
        dsimp only
        rw [bd_t (by omega), bi_t (by omega), Int.toNat_natCast, hd, b_t]
    · obtain rfl : k = n := by omega
      refine .inr ⟨.e0, ?_, .inl ⟨rfl, hA⟩⟩
      unfold st_barbicanlaw1_InsnBytes_L0v1
      dsimp only
      rw [bd_f (by omega)]
  obtain ⟨r, hr, ⟨rfl, h⟩ | rfl⟩ := key
  · exact .inl ⟨hr, h⟩
  · exact .inr hr
theorem loopv2 {n : Nat} (hn : n ≤ 2000) (A : Nat → Insn) : (lpO (st_barbicanlaw1_InsnBytes_L0v2 n A) (.c0 0) = some .e0 ∧ ∀ k, k < n → (A k).fDst.toNat ≤ 15 ∧ (A k).fSrc.toNat ≤ 15) ∨ lpO (st_barbicanlaw1_InsnBytes_L0v2 n A) (.c0 0) = some .e1 := by
  have key : ∃ r, lpO (st_barbicanlaw1_InsnBytes_L0v2 n A) (.c0 0) = some r ∧ ((r = .e0 ∧ ∀ k, k < n → (A k).fDst.toNat ≤ 15 ∧ (A k).fSrc.toNat ≤ 15) ∨ r = .e1) := by
    refine lpO_ind (st := st_barbicanlaw1_InsnBytes_L0v2 n A) (fun s => match s with | .c0 x => ∃ k : Nat, x = (k : Int) ∧ k ≤ n ∧ ∀ k', k' < k → (A k').fDst.toNat ≤ 15 ∧ (A k').fSrc.toNat ≤ 15) (fun s => match s with | .c0 x => n - x.toNat)
      (fun _ r => (r = .e0 ∧ ∀ k, k < n → (A k).fDst.toNat ≤ 15 ∧ (A k).fSrc.toNat ≤ 15) ∨ r = .e1) ?_ _ ⟨0, rfl, by omega, fun k hk => by omega⟩
    rintro ⟨x⟩ ⟨k, rfl, hk, hA⟩
    by_cases h : k < n
    · have e2 : IntKind.i64.wrap ((k : Int) + 1) = ((k + 1 : Nat) : Int) := by rw [wz] <;> omega
      cases hd : BitVec.ult 15#8 (A k).fDst
      · cases hs : BitVec.ult 15#8 (A k).fSrc
        · refine .inl ⟨.c0 ((k + 1 : Nat) : Int), ?_, ⟨k + 1, rfl, by omega, fun k' hk' => ?_⟩, by show n - ((k + 1 : Nat) : Int).toNat < n - (k : Int).toNat; omega, fun r hr => hr⟩
          · unfold st_barbicanlaw1_InsnBytes_L0v2
            dsimp only
            rw [bd_t (by omega), bi_t (by omega), Int.toNat_natCast, hd, b_f, hs, b_f, e2]
          · by_cases c : k' = k
            · subst c
              have h1 := BitVec.ult_eq_decide (x := 15#8) (y := (A k').fDst)
              have h2 := BitVec.ult_eq_decide (x := 15#8) (y := (A k').fSrc)
              rw [hd] at h1
              rw [hs] at h2
              have h3 := of_decide_eq_false h1.symm
              have h4 := of_decide_eq_false h2.symm
              simp only [BitVec.toNat_ofNat] at h3 h4
              omega
            · exact hA k' (by omega)
        · refine .inr ⟨.e1, ?_, .inr rfl⟩
          unfold st_barbicanlaw1_InsnBytes_L0v2
          dsimp only
          rw [bd_t (by omega), bi_t (by omega), Int.toNat_natCast, hd, b_f, hs, b_t]
      · refine .inr ⟨.e1, ?_, .inr rfl⟩
        unfold st_barbicanlaw1_InsnBytes_L0v2
        dsimp only
        rw [bd_t (by omega), bi_t (by omega), Int.toNat_natCast, hd, b_t]
    · obtain rfl : k = n := by omega
      refine .inr ⟨.e0, ?_, .inl ⟨rfl, hA⟩⟩
      unfold st_barbicanlaw1_InsnBytes_L0v2
      dsimp only
      rw [bd_f (by omega)]
  obtain ⟨r, hr, ⟨rfl, h⟩ | rfl⟩ := key
  · exact .inl ⟨hr, h⟩
  · exact .inr hr
theorem loopv3 {n : Nat} (hn : n ≤ 2000) (A : Nat → Insn) : (lpO (st_barbicanlaw1_InsnBytes_L0v3 n A) (.c0 0) = some .e0 ∧ ∀ k, k < n → (A k).fDst.toNat ≤ 15 ∧ (A k).fSrc.toNat ≤ 15) ∨ lpO (st_barbicanlaw1_InsnBytes_L0v3 n A) (.c0 0) = some .e1 := by
  have key : ∃ r, lpO (st_barbicanlaw1_InsnBytes_L0v3 n A) (.c0 0) = some r ∧ ((r = .e0 ∧ ∀ k, k < n → (A k).fDst.toNat ≤ 15 ∧ (A k).fSrc.toNat ≤ 15) ∨ r = .e1) := by
    refine lpO_ind (st := st_barbicanlaw1_InsnBytes_L0v3 n A) (fun s => match s with | .c0 x => ∃ k : Nat, x = (k : Int) ∧ k ≤ n ∧ ∀ k', k' < k → (A k').fDst.toNat ≤ 15 ∧ (A k').fSrc.toNat ≤ 15) (fun s => match s with | .c0 x => n - x.toNat)
      (fun _ r => (r = .e0 ∧ ∀ k, k < n → (A k).fDst.toNat ≤ 15 ∧ (A k).fSrc.toNat ≤ 15) ∨ r = .e1) ?_ _ ⟨0, rfl, by omega, fun k hk => by omega⟩
    rintro ⟨x⟩ ⟨k, rfl, hk, hA⟩
    by_cases h : k < n
    · have e2 : IntKind.i64.wrap ((k : Int) + 1) = ((k + 1 : Nat) : Int) := by rw [wz] <;> omega
      cases hd : BitVec.ult 15#8 (A k).fDst
      · cases hs : BitVec.ult 15#8 (A k).fSrc
        · refine .inl ⟨.c0 ((k + 1 : Nat) : Int), ?_, ⟨k + 1, rfl, by omega, fun k' hk' => ?_⟩, by show n - ((k + 1 : Nat) : Int).toNat < n - (k : Int).toNat; omega, fun r hr => hr⟩
          · unfold st_barbicanlaw1_InsnBytes_L0v3
            dsimp only
            rw [bd_t (by omega), bi_t (by omega), Int.toNat_natCast, hd, b_f, hs, b_f, e2]
          · by_cases c : k' = k
            · subst c
              have h1 := BitVec.ult_eq_decide (x := 15#8) (y := (A k').fDst)
              have h2 := BitVec.ult_eq_decide (x := 15#8) (y := (A k').fSrc)
              rw [hd] at h1
              rw [hs] at h2
              have h3 := of_decide_eq_false h1.symm
              have h4 := of_decide_eq_false h2.symm
              simp only [BitVec.toNat_ofNat] at h3 h4
              omega
            · exact hA k' (by omega)
        · refine .inr ⟨.e1, ?_, .inr rfl⟩
          unfold st_barbicanlaw1_InsnBytes_L0v3
          dsimp only
          rw [bd_t (by omega), bi_t (by omega), Int.toNat_natCast, hd, b_f, hs, b_t]
      · refine .inr ⟨.e1, ?_, .inr rfl⟩
        unfold st_barbicanlaw1_InsnBytes_L0v3
        dsimp only
        rw [bd_t (by omega), bi_t (by omega), Int.toNat_natCast, hd, b_t]
    · obtain rfl : k = n := by omega
      refine .inr ⟨.e0, ?_, .inl ⟨rfl, hA⟩⟩
      unfold st_barbicanlaw1_InsnBytes_L0v3
      dsimp only
      rw [bd_f (by omega)]
  obtain ⟨r, hr, ⟨rfl, h⟩ | rfl⟩ := key
  · exact .inl ⟨hr, h⟩
  · exact .inr hr
theorem loopv4 {n : Nat} (hn : n ≤ 2000) (A : Nat → Insn) : (lpO (st_barbicanlaw1_InsnBytes_L0v4 n A) (.c0 0) = some .e0 ∧ ∀ k, k < n → (A k).fDst.toNat ≤ 15 ∧ (A k).fSrc.toNat ≤ 15) ∨ lpO (st_barbicanlaw1_InsnBytes_L0v4 n A) (.c0 0) = some .e1 := by
  have key : ∃ r, lpO (st_barbicanlaw1_InsnBytes_L0v4 n A) (.c0 0) = some r ∧ ((r = .e0 ∧ ∀ k, k < n → (A k).fDst.toNat ≤ 15 ∧ (A k).fSrc.toNat ≤ 15) ∨ r = .e1) := by
    refine lpO_ind (st := st_barbicanlaw1_InsnBytes_L0v4 n A) (fun s => match s with | .c0 x => ∃ k : Nat, x = (k : Int) ∧ k ≤ n ∧ ∀ k', k' < k → (A k').fDst.toNat ≤ 15 ∧ (A k').fSrc.toNat ≤ 15) (fun s => match s with | .c0 x => n - x.toNat)
      (fun _ r => (r = .e0 ∧ ∀ k, k < n → (A k).fDst.toNat ≤ 15 ∧ (A k).fSrc.toNat ≤ 15) ∨ r = .e1) ?_ _ ⟨0, rfl, by omega, fun k hk => by omega⟩
    rintro ⟨x⟩ ⟨k, rfl, hk, hA⟩
    by_cases h : k < n
    · have e2 : IntKind.i64.wrap ((k : Int) + 1) = ((k + 1 : Nat) : Int) := by rw [wz] <;> omega
      cases hd : BitVec.ult 15#8 (A k).fDst
      · cases hs : BitVec.ult 15#8 (A k).fSrc
        · refine .inl ⟨.c0 ((k + 1 : Nat) : Int), ?_, ⟨k + 1, rfl, by omega, fun k' hk' => ?_⟩, by show n - ((k + 1 : Nat) : Int).toNat < n - (k : Int).toNat; omega, fun r hr => hr⟩
          · unfold st_barbicanlaw1_InsnBytes_L0v4
            dsimp only
            rw [bd_t (by omega), bi_t (by omega), Int.toNat_natCast, hd, b_f, hs, b_f, e2]
          · by_cases c : k' = k
            · subst c
              have h1 := BitVec.ult_eq_decide (x := 15#8) (y := (A k').fDst)
              have h2 := BitVec.ult_eq_decide (x := 15#8) (y := (A k').fSrc)
              rw [hd] at h1
              rw [hs] at h2
              have h3 := of_decide_eq_false h1.symm
              have h4 := of_decide_eq_false h2.symm
              simp only [BitVec.toNat_ofNat] at h3 h4
              omega
            · exact hA k' (by omega)
        · refine .inr ⟨.e1, ?_, .inr rfl⟩
          unfold st_barbicanlaw1_InsnBytes_L0v4
          dsimp only
          rw [bd_t (by omega), bi_t (by omega), Int.toNat_natCast, hd, b_f, hs, b_t]
      · refine .inr ⟨.e1, ?_, .inr rfl⟩
        unfold st_barbicanlaw1_InsnBytes_L0v4
        dsimp only
        rw [bd_t (by omega), bi_t (by omega), Int.toNat_natCast, hd, b_t]
    · obtain rfl : k = n := by omega
      refine .inr ⟨.e0, ?_, .inl ⟨rfl, hA⟩⟩
      unfold st_barbicanlaw1_InsnBytes_L0v4
      dsimp only
      rw [bd_f (by omega)]
  obtain ⟨r, hr, ⟨rfl, h⟩ | rfl⟩ := key
  · exact .inl ⟨hr, h⟩
  · exact .inr hr
theorem loopv5 {n : Nat} (hn : n ≤ 2000) (A : Nat → Insn) : (lpO (st_barbicanlaw1_InsnBytes_L0v5 n A) (.c0 0) = some .e0 ∧ ∀ k, k < n → (A k).fDst.toNat ≤ 15 ∧ (A k).fSrc.toNat ≤ 15) ∨ lpO (st_barbicanlaw1_InsnBytes_L0v5 n A) (.c0 0) = some .e1 := by
  have key : ∃ r, lpO (st_barbicanlaw1_InsnBytes_L0v5 n A) (.c0 0) = some r ∧ ((r = .e0 ∧ ∀ k, k < n → (A k).fDst.toNat ≤ 15 ∧ (A k).fSrc.toNat ≤ 15) ∨ r = .e1) := by
    refine lpO_ind (st := st_barbicanlaw1_InsnBytes_L0v5 n A) (fun s => match s with | .c0 x => ∃ k : Nat, x = (k : Int) ∧ k ≤ n ∧ ∀ k', k' < k → (A k').fDst.toNat ≤ 15 ∧ (A k').fSrc.toNat ≤ 15) (fun s => match s with | .c0 x => n - x.toNat)
      (fun _ r => (r = .e0 ∧ ∀ k, k < n → (A k).fDst.toNat ≤ 15 ∧ (A k).fSrc.toNat ≤ 15) ∨ r = .e1) ?_ _ ⟨0, rfl, by omega, fun k hk => by omega⟩
    rintro ⟨x⟩ ⟨k, rfl, hk, hA⟩
    by_cases h : k < n
    · have e2 : IntKind.i64.wrap ((k : Int) + 1) = ((k + 1 : Nat) : Int) := by rw [wz] <;> omega
      cases hd : BitVec.ult 15#8 (A k).fDst
      · cases hs : BitVec.ult 15#8 (A k).fSrc
        · refine .inl ⟨.c0 ((k + 1 : Nat) : Int), ?_, ⟨k + 1, rfl, by omega, fun k' hk' => ?_⟩, by show n - ((k + 1 : Nat) : Int).toNat < n - (k : Int).toNat; omega, fun r hr => hr⟩
          · unfold st_barbicanlaw1_InsnBytes_L0v5
            dsimp only
            rw [bd_t (by omega), bi_t (by omega), Int.toNat_natCast, hd, b_f, hs, b_f, e2]
          · by_cases c : k' = k
            · subst c
              have h1 := BitVec.ult_eq_decide (x := 15#8) (y := (A k').fDst)
              have h2 := BitVec.ult_eq_decide (x := 15#8) (y := (A k').fSrc)
              rw [hd] at h1
              rw [hs] at h2
              have h3 := of_decide_eq_false h1.symm
              have h4 := of_decide_eq_false h2.symm
              simp only [BitVec.toNat_ofNat] at h3 h4
              omega
            · exact hA k' (by omega)
        · refine .inr ⟨.e1, ?_, .inr rfl⟩
          unfold st_barbicanlaw1_InsnBytes_L0v5
          dsimp only
          rw [bd_t (by omega), bi_t (by omega), Int.toNat_natCast, hd, b_f, hs, b_t]
      · refine .inr ⟨.e1, ?_, .inr rfl⟩
        unfold st_barbicanlaw1_InsnBytes_L0v5
        dsimp only
        rw [bd_t (by omega), bi_t (by omega), Int.toNat_natCast, hd, b_t]
    · obtain rfl : k = n := by omega
      refine .inr ⟨.e0, ?_, .inl ⟨rfl, hA⟩⟩
      unfold st_barbicanlaw1_InsnBytes_L0v5
      dsimp only
      rw [bd_f (by omega)]
  obtain ⟨r, hr, ⟨rfl, h⟩ | rfl⟩ := key
  · exact .inl ⟨hr, h⟩
  · exact .inr hr
theorem insnbytes_true (n0 n1 : Nat) (A0 : Nat → Insn) (A1 : Nat → BitVec 8) : m_barbicanlaw1_InsnBytes n0 A0 n1 A1 = some true := by
  unfold m_barbicanlaw1_InsnBytes
  by_cases c0 : 2000 < n0
  · rw [bd_t (by omega)]
  rw [bd_f (by omega)]
  by_cases c1 : 20000 < n1
  · rw [bd_t (by omega)]
  rw [bd_f (by omega)]
  obtain ⟨E, hE, hB⟩ := enc_spec (show n0 ≤ 100000 by omega) A0
  rw [hE]
  simp only [bs_]
  rcases refenc_spec (show n0 ≤ 100000 by omega) A0 with ⟨hn0, hr⟩ | ⟨hn0, F, hr, hF⟩
  · rw [hr]
    simp only [bs_]
    rw [bytes_true (by omega) (fun k hk => by omega), b_t]
    by_cases c8 : n1 % 8 = 0
    · obtain ⟨D, hD, hd⟩ := dec_spec (show n1 ≤ 8000000 by omega) c8 A1
      obtain ⟨G, hG, hg⟩ := enc_of_dec (by omega) c8 hd
      rw [hD]
      simp only [bs_]
      rcases refdec_spec (show n1 ≤ 8000000 by omega) c8 A1 with ⟨hn1, hq⟩ | ⟨hn1, D', hq, hd'⟩
      · rw [hq]
        simp only [bs_]
        rw [bz_t rfl, zq8 (by omega)]
        rw [show n1 / 8 = 0 by omega, insns_loop (by omega) (fun k hk => by omega)]
        simp only [bs_]
        rw [b_t]
        rw [show n1 / 8 = 0 by omega] at hG hg
        rw [hG]
        simp only [bs_]
        rw [hg, b_t]
        rcases loopv0 (show n0 ≤ 2000 by omega) A0 with ⟨hl, hA⟩ | hl
        · obtain ⟨Z, hZ, hz⟩ := dec_of_enc (by omega) hB hA
          rw [hl]
          simp only [bs_]
          rw [hZ]
          simp only [bs_]
          rw [hz]
          rfl
        · rw [hl]
          rfl
      · rw [hq]
        simp only [bs_]
        rw [zq8 (by omega), insns_loop (by omega) (fun k hk => by rw [hd k hk, hd' k hk])]
        simp only [bs_]
        rw [b_t, hG]
        simp only [bs_]
        rw [hg, b_t]
        rcases loopv1 (show n0 ≤ 2000 by omega) A0 with ⟨hl, hA⟩ | hl
        · obtain ⟨Z, hZ, hz⟩ := dec_of_enc (by omega) hB hA
          rw [hl]
          simp only [bs_]
          rw [hZ]
          simp only [bs_]
          rw [hz]
          rfl
        · rw [hl]
          rfl
    · rw [dec_no c8, refdec_no c8]
      simp only [bs_]
      rw [bz_t rfl, insns_loop (by omega) (fun k hk => by omega)]
      simp only [bs_]
      rw [b_t]
      rcases loopv2 (show n0 ≤ 2000 by omega) A0 with ⟨hl, hA⟩ | hl
      · obtain ⟨Z, hZ, hz⟩ := dec_of_enc (by omega) hB hA
        rw [hl]
        simp only [bs_]
        rw [hZ]
        simp only [bs_]
        rw [hz]
        rfl
      · rw [hl]
        rfl
  · rw [hr]
    simp only [bs_]
    rw [bytes_true rfl (by8 hB hF), b_t]
    by_cases c8 : n1 % 8 = 0
    · obtain ⟨D, hD, hd⟩ := dec_spec (show n1 ≤ 8000000 by omega) c8 A1
      obtain ⟨G, hG, hg⟩ := enc_of_dec (by omega) c8 hd
      rw [hD]
      simp only [bs_]
      rcases refdec_spec (show n1 ≤ 8000000 by omega) c8 A1 with ⟨hn1, hq⟩ | ⟨hn1, D', hq, hd'⟩
      · rw [hq]
        simp only [bs_]
        rw [bz_t rfl, zq8 (by omega)]
        rw [show n1 / 8 = 0 by omega, insns_loop (by omega) (fun k hk => by omega)]
        simp only [bs_]
        rw [b_t]
        rw [show n1 / 8 = 0 by omega] at hG hg
        rw [hG]
        simp only [bs_]
        rw [hg, b_t]
        rcases loopv3 (show n0 ≤ 2000 by omega) A0 with ⟨hl, hA⟩ | hl
        · obtain ⟨Z, hZ, hz⟩ := dec_of_enc (by omega) hB hA
          rw [hl]
          simp only [bs_]
          rw [hZ]
          simp only [bs_]
          rw [hz]
          rfl
        · rw [hl]
          rfl
      · rw [hq]
        simp only [bs_]
        rw [zq8 (by omega), insns_loop (by omega) (fun k hk => by rw [hd k hk, hd' k hk])]
        simp only [bs_]
        rw [b_t, hG]
        simp only [bs_]
        rw [hg, b_t]
        rcases loopv4 (show n0 ≤ 2000 by omega) A0 with ⟨hl, hA⟩ | hl
        · obtain ⟨Z, hZ, hz⟩ := dec_of_enc (by omega) hB hA
          rw [hl]
          simp only [bs_]
          rw [hZ]
          simp only [bs_]
          rw [hz]
          rfl
        · rw [hl]
          rfl
    · rw [dec_no c8, refdec_no c8]
      simp only [bs_]
      rw [bz_t rfl, insns_loop (by omega) (fun k hk => by omega)]
      simp only [bs_]
      rw [b_t]
      rcases loopv5 (show n0 ≤ 2000 by omega) A0 with ⟨hl, hA⟩ | hl
      · obtain ⟨Z, hZ, hz⟩ := dec_of_enc (by omega) hB hA
        rw [hl]
        simp only [bs_]
        rw [hZ]
        simp only [bs_]
        rw [hz]
        rfl
      · rw [hl]
        rfl
end Go.Proofs.Ytmlkiamemkfdlaa
