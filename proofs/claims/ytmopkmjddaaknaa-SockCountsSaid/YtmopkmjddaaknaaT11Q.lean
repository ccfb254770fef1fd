/-
  Sockets' counts: what is taken and dropped, in plain words.
-/
import Derived.Test.YtmopkmjddaaknaaT11Y
import Derived.Test.YtmopkmjddaaknaaRxJ
namespace Go.Proofs.Ytmopkmjddaaknaa
open Go.RowKit
set_option linter.unusedVariables false
set_option linter.unusedSimpArgs false
/-- The sockets that the law makes: n rows of 20 bytes. -/
theorem rows_ready {y0 : Int} (h1 : 1 ≤ y0) (h2 : y0 ≤ 16) : ∃ r, lpO (st_barbicanlaw11_SockCounts_L0 y0) (.c0) = some r ∧ ∃ D, r = .e1 y0.toNat D ∧ ∀ k, k < y0.toNat → (D k).1 = 20 := by
  refine lpO_ind (st := st_barbicanlaw11_SockCounts_L0 y0) (fun s => match s with | .c0 => True | .c1 N D i => (N : Int) = i ∧ 1 ≤ i ∧ i ≤ y0 ∧ ∀ k, k < N → (D k).1 = 20) (fun s => match s with | .c0 => 100 | .c1 N _ _ => 50 - N) (fun _ r => ∃ D, r = .e1 y0.toNat D ∧ ∀ k, k < y0.toNat → (D k).1 = 20) ?_ _ trivial
  intro s hI
  cases s with
  | c0 =>
    refine .inl ⟨.c1 1 _ 1, by simp only [st_barbicanlaw11_SockCounts_L0]; rw [bd_t (by omega)], ⟨rfl, by omega, by omega, fun k hk => rfl⟩, by show 50 - 1 < 100; omega, fun r h => h⟩
  | c1 N D i =>
    obtain ⟨e, hi, hy, hD⟩ := hI
    by_cases hlt : i < y0
    · have ew : IntKind.i64.wrap (i + 1) = i + 1 := wz ⟨by omega, by omega⟩
      refine .inl ⟨.c1 (N + 1) (updF D N _) (IntKind.i64.wrap (i + 1)), by simp only [st_barbicanlaw11_SockCounts_L0]; rw [bd_t hlt, bd_t (by omega)], ⟨by rw [ew]; omega, by rw [ew]; omega, by rw [ew]; omega, fun k hk => ?_⟩, by show 50 - (N + 1) < 50 - N; omega, fun r h => h⟩
      by_cases hkN : k = N
      · rw [hkN, updF_at]
      · rw [updF_ne _ _ hkN]
        exact hD k (by omega)
    · obtain rfl : N = y0.toNat := by omega
      exact .inr ⟨.e1 y0.toNat D, by simp only [st_barbicanlaw11_SockCounts_L0]; rw [bd_f hlt], D, rfl, hD⟩
theorem begin_eq {n m : Nat} {C : Nat → Int} {X} (h : n ≤ 1000000) : m_sock_counting_begin_v3 n m C X = some (.e0 (updF C n 1) (IntKind.i64.wrap (((n + 1) : Int) - 1))) := by
  unfold m_sock_counting_begin_v3
  rw [bd_t h]
theorem table_ready {N : Nat} {D : Nat → Nat × (Nat → BitVec 8)} (h1 : 1 ≤ N) (h2 : N ≤ 16) (hD : ∀ k, k < N → (D k).1 = 20) : ∃ C X, m_sock_NewTable_v1 N D = some (.e2 N C N X) ∧ ∀ k, k < N → C k = 1 := by
  have hl : ∃ r, lpO (st_sock_NewTable_v1_L0 N D) (.c0) = some r ∧ ∃ C X, r = .e1 N C N X ∧ ∀ k, k < N → C k = 1 := by
    refine lpO_ind (st := st_sock_NewTable_v1_L0 N D) (fun s => match s with | .c0 => True | .c1 a C b X i => (a : Int) = i ∧ b = a ∧ 1 ≤ i ∧ i ≤ N ∧ ∀ k, k < a → C k = 1) (fun s => match s with | .c0 => 100 | .c1 a _ _ _ _ => 50 - a) (fun _ r => ∃ C X, r = .e1 N C N X ∧ ∀ k, k < N → C k = 1) ?_ _ trivial
    intro s hI
    cases s with
    | c0 =>
      have e0 := hD 0 (by omega)
      refine .inl ⟨.c1 1 (fun _ => 1) 1 _ 1, by simp only [st_sock_NewTable_v1_L0]; rw [bd_t (by omega), bi_t (by omega), bz_t (by omega), bd_t (by omega)], ⟨rfl, rfl, by omega, by omega, fun k hk => rfl⟩, by show 50 - 1 < 100; omega, fun r h => h⟩
    | c1 a C b X i =>
      obtain ⟨e, rfl, hi, hy, hC⟩ := hI
      by_cases hlt : i < (N : Int)
      · have e0 := hD i.toNat (by omega)
        have ew : IntKind.i64.wrap (i + 1) = i + 1 := wz ⟨by omega, by omega⟩
        refine .inl ⟨.c1 (b + 1) (updF C b 1) (b + 1) _ (IntKind.i64.wrap (i + 1)), by simp only [st_sock_NewTable_v1_L0]; rw [bd_t hlt, bi_t (by omega), bz_t (by omega), bd_t (by omega), bd_t (by omega), bt_, begin_eq (by omega)]; rfl, ⟨by rw [ew]; omega, rfl, by rw [ew]; omega, by rw [ew]; omega, fun k hk => ?_⟩, by show 50 - (b + 1) < 50 - b; omega, fun r h => h⟩
        unfold updF
        split
        · rfl
        · exact hC k (by omega)
      · obtain rfl : b = N := by omega
        exact .inr ⟨.e1 b C b X, by simp only [st_sock_NewTable_v1_L0]; rw [bd_f hlt], C, X, rfl, hC⟩
  obtain ⟨r, hr, C, X, rfl, hC⟩ := hl
  refine ⟨C, X, ?_, hC⟩
  unfold m_sock_NewTable_v1
  rw [bd_f (by omega), hr]
  rfl
section
variable {N m : Nat} {C : Nat → Int} {X : Nat → Arr73} {k : Int}
theorem take_eq (hk : 0 ≤ k ∧ k < N) (h0 : 1 ≤ C k.toNat) : m_sock_Table_Take_v2 k N m C X = some (.e0 (updF C k.toNat (IntKind.i64.wrap (C k.toNat + 1))) 0) := by
  have e1 : m_sock_counting_counted_v7 k N m C X = some (.e0 (C k.toNat)) := by
    unfold m_sock_counting_counted_v7
    rw [bd_f (by omega), bd_f (by omega), bi_t hk]
  have e2 : m_sock_counting_change_v3 k 1 N m C X = some (.e0 (updF C k.toNat (IntKind.i64.wrap (C k.toNat + 1)))) := by
    unfold m_sock_counting_change_v3
    rw [bi_t hk]
  unfold m_sock_Table_Take_v2
  rw [e1, bs_]
  show (bif C k.toNat == 0 then _ else _) = _
  rw [bz_f (by omega), e2, bs_]
theorem drop_no (hk : 0 ≤ k ∧ k < N) (h0 : C k.toNat ≤ 1) : m_sock_Table_Drop_v3 k N m C X = some (.e0 C 110) := by
  have e1 : m_sock_counting_counted_v7 k N m C X = some (.e0 (C k.toNat)) := by
    unfold m_sock_counting_counted_v7
    rw [bd_f (by omega), bd_f (by omega), bi_t hk]
  unfold m_sock_Table_Drop_v3
  rw [e1, bs_]
  show (bif decide (C k.toNat ≤ 1) then _ else _) = _
  rw [bd_t h0]
theorem drop_eq (hk : 0 ≤ k ∧ k < N) (h0 : 1 < C k.toNat) : m_sock_Table_Drop_v3 k N m C X = some (.e0 (updF C k.toNat (IntKind.i64.wrap (C k.toNat + -1))) 0) := by
  have e1 : m_sock_counting_counted_v7 k N m C X = some (.e0 (C k.toNat)) := by
    unfold m_sock_counting_counted_v7
    rw [bd_f (by omega), bd_f (by omega), bi_t hk]
  have e2 : m_sock_counting_change_v3 k (-1) N m C X = some (.e0 (updF C k.toNat (IntKind.i64.wrap (C k.toNat + -1)))) := by
    unfold m_sock_counting_change_v3
    rw [bi_t hk]
  unfold m_sock_Table_Drop_v3
  rw [e1, bs_]
  show (bif decide (C k.toNat ≤ 1) then _ else _) = _
  rw [bd_f (by omega), e2, bs_]
theorem counts_eq (h : N ≤ 1000000) : m_sock_Table_Counts_v1 N m C X = some (.e0 (catF (fun _ => 0) 0 C)) := by
  have e1 : m_slices_Clone_int_int_v1 N C = some (.e0 (catF (fun _ => 0) 0 C)) := by
    unfold m_slices_Clone_int_int_v1
    rw [bd_t h]
  unfold m_sock_Table_Counts_v1
  rw [e1, bs_]
/-- The turns: each count is one more than what was taken and not dropped. -/
theorem turns_run {y0 : Int} {n0 : Nat} {A0 : Nat → BitVec 8} (h1 : 1 ≤ y0) (h2 : y0 ≤ 16) (hN : (N : Int) = y0) (hn : n0 ≤ 80) (hC : ∀ k, k < N → C k = 1) :
    ∃ r, lpO (st_barbicanlaw11_SockCounts_L1v3 y0 n0 A0 N m X) (.c0 C (fun _ => 0) 0) = some r ∧ ∃ C' c, r = .e0 C' c ∧ ∀ k, k < N → C' k = c k + 1 ∧ 0 ≤ c k ∧ c k ≤ 80 := by
  refine lpO_ind (st := st_barbicanlaw11_SockCounts_L1v3 y0 n0 A0 N m X) (fun s => match s with | .c0 C c i => 0 ≤ i ∧ i ≤ n0 ∧ ∀ k, k < N → C k = c k + 1 ∧ 0 ≤ c k ∧ c k ≤ i) (fun s => match s with | .c0 _ _ i => n0 - i.toNat) (fun _ r => ∃ C' c, r = .e0 C' c ∧ ∀ k, k < N → C' k = c k + 1 ∧ 0 ≤ c k ∧ c k ≤ 80) ?_ _ ⟨by omega, by omega, fun k hk => ⟨by rw [hC k hk]; rfl, Int.le_refl 0, Int.le_refl 0⟩⟩
  rintro ⟨C, c, i⟩ ⟨hi, hin, hk⟩
  by_cases hlt : i < (n0 : Int)
  · have ew : IntKind.i64.wrap (i + 1) = i + 1 := wz ⟨by omega, by omega⟩
    generalize hK : zrem (nn (A0 i.toNat / 2#8)) y0 = K
    have hK0 : 0 ≤ K ∧ K < y0 := by
      rw [zr_nat (by unfold nn; omega)] at hK
      subst hK
      exact ⟨Int.emod_nonneg _ (by omega), Int.emod_lt_of_pos _ (by omega)⟩
    have hKN : 0 ≤ K ∧ K < (N : Int) := by omega
    obtain ⟨k1, k2, k3⟩ := hk K.toNat (by omega)
    have step : ∀ (C1 c1 : Nat → Int), (∀ k, k < N → C1 k = c1 k + 1 ∧ 0 ≤ c1 k ∧ c1 k ≤ i + 1) → (0 ≤ i + 1 ∧ i + 1 ≤ n0 ∧ ∀ k, k < N → C1 k = c1 k + 1 ∧ 0 ≤ c1 k ∧ c1 k ≤ i + 1) := fun C1 c1 h => ⟨by omega, by omega, h⟩
    by_cases hb : (A0 i.toNat % 2#8 == 0#8) = true
    · refine .inl ⟨.c0 (updF C K.toNat (IntKind.i64.wrap (C K.toNat + 1))) (updF c K.toNat (IntKind.i64.wrap (c K.toNat + 1))) (IntKind.i64.wrap (i + 1)), ?_, ?_, by show n0 - (IntKind.i64.wrap (i + 1)).toNat < n0 - i.toNat; rw [ew]; omega, fun r h => h⟩
      · simp only [st_barbicanlaw11_SockCounts_L1v3, hK]
        rw [bd_t hlt, bi_t (by omega), bz_f (by omega), hb, b_t, take_eq hKN (by omega), bs_]
        show (bif (0 : Int) == 0 then _ else _) = _
        rw [bz_t rfl, bi_t (by omega), bt_]
      · rw [ew]
        refine step _ _ fun k hkN => ?_
        unfold updF
        split
        · rw [wz ⟨by omega, by omega⟩, wz ⟨by omega, by omega⟩]
          omega
        · have := hk k hkN
          omega
    · have hb : (A0 i.toNat % 2#8 == 0#8) = false := by simpa using hb
      by_cases hd : 1 < C K.toNat
      · refine .inl ⟨.c0 (updF C K.toNat (IntKind.i64.wrap (C K.toNat + -1))) (updF c K.toNat (IntKind.i64.wrap (c K.toNat - 1))) (IntKind.i64.wrap (i + 1)), ?_, ?_, by show n0 - (IntKind.i64.wrap (i + 1)).toNat < n0 - i.toNat; rw [ew]; omega, fun r h => h⟩
        · simp only [st_barbicanlaw11_SockCounts_L1v3, hK]
          rw [bd_t hlt, bi_t (by omega), bz_f (by omega), hb, b_f, drop_eq hKN hd, bs_]
          show (bif inR K 16 then (bif ((0 : Int) == 0) != (decide (0 < c K.toNat)) then _ else _) else _) = _
          rw [bi_t (by omega), dd_t (show 0 < c K.toNat by omega), show (((0 : Int) == 0) != true) = false from by decide, b_f, bz_t rfl, bt_]
        · rw [ew]
          refine step _ _ fun k hkN => ?_
          unfold updF
          split
          · rw [wz ⟨by omega, by omega⟩, wz ⟨by omega, by omega⟩]
            omega
          · have := hk k hkN
            omega
      · refine .inl ⟨.c0 C c (IntKind.i64.wrap (i + 1)), ?_, ?_, by show n0 - (IntKind.i64.wrap (i + 1)).toNat < n0 - i.toNat; rw [ew]; omega, fun r h => h⟩
        · simp only [st_barbicanlaw11_SockCounts_L1v3, hK]
          rw [bd_t hlt, bi_t (by omega), bz_f (by omega), hb, b_f, drop_no hKN (by omega), bs_]
          show (bif inR K 16 then (bif ((110 : Int) == 0) != (decide (0 < c K.toNat)) then _ else _) else _) = _
          rw [bi_t (by omega), dd_f (show ¬ 0 < c K.toNat by omega), show (((110 : Int) == 0) != false) = false from by decide, b_f, bz_f (show (110 : Int) ≠ 0 by decide)]
        · rw [ew]
          refine step _ _ fun k hkN => ?_
          have := hk k hkN
          omega
  · exact .inr ⟨.e0 C c, by simp only [st_barbicanlaw11_SockCounts_L1v3]; rw [bd_f hlt], C, c, rfl, fun k hkN => by have := hk k hkN; omega⟩
theorem final_run {y0 : Int} {c : Nat → Int} (h2 : y0 ≤ 16) (hN : (N : Int) = y0) (hC : ∀ k, k < N → C k = c k + 1 ∧ 0 ≤ c k ∧ c k ≤ 80) :
    ∃ r, lpO (st_barbicanlaw11_SockCounts_L2v3 y0 N c (catF (fun _ => 0) 0 C)) (.c0 0) = some r ∧ r = .e0 := by
  refine lpO_ind (st := st_barbicanlaw11_SockCounts_L2v3 y0 N c (catF (fun _ => 0) 0 C)) (fun s => match s with | .c0 i => 0 ≤ i ∧ i ≤ y0) (fun s => match s with | .c0 i => 50 - i.toNat) (fun _ r => r = .e0) ?_ _ ⟨by omega, by omega⟩
  rintro ⟨i⟩ ⟨hi, hy⟩
  by_cases hlt : i < y0
  · have ew : IntKind.i64.wrap (i + 1) = i + 1 := wz ⟨by omega, by omega⟩
    obtain ⟨k1, k2, k3⟩ := hC i.toNat (by omega)
    have e1 : catF (fun _ => 0) 0 C i.toNat = C i.toNat := by
      have := catF_hi (fun _ => (0 : Int)) C 0 i.toNat
      rwa [Nat.zero_add] at this
    refine .inl ⟨.c0 (IntKind.i64.wrap (i + 1)), ?_, by rw [ew]; omega, by show 50 - (IntKind.i64.wrap (i + 1)).toNat < 50 - i.toNat; rw [ew]; omega, fun r h => h⟩
    simp only [st_barbicanlaw11_SockCounts_L2v3]
    rw [bd_t hlt, bz_t (by omega), bi_t (by omega), bi_t (by omega), e1, bz_t (by rw [wz ⟨by omega, by omega⟩]; omega)]
  · exact .inr ⟨.e0, by simp only [st_barbicanlaw11_SockCounts_L2v3]; rw [bd_f hlt], rfl⟩
end
theorem counts_true (y0 : Int) (n0 : Nat) (A0 : Nat → BitVec 8) : m_barbicanlaw11_SockCounts y0 n0 A0 = some true := by
  unfold m_barbicanlaw11_SockCounts
  by_cases h1 : y0 < 1
  · rw [bd_t h1]
  rw [bd_f h1]
  by_cases h2 : 16 < y0
  · rw [bd_t h2]
  rw [bd_f h2]
  by_cases h3 : 80 < (n0 : Int)
  · rw [bd_t h3]
  rw [bd_f h3]
  obtain ⟨_, hr, D, rfl, hD⟩ := rows_ready (y0 := y0) (by omega) (by omega)
  rw [hr, bs_]
  obtain ⟨C, X, ht, hC⟩ := table_ready (N := y0.toNat) (by omega) (by omega) hD
  obtain ⟨_, hr2, C', c, rfl, hC'⟩ := turns_run (y0 := y0) (n0 := n0) (A0 := A0) (m := y0.toNat) (X := X) (N := y0.toNat) (by omega) (by omega) (by omega) (by omega) hC
  obtain ⟨_, hr3, rfl⟩ := final_run (y0 := y0) (by omega) (by omega) hC'
  show (m_sock_NewTable_v1 y0.toNat D).bind _ = _
  rw [ht, bs_]
  show (bif ((y0.toNat : Nat) : Int) == y0 then _ else _) = _
  rw [bz_t (by omega), hr2, bs_]
  show (m_sock_Table_Counts_v1 y0.toNat y0.toNat C' X).bind _ = _
  rw [counts_eq (by omega), bs_]
  show (lpO _ _).bind _ = _
  rw [hr3, bs_]
end Go.Proofs.Ytmopkmjddaaknaa
