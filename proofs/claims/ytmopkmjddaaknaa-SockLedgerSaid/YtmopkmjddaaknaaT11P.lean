/-
  The law on ledgers: its loops, in plain words.
-/
import Derived.Test.YtmopkmjddaaknaaT11N
namespace Go.Proofs.Ytmopkmjddaaknaa
open Go.RowKit
set_option linter.unusedVariables false
set_option linter.unusedSimpArgs false
/-- The first loop: so many are acquired. -/
theorem many_loop {y : Int} (h0 : 0 ≤ y) (h1 : y ≤ 300) : lpO (st_barbicanlaw11_SockLedger_L0 y) .c0 = some .e0 ∨ ∃ N C N2 R H M E, lpO (st_barbicanlaw11_SockLedger_L0 y) .c0 = some (.e1 N C N2 R H M E) ∧ LI N C N2 H 0 M E ∧ N ≤ 256 ∧ M ≤ 256 := by
  obtain ⟨r, h2, h3⟩ := lpO_ind (st := st_barbicanlaw11_SockLedger_L0 y)
    (fun s => match s with | .c0 => True | .c1 N C N2 R H M E i => ∃ k : Nat, i = (k : Int) ∧ 1 ≤ k ∧ (k : Int) ≤ y ∧ LI N C N2 H 0 M E ∧ N ≤ 256 ∧ M ≤ 256 ∧ H = N ∧ M = N ∧ N ≤ k ∧ (k ≤ 256 → N = k) ∧ (256 ≤ k → N = 256))
    (fun s => match s with | .c0 => y.toNat + 1 | .c1 N C N2 R H M E i => (y - i).toNat)
    (fun _ r => r = .e0 ∨ ∃ N C N2 R H M E, r = .e1 N C N2 R H M E ∧ LI N C N2 H 0 M E ∧ N ≤ 256 ∧ M ≤ 256) (fun s hs => by
      cases s with
      | c0 =>
        by_cases h : 0 < y
        · refine .inl ⟨.c1 1 (fun _ => 1) 1 (fun _ => ⟨9, 0⟩) 1 1 (fun _ => ⟨false, 1, 9⟩) 1, ?_, ⟨1, rfl, by omega, by omega, ⟨rfl, fun k hk => .inr rfl, rfl, by omega, by omega, by omega, fun k hk => by omega, rfl⟩, by omega, by omega, rfl, rfl, by omega, fun _ => rfl, fun _ => by omega⟩, by show (y - 1).toNat < y.toNat + 1; omega, fun r hr => hr⟩
          unfold st_barbicanlaw11_SockLedger_L0
          simp only
          rw [ct (d_t h)]
          unfold m_sock_Ledger_Acquire_v1
          rw [cf (d_f (by omega))]
          rfl
        · refine .inr ⟨.e0, ?_, .inl rfl⟩
          unfold st_barbicanlaw11_SockLedger_L0
          simp only
          rw [cf (d_f h)]
      | c1 N C N2 R H M E i =>
        obtain ⟨k, rfl, hk1, hk, hI, hN, hM, hH, hMN, hNk, hlo, hhi⟩ := hs
        by_cases h : (k : Int) < y
        · by_cases hf : 256 ≤ k
          · have := hhi hf
            refine .inl ⟨.c1 N C N2 R H M E ((k + 1 : Nat) : Int), ?_, ⟨k + 1, rfl, by omega, by omega, hI, hN, hM, hH, hMN, by omega, fun _ => by omega, fun _ => this⟩, by show (y - ((k + 1 : Nat) : Int)).toNat < (y - (k : Int)).toNat; omega, fun r hr => hr⟩
            unfold st_barbicanlaw11_SockLedger_L0
            simp only
            rw [ct (d_t h), acq_no (by omega)]
            simp only [Option.bind_some]
            rw [d_f (show ¬ ((k : Int) < 256) by omega), cf (by rfl), w_succ (by omega)]
          · have := hlo (by omega)
            have hH2 : H < 256 := by omega
            refine .inl ⟨.c1 (N + 1) (updF C N 1) (N2 + 1) (updF R N2 ⟨9, (k : Int)⟩) (H + 1) (M + 1) (updF E M ⟨false, (N : Int) + 1, 9⟩) ((k + 1 : Nat) : Int), ?_, ⟨k + 1, rfl, by omega, by omega, hI.acq hH2 9, by omega, by omega, by omega, by omega, by omega, fun _ => by omega, fun _ => by omega⟩, by show (y - ((k + 1 : Nat) : Int)).toNat < (y - (k : Int)).toNat; omega, fun r hr => hr⟩
            unfold st_barbicanlaw11_SockLedger_L0
            simp only
            rw [ct (d_t h), acq_yes hI hH2 (by omega) (by omega)]
            simp only [Option.bind_some]
            rw [d_t (show ((k : Int) < 256) by omega), cf (by rfl), w_succ (by omega)]
        · refine .inr ⟨.e1 N C N2 R H M E, ?_, .inr ⟨_, _, _, _, _, _, _, rfl, hI, hN, hM⟩⟩
          unfold st_barbicanlaw11_SockLedger_L0
          simp only
          rw [cf (d_f h)]) .c0 trivial
  rw [h2]
  rcases h3 with rfl | ⟨N, C, N2, R, H, M, E, rfl, h3⟩
  · exact .inl rfl
  · exact .inr ⟨_, _, _, _, _, _, _, rfl, h3⟩

/-- The calls, where something was acquired ahead. -/
theorem calls_rows {n0 : Nat} {A0 : Nat → Step} (hn : n0 ≤ 60) (hA0 : ∀ k, k < n0 → (A0 k).fI < 9223372036854775808) {N : Nat} {C : Nat → Int} {N2 : Nat} {R : Nat → Reference} {H : Int} {M : Nat} {E : Nat → Event} (hI : LI N C N2 H 0 M E) (hN : N ≤ 256) (hM : M ≤ 256) :
    ∃ N' C' N2' R' H' O' M' E', lpO (st_barbicanlaw11_SockLedger_L1v1 n0 A0) (.c0 N C N2 R H 0 M E 0) = some (.e0 N' C' N2' R' H' O' M' E') ∧ LI N' C' N2' H' O' M' E' ∧ N' ≤ 316 ∧ M' ≤ 316 := by
  obtain ⟨r, h2, h3⟩ := lpO_ind (st := st_barbicanlaw11_SockLedger_L1v1 n0 A0)
    (fun s => match s with | .c0 N C N2 R H O M E i => ∃ k : Nat, i = (k : Int) ∧ k ≤ n0 ∧ LI N C N2 H O M E ∧ N ≤ 256 + k ∧ M ≤ 256 + k)
    (fun s => match s with | .c0 N C N2 R H O M E i => n0 - i.toNat)
    (fun _ r => ∃ N C N2 R H O M E, r = .e0 N C N2 R H O M E ∧ LI N C N2 H O M E ∧ N ≤ 316 ∧ M ≤ 316) (fun s hs => by
      cases s with
      | c0 N C N2 R H O M E i =>
        obtain ⟨k, rfl, hk, hI, hN, hM⟩ := hs
        by_cases h : k < n0
        · have hA := hA0 k h
          cases hw : (zrem (A0 k).fWhat 2) == 0
          · rcases rel_spec (R := R) hI (by omega) (by omega) (A0 k).fI (A0 k).fN hA with hr | ⟨C', O', E', wh, hr, hI'⟩
            · refine .inl ⟨.c0 N C N2 R H O M E ((k + 1 : Nat) : Int), ?_, ⟨k + 1, rfl, by omega, hI, by omega, by omega⟩, by show n0 - ((k + 1 : Nat) : Int).toNat < n0 - (k : Int).toNat; omega, fun r hr => hr⟩
              unfold st_barbicanlaw11_SockLedger_L1v1
              simp only
              rw [ct (d_t (by omega)), ct (inR_nat' h), Int.toNat_natCast, cf hw, hr]
              simp only [Option.bind_some]
              rw [w_succ (by omega)]
            · refine .inl ⟨.c0 N C' N2 R (H - 1) O' (M + 1) E' ((k + 1 : Nat) : Int), ?_, ⟨k + 1, rfl, by omega, hI', by omega, by omega⟩, by show n0 - ((k + 1 : Nat) : Int).toNat < n0 - (k : Int).toNat; omega, fun r hr => hr⟩
              unfold st_barbicanlaw11_SockLedger_L1v1
              simp only
              rw [ct (d_t (by omega)), ct (inR_nat' h), Int.toNat_natCast, cf hw, hr]
              simp only [Option.bind_some]
              rw [w_succ (by omega)]
          · by_cases hf : 256 ≤ H
            · refine .inl ⟨.c0 N C N2 R H O M E ((k + 1 : Nat) : Int), ?_, ⟨k + 1, rfl, by omega, hI, by omega, by omega⟩, by show n0 - ((k + 1 : Nat) : Int).toNat < n0 - (k : Int).toNat; omega, fun r hr => hr⟩
              unfold st_barbicanlaw11_SockLedger_L1v1
              simp only
              rw [ct (d_t (by omega)), ct (inR_nat' h), Int.toNat_natCast, ct hw, acq_no hf]
              simp only [Option.bind_some]
              rw [w_succ (by omega)]
            · refine .inl ⟨.c0 (N + 1) (updF C N 1) (N2 + 1) (updF R N2 ⟨(A0 k).fN, (A0 k).fM⟩) (H + 1) O (M + 1) (updF E M ⟨false, (N : Int) + 1, (A0 k).fN⟩) ((k + 1 : Nat) : Int), ?_, ⟨k + 1, rfl, by omega, hI.acq (by omega) _, by omega, by omega⟩, by show n0 - ((k + 1 : Nat) : Int).toNat < n0 - (k : Int).toNat; omega, fun r hr => hr⟩
              unfold st_barbicanlaw11_SockLedger_L1v1
              simp only
              rw [ct (d_t (by omega)), ct (inR_nat' h), Int.toNat_natCast, ct hw, acq_yes hI (by omega) (by omega) (by omega)]
              simp only [Option.bind_some]
              rw [w_succ (by omega)]
        · refine .inr ⟨.e0 N C N2 R H O M E, ?_, ⟨_, _, _, _, _, _, _, _, rfl, hI, by omega, by omega⟩⟩
          unfold st_barbicanlaw11_SockLedger_L1v1
          simp only
          rw [cf (d_f (by omega))]) (.c0 N C N2 R H 0 M E 0) ⟨0, rfl, by omega, hI, by omega, by omega⟩
  obtain ⟨_, _, _, _, _, _, _, _, rfl, h3⟩ := h3
  exact ⟨_, _, _, _, _, _, _, _, h2, h3⟩
/-- The calls, where nothing was acquired ahead. -/
theorem calls_nil {n0 : Nat} {A0 : Nat → Step} (hn : n0 ≤ 60) (hA0 : ∀ k, k < n0 → (A0 k).fI < 9223372036854775808) :
    lpO (st_barbicanlaw11_SockLedger_L1 n0 A0) (.c0 0) = some .e0 ∨ ∃ N C N2 R' H O M' E', lpO (st_barbicanlaw11_SockLedger_L1 n0 A0) (.c0 0) = some (.e1 N C N2 R' H O M' E') ∧ LI N C N2 H O M' E' ∧ N ≤ 316 ∧ M' ≤ 316 := by
  obtain ⟨r, h2, h3⟩ := lpO_ind (st := st_barbicanlaw11_SockLedger_L1 n0 A0)
    (fun s => match s with | .c0 i => ∃ k : Nat, i = (k : Int) ∧ k ≤ n0 | .c1 N C N2 R H O M E i => ∃ k : Nat, i = (k : Int) ∧ k ≤ n0 ∧ LI N C N2 H O M E ∧ N ≤ 256 + k ∧ M ≤ 256 + k)
    (fun s => match s with | .c0 i => n0 - i.toNat | .c1 N C N2 R H O M E i => n0 - i.toNat)
    (fun _ r => r = .e0 ∨ ∃ N C N2 R H O M E, r = .e1 N C N2 R H O M E ∧ LI N C N2 H O M E ∧ N ≤ 316 ∧ M ≤ 316) (fun s hs => by
      cases s with
      | c0 i =>
        obtain ⟨k, rfl, hk⟩ := hs
        by_cases h : k < n0
        · have hA := hA0 k h
          cases hw : (zrem (A0 k).fWhat 2) == 0
          · refine .inl ⟨.c0 ((k + 1 : Nat) : Int), ?_, ⟨k + 1, rfl, by omega⟩, by show n0 - ((k + 1 : Nat) : Int).toNat < n0 - (k : Int).toNat; omega, fun r hr => hr⟩
            unfold st_barbicanlaw11_SockLedger_L1
            simp only
            rw [ct (d_t (by omega)), ct (inR_nat' h), Int.toNat_natCast, cf hw]
            have hr : m_sock_Ledger_Release_v2 (A0 k).fI (A0 k).fN 0 = some .e0 := by
              unfold m_sock_Ledger_Release_v2 m_sock_Ledger_What_v2 m_sock_counting_counted_v6
              by_cases h1 : (A0 k).fI < 1
              · rw [ct (d_t h1)]; rfl
              · have e1 : IntKind.i64.wrap ((A0 k).fI - 1) = (A0 k).fI - 1 := by rw [wr] <;> omega
                rw [cf (d_f h1), e1, cf (d_f (by omega)), ct (d_t (by omega))]; rfl
            rw [hr]
            simp only [Option.bind_some]
            rw [w_succ (by omega)]
          · refine .inl ⟨.c1 1 (fun _ => 1) 1 (fun _ => ⟨(A0 k).fN, (A0 k).fM⟩) 1 0 1 (fun _ => ⟨false, 1, (A0 k).fN⟩) ((k + 1 : Nat) : Int), ?_, ⟨k + 1, rfl, by omega, ⟨rfl, fun k hk => .inr rfl, rfl, by omega, by omega, by omega, fun k hk => by omega, rfl⟩, by omega, by omega⟩, by show n0 - ((k + 1 : Nat) : Int).toNat < n0 - (k : Int).toNat; omega, fun r hr => hr⟩
            unfold st_barbicanlaw11_SockLedger_L1
            simp only
            rw [ct (d_t (by omega)), ct (inR_nat' h), Int.toNat_natCast, ct hw]
            unfold m_sock_Ledger_Acquire_v1
            rw [cf (d_f (by omega))]
            simp only [Option.bind_some]
            rw [w_succ (by omega)]
            rfl
        · refine .inr ⟨.e0, ?_, .inl rfl⟩
          unfold st_barbicanlaw11_SockLedger_L1
          simp only
          rw [cf (d_f (by omega))]
      | c1 N C N2 R H O M E i =>
        obtain ⟨k, rfl, hk, hI, hN, hM⟩ := hs
        by_cases h : k < n0
        · have hA := hA0 k h
          cases hw : (zrem (A0 k).fWhat 2) == 0
          · rcases rel_spec (R := R) hI (by omega) (by omega) (A0 k).fI (A0 k).fN hA with hr | ⟨C', O', E', wh, hr, hI'⟩
            · refine .inl ⟨.c1 N C N2 R H O M E ((k + 1 : Nat) : Int), ?_, ⟨k + 1, rfl, by omega, hI, by omega, by omega⟩, by show n0 - ((k + 1 : Nat) : Int).toNat < n0 - (k : Int).toNat; omega, fun r hr => hr⟩
              unfold st_barbicanlaw11_SockLedger_L1
              simp only
              rw [ct (d_t (by omega)), ct (inR_nat' h), Int.toNat_natCast, cf hw, hr]
              simp only [Option.bind_some]
              rw [w_succ (by omega)]
            · refine .inl ⟨.c1 N C' N2 R (H - 1) O' (M + 1) E' ((k + 1 : Nat) : Int), ?_, ⟨k + 1, rfl, by omega, hI', by omega, by omega⟩, by show n0 - ((k + 1 : Nat) : Int).toNat < n0 - (k : Int).toNat; omega, fun r hr => hr⟩
              unfold st_barbicanlaw11_SockLedger_L1
              simp only
              rw [ct (d_t (by omega)), ct (inR_nat' h), Int.toNat_natCast, cf hw, hr]
              simp only [Option.bind_some]
              rw [w_succ (by omega)]
          · by_cases hf : 256 ≤ H
            · refine .inl ⟨.c1 N C N2 R H O M E ((k + 1 : Nat) : Int), ?_, ⟨k + 1, rfl, by omega, hI, by omega, by omega⟩, by show n0 - ((k + 1 : Nat) : Int).toNat < n0 - (k : Int).toNat; omega, fun r hr => hr⟩
              unfold st_barbicanlaw11_SockLedger_L1
              simp only
              rw [ct (d_t (by omega)), ct (inR_nat' h), Int.toNat_natCast, ct hw, acq_no hf]
              simp only [Option.bind_some]
              rw [w_succ (by omega)]
            · refine .inl ⟨.c1 (N + 1) (updF C N 1) (N2 + 1) (updF R N2 ⟨(A0 k).fN, (A0 k).fM⟩) (H + 1) O (M + 1) (updF E M ⟨false, (N : Int) + 1, (A0 k).fN⟩) ((k + 1 : Nat) : Int), ?_, ⟨k + 1, rfl, by omega, hI.acq (by omega) _, by omega, by omega⟩, by show n0 - ((k + 1 : Nat) : Int).toNat < n0 - (k : Int).toNat; omega, fun r hr => hr⟩
              unfold st_barbicanlaw11_SockLedger_L1
              simp only
              rw [ct (d_t (by omega)), ct (inR_nat' h), Int.toNat_natCast, ct hw, acq_yes hI (by omega) (by omega) (by omega)]
              simp only [Option.bind_some]
              rw [w_succ (by omega)]
        · refine .inr ⟨.e1 N C N2 R H O M E, ?_, .inr ⟨_, _, _, _, _, _, _, _, rfl, hI, by omega, by omega⟩⟩
          unfold st_barbicanlaw11_SockLedger_L1
          simp only
          rw [cf (d_f (by omega))]) (.c0 0) ⟨0, rfl, by omega⟩
  rcases h3 with rfl | ⟨_, _, _, _, _, _, _, _, rfl, h3⟩
  · exact .inl h2
  · exact .inr ⟨_, _, _, _, _, _, _, _, h2, h3⟩
theorem cut_row {n a : Nat} {A : Nat → Int} {x : Int} (h : a < n) (hx : A a = x) (hs : (rowL n A).Pairwise (· < ·)) : rowL (a + (n - (a + 1))) (catF A a (fun k => A (a + 1 + k))) = (rowL n A).filter (fun y => decide (y ≠ x)) := by
  subst hx
  rw [rowL_split h] at hs ⊢
  rw [filter_cut hs, rowL_cat]
theorem cut_end {n a : Nat} {A : Nat → Int} {x : Int} (h : a + 1 = n) (hx : A a = x) (hs : (rowL n A).Pairwise (· < ·)) : rowL a A = (rowL n A).filter (fun y => decide (y ≠ x)) := by
  subst hx
  rw [rowL_split (show a < n by omega)] at hs ⊢
  rw [filter_cut hs, show n - (a + 1) = 0 by omega, rowL_zero, List.append_nil]
theorem find_barbicanlaw11_SockLedger_L2_L3v4 {M : Nat} {E : Nat → Event} {n : Nat} {A : Nat → Int} {s : Nat} (hn : n ≤ 1000) (hs : s < M) (hm : (E s).fId ∈ rowL n A) : ∃ a i, a < n ∧ A a = (E s).fId ∧ lpO (st_barbicanlaw11_SockLedger_L2_L3v4 M E n A (s : Int)) (.c0 (-1) 0) = some (.e0 (a : Int) i i (n : Int)) := by
  obtain ⟨r, h2, h3⟩ := lpO_ind (st := st_barbicanlaw11_SockLedger_L2_L3v4 M E n A (s : Int))
    (fun q => match q with | .c0 at' i => ∃ k : Nat, i = (k : Int) ∧ k ≤ n ∧ ((at' = -1 ∧ ∀ j, j < k → A j ≠ (E s).fId) ∨ ∃ a : Nat, at' = (a : Int) ∧ a < n ∧ A a = (E s).fId))
    (fun q => match q with | .c0 at' i => n - i.toNat)
    (fun _ r => ∃ a i, a < n ∧ A a = (E s).fId ∧ r = .e0 (a : Int) i i (n : Int)) (fun q hq => by
      obtain ⟨at', i⟩ := q
      obtain ⟨k, rfl, hk, hat⟩ := hq
      by_cases h : k < n
      · by_cases he : A k = (E s).fId
        · refine .inl ⟨.c0 (k : Int) ((k + 1 : Nat) : Int), ?_, ⟨k + 1, rfl, by omega, .inr ⟨k, rfl, h, he⟩⟩, by show n - ((k + 1 : Nat) : Int).toNat < n - (k : Int).toNat; omega, fun r hr => hr⟩
          unfold st_barbicanlaw11_SockLedger_L2_L3v4
          simp only
          rw [ct (d_t (by omega)), ct (inR_nat' h), ct (inR_nat' hs), Int.toNat_natCast, Int.toNat_natCast, ct (by rw [he]; simp), w_succ (by omega)]
        · refine .inl ⟨.c0 at' ((k + 1 : Nat) : Int), ?_, ⟨k + 1, rfl, by omega, ?_⟩, by show n - ((k + 1 : Nat) : Int).toNat < n - (k : Int).toNat; omega, fun r hr => hr⟩
          · unfold st_barbicanlaw11_SockLedger_L2_L3v4
            simp only
            rw [ct (d_t (by omega)), ct (inR_nat' h), ct (inR_nat' hs), Int.toNat_natCast, Int.toNat_natCast, cf (by simpa using he), w_succ (by omega)]
          · rcases hat with ⟨h1, h2⟩ | h1
            · refine .inl ⟨h1, fun j hj => ?_⟩
              by_cases e : j = k
              · rw [e]; exact he
              · exact h2 j (by omega)
            · exact .inr h1
      · obtain rfl : k = n := by omega
        rcases hat with ⟨h1, h2⟩ | ⟨a, rfl, ha, hae⟩
        · obtain ⟨j, hj, hje⟩ := rowL_mem.1 hm
          exact absurd hje (h2 j hj)
        · refine .inr ⟨.e0 (a : Int) (k : Int) (k : Int) (k : Int), ?_, ⟨a, (k : Int), ha, hae, rfl⟩⟩
          unfold st_barbicanlaw11_SockLedger_L2_L3v4
          simp only
          rw [cf (d_f (by omega))]) (.c0 (-1) 0) ⟨0, rfl, by omega, .inl ⟨rfl, fun j hj => by omega⟩⟩
  obtain ⟨a, i, ha, hae, rfl⟩ := h3
  exact ⟨a, i, ha, hae, h2⟩
theorem find_barbicanlaw11_SockLedger_L2_L3v5 {M : Nat} {E : Nat → Event} {n : Nat} {A : Nat → Int} {s : Nat} (hn : n ≤ 1000) (hs : s < M) (hm : (E s).fId ∈ rowL n A) : ∃ a i, a < n ∧ A a = (E s).fId ∧ lpO (st_barbicanlaw11_SockLedger_L2_L3v5 M E n A (s : Int)) (.c0 (-1) 0) = some (.e0 (a : Int) i i (n : Int)) := by
  obtain ⟨r, h2, h3⟩ := lpO_ind (st := st_barbicanlaw11_SockLedger_L2_L3v5 M E n A (s : Int))
    (fun q => match q with | .c0 at' i => ∃ k : Nat, i = (k : Int) ∧ k ≤ n ∧ ((at' = -1 ∧ ∀ j, j < k → A j ≠ (E s).fId) ∨ ∃ a : Nat, at' = (a : Int) ∧ a < n ∧ A a = (E s).fId))
    (fun q => match q with | .c0 at' i => n - i.toNat)
    (fun _ r => ∃ a i, a < n ∧ A a = (E s).fId ∧ r = .e0 (a : Int) i i (n : Int)) (fun q hq => by
      obtain ⟨at', i⟩ := q
      obtain ⟨k, rfl, hk, hat⟩ := hq
      by_cases h : k < n
      · by_cases he : A k = (E s).fId
        · refine .inl ⟨.c0 (k : Int) ((k + 1 : Nat) : Int), ?_, ⟨k + 1, rfl, by omega, .inr ⟨k, rfl, h, he⟩⟩, by show n - ((k + 1 : Nat) : Int).toNat < n - (k : Int).toNat; omega, fun r hr => hr⟩
          unfold st_barbicanlaw11_SockLedger_L2_L3v5
          simp only
          rw [ct (d_t (by omega)), ct (inR_nat' h), ct (inR_nat' hs), Int.toNat_natCast, Int.toNat_natCast, ct (by rw [he]; simp), w_succ (by omega)]
        · refine .inl ⟨.c0 at' ((k + 1 : Nat) : Int), ?_, ⟨k + 1, rfl, by omega, ?_⟩, by show n - ((k + 1 : Nat) : Int).toNat < n - (k : Int).toNat; omega, fun r hr => hr⟩
          · unfold st_barbicanlaw11_SockLedger_L2_L3v5
            simp only
            rw [ct (d_t (by omega)), ct (inR_nat' h), ct (inR_nat' hs), Int.toNat_natCast, Int.toNat_natCast, cf (by simpa using he), w_succ (by omega)]
          · rcases hat with ⟨h1, h2⟩ | h1
            · refine .inl ⟨h1, fun j hj => ?_⟩
              by_cases e : j = k
              · rw [e]; exact he
              · exact h2 j (by omega)
            · exact .inr h1
      · obtain rfl : k = n := by omega
        rcases hat with ⟨h1, h2⟩ | ⟨a, rfl, ha, hae⟩
        · obtain ⟨j, hj, hje⟩ := rowL_mem.1 hm
          exact absurd hje (h2 j hj)
        · refine .inr ⟨.e0 (a : Int) (k : Int) (k : Int) (k : Int), ?_, ⟨a, (k : Int), ha, hae, rfl⟩⟩
          unfold st_barbicanlaw11_SockLedger_L2_L3v5
          simp only
          rw [cf (d_f (by omega))]) (.c0 (-1) 0) ⟨0, rfl, by omega, .inl ⟨rfl, fun j hj => by omega⟩⟩
  obtain ⟨a, i, ha, hae, rfl⟩ := h3
  exact ⟨a, i, ha, hae, h2⟩
theorem replay {M : Nat} {E : Nat → Event} {nx : Int} {l : List Int} (hM : M ≤ 900) (hE : rep E M = some (nx, l)) :
    (lpO (st_barbicanlaw11_SockLedger_L2 M E) .c0 = some .e0 ∧ l = []) ∨ ∃ n A, (lpO (st_barbicanlaw11_SockLedger_L2 M E) .c0 = some (.e1 n A) ∨ lpO (st_barbicanlaw11_SockLedger_L2 M E) .c0 = some (.e2 n A)) ∧ rowL n A = l := by
  obtain ⟨r, h2, h3⟩ := lpO_ind (st := st_barbicanlaw11_SockLedger_L2 M E)
    (fun q => match q with | .c0 => True | .c1 n A nx i => ∃ s : Nat, i = (s : Int) ∧ 1 ≤ s ∧ s ≤ M ∧ rep E s = some (nx, rowL n A) ∧ n ≤ s | .c2 n A nx i => ∃ s : Nat, i = (s : Int) ∧ 1 ≤ s ∧ s ≤ M ∧ rep E s = some (nx, rowL n A) ∧ n ≤ s)
    (fun q => match q with | .c0 => M + 1 | .c1 n A nx i => M + 1 - i.toNat | .c2 n A nx i => M + 1 - i.toNat)
    (fun _ r => (r = .e0 ∧ l = []) ∨ ∃ n A, (r = .e1 n A ∨ r = .e2 n A) ∧ rowL n A = l) (fun q hq => by
      cases q with
      | c0 =>
        by_cases h : 0 < M
        · obtain ⟨y, hy⟩ := rep_pre hE 1 (by omega)
          rcases rep_inv (m := 0) (nx := 1) (l := []) rfl hy with ⟨hr, hm, rfl⟩ | ⟨hr, hm, rfl⟩
          · cases hm
          · refine .inl ⟨.c1 1 (fun _ => (E 0).fId) 2 1, ?_, ⟨1, rfl, by omega, by omega, hy, by omega⟩, by show M + 1 - 1 < M + 1; omega, fun r hr => hr⟩
            unfold st_barbicanlaw11_SockLedger_L2
            simp only
            rw [ct (d_t (by omega)), ct (inR_t (by omega) (by omega)), cf hr, ct (by rw [hm]; rfl)]
        · obtain rfl : M = 0 := by omega
          refine .inr ⟨.e0, ?_, .inl ⟨rfl, ?_⟩⟩
          · unfold st_barbicanlaw11_SockLedger_L2
            simp only
            rw [cf (d_f (by omega))]
          · simp [rep] at hE
            exact hE.2
      | c1 n A nx i =>
        obtain ⟨s, rfl, hs1, hs, hrep, hn⟩ := hq
        obtain ⟨hsort, hlt, hnx, hnx1⟩ := rep_sorted hrep
        by_cases h : s < M
        · obtain ⟨y, hy⟩ := rep_pre hE (s + 1) (by omega)
          rcases rep_inv hrep hy with ⟨hr, hm, rfl⟩ | ⟨hr, hm, rfl⟩
          · obtain ⟨a, j, ha, hae, hfind⟩ := find_barbicanlaw11_SockLedger_L2_L3v4 (M := M) (E := E) (by omega) h hm
            by_cases hend : a + 1 = n
            · refine .inl ⟨.c2 a A nx ((s + 1 : Nat) : Int), ?_, ⟨s + 1, rfl, by omega, by omega, by rw [hy, cut_end hend hae hsort], by omega⟩, by show M + 1 - ((s + 1 : Nat) : Int).toNat < M + 1 - (s : Int).toNat; omega, fun r hr => hr⟩
              unfold st_barbicanlaw11_SockLedger_L2
              simp only
              rw [ct (d_t (by omega)), ct (inR_nat' h), Int.toNat_natCast, ct hr, hfind]
              simp only [Option.bind_some]
              rw [cf (d_f (by omega)), ct (inR_nat' (show a < n + 1 by omega)), w_succ (by omega), ct (inR_nat' (show a + 1 < n + 1 by omega)), cf (inR_f (by omega)), Int.toNat_natCast, ct (d_t (by omega)), w_succ (by omega)]
            · refine .inl ⟨.c1 (a + (n - (a + 1))) (catF A a (fun k => A (a + 1 + k))) nx ((s + 1 : Nat) : Int), ?_, ⟨s + 1, rfl, by omega, by omega, by rw [hy, cut_row ha hae hsort], by omega⟩, by show M + 1 - ((s + 1 : Nat) : Int).toNat < M + 1 - (s : Int).toNat; omega, fun r hr => hr⟩
              unfold st_barbicanlaw11_SockLedger_L2
              simp only
              rw [ct (d_t (by omega)), ct (inR_nat' h), Int.toNat_natCast, ct hr, hfind]
              simp only [Option.bind_some]
              rw [cf (d_f (by omega)), ct (inR_nat' (show a < n + 1 by omega)), w_succ (by omega), ct (inR_nat' (show a + 1 < n + 1 by omega)), ct (inR_nat' (show a + 1 < n by omega)), Int.toNat_natCast, Int.toNat_natCast, ct (d_t (by omega)), ct (d_t (by omega)), ct (d_t (by omega)), w_succ (by omega)]
              rfl
          · refine .inl ⟨.c1 (n + 1) (updF A n (E s).fId) (nx + 1) ((s + 1 : Nat) : Int), ?_, ⟨s + 1, rfl, by omega, by omega, by rw [hy, rowL_app], by omega⟩, by show M + 1 - ((s + 1 : Nat) : Int).toNat < M + 1 - (s : Int).toNat; omega, fun r hr => hr⟩
            have e1 : IntKind.i64.wrap (nx + 1) = nx + 1 := by rw [wr] <;> omega
            unfold st_barbicanlaw11_SockLedger_L2
            simp only
            rw [ct (d_t (by omega)), ct (inR_nat' h), Int.toNat_natCast, cf hr, ct (by rw [hm]; simp), ct (d_t (by omega)), w_succ (by omega), e1]
        · obtain rfl : s = M := by omega
          refine .inr ⟨.e1 n A, ?_, .inr ⟨n, A, .inl rfl, by
            rw [hE] at hrep
            injection hrep with hrep
            injection hrep with _ hrep
            exact hrep.symm⟩⟩
          unfold st_barbicanlaw11_SockLedger_L2
          simp only
          rw [cf (d_f (by omega))]
      | c2 n A nx i =>
        obtain ⟨s, rfl, hs1, hs, hrep, hn⟩ := hq
        obtain ⟨hsort, hlt, hnx, hnx1⟩ := rep_sorted hrep
        by_cases h : s < M
        · obtain ⟨y, hy⟩ := rep_pre hE (s + 1) (by omega)
          rcases rep_inv hrep hy with ⟨hr, hm, rfl⟩ | ⟨hr, hm, rfl⟩
          · obtain ⟨a, j, ha, hae, hfind⟩ := find_barbicanlaw11_SockLedger_L2_L3v5 (M := M) (E := E) (by omega) h hm
            by_cases hend : a + 1 = n
            · refine .inl ⟨.c2 a A nx ((s + 1 : Nat) : Int), ?_, ⟨s + 1, rfl, by omega, by omega, by rw [hy, cut_end hend hae hsort], by omega⟩, by show M + 1 - ((s + 1 : Nat) : Int).toNat < M + 1 - (s : Int).toNat; omega, fun r hr => hr⟩
              unfold st_barbicanlaw11_SockLedger_L2
              simp only
              rw [ct (d_t (by omega)), ct (inR_nat' h), Int.toNat_natCast, ct hr, hfind]
              simp only [Option.bind_some]
              rw [cf (d_f (by omega)), ct (inR_nat' (show a < n + 1 by omega)), w_succ (by omega), ct (inR_nat' (show a + 1 < n + 1 by omega)), cf (inR_f (by omega)), Int.toNat_natCast, ct (d_t (by omega)), w_succ (by omega)]
            · refine .inl ⟨.c1 (a + (n - (a + 1))) (catF A a (fun k => A (a + 1 + k))) nx ((s + 1 : Nat) : Int), ?_, ⟨s + 1, rfl, by omega, by omega, by rw [hy, cut_row ha hae hsort], by omega⟩, by show M + 1 - ((s + 1 : Nat) : Int).toNat < M + 1 - (s : Int).toNat; omega, fun r hr => hr⟩
              unfold st_barbicanlaw11_SockLedger_L2
              simp only
              rw [ct (d_t (by omega)), ct (inR_nat' h), Int.toNat_natCast, ct hr, hfind]
              simp only [Option.bind_some]
              rw [cf (d_f (by omega)), ct (inR_nat' (show a < n + 1 by omega)), w_succ (by omega), ct (inR_nat' (show a + 1 < n + 1 by omega)), ct (inR_nat' (show a + 1 < n by omega)), Int.toNat_natCast, Int.toNat_natCast, ct (d_t (by omega)), ct (d_t (by omega)), ct (d_t (by omega)), w_succ (by omega)]
              rfl
          · refine .inl ⟨.c1 (n + 1) (updF A n (E s).fId) (nx + 1) ((s + 1 : Nat) : Int), ?_, ⟨s + 1, rfl, by omega, by omega, by rw [hy, rowL_app], by omega⟩, by show M + 1 - ((s + 1 : Nat) : Int).toNat < M + 1 - (s : Int).toNat; omega, fun r hr => hr⟩
            have e1 : IntKind.i64.wrap (nx + 1) = nx + 1 := by rw [wr] <;> omega
            unfold st_barbicanlaw11_SockLedger_L2
            simp only
            rw [ct (d_t (by omega)), ct (inR_nat' h), Int.toNat_natCast, cf hr, ct (by rw [hm]; simp), ct (d_t (by omega)), w_succ (by omega), e1]
        · obtain rfl : s = M := by omega
          refine .inr ⟨.e2 n A, ?_, .inr ⟨n, A, .inr rfl, by
            rw [hE] at hrep
            injection hrep with hrep
            injection hrep with _ hrep
            exact hrep.symm⟩⟩
          unfold st_barbicanlaw11_SockLedger_L2
          simp only
          rw [cf (d_f (by omega))]) .c0 trivial
  rw [h2]
  rcases h3 with ⟨rfl, h3⟩ | ⟨n, A, rfl | rfl, h3⟩
  · exact .inl ⟨rfl, h3⟩
  · exact .inr ⟨n, A, .inl rfl, h3⟩
  · exact .inr ⟨n, A, .inr rfl, h3⟩
theorem find_barbicanlaw11_SockLedger_L2v1_L3v4 {M : Nat} {E : Nat → Event} {n : Nat} {A : Nat → Int} {s : Nat} (hn : n ≤ 1000) (hs : s < M) (hm : (E s).fId ∈ rowL n A) : ∃ a i, a < n ∧ A a = (E s).fId ∧ lpO (st_barbicanlaw11_SockLedger_L2v1_L3v4 M E n A (s : Int)) (.c0 (-1) 0) = some (.e0 (a : Int) i i (n : Int)) := by
  obtain ⟨r, h2, h3⟩ := lpO_ind (st := st_barbicanlaw11_SockLedger_L2v1_L3v4 M E n A (s : Int))
    (fun q => match q with | .c0 at' i => ∃ k : Nat, i = (k : Int) ∧ k ≤ n ∧ ((at' = -1 ∧ ∀ j, j < k → A j ≠ (E s).fId) ∨ ∃ a : Nat, at' = (a : Int) ∧ a < n ∧ A a = (E s).fId))
    (fun q => match q with | .c0 at' i => n - i.toNat)
    (fun _ r => ∃ a i, a < n ∧ A a = (E s).fId ∧ r = .e0 (a : Int) i i (n : Int)) (fun q hq => by
      obtain ⟨at', i⟩ := q
      obtain ⟨k, rfl, hk, hat⟩ := hq
      by_cases h : k < n
      · by_cases he : A k = (E s).fId
        · refine .inl ⟨.c0 (k : Int) ((k + 1 : Nat) : Int), ?_, ⟨k + 1, rfl, by omega, .inr ⟨k, rfl, h, he⟩⟩, by show n - ((k + 1 : Nat) : Int).toNat < n - (k : Int).toNat; omega, fun r hr => hr⟩
          unfold st_barbicanlaw11_SockLedger_L2v1_L3v4
          simp only
          rw [ct (d_t (by omega)), ct (inR_nat' h), ct (inR_nat' hs), Int.toNat_natCast, Int.toNat_natCast, ct (by rw [he]; simp), w_succ (by omega)]
        · refine .inl ⟨.c0 at' ((k + 1 : Nat) : Int), ?_, ⟨k + 1, rfl, by omega, ?_⟩, by show n - ((k + 1 : Nat) : Int).toNat < n - (k : Int).toNat; omega, fun r hr => hr⟩
          · unfold st_barbicanlaw11_SockLedger_L2v1_L3v4
            simp only
            rw [ct (d_t (by omega)), ct (inR_nat' h), ct (inR_nat' hs), Int.toNat_natCast, Int.toNat_natCast, cf (by simpa using he), w_succ (by omega)]
          · rcases hat with ⟨h1, h2⟩ | h1
            · refine .inl ⟨h1, fun j hj => ?_⟩
              by_cases e : j = k
              · rw [e]; exact he
              · exact h2 j (by omega)
            · exact .inr h1
      · obtain rfl : k = n := by omega
        rcases hat with ⟨h1, h2⟩ | ⟨a, rfl, ha, hae⟩
        · obtain ⟨j, hj, hje⟩ := rowL_mem.1 hm
          exact absurd hje (h2 j hj)
        · refine .inr ⟨.e0 (a : Int) (k : Int) (k : Int) (k : Int), ?_, ⟨a, (k : Int), ha, hae, rfl⟩⟩
          unfold st_barbicanlaw11_SockLedger_L2v1_L3v4
          simp only
          rw [cf (d_f (by omega))]) (.c0 (-1) 0) ⟨0, rfl, by omega, .inl ⟨rfl, fun j hj => by omega⟩⟩
  obtain ⟨a, i, ha, hae, rfl⟩ := h3
  exact ⟨a, i, ha, hae, h2⟩
theorem find_barbicanlaw11_SockLedger_L2v1_L3v5 {M : Nat} {E : Nat → Event} {n : Nat} {A : Nat → Int} {s : Nat} (hn : n ≤ 1000) (hs : s < M) (hm : (E s).fId ∈ rowL n A) : ∃ a i, a < n ∧ A a = (E s).fId ∧ lpO (st_barbicanlaw11_SockLedger_L2v1_L3v5 M E n A (s : Int)) (.c0 (-1) 0) = some (.e0 (a : Int) i i (n : Int)) := by
  obtain ⟨r, h2, h3⟩ := lpO_ind (st := st_barbicanlaw11_SockLedger_L2v1_L3v5 M E n A (s : Int))
    (fun q => match q with | .c0 at' i => ∃ k : Nat, i = (k : Int) ∧ k ≤ n ∧ ((at' = -1 ∧ ∀ j, j < k → A j ≠ (E s).fId) ∨ ∃ a : Nat, at' = (a : Int) ∧ a < n ∧ A a = (E s).fId))
    (fun q => match q with | .c0 at' i => n - i.toNat)
    (fun _ r => ∃ a i, a < n ∧ A a = (E s).fId ∧ r = .e0 (a : Int) i i (n : Int)) (fun q hq => by
      obtain ⟨at', i⟩ := q
      obtain ⟨k, rfl, hk, hat⟩ := hq
      by_cases h : k < n
      · by_cases he : A k = (E s).fId
        · refine .inl ⟨.c0 (k : Int) ((k + 1 : Nat) : Int), ?_, ⟨k + 1, rfl, by omega, .inr ⟨k, rfl, h, he⟩⟩, by show n - ((k + 1 : Nat) : Int).toNat < n - (k : Int).toNat; omega, fun r hr => hr⟩
          unfold st_barbicanlaw11_SockLedger_L2v1_L3v5
          simp only
          rw [ct (d_t (by omega)), ct (inR_nat' h), ct (inR_nat' hs), Int.toNat_natCast, Int.toNat_natCast, ct (by rw [he]; simp), w_succ (by omega)]
        · refine .inl ⟨.c0 at' ((k + 1 : Nat) : Int), ?_, ⟨k + 1, rfl, by omega, ?_⟩, by show n - ((k + 1 : Nat) : Int).toNat < n - (k : Int).toNat; omega, fun r hr => hr⟩
          · unfold st_barbicanlaw11_SockLedger_L2v1_L3v5
            simp only
            rw [ct (d_t (by omega)), ct (inR_nat' h), ct (inR_nat' hs), Int.toNat_natCast, Int.toNat_natCast, cf (by simpa using he), w_succ (by omega)]
          · rcases hat with ⟨h1, h2⟩ | h1
            · refine .inl ⟨h1, fun j hj => ?_⟩
              by_cases e : j = k
              · rw [e]; exact he
              · exact h2 j (by omega)
            · exact .inr h1
      · obtain rfl : k = n := by omega
        rcases hat with ⟨h1, h2⟩ | ⟨a, rfl, ha, hae⟩
        · obtain ⟨j, hj, hje⟩ := rowL_mem.1 hm
          exact absurd hje (h2 j hj)
        · refine .inr ⟨.e0 (a : Int) (k : Int) (k : Int) (k : Int), ?_, ⟨a, (k : Int), ha, hae, rfl⟩⟩
          unfold st_barbicanlaw11_SockLedger_L2v1_L3v5
          simp only
          rw [cf (d_f (by omega))]) (.c0 (-1) 0) ⟨0, rfl, by omega, .inl ⟨rfl, fun j hj => by omega⟩⟩
  obtain ⟨a, i, ha, hae, rfl⟩ := h3
  exact ⟨a, i, ha, hae, h2⟩
theorem replayv1 {M : Nat} {E : Nat → Event} {nx : Int} {l : List Int} (hM : M ≤ 900) (hE : rep E M = some (nx, l)) :
    (lpO (st_barbicanlaw11_SockLedger_L2v1 M E) .c0 = some .e0 ∧ l = []) ∨ ∃ n A, (lpO (st_barbicanlaw11_SockLedger_L2v1 M E) .c0 = some (.e1 n A) ∨ lpO (st_barbicanlaw11_SockLedger_L2v1 M E) .c0 = some (.e2 n A)) ∧ rowL n A = l := by
  obtain ⟨r, h2, h3⟩ := lpO_ind (st := st_barbicanlaw11_SockLedger_L2v1 M E)
    (fun q => match q with | .c0 => True | .c1 n A nx i => ∃ s : Nat, i = (s : Int) ∧ 1 ≤ s ∧ s ≤ M ∧ rep E s = some (nx, rowL n A) ∧ n ≤ s | .c2 n A nx i => ∃ s : Nat, i = (s : Int) ∧ 1 ≤ s ∧ s ≤ M ∧ rep E s = some (nx, rowL n A) ∧ n ≤ s)
    (fun q => match q with | .c0 => M + 1 | .c1 n A nx i => M + 1 - i.toNat | .c2 n A nx i => M + 1 - i.toNat)
    (fun _ r => (r = .e0 ∧ l = []) ∨ ∃ n A, (r = .e1 n A ∨ r = .e2 n A) ∧ rowL n A = l) (fun q hq => by
      cases q with
      | c0 =>
        by_cases h : 0 < M
        · obtain ⟨y, hy⟩ := rep_pre hE 1 (by omega)
          rcases rep_inv (m := 0) (nx := 1) (l := []) rfl hy with ⟨hr, hm, rfl⟩ | ⟨hr, hm, rfl⟩
          · cases hm
          · refine .inl ⟨.c1 1 (fun _ => (E 0).fId) 2 1, ?_, ⟨1, rfl, by omega, by omega, hy, by omega⟩, by show M + 1 - 1 < M + 1; omega, fun r hr => hr⟩
            unfold st_barbicanlaw11_SockLedger_L2v1
            simp only
            rw [ct (d_t (by omega)), ct (inR_t (by omega) (by omega)), cf hr, ct (by rw [hm]; rfl)]
        · obtain rfl : M = 0 := by omega
          refine .inr ⟨.e0, ?_, .inl ⟨rfl, ?_⟩⟩
          · unfold st_barbicanlaw11_SockLedger_L2v1
            simp only
            rw [cf (d_f (by omega))]
          · simp [rep] at hE
            exact hE.2
      | c1 n A nx i =>
        obtain ⟨s, rfl, hs1, hs, hrep, hn⟩ := hq
        obtain ⟨hsort, hlt, hnx, hnx1⟩ := rep_sorted hrep
        by_cases h : s < M
        · obtain ⟨y, hy⟩ := rep_pre hE (s + 1) (by omega)
          rcases rep_inv hrep hy with ⟨hr, hm, rfl⟩ | ⟨hr, hm, rfl⟩
          · obtain ⟨a, j, ha, hae, hfind⟩ := find_barbicanlaw11_SockLedger_L2v1_L3v4 (M := M) (E := E) (by omega) h hm
            by_cases hend : a + 1 = n
            · refine .inl ⟨.c2 a A nx ((s + 1 : Nat) : Int), ?_, ⟨s + 1, rfl, by omega, by omega, by rw [hy, cut_end hend hae hsort], by omega⟩, by show M + 1 - ((s + 1 : Nat) : Int).toNat < M + 1 - (s : Int).toNat; omega, fun r hr => hr⟩
              unfold st_barbicanlaw11_SockLedger_L2v1
              simp only
              rw [ct (d_t (by omega)), ct (inR_nat' h), Int.toNat_natCast, ct hr, hfind]
              simp only [Option.bind_some]
              rw [cf (d_f (by omega)), ct (inR_nat' (show a < n + 1 by omega)), w_succ (by omega), ct (inR_nat' (show a + 1 < n + 1 by omega)), cf (inR_f (by omega)), Int.toNat_natCast, ct (d_t (by omega)), w_succ (by omega)]
            · refine .inl ⟨.c1 (a + (n - (a + 1))) (catF A a (fun k => A (a + 1 + k))) nx ((s + 1 : Nat) : Int), ?_, ⟨s + 1, rfl, by omega, by omega, by rw [hy, cut_row ha hae hsort], by omega⟩, by show M + 1 - ((s + 1 : Nat) : Int).toNat < M + 1 - (s : Int).toNat; omega, fun r hr => hr⟩
              unfold st_barbicanlaw11_SockLedger_L2v1
              simp only
              rw [ct (d_t (by omega)), ct (inR_nat' h), Int.toNat_natCast, ct hr, hfind]
              simp only [Option.bind_some]
              rw [cf (d_f (by omega)), ct (inR_nat' (show a < n + 1 by omega)), w_succ (by omega), ct (inR_nat' (show a + 1 < n + 1 by omega)), ct (inR_nat' (show a + 1 < n by omega)), Int.toNat_natCast, Int.toNat_natCast, ct (d_t (by omega)), ct (d_t (by omega)), ct (d_t (by omega)), w_succ (by omega)]
              rfl
          · refine .inl ⟨.c1 (n + 1) (updF A n (E s).fId) (nx + 1) ((s + 1 : Nat) : Int), ?_, ⟨s + 1, rfl, by omega, by omega, by rw [hy, rowL_app], by omega⟩, by show M + 1 - ((s + 1 : Nat) : Int).toNat < M + 1 - (s : Int).toNat; omega, fun r hr => hr⟩
            have e1 : IntKind.i64.wrap (nx + 1) = nx + 1 := by rw [wr] <;> omega
            unfold st_barbicanlaw11_SockLedger_L2v1
            simp only
            rw [ct (d_t (by omega)), ct (inR_nat' h), Int.toNat_natCast, cf hr, ct (by rw [hm]; simp), ct (d_t (by omega)), w_succ (by omega), e1]
        · obtain rfl : s = M := by omega
          refine .inr ⟨.e1 n A, ?_, .inr ⟨n, A, .inl rfl, by
            rw [hE] at hrep
            injection hrep with hrep
            injection hrep with _ hrep
            exact hrep.symm⟩⟩
          unfold st_barbicanlaw11_SockLedger_L2v1
          simp only
          rw [cf (d_f (by omega))]
      | c2 n A nx i =>
        obtain ⟨s, rfl, hs1, hs, hrep, hn⟩ := hq
        obtain ⟨hsort, hlt, hnx, hnx1⟩ := rep_sorted hrep
        by_cases h : s < M
        · obtain ⟨y, hy⟩ := rep_pre hE (s + 1) (by omega)
          rcases rep_inv hrep hy with ⟨hr, hm, rfl⟩ | ⟨hr, hm, rfl⟩
          · obtain ⟨a, j, ha, hae, hfind⟩ := find_barbicanlaw11_SockLedger_L2v1_L3v5 (M := M) (E := E) (by omega) h hm
            by_cases hend : a + 1 = n
            · refine .inl ⟨.c2 a A nx ((s + 1 : Nat) : Int), ?_, ⟨s + 1, rfl, by omega, by omega, by rw [hy, cut_end hend hae hsort], by omega⟩, by show M + 1 - ((s + 1 : Nat) : Int).toNat < M + 1 - (s : Int).toNat; omega, fun r hr => hr⟩
              unfold st_barbicanlaw11_SockLedger_L2v1
              simp only
              rw [ct (d_t (by omega)), ct (inR_nat' h), Int.toNat_natCast, ct hr, hfind]
              simp only [Option.bind_some]
              rw [cf (d_f (by omega)), ct (inR_nat' (show a < n + 1 by omega)), w_succ (by omega), ct (inR_nat' (show a + 1 < n + 1 by omega)), cf (inR_f (by omega)), Int.toNat_natCast, ct (d_t (by omega)), w_succ (by omega)]
            · refine .inl ⟨.c1 (a + (n - (a + 1))) (catF A a (fun k => A (a + 1 + k))) nx ((s + 1 : Nat) : Int), ?_, ⟨s + 1, rfl, by omega, by omega, by rw [hy, cut_row ha hae hsort], by omega⟩, by show M + 1 - ((s + 1 : Nat) : Int).toNat < M + 1 - (s : Int).toNat; omega, fun r hr => hr⟩
              unfold st_barbicanlaw11_SockLedger_L2v1
              simp only
              rw [ct (d_t (by omega)), ct (inR_nat' h), Int.toNat_natCast, ct hr, hfind]
              simp only [Option.bind_some]
              rw [cf (d_f (by omega)), ct (inR_nat' (show a < n + 1 by omega)), w_succ (by omega), ct (inR_nat' (show a + 1 < n + 1 by omega)), ct (inR_nat' (show a + 1 < n by omega)), Int.toNat_natCast, Int.toNat_natCast, ct (d_t (by omega)), ct (d_t (by omega)), ct (d_t (by omega)), w_succ (by omega)]
              rfl
          · refine .inl ⟨.c1 (n + 1) (updF A n (E s).fId) (nx + 1) ((s + 1 : Nat) : Int), ?_, ⟨s + 1, rfl, by omega, by omega, by rw [hy, rowL_app], by omega⟩, by show M + 1 - ((s + 1 : Nat) : Int).toNat < M + 1 - (s : Int).toNat; omega, fun r hr => hr⟩
            have e1 : IntKind.i64.wrap (nx + 1) = nx + 1 := by rw [wr] <;> omega
            unfold st_barbicanlaw11_SockLedger_L2v1
            simp only
            rw [ct (d_t (by omega)), ct (inR_nat' h), Int.toNat_natCast, cf hr, ct (by rw [hm]; simp), ct (d_t (by omega)), w_succ (by omega), e1]
        · obtain rfl : s = M := by omega
          refine .inr ⟨.e2 n A, ?_, .inr ⟨n, A, .inr rfl, by
            rw [hE] at hrep
            injection hrep with hrep
            injection hrep with _ hrep
            exact hrep.symm⟩⟩
          unfold st_barbicanlaw11_SockLedger_L2v1
          simp only
          rw [cf (d_f (by omega))]) .c0 trivial
  rw [h2]
  rcases h3 with ⟨rfl, h3⟩ | ⟨n, A, rfl | rfl, h3⟩
  · exact .inl ⟨rfl, h3⟩
  · exact .inr ⟨n, A, .inl rfl, h3⟩
  · exact .inr ⟨n, A, .inr rfl, h3⟩
/-- The law answers true. -/
theorem ledger_true (n0 : Nat) (A0 : Nat → Step) (y1 : Int) (hA0 : ∀ k, k < n0 → (A0 k).fI < 9223372036854775808) : m_barbicanlaw11_SockLedger n0 A0 y1 = some true := by
  unfold m_barbicanlaw11_SockLedger
  by_cases hn : 60 < (n0 : Int)
  · rw [ct (d_t hn)]
  rw [cf (d_f hn)]
  by_cases hy0 : y1 < 0
  · rw [ct (d_t hy0)]
  rw [cf (d_f hy0)]
  by_cases hy1 : 300 < y1
  · rw [ct (d_t hy1)]
  rw [cf (d_f hy1)]
  rcases many_loop (y := y1) (by omega) (by omega) with h0 | ⟨N, C, N2', R, H, M, E, h0, hI, hN, hM⟩
  · rw [h0]
    simp only [Option.bind_some]
    rcases calls_nil (by omega) hA0 with h1 | ⟨N2, C2, N22, R2, H2, O2, M2, E2, h1, hI2, hN2, hM2⟩
    · rw [h1]
      simp only [Option.bind_some]
      rw [held_nil]
      simp only [Option.bind_some]
      rw [ints_true (n := 0) (m := 0) (A := (fun _ => (0 : Int))) (B := (fun _ => (0 : Int))) (by omega) rfl]
      rfl
    · rw [h1]
      simp only [Option.bind_some]
      have hev := hI2.ev
      rw [show m_sock_Ledger_Events_v1 N2 N22 H2 O2 M2 C2 R2 E2 = some .e0 by unfold m_sock_Ledger_Events_v1; rw [ct (d_t (by omega))]]
      simp only [Option.bind_some]
      have hlen : (hl C2 N2).length ≤ 256 := by have := hI2.h; have := hI2.h256; omega
      rcases replay (by omega) hev with ⟨hrep, hnil⟩ | ⟨n, A, hrep, hA⟩
      · rw [hrep]
        simp only [Option.bind_some]
        rcases held_spec (R := R2) hI2 (by omega) with ⟨hh, _⟩ | ⟨m, B, hh, hB⟩
        · rw [hh]
          simp only [Option.bind_some]
          rw [ints_true (n := 0) (m := 0) (A := (fun _ => (0 : Int))) (B := (fun _ => (0 : Int))) (by omega) rfl]
          rfl
        · rw [hh]
          simp only [Option.bind_some]
          rw [ints_true (n := 0) (m := m) (A := (fun _ => (0 : Int))) (B := B) (by omega) (by rw [hB, hnil]; rfl)]
          rfl
      · have hn : n ≤ 256 := by
          have := congrArg List.length hA
          rw [rowL_len] at this
          omega
        rcases hrep with hrep | hrep
        · rw [hrep]
          simp only [Option.bind_some]
          rcases held_spec (R := R2) hI2 (by omega) with ⟨hh, h0⟩ | ⟨m, B, hh, hB⟩
          · rw [hh]
            simp only [Option.bind_some]
            rw [ints_true (n := n) (m := 0) (A := A) (B := (fun _ => (0 : Int))) (by omega) (by rw [hA, h0]; rfl)]
            simp only [Option.bind_some]
            rw [ct rfl, d_t (by omega)]
          · rw [hh]
            simp only [Option.bind_some]
            rw [ints_true (n := n) (m := m) (A := A) (B := B) (by omega) (by rw [hA, hB])]
            simp only [Option.bind_some]
            rw [ct rfl, d_t (by omega)]
        · rw [hrep]
          simp only [Option.bind_some]
          rcases held_spec (R := R2) hI2 (by omega) with ⟨hh, h0⟩ | ⟨m, B, hh, hB⟩
          · rw [hh]
            simp only [Option.bind_some]
            rw [ints_true (n := n) (m := 0) (A := A) (B := (fun _ => (0 : Int))) (by omega) (by rw [hA, h0]; rfl)]
            simp only [Option.bind_some]
            rw [ct rfl, d_t (by omega)]
          · rw [hh]
            simp only [Option.bind_some]
            rw [ints_true (n := n) (m := m) (A := A) (B := B) (by omega) (by rw [hA, hB])]
            simp only [Option.bind_some]
            rw [ct rfl, d_t (by omega)]
  · rw [h0]
    simp only [Option.bind_some]
    obtain ⟨N2, C2, N22, R2, H2, O2, M2, E2, h1, hI2, hN2, hM2⟩ := calls_rows (R := R) (by omega) hA0 hI hN hM
    rw [h1]
    simp only [Option.bind_some]
    have hev := hI2.ev
    rw [show m_sock_Ledger_Events_v1 N2 N22 H2 O2 M2 C2 R2 E2 = some .e0 by unfold m_sock_Ledger_Events_v1; rw [ct (d_t (by omega))]]
    simp only [Option.bind_some]
    have hlen : (hl C2 N2).length ≤ 256 := by have := hI2.h; have := hI2.h256; omega
    rcases replayv1 (by omega) hev with ⟨hrep, hnil⟩ | ⟨n, A, hrep, hA⟩
    · rw [hrep]
      simp only [Option.bind_some]
      rcases held_spec (R := R2) hI2 (by omega) with ⟨hh, _⟩ | ⟨m, B, hh, hB⟩
      · rw [hh]
        simp only [Option.bind_some]
        rw [ints_true (n := 0) (m := 0) (A := (fun _ => (0 : Int))) (B := (fun _ => (0 : Int))) (by omega) rfl]
        rfl
      · rw [hh]
        simp only [Option.bind_some]
        rw [ints_true (n := 0) (m := m) (A := (fun _ => (0 : Int))) (B := B) (by omega) (by rw [hB, hnil]; rfl)]
        rfl
    · have hn : n ≤ 256 := by
        have := congrArg List.length hA
        rw [rowL_len] at this
        omega
      rcases hrep with hrep | hrep
      · rw [hrep]
        simp only [Option.bind_some]
        rcases held_spec (R := R2) hI2 (by omega) with ⟨hh, h0⟩ | ⟨m, B, hh, hB⟩
        · rw [hh]
          simp only [Option.bind_some]
          rw [ints_true (n := n) (m := 0) (A := A) (B := (fun _ => (0 : Int))) (by omega) (by rw [hA, h0]; rfl)]
          simp only [Option.bind_some]
          rw [ct rfl, d_t (by omega)]
        · rw [hh]
          simp only [Option.bind_some]
          rw [ints_true (n := n) (m := m) (A := A) (B := B) (by omega) (by rw [hA, hB])]
          simp only [Option.bind_some]
          rw [ct rfl, d_t (by omega)]
      · rw [hrep]
        simp only [Option.bind_some]
        rcases held_spec (R := R2) hI2 (by omega) with ⟨hh, h0⟩ | ⟨m, B, hh, hB⟩
        · rw [hh]
          simp only [Option.bind_some]
          rw [ints_true (n := n) (m := 0) (A := A) (B := (fun _ => (0 : Int))) (by omega) (by rw [hA, h0]; rfl)]
          simp only [Option.bind_some]
          rw [ct rfl, d_t (by omega)]
        · rw [hh]
          simp only [Option.bind_some]
          rw [ints_true (n := n) (m := m) (A := A) (B := B) (by omega) (by rw [hA, hB])]
          simp only [Option.bind_some]
          rw [ct rfl, d_t (by omega)]
end Go.Proofs.Ytmopkmjddaaknaa
