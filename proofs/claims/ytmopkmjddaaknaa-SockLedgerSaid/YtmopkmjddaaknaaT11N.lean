/-
  The law on ledgers, in plain words.
-/
import Derived.Test.YtmopkmjddaaknaaT11M
namespace Go.Proofs.Ytmopkmjddaaknaa
open Go.RowKit
set_option linter.unusedVariables false
set_option linter.unusedSimpArgs false
theorem ct {α : Sort _} {x y : α} {b : Bool} (h : b = true) : (bif b then x else y) = x := by rw [h]; rfl
theorem cf {α : Sort _} {x y : α} {b : Bool} (h : b = false) : (bif b then x else y) = y := by rw [h]; rfl
theorem w_succ {k : Nat} (h : k < 1000000) : IntKind.i64.wrap ((k : Int) + 1) = ((k + 1 : Nat) : Int) := by rw [wr] <;> omega
/-! ### Acquire, Release, Held, by what the program says -/
section
variable {N : Nat} {C : Nat → Int} {N2 : Nat} {H O : Int} {M : Nat} {E : Nat → Event} {R : Nat → Reference}
theorem acq_no (h : 256 ≤ H) (y1 y2 : Int) : m_sock_Ledger_Acquire_v3 y1 y2 N N2 H O M C R E = some .e0 := by
  unfold m_sock_Ledger_Acquire_v3
  rw [ct (d_t h)]
theorem acq_yes (hI : LI N C N2 H O M E) (h : H < 256) (hN : N ≤ 1000) (hM : M ≤ 1000) (y1 y2 : Int) : m_sock_Ledger_Acquire_v3 y1 y2 N N2 H O M C R E = some (.e1 (updF C N 1) (updF R N2 ⟨y1, y2⟩) (H + 1) (updF E M ⟨false, (N : Int) + 1, y1⟩) ((N : Int) + 1)) := by
  have h2 := hI.n2
  have h3 : 0 ≤ H := by rw [hI.h]; omega
  have e1 : IntKind.i64.wrap ((N : Int) + 1 - 1) = (N : Int) := by rw [wr] <;> omega
  have e2 : IntKind.i64.wrap ((N : Int) + 1) = (N : Int) + 1 := by rw [wr] <;> omega
  have e3 : IntKind.i64.wrap (H + 1) = H + 1 := by rw [wr] <;> omega
  unfold m_sock_Ledger_Acquire_v3 m_sock_counting_begin_v4
  rw [cf (d_f (by omega)), ct (d_t (show N ≤ 1000000 by omega))]
  simp only [Option.bind_some]
  rw [ct (d_t (show N2 ≤ 1000000 by omega)), ct (d_t (show M ≤ 1000000 by omega)), e1, e2, e3]
theorem counted_in {k : Nat} (h : k < N) : m_sock_counting_counted_v8 (k : Int) N N2 H O M C R E = some (.e0 (C k)) := by
  unfold m_sock_counting_counted_v8
  rw [cf (d_f (by omega)), cf (d_f (by omega)), ct (inR_nat' h), Int.toNat_natCast]
theorem counted_out {x : Int} (h : ¬ (0 ≤ x ∧ x < N)) : m_sock_counting_counted_v8 x N N2 H O M C R E = some (.e0 0) := by
  unfold m_sock_counting_counted_v8
  by_cases h0 : x < 0
  · rw [ct (d_t h0)]
  · rw [cf (d_f h0), ct (d_t (by omega))]
theorem rel_loop {o : Nat} (h2 : N2 = N) (hN : N ≤ 1000) (ho : o ≤ N) (hz : ∀ k, k < o → C k = 0) (x : Int) : ∃ o' : Nat, lpO (st_sock_Ledger_Release_v4_L0 N N2 x M R E C) (.c0 (o : Int)) = some (.e0 (IntKind.i64.wrap (x - 1)) (o' : Int)) ∧ o' ≤ N ∧ ∀ k, k < o' → C k = 0 := by
  subst h2
  obtain ⟨r, h1, h2⟩ := lpO_ind (st := st_sock_Ledger_Release_v4_L0 N2 N2 x M R E C) (fun s => match s with | .c0 y => ∃ k : Nat, y = (k : Int) ∧ k ≤ N2 ∧ ∀ i, i < k → C i = 0) (fun s => match s with | .c0 y => N2 - y.toNat)
    (fun _ r => ∃ o' : Nat, r = .e0 (IntKind.i64.wrap (x - 1)) (o' : Int) ∧ o' ≤ N2 ∧ ∀ k, k < o' → C k = 0) (fun s hs => by
      obtain ⟨y⟩ := s
      obtain ⟨k, rfl, hk, hkz⟩ := hs
      by_cases h : k < N2
      · by_cases hc : C k = 0
        · refine .inl ⟨.c0 ((k + 1 : Nat) : Int), ?_, ⟨k + 1, rfl, by omega, fun i hi => ?_⟩, by show N2 - ((k + 1 : Nat) : Int).toNat < N2 - (k : Int).toNat; omega, fun r hr => hr⟩
          · unfold st_sock_Ledger_Release_v4_L0
            simp only
            rw [ct (d_t (by omega)), counted_in h]
            simp only [Option.bind_some]
            rw [ct (by rw [hc]; rfl), w_succ (by omega)]
          · by_cases e : i = k
            · rw [e]; exact hc
            · exact hkz i (by omega)
        · refine .inr ⟨_, ?_, ⟨k, rfl, hk, hkz⟩⟩
          unfold st_sock_Ledger_Release_v4_L0
          simp only
          rw [ct (d_t (by omega)), counted_in h]
          simp only [Option.bind_some]
          rw [cf (by simpa using hc)]
      · refine .inr ⟨_, ?_, ⟨k, rfl, hk, hkz⟩⟩
        unfold st_sock_Ledger_Release_v4_L0
        simp only
        rw [cf (d_f (by omega))]) (.c0 (o : Int)) ⟨o, rfl, ho, hz⟩
  obtain ⟨o', rfl, h3, h4⟩ := h2
  exact ⟨o', h1, h3, h4⟩
theorem rel_spec (hI : LI N C N2 H O M E) (hN : N ≤ 1000) (hM : M ≤ 1000) (y1 y2 : Int) (hy : y1 < 9223372036854775808) :
    m_sock_Ledger_Release_v4 y1 y2 N N2 H O M C R E = some .e1 ∨
    ∃ C' O' E' wh, m_sock_Ledger_Release_v4 y1 y2 N N2 H O M C R E = some (.e0 C' (H - 1) O' E' wh) ∧ LI N C' N2 (H - 1) O' (M + 1) E' := by
  unfold m_sock_Ledger_Release_v4 m_sock_Ledger_What_v4
  by_cases h1 : y1 < 1
  · rw [ct (d_t h1)]
    exact .inl rfl
  · rw [cf (d_f h1)]
    have e1 : IntKind.i64.wrap (y1 - 1) = y1 - 1 := by rw [wr] <;> omega
    rw [e1]
    by_cases h2 : y1 - 1 < N
    · obtain ⟨j, rfl⟩ : ∃ j : Nat, y1 = (j : Int) + 1 := ⟨(y1 - 1).toNat, by omega⟩
      have e2 : (j : Int) + 1 - 1 = (j : Int) := by omega
      have hj : j < N := by omega
      rw [e2, counted_in hj]
      simp only [Option.bind_some]
      by_cases hc : C j = 0
      · rw [ct (by rw [hc]; rfl)]
        exact .inl rfl
      · have hc1 : C j = 1 := by have := hI.c j hj; omega
        rw [cf (by simpa using hc), ct (inR_nat' (show j < N2 by rw [hI.n2]; exact hj))]
        simp only [Option.bind_some]
        unfold m_sock_counting_change_v4
        rw [ct rfl, ct (inR_nat' hj), Int.toNat_natCast]
        simp only [Option.bind_some]
        have e3 : IntKind.i64.wrap (C j + -1) = 0 := by rw [hc1]; rfl
        rw [e3]
        obtain ⟨o, ho⟩ : ∃ o : Nat, O = (o : Int) := ⟨O.toNat, by have := hI.o0; omega⟩
        subst ho
        obtain ⟨o', h3, h4, h5⟩ := rel_loop (N := N) (N2 := N2) (C := updF C j 0) (M := M) (R := R) (E := E) (o := o) hI.n2 hN (by have := hI.oN; omega) (fun k hk => by
          unfold updF
          split
          · rfl
          · exact hI.oz k (by omega)) H
        rw [h3]
        simp only [Option.bind_some]
        rw [ct (d_t (by omega))]
        have hH : 0 ≤ H := by rw [hI.h]; omega
        have e4 : IntKind.i64.wrap (H - 1) = H - 1 := by have := hI.h256; rw [wr] <;> omega
        rw [e4]
        exact .inr ⟨_, _, _, _, rfl, hI.rel hj hc1 y2 (o' : Int) (by omega) (by omega) fun k hk => h5 k (by omega)⟩
    · rw [counted_out (by omega)]
      exact .inl rfl
theorem held_spec (hI : LI N C N2 H O M E) (hN : N ≤ 1000) : (m_sock_Ledger_Held_v1 N N2 H O M C R E = some .e0 ∧ hl C N = []) ∨ ∃ n A, m_sock_Ledger_Held_v1 N N2 H O M C R E = some (.e1 n A) ∧ rowL n A = hl C N := by
  have h2 := hI.n2
  subst h2
  obtain ⟨o, ho⟩ : ∃ o : Nat, O = (o : Int) := ⟨O.toNat, by have := hI.o0; omega⟩
  subst ho
  unfold m_sock_Ledger_Held_v1
  obtain ⟨r, h1, h3⟩ := lpO_ind (st := st_sock_Ledger_Held_v1_L0 N2 N2 H (o : Int) M C R E)
    (fun s => match s with | .c0 y => ∃ k : Nat, y = (k : Int) ∧ k ≤ N2 ∧ hl C k = [] | .c1 n A y => ∃ k : Nat, y = (k : Int) ∧ k ≤ N2 ∧ n ≤ k ∧ hl C k = rowL n A)
    (fun s => match s with | .c0 y => N2 - y.toNat | .c1 n A y => N2 - y.toNat)
    (fun _ r => (r = .e0 ∧ hl C N2 = []) ∨ ∃ n A, r = .e1 n A ∧ rowL n A = hl C N2) (fun s hs => by
      cases s with
      | c0 y =>
        obtain ⟨k, rfl, hk, hkz⟩ := hs
        by_cases h : k < N2
        · have hs := hl_succ (C := C) (N := k)
          by_cases hc : C k = 1
          · rw [if_pos hc, hkz, List.nil_append] at hs
            refine .inl ⟨.c1 1 (fun _ => ((k + 1 : Nat) : Int)) ((k + 1 : Nat) : Int), ?_, ⟨k + 1, rfl, by omega, by omega, by rw [hs]; rfl⟩, by show N2 - ((k + 1 : Nat) : Int).toNat < N2 - (k : Int).toNat; omega, fun r hr => hr⟩
            unfold st_sock_Ledger_Held_v1_L0
            simp only
            rw [ct (d_t (by omega)), counted_in h]
            simp only [Option.bind_some]
            rw [ct (d_t (by omega)), w_succ (by omega)]
          · have hc0 : C k = 0 := by have := hI.c k h; omega
            rw [if_neg hc, hkz] at hs
            refine .inl ⟨.c0 ((k + 1 : Nat) : Int), ?_, ⟨k + 1, rfl, by omega, hs⟩, by show N2 - ((k + 1 : Nat) : Int).toNat < N2 - (k : Int).toNat; omega, fun r hr => hr⟩
            unfold st_sock_Ledger_Held_v1_L0
            simp only
            rw [ct (d_t (by omega)), counted_in h]
            simp only [Option.bind_some]
            rw [cf (d_f (by omega)), w_succ (by omega)]
        · obtain rfl : k = N2 := by omega
          refine .inr ⟨_, ?_, .inl ⟨rfl, hkz⟩⟩
          unfold st_sock_Ledger_Held_v1_L0
          simp only
          rw [cf (d_f (by omega))]
      | c1 n A y =>
        obtain ⟨k, rfl, hk, hn, hkz⟩ := hs
        by_cases h : k < N2
        · have hs := hl_succ (C := C) (N := k)
          by_cases hc : C k = 1
          · rw [if_pos hc, hkz, rowL_app] at hs
            refine .inl ⟨.c1 (n + 1) (updF A n ((k + 1 : Nat) : Int)) ((k + 1 : Nat) : Int), ?_, ⟨k + 1, rfl, by omega, by omega, hs⟩, by show N2 - ((k + 1 : Nat) : Int).toNat < N2 - (k : Int).toNat; omega, fun r hr => hr⟩
            unfold st_sock_Ledger_Held_v1_L0
            simp only
            rw [ct (d_t (by omega)), counted_in h]
            simp only [Option.bind_some]
            rw [ct (d_t (by omega)), ct (d_t (by omega)), w_succ (by omega)]
          · have hc0 : C k = 0 := by have := hI.c k h; omega
            rw [if_neg hc, hkz] at hs
            refine .inl ⟨.c1 n A ((k + 1 : Nat) : Int), ?_, ⟨k + 1, rfl, by omega, by omega, hs⟩, by show N2 - ((k + 1 : Nat) : Int).toNat < N2 - (k : Int).toNat; omega, fun r hr => hr⟩
            unfold st_sock_Ledger_Held_v1_L0
            simp only
            rw [ct (d_t (by omega)), counted_in h]
            simp only [Option.bind_some]
            rw [cf (d_f (by omega)), w_succ (by omega)]
        · obtain rfl : k = N2 := by omega
          refine .inr ⟨_, ?_, .inr ⟨n, A, rfl, hkz.symm⟩⟩
          unfold st_sock_Ledger_Held_v1_L0
          simp only
          rw [cf (d_f (by omega))]) (.c0 (o : Int)) ⟨o, rfl, by have := hI.oN; omega, hl_none fun k hk => hI.oz k (by omega)⟩
  rw [h1]
  simp only [Option.bind_some]
  rcases h3 with ⟨rfl, h3⟩ | ⟨n, A, rfl, h3⟩
  · exact .inl ⟨rfl, h3⟩
  · exact .inr ⟨n, A, rfl, h3⟩
end
theorem ints_true {n m : Nat} {A B : Nat → Int} (hn : n ≤ 100000) (h : rowL n A = rowL m B) : m_barbicanhelp_Ints n A m B = some true := by
  obtain ⟨rfl, hAB⟩ := rowL_inj h
  unfold m_barbicanhelp_Ints
  rw [ct (by simp)]
  obtain ⟨r, h1, h2⟩ := lpO_ind (st := st_barbicanhelp_Ints_L0 n A n B) (fun s => match s with | .c0 y => ∃ k : Nat, y = (k : Int) ∧ k ≤ n) (fun s => match s with | .c0 y => n - y.toNat) (fun _ r => r = .e0) (fun s hs => by
    obtain ⟨y⟩ := s
    obtain ⟨k, rfl, hk⟩ := hs
    by_cases h' : k < n
    · refine .inl ⟨.c0 ((k + 1 : Nat) : Int), ?_, ⟨k + 1, rfl, by omega⟩, by show n - ((k + 1 : Nat) : Int).toNat < n - (k : Int).toNat; omega, fun r hr => hr⟩
      unfold st_barbicanhelp_Ints_L0
      simp only
      rw [ct (d_t (by omega)), ct (inR_nat' h'), ct (inR_nat' h'), Int.toNat_natCast, ct (by rw [hAB k h']; simp), w_succ (by omega)]
    · refine .inr ⟨_, ?_, rfl⟩
      unfold st_barbicanhelp_Ints_L0
      simp only
      rw [cf (d_f (by omega))]) (.c0 0) ⟨0, rfl, by omega⟩
  rw [h1, h2]
  rfl
theorem held_nil : m_sock_Ledger_Held 0 = some .e0 := by
  unfold m_sock_Ledger_Held
  rw [lpO_end (r := .e0) (by unfold st_sock_Ledger_Held_L0; simp only; rw [cf (d_f (by omega))])]
  rfl
end Go.Proofs.Ytmopkmjddaaknaa
