/-
  What the law comes to: no way of eight bytes is told twice.
-/
import Derived.Test.YtlpjdjbophcomaaDoorBWM
namespace Go.Proofs.YtlpjdjbophcomaaDoor
open Go.RowKit
set_option linter.unusedVariables false
set_option linter.unusedSimpArgs false
section
variable {n : Nat} {A : TyL} {i : Nat} {s : Int} {id y : Int} (G : Good n A) (B : Bits n A) (S : Small n A) (hi : i < n) (hid : id = ((i + 1 : Nat) : Int)) (hs : Sz n A i s) (h100 : s ≤ 100) (hsize : m_btf_Size_v1 n A id = some (s, 0))
include G B S hi hid hs h100 hsize
theorem field_way (hy : 0 ≤ y ∧ y ≤ 8) {off : Int} (h0 : 0 ≤ off) (h1 : off < s) : ∃ w ok, m_btf_wayTo_v2 n A id off y = some (w, ok) ∧ (ok = true → Wy n A y n i off (txt w)) := by
  obtain ⟨w, ok, h, hok⟩ := G.way_run B S y hy n i hi (G.dep i hi) off s (⟨#[]⟩ : ByteArray) hs h0 h1 (by omega) (by have := G.hn; show 0 + _ ≤ _; omega)
  refine ⟨w, ok, by subst hid; simp only [m_btf_wayTo_v2, h, Option.bind_some], fun q => ?_⟩
  obtain ⟨suf, e, hw⟩ := hok q
  have e2 : txt w = suf := by rw [e]; rfl
  rw [e2]
  exact hw
theorem field_told {off : Int} (h0 : 0 ≤ off) (h1 : off < s) : ∃ r : ByteArray × Int, m_btf_Field_v2 n A id off y = some r ∧ (r.2 = 0 → y = 8 → Wy n A 8 n i off (txt r.1)) := by
  have a1 : ¬ off < 0 := by omega
  unfold m_btf_Field_v2
  rw [hsize, Option.bind_some, iq_t (show (0 : Int) = 0 from rfl), cond_true]
  by_cases y1 : y = 1
  · obtain ⟨w, ok, hw, _⟩ := field_way (y := y) G B S hi hid hs h100 hsize (by omega) h0 h1
    rw [iq_t y1, cond_true, d_f a1, cond_false]
    refine cnd (P := fun q => ∃ r : ByteArray × Int, q = some r ∧ (r.2 = 0 → y = 8 → Wy n A 8 n i off (txt r.1))) (fun _ => ⟨_, rfl, fun _ h => by omega⟩) (fun _ => ?_)
    rw [hw]
    cases ok <;> exact ⟨_, rfl, fun _ h => by omega⟩
  rw [iq_f y1, cond_false]
  by_cases y2 : y = 2
  · obtain ⟨w, ok, hw, _⟩ := field_way (y := y) G B S hi hid hs h100 hsize (by omega) h0 h1
    rw [iq_t y2, cond_true, d_f a1, cond_false]
    refine cnd (P := fun q => ∃ r : ByteArray × Int, q = some r ∧ (r.2 = 0 → y = 8 → Wy n A 8 n i off (txt r.1))) (fun _ => ⟨_, rfl, fun _ h => by omega⟩) (fun _ => ?_)
    rw [hw]
    cases ok <;> exact ⟨_, rfl, fun _ h => by omega⟩
  rw [iq_f y2, cond_false]
  by_cases y4 : y = 4
  · obtain ⟨w, ok, hw, _⟩ := field_way (y := y) G B S hi hid hs h100 hsize (by omega) h0 h1
    rw [iq_t y4, cond_true, d_f a1, cond_false]
    refine cnd (P := fun q => ∃ r : ByteArray × Int, q = some r ∧ (r.2 = 0 → y = 8 → Wy n A 8 n i off (txt r.1))) (fun _ => ⟨_, rfl, fun _ h => by omega⟩) (fun _ => ?_)
    rw [hw]
    cases ok <;> exact ⟨_, rfl, fun _ h => by omega⟩
  rw [iq_f y4, cond_false]
  by_cases y8 : y = 8
  · obtain ⟨w, ok, hw, hok⟩ := field_way (y := y) G B S hi hid hs h100 hsize (by omega) h0 h1
    rw [iq_t y8, cond_true, d_f a1, cond_false]
    refine cnd (P := fun q => ∃ r : ByteArray × Int, q = some r ∧ (r.2 = 0 → y = 8 → Wy n A 8 n i off (txt r.1))) (fun _ => ⟨_, rfl, fun h => by cases h⟩) (fun _ => ?_)
    rw [hw]
    cases ok with
    | false => exact ⟨_, rfl, fun h => by cases h⟩
    | true => exact ⟨_, rfl, fun _ _ => by have := hok rfl; rw [y8] at this; exact this⟩
  rw [iq_f y8, cond_false]
  exact ⟨_, rfl, fun _ h => absurd h y8⟩
end
/-- Whether a place has a way. -/
noncomputable def okF (n : Nat) (A : TyL) (id y : Int) (o : Nat) : Bool := match m_btf_Field_v2 n A id (o : Int) y with
  | some r => r.2 == 0
  | none => false
/-- How many places ahead have one. -/
noncomputable def cntF (n : Nat) (A : TyL) (id y : Int) : Nat → Nat
  | 0 => 0
  | o + 1 => cntF n A id y o + (if okF n A id y o then 1 else 0)
theorem cntF_mono {n : Nat} {A : TyL} {id y : Int} {o : Nat} : ∀ {o' : Nat}, o ≤ o' → cntF n A id y o ≤ cntF n A id y o'
  | 0, h => by obtain rfl : o = 0 := by omega
               exact Nat.le_refl _
  | o' + 1, h => by
    by_cases e : o = o' + 1
    · subst e; exact Nat.le_refl _
    · have := cntF_mono (o' := o') (show o ≤ o' by omega) (n := n) (A := A) (id := id) (y := y)
      show _ ≤ cntF n A id y o' + _
      omega
theorem cntF_le {n : Nat} {A : TyL} {id y : Int} : ∀ o, cntF n A id y o ≤ o
  | 0 => Nat.le_refl _
  | o + 1 => by
    have := cntF_le (n := n) (A := A) (id := id) (y := y) o
    show cntF n A id y o + (if _ then 1 else 0) ≤ _
    split <;> omega
section
variable {n : Nat} {A : TyL} {i : Nat} {id y : Int} {m : Nat} (G : Good n A) (B : Bits n A) (S : Small n A) (hi : i < n) (hid : id = ((i + 1 : Nat) : Int)) (hs : Sz n A i (m : Int)) (h100 : m ≤ 100) (hsize : m_btf_Size_v1 n A id = some ((m : Int), 0))
include G B S hi hid hs h100 hsize
theorem place_told {o : Nat} (ho : o < m) : ∃ r : ByteArray × Int, m_btf_Field_v2 n A id (o : Int) y = some r ∧ okF n A id y o = (r.2 == 0) ∧ (r.2 = 0 → y = 8 → Wy n A 8 n i (o : Int) (txt r.1)) := by
  obtain ⟨r, h, hw⟩ := field_told (y := y) G B S hi hid hs (by omega) hsize (off := (o : Int)) (by omega) (by omega)
  exact ⟨r, h, by unfold okF; rw [h], hw⟩
/-- The first loop. -/
theorem ways_1 : ∃ r, lpO (st_barbicanlaw4_BtfWays_L0 n A id y ((m : Int), 0)) (.c0 0) = some r ∧ ((r = .e0 ∧ cntF n A id y m = 0) ∨ ∃ V, r = .e1 (cntF n A id y m) V ∧ ∀ k, k < cntF n A id y m → ∃ o : Nat, o < m ∧ m_btf_Field_v2 n A id (o : Int) y = some (V k, 0) ∧ cntF n A id y o = k) := by
  have key := lpO_ind (st := st_barbicanlaw4_BtfWays_L0 n A id y ((m : Int), 0))
    (fun q => ∃ o : Nat, o ≤ m ∧ ((q = .c0 (o : Int) ∧ cntF n A id y o = 0) ∨ ∃ V, q = .c1 (cntF n A id y o) V (o : Int) ∧ ∀ k, k < cntF n A id y o → ∃ o' : Nat, o' < m ∧ m_btf_Field_v2 n A id (o' : Int) y = some (V k, 0) ∧ cntF n A id y o' = k))
    (fun q => match q with | .c0 x => m - x.toNat | .c1 _ _ x => m - x.toNat)
    (fun _ r => (r = .e0 ∧ cntF n A id y m = 0) ∨ ∃ V, r = .e1 (cntF n A id y m) V ∧ ∀ k, k < cntF n A id y m → ∃ o : Nat, o < m ∧ m_btf_Field_v2 n A id (o : Int) y = some (V k, 0) ∧ cntF n A id y o = k) (fun q ⟨o, hom, h⟩ => by
    by_cases ho : o < m
    · obtain ⟨r, hr, hok, _⟩ := place_told (y := y) G B S hi hid hs h100 hsize ho
      have b1 : decide ((o : Int) < (m : Int)) = true := d_t (by omega)
      have w := w_succ o (by omega)
      have hc : cntF n A id y (o + 1) = cntF n A id y o + (if (r.2 == 0) then 1 else 0) := by
        show cntF n A id y o + (if okF n A id y o then 1 else 0) = _
        rw [hok]
      have hlt : ((m : Int)).toNat - 0 = m := by omega
      have dec : m - ((o + 1 : Nat) : Int).toNat < m - ((o : Nat) : Int).toNat := by omega
      rcases h with ⟨rfl, h0⟩ | ⟨V, rfl, hV⟩
      · cases hz : (r.2 == 0) with
        | true =>
          have hr0 : r = (r.1, 0) := by
            have : r.2 = 0 := by simpa using hz
            rw [← this]
          refine .inl ⟨.c1 1 (fun _ => r.1) ((o + 1 : Nat) : Int), ?_, ⟨o + 1, by omega, .inr ⟨fun _ => r.1, by rw [hc, h0, hz]; rfl, fun k hk => ?_⟩⟩, dec, fun r h => h⟩
          · simp only [st_barbicanlaw4_BtfWays_L0, b1, cond_true, hr, Option.bind_some, hz, w]
            cases decide (1 < y) <;> rfl
          · rw [hc, h0, hz] at hk
            obtain rfl : k = 0 := by
              have : k < 0 + 1 := hk
              omega
            exact ⟨o, ho, hr.trans (congrArg some hr0), h0⟩
        | false =>
          refine .inl ⟨.c0 ((o + 1 : Nat) : Int), ?_, ⟨o + 1, by omega, .inl ⟨rfl, by rw [hc, h0, hz]; rfl⟩⟩, dec, fun r h => h⟩
          simp only [st_barbicanlaw4_BtfWays_L0, b1, cond_true, hr, Option.bind_some, hz, cond_false, w]
      · cases hz : (r.2 == 0) with
        | true =>
          have hr0 : r = (r.1, 0) := by
            have : r.2 = 0 := by simpa using hz
            rw [← this]
          have hcl := cntF_le (n := n) (A := A) (id := id) (y := y) o
          have b2 : decide (cntF n A id y o ≤ 1000000) = true := d_t (by omega)
          have hc1 : cntF n A id y (o + 1) = cntF n A id y o + 1 := by rw [hc, hz]; rfl
          refine .inl ⟨.c1 (cntF n A id y o + 1) (updF V (cntF n A id y o) r.1) ((o + 1 : Nat) : Int), ?_, ⟨o + 1, by omega, .inr ⟨updF V (cntF n A id y o) r.1, by rw [hc1], fun k hk => ?_⟩⟩, dec, fun r h => h⟩
          · simp only [st_barbicanlaw4_BtfWays_L0, b1, cond_true, hr, Option.bind_some, hz, w, b2]
            cases decide (1 < y) <;> rfl
          · rw [hc1] at hk
            by_cases e : k = cntF n A id y o
            · rw [e, updF_at]
              exact ⟨o, ho, hr.trans (congrArg some hr0), rfl⟩
            · rw [updF_ne _ _ e]
              exact hV k (by omega)
        | false =>
          have hc1 : cntF n A id y (o + 1) = cntF n A id y o := by rw [hc, hz]; rfl
          refine .inl ⟨.c1 (cntF n A id y o) V ((o + 1 : Nat) : Int), ?_, ⟨o + 1, by omega, .inr ⟨V, by rw [hc1], by rw [hc1]; exact hV⟩⟩, dec, fun r h => h⟩
          simp only [st_barbicanlaw4_BtfWays_L0, b1, cond_true, hr, Option.bind_some, hz, cond_false, w]
    · obtain rfl : o = m := by omega
      have b1 : decide ((o : Int) < (o : Int)) = false := d_f (by omega)
      rcases h with ⟨rfl, h0⟩ | ⟨V, rfl, hV⟩
      · exact .inr ⟨.e0, by simp only [st_barbicanlaw4_BtfWays_L0, b1, cond_false], .inl ⟨rfl, h0⟩⟩
      · exact .inr ⟨.e1 _ V, by simp only [st_barbicanlaw4_BtfWays_L0, b1, cond_false], .inr ⟨V, rfl, hV⟩⟩)
  exact key (.c0 0) ⟨0, by omega, .inl ⟨rfl, rfl⟩⟩
/-- The second loop, where there is no way. -/
theorem ways_2 (h0 : cntF n A id y m = 0) : lpO (st_barbicanlaw4_BtfWays_L1 n A id y ((m : Int), 0)) (.c0 0 0) = some .e0 := by
  have key := lpO_ind (st := st_barbicanlaw4_BtfWays_L1 n A id y ((m : Int), 0)) (fun q => ∃ o : Nat, o ≤ m ∧ q = .c0 0 (o : Int)) (fun q => match q with | .c0 _ x => m - x.toNat) (fun _ r => r = .e0) (fun q ⟨o, hom, h⟩ => by
    subst h
    by_cases ho : o < m
    · obtain ⟨r, hr, hok, _⟩ := place_told (y := y) G B S hi hid hs h100 hsize ho
      have hf : (r.2 == 0) = false := by
        have h1 := cntF_mono (n := n) (A := A) (id := id) (y := y) (show o + 1 ≤ m by omega)
        have h2 : cntF n A id y (o + 1) = cntF n A id y o + (if okF n A id y o then 1 else 0) := rfl
        rw [hok] at h2
        cases hz : (r.2 == 0) with
        | false => rfl
        | true =>
          rw [hz, if_pos rfl] at h2
          omega
      exact .inl ⟨.c0 0 ((o + 1 : Nat) : Int), by simp only [st_barbicanlaw4_BtfWays_L1, d_t (show (o : Int) < (m : Int) by omega), cond_true, hr, Option.bind_some, hf, cond_false, w_succ o (by omega)], ⟨o + 1, by omega, rfl⟩, by show m - ((o + 1 : Nat) : Int).toNat < m - ((o : Nat) : Int).toNat; omega, fun r h => h⟩
    · obtain rfl : o = m := by omega
      exact .inr ⟨.e0, by simp only [st_barbicanlaw4_BtfWays_L1, d_f (show ¬ ((o : Int) < (o : Int)) by omega), cond_false], rfl⟩)
  obtain ⟨r, hr, rfl⟩ := key (.c0 0 0) ⟨0, by omega, rfl⟩
  exact hr
/-- The second loop. -/
theorem ways_3 {V : Nat → ByteArray} (hV : ∀ k, k < cntF n A id y m → ∃ o : Nat, o < m ∧ m_btf_Field_v2 n A id (o : Int) y = some (V k, 0) ∧ cntF n A id y o = k) :
    lpO (st_barbicanlaw4_BtfWays_L1v1 n A id y ((m : Int), 0) (cntF n A id y m) V) (.c0 0 0) = some .e0 := by
  have key := lpO_ind (st := st_barbicanlaw4_BtfWays_L1v1 n A id y ((m : Int), 0) (cntF n A id y m) V) (fun q => ∃ o : Nat, o ≤ m ∧ q = .c0 ((cntF n A id y o : Nat) : Int) (o : Int)) (fun q => match q with | .c0 _ x => m - x.toNat) (fun _ r => r = .e0) (fun q ⟨o, hom, h⟩ => by
    subst h
    by_cases ho : o < m
    · obtain ⟨r, hr, hok, hw⟩ := place_told (y := y) G B S hi hid hs h100 hsize ho
      have b1 := d_t (show (o : Int) < (m : Int) by omega)
      have dec : m - ((o + 1 : Nat) : Int).toNat < m - ((o : Nat) : Int).toNat := by omega
      have hcl := cntF_le (n := n) (A := A) (id := id) (y := y) o
      have hc : cntF n A id y (o + 1) = cntF n A id y o + (if (r.2 == 0) then 1 else 0) := by
        show cntF n A id y o + (if okF n A id y o then 1 else 0) = _
        rw [hok]
      cases hz : (r.2 == 0) with
      | false =>
        have hc1 : cntF n A id y (o + 1) = cntF n A id y o := by rw [hc, hz]; rfl
        exact .inl ⟨.c0 ((cntF n A id y o : Nat) : Int) ((o + 1 : Nat) : Int), by simp only [st_barbicanlaw4_BtfWays_L1v1, b1, cond_true, hr, Option.bind_some, hz, cond_false, w_succ o (by omega)], ⟨o + 1, by omega, by rw [hc1]⟩, dec, fun r h => h⟩
      | true =>
        have hr2 : r.2 = 0 := by simpa using hz
        have hc1 : cntF n A id y (o + 1) = cntF n A id y o + 1 := by rw [hc, hz]; rfl
        have hle := cntF_mono (n := n) (A := A) (id := id) (y := y) (show o ≤ m by omega)
        have inner := lpO_ind (st := st_barbicanlaw4_BtfWays_L1v1_L2v1 y (cntF n A id y m) V ((cntF n A id y o : Nat) : Int) r) (fun q => ∃ k : Nat, k ≤ cntF n A id y o ∧ q = .c0 (k : Int)) (fun q => match q with | .c0 x => cntF n A id y o - x.toNat) (fun _ r => r = .e0) (fun q ⟨k, hk, h⟩ => by
          subst h
          by_cases hk2 : k < cntF n A id y o
          · have c1 := d_t (show (k : Int) < ((cntF n A id y o : Nat) : Int) by omega)
            have c2 := inR_t (show (0 : Int) ≤ (k : Int) by omega) (show (k : Int) < ((cntF n A id y m : Nat) : Int) by omega)
            have dk : cntF n A id y o - ((k + 1 : Nat) : Int).toNat < cntF n A id y o - ((k : Nat) : Int).toNat := by omega
            cases he : (V k == r.1) with
            | false => exact .inl ⟨.c0 ((k + 1 : Nat) : Int), by simp only [st_barbicanlaw4_BtfWays_L1v1_L2v1, c1, c2, cond_true, Int.toNat_natCast, he, cond_false, w_succ k (by omega)], ⟨k + 1, by omega, rfl⟩, dk, fun r h => h⟩
            | true =>
              by_cases y8 : y = 8
              · exfalso
                obtain ⟨o', ho', hf, hcn⟩ := hV k (by omega)
                have hne : o' < o := by
                  rcases Nat.lt_or_ge o' o with q | q
                  · exact q
                  · have := cntF_mono (n := n) (A := A) (id := id) (y := y) q
                    omega
                obtain ⟨r', hr', _, hw'⟩ := place_told (y := y) G B S hi hid hs h100 hsize ho'
                rw [hf] at hr'
                injection hr' with hr'
                subst hr'
                have e1 := hw hr2 y8
                have e2 := hw' rfl y8
                have e3 : V k = r.1 := ba_eq he
                rw [← e3] at e1
                have := G.way_inj n i hi _ _ _ e1 e2
                omega
              · exact .inl ⟨.c0 ((k + 1 : Nat) : Int), by simp only [st_barbicanlaw4_BtfWays_L1v1_L2v1, c1, c2, cond_true, Int.toNat_natCast, he, iq_f y8, cond_false, w_succ k (by omega)], ⟨k + 1, by omega, rfl⟩, dk, fun r h => h⟩
          · obtain rfl : k = cntF n A id y o := by omega
            exact .inr ⟨.e0, by simp only [st_barbicanlaw4_BtfWays_L1v1_L2v1, d_f (show ¬ (((cntF n A id y o : Nat) : Int) < ((cntF n A id y o : Nat) : Int)) by omega), cond_false], rfl⟩)
        obtain ⟨_, hin, rfl⟩ := inner (.c0 0) ⟨0, by omega, rfl⟩
        refine .inl ⟨.c0 ((cntF n A id y (o + 1) : Nat) : Int) ((o + 1 : Nat) : Int), ?_, ⟨o + 1, by omega, rfl⟩, dec, fun r h => h⟩
        rw [hc1]
        simp only [st_barbicanlaw4_BtfWays_L1v1, b1, cond_true, hr, Option.bind_some, hz, hin, w_succ o (by omega), w_succ (cntF n A id y o) (by omega)]
    · obtain rfl : o = m := by omega
      exact .inr ⟨.e0, by simp only [st_barbicanlaw4_BtfWays_L1v1, d_f (show ¬ ((o : Int) < (o : Int)) by omega), cond_false], rfl⟩)
  obtain ⟨r, hr, rfl⟩ := key (.c0 0 0) ⟨0, by omega, rfl⟩
  exact hr
end
theorem few_told (n : Nat) (A : TyL) (hn : n ≤ 140737488351232) : ∃ b, m_barbicanlaw4_few n A = some b := by
  have key := lpO_ind (st := st_barbicanlaw4_few_L0 n A) (fun q => ∃ (t : Nat) (x : Int), t ≤ n ∧ q = .c0 x (t : Int)) (fun q => match q with | .c0 _ x => n - x.toNat) (fun _ _ => True) (fun q ⟨t, x, htn, h⟩ => by
    subst h
    by_cases ht : t < n
    · have w : IntKind.i64.wrap ((t : Int) + 1) = ((t + 1 : Nat) : Int) := by rw [wr] <;> omega
      by_cases a : x ≤ 400
      · exact .inl ⟨.c0 _ ((t + 1 : Nat) : Int), by simp only [st_barbicanlaw4_few_L0, d_t (show (t : Int) < (n : Int) by omega), d_t a, inR_t (show (0 : Int) ≤ (t : Int) by omega) (show (t : Int) < (n : Int) by omega), cond_true, w]; rfl, ⟨t + 1, _, by omega, rfl⟩, by show n - ((t + 1 : Nat) : Int).toNat < n - ((t : Nat) : Int).toNat; omega, fun r h => h⟩
      · exact .inr ⟨_, by simp only [st_barbicanlaw4_few_L0, d_t (show (t : Int) < (n : Int) by omega), d_f a, cond_true, cond_false]; rfl, trivial⟩
    · exact .inr ⟨_, by simp only [st_barbicanlaw4_few_L0, d_f (show ¬ ((t : Int) < (n : Int)) by omega), cond_false]; rfl, trivial⟩)
  obtain ⟨r, hr, _⟩ := key (.c0 0 0) ⟨0, 0, by omega, rfl⟩
  unfold m_barbicanlaw4_few
  rw [hr]
  cases r
  exact ⟨_, rfl⟩
theorem btfways_true (n : Nat) (A : TyL) (id y : Int) (hn : n ≤ 140737488351232) (S : Small n A) : m_barbicanlaw4_BtfWays n A id y = some true := by
  obtain ⟨s, e, hs, hG⟩ := size_told n A id
  obtain ⟨b, hb⟩ := few_told n A hn
  unfold m_barbicanlaw4_BtfWays
  rw [hs, hb, Option.bind_some, Option.bind_some]
  cases b with
  | false => rfl
  | true =>
    rw [cond_true]
    by_cases e0 : e = 0
    · obtain ⟨G, B, i, hi, hid, s0, s1, hz⟩ := hG e0
      subst e0
      rw [iq_t (show (0 : Int) = 0 from rfl), cond_true]
      by_cases h100 : 100 < s
      · rw [d_t h100, cond_true]
      · rw [d_f h100, cond_false]
        obtain ⟨m, rfl⟩ : ∃ m : Nat, s = (m : Int) := ⟨s.toNat, by omega⟩
        obtain ⟨r, hr, hP⟩ := ways_1 (y := y) G B S hi hid hz (by omega) hs
        rw [hr, Option.bind_some]
        rcases hP with ⟨rfl, h0⟩ | ⟨V, rfl, hV⟩
        · simp only [ways_2 G B S hi hid hz (by omega) hs h0, Option.bind_some]
        · simp only [ways_3 G B S hi hid hz (by omega) hs hV, Option.bind_some]
    · rw [iq_f e0, cond_false]
end Go.Proofs.YtlpjdjbophcomaaDoor

