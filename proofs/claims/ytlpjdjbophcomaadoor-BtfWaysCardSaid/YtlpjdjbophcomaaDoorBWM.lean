/-
  The way to a place is told; Field; the law's two loops.
-/
import Derived.Test.YtlpjdjbophcomaaDoorBWL
namespace Go.Proofs.YtlpjdjbophcomaaDoor
open Go.RowKit
set_option linter.unusedVariables false
set_option linter.unusedSimpArgs false
theorem zquo_nn {a b : Int} (h0 : 0 ≤ a) (h1 : a < 9223372036854775808) (hb : 0 < b) : zquo a b = a / b ∧ 0 ≤ a / b ∧ a / b ≤ a := by
  have e1 : 0 ≤ a / b := Int.ediv_nonneg h0 (by omega)
  have e2 : a / b ≤ a := Int.ediv_le_self b h0
  refine ⟨?_, e1, e2⟩
  unfold zquo
  rw [Int.tdiv_eq_ediv_of_nonneg h0, wr] <;> omega
theorem zrem_nn {a b : Int} (h0 : 0 ≤ a) : zrem a b = a % b := by
  unfold zrem
  exact Int.tmod_eq_emod_of_nonneg h0
/-- Members' places are numbers of 64 bits. -/
def Small (n : Nat) (A : TyL) : Prop := ∀ i, i < n → ∀ u, u < (A i).2.1 → -9223372036854775808 ≤ ((A i).2.2 u).fBits ∧ ((A i).2.2 u).fBits < 9223372036854775808
section
variable {n : Nat} {A : TyL} (G : Good n A) (B : Bits n A) (S : Small n A)
include G B S
theorem Good.member {i : Nat} (hi : i < n) (k4 : (A i).1.fKind = 4) {off : Int} (h0 : 0 ≤ off) (h1 : off < 100) :
    (∃ c, m_btf_memberAt_v2 n A (A i).1 (A i).2.1 (A i).2.2 off = some (c, false)) ∨ ∃ u j s, u < (A i).2.1 ∧ j < n ∧ ((A i).2.2 u).fType = ((j + 1 : Nat) : Int) ∧ Holds A i j ∧ Sz n A j s ∧ 0 ≤ zquo ((A i).2.2 u).fBits 8 ∧ zquo ((A i).2.2 u).fBits 8 ≤ off ∧ off < zquo ((A i).2.2 u).fBits 8 + s ∧
      m_btf_memberAt_v2 n A (A i).1 (A i).2.1 (A i).2.2 off = some ((⟨((A i).2.2 u).fName, ((A i).2.2 u).fType, ((A i).2.2 u).fBits⟩ : Member), true) := by
  have hm := G.mem i hi
  have key := lpO_ind (st := st_btf_memberAt_v2_L0 n A (A i).2.1 (A i).2.2 off) (fun q => ∃ t : Nat, q = .c0 (t : Int) ∧ t ≤ (A i).2.1) (fun q => match q with | .c0 x => (A i).2.1 - x.toNat)
    (fun _ r => r = .e0 ∨ ∃ (u j : Nat) (s : Int), u < (A i).2.1 ∧ j < n ∧ ((A i).2.2 u).fType = ((j + 1 : Nat) : Int) ∧ Holds A i j ∧ Sz n A j s ∧ 0 ≤ zquo ((A i).2.2 u).fBits 8 ∧ zquo ((A i).2.2 u).fBits 8 ≤ off ∧ off < zquo ((A i).2.2 u).fBits 8 + s ∧ r = .e1 ((A i).2.2 u).fName ((A i).2.2 u).fType ((A i).2.2 u).fBits) (fun q ⟨t, e, hts⟩ => by
    subst e
    by_cases ht : t < (A i).2.1
    · have b1 := d_t (show (t : Int) < ((A i).2.1 : Int) by omega)
      have b2 := inR_t (show (0 : Int) ≤ (t : Int) by omega) (show (t : Int) < ((A i).2.1 : Int) by omega)
      obtain ⟨j, hj, ej, hH⟩ := G.toEach.st hi k4 ht
      obtain ⟨s, s0, s1, hs⟩ := G.sz hj
      have h8 := hs 300 (by omega)
      obtain ⟨q1, q2, q3⟩ := zquo_nn (b := 8) (B i hi k4 t ht) (S i hi t ht).2 (by omega)
      by_cases a1 : zquo ((A i).2.2 t).fBits 8 ≤ off
      · have w : IntKind.i64.wrap (zquo ((A i).2.2 t).fBits 8 + s) = zquo ((A i).2.2 t).fBits 8 + s := by rw [wr] <;> omega
        by_cases a2 : off < zquo ((A i).2.2 t).fBits 8 + s
        · exact .inr ⟨_, by simp only [st_btf_memberAt_v2_L0, b1, b2, cond_true, Int.toNat_natCast, d_t a1, ej, h8, Option.bind_some, w, d_t a2]; rfl, .inr ⟨t, j, s, ht, hj, ej, hH, hs, by rw [q1]; exact q2, a1, a2, by rw [ej]⟩⟩
        · exact .inl ⟨.c0 ((t + 1 : Nat) : Int), by simp only [st_btf_memberAt_v2_L0, b1, b2, cond_true, Int.toNat_natCast, d_t a1, ej, h8, Option.bind_some, w, d_f a2, cond_false, w_succ t (by omega)], ⟨t + 1, rfl, by omega⟩, by show (A i).2.1 - ((t + 1 : Nat) : Int).toNat < (A i).2.1 - ((t : Nat) : Int).toNat; omega, fun r h => h⟩
      · exact .inl ⟨.c0 ((t + 1 : Nat) : Int), by simp only [st_btf_memberAt_v2_L0, b1, b2, cond_true, Int.toNat_natCast, d_f a1, cond_false, w_succ t (by omega)], ⟨t + 1, rfl, by omega⟩, by show (A i).2.1 - ((t + 1 : Nat) : Int).toNat < (A i).2.1 - ((t : Nat) : Int).toNat; omega, fun r h => h⟩
    · obtain rfl : t = (A i).2.1 := by omega
      exact .inr ⟨.e0, by simp only [st_btf_memberAt_v2_L0, d_f (show ¬ (((A i).2.1 : Int) < ((A i).2.1 : Int)) by omega), cond_false], .inl rfl⟩)
  obtain ⟨r, hr, hP⟩ := key (.c0 0) ⟨0, rfl, by omega⟩
  unfold m_btf_memberAt_v2
  rw [hr]
  rcases hP with rfl | ⟨u, j, s, a1, a2, a3, a4, a5, a6, a7, a8, rfl⟩
  · exact .inl ⟨_, rfl⟩
  · exact .inr ⟨u, j, s, a1, a2, a3, a4, a5, a6, a7, a8, rfl⟩
theorem Good.way_run (y : Int) (hy : 0 ≤ y ∧ y ≤ 8) : ∀ d i, i < n → Dpt A d i → ∀ (off s : Int) (w : ByteArray), Sz n A i s → 0 ≤ off → off < s → off < 100 → w.size + 40 * d ≤ 100000 →
    ∃ w' ok, lpO (st_btf_wayTo_v2_L0 n A y) (.c0 ((i + 1 : Nat) : Int) off w) = some (.e0 w' ok) ∧ (ok = true → ∃ suf, txt w' = txt w ++ suf ∧ Wy n A y d i off suf) := by
  intro d
  induction d with
  | zero => intro i _ h; exact h.elim
  | succ d ih =>
    intro i hi hD off s w hs h0 h1 h2 hw
    obtain ⟨i1, i2⟩ := G.toEach.id hi
    have s1 : ((⟨#[91]⟩ : ByteArray)).size = 1 := rfl
    have s2 : ((⟨#[93]⟩ : ByteArray)).size = 1 := rfl
    have s3 : ((⟨#[46]⟩ : ByteArray)).size = 1 := rfl
    by_cases k5 : (A i).1.fKind = 5
    · obtain ⟨j, s', hj, e, hH, _, _, hs', h5, _⟩ := G.sz_to hi hs (.inl k5)
      obtain ⟨w', ok, h, hok⟩ := ih j hj (hD j hH) off s' w hs' h0 (by rw [← h5 k5]; exact h1) h2 (by omega)
      refine ⟨w', ok, (lpO_next ?_).trans h, fun q => ?_⟩
      · simp only [st_btf_wayTo_v2_L0, i1, i2, cond_true, iq_t k5, e]
      · obtain ⟨suf, e1, e2⟩ := hok q
        exact ⟨suf, e1, .inl ⟨k5, j, hj, e, e2⟩⟩
    by_cases k3 : (A i).1.fKind = 3
    · obtain ⟨j, s', hj, e, hH, s0', s1', hs', _, h3⟩ := G.sz_to hi hs (.inr k3)
      have hsz := h3 k3
      have sp : 0 < s' := by
        rcases Int.lt_or_eq_of_le s0' with q | q
        · exact q
        · rw [← q, Int.mul_zero] at hsz
          rw [if_neg (by omega)] at hsz
          omega
      obtain ⟨q1, q2, q3⟩ := zquo_nn (b := s') h0 (by omega) sp
      have r1 : 0 ≤ off % s' := Int.emod_nonneg _ (by omega)
      have r2 : off % s' < s' := Int.emod_lt_of_pos _ sp
      have r3 : off % s' ≤ off := by
        have := Int.mul_ediv_add_emod off s'
        have p : 0 ≤ s' * (off / s') := Int.mul_nonneg s0' q2
        omega
      obtain ⟨q, hq⟩ : ∃ q : Nat, off / s' = (q : Int) := ⟨(off / s').toNat, by omega⟩
      obtain ⟨b, hb, hbt, hbs⟩ := itoa_told (k := q) (by omega)
      have h8 := hs' 300 (by omega)
      have c1 : decide ((⟨#[91]⟩ : ByteArray).size + b.size ≤ 9223372036854775807) = true := d_t (by omega)
      have c2 : decide (((⟨#[91]⟩ : ByteArray) ++ b).size + (⟨#[93]⟩ : ByteArray).size ≤ 9223372036854775807) = true := d_t (by rw [size_app]; omega)
      have c3 : decide (w.size + (((⟨#[91]⟩ : ByteArray) ++ b) ++ (⟨#[93]⟩ : ByteArray)).size ≤ 9223372036854775807) = true := d_t (by rw [size_app, size_app]; omega)
      obtain ⟨w', ok, h, hok⟩ := ih j hj (hD j hH) (off % s') s' (w ++ (((⟨#[91]⟩ : ByteArray) ++ b) ++ (⟨#[93]⟩ : ByteArray))) hs' r1 r2 (by omega) (by rw [size_app, size_app, size_app]; omega)
      refine ⟨w', ok, (lpO_next ?_).trans h, fun q' => ?_⟩
      · simp only [st_btf_wayTo_v2_L0, i1, i2, cond_true, iq_f k5, cond_false, iq_t k3, e, h8, Option.bind_some, iq_f (show s' ≠ 0 by omega), q1, hq, hb, c1, c2, c3, zrem_nn h0]
      · obtain ⟨suf, e1, e2⟩ := hok q'
        refine ⟨91 :: (dgs q ++ 93 :: suf), ?_, .inr (.inl ⟨k3, j, s', q, suf, hj, e, hs', by omega, hq.symm, e2, rfl⟩)⟩
        rw [e1, txt_app, txt_app, txt_app, hbt]
        show txt w ++ ([91] ++ dgs q ++ [93]) ++ suf = _
        simp
    by_cases k4 : (A i).1.fKind = 4
    · rcases G.member B S hi k4 h0 h2 with ⟨c, hc⟩ | ⟨u, j, s', hu, hj, e, hH, hs', f0, f1, f2, hc⟩
      · exact ⟨⟨#[]⟩, false, lpO_end (by simp only [st_btf_wayTo_v2_L0, i1, i2, cond_true, iq_f k5, cond_false, iq_f k3, iq_t k4, hc, Option.bind_some]), fun h => by cases h⟩
      · have N := ((G.ok i hi).names k4 u hu).1.hi
        have c1 : decide ((⟨#[46]⟩ : ByteArray).size + ((A i).2.2 u).fName.size ≤ 9223372036854775807) = true := d_t (by omega)
        have c2 : decide (w.size + ((⟨#[46]⟩ : ByteArray) ++ ((A i).2.2 u).fName).size ≤ 9223372036854775807) = true := d_t (by rw [size_app]; omega)
        have wo : IntKind.i64.wrap (off - zquo ((A i).2.2 u).fBits 8) = off - zquo ((A i).2.2 u).fBits 8 := by rw [wr] <;> omega
        obtain ⟨w', ok, h, hok⟩ := ih j hj (hD j hH) (off - zquo ((A i).2.2 u).fBits 8) s' (w ++ ((⟨#[46]⟩ : ByteArray) ++ ((A i).2.2 u).fName)) hs' (by omega) (by omega) (by omega) (by rw [size_app, size_app]; omega)
        refine ⟨w', ok, (lpO_next ?_).trans h, fun q' => ?_⟩
        · simp only [st_btf_wayTo_v2_L0, i1, i2, cond_true, iq_f k5, cond_false, iq_f k3, iq_t k4, hc, Option.bind_some, c1, c2, wo, e]
        · obtain ⟨suf, e1, e2⟩ := hok q'
          refine ⟨46 :: (txt ((A i).2.2 u).fName ++ suf), ?_, .inr (.inr (.inl ⟨k4, u, j, suf, hu, hj, e, e2, rfl⟩))⟩
          rw [e1, txt_app, txt_app]
          show txt w ++ ([46] ++ _) ++ suf = _
          simp
    · have h8 := hs 300 (by omega)
      refine ⟨w, _, lpO_end (by simp only [st_btf_wayTo_v2_L0, i1, i2, cond_true, iq_f k5, cond_false, iq_f k3, iq_f k4, h8, Option.bind_some]; rfl), fun h => ⟨[], by simp, .inr (.inr (.inr ⟨k5, k3, k4, rfl, h0, s, hs, ?_⟩))⟩⟩
      have := of_decide_eq_true h
      rw [wr (by omega) (by omega)] at this
      exact this
end
end Go.Proofs.YtlpjdjbophcomaaDoor

