/-
  Products of tnums: a contract over the program's own text.
-/
import Derived.Test.YtpmhojfbjhgjpaaFace
import Derived.Test.YtpmhojfbjhgjpaaSh
import Derived.Test.YtpmhojfbjhgjpaaMt
import Derived.Deep.DeepCutAuto
import Derived.LoopTactic
import Derived.Deep.RegionWith
namespace Go.Proofs.Ytpmhojfbjhgjpaa
open Go.ChangeShapes Go.WideShapes Go.ChangeAt Go.RowKit
set_option linter.unusedVariables false
set_option linter.unusedSimpArgs false
theorem kn_low (m : BitVec 64) : kn ⟨0#64, m⟩ = ⟨0#64, m⟩ := kn_wf (by unfold wf; simp)
theorem kn_const (v : BitVec 64) : kn ⟨v, 0#64⟩ = ⟨v, 0#64⟩ := kn_wf (by unfold wf; simp)
theorem addl_any (u : T) (hu : wf u) (m : BitVec 64) (w : World) : Calls Try.prog 24 #[.agg #[.int .u64 (nn u.v), .int .u64 (nn u.m)], .agg #[.int .u64 0, .int .u64 (nn m)]] w fun e w' => e = .returned (tv (padd u ⟨0#64, m⟩)) ∧ Below w.heap.size w w' := by
  have h := add_any u ⟨0#64, m⟩ w
  unfold add at h
  rw [kn_wf hu, kn_low] at h
  exact h
theorem addc_any (v : BitVec 64) (u : T) (hu : wf u) (w : World) : Calls Try.prog 24 #[.agg #[.int .u64 (nn v), .int .u64 0], .agg #[.int .u64 (nn u.v), .int .u64 (nn u.m)]] w fun e w' => e = .returned (tv (padd ⟨v, 0#64⟩ u)) ∧ Below w.heap.size w w' := by
  have h := add_any ⟨v, 0#64⟩ u w
  unfold add at h
  rw [kn_wf hu, kn_const] at h
  exact h
/-- At the head of a round of the product's loop. -/
def LM (W w : World) (a b u : T) : Prop :=
  (w.cell? ⟨W.heap.size, 0, none⟩ = some (.int .u64 (nn a.v)) ∧ w.cell? ⟨W.heap.size, 1, none⟩ = some (.int .u64 (nn a.m)) ∧ w.cell? ⟨W.heap.size, 2, none⟩ = some (.int .u64 (nn b.v)) ∧ w.cell? ⟨W.heap.size, 3, none⟩ = some (.int .u64 (nn b.m))) ∧
  (w.cell? ⟨W.heap.size + 1, 0, none⟩ = some (.int .u64 0) ∧ w.cell? ⟨W.heap.size + 1, 1, none⟩ = some (.int .u64 0) ∧ w.frozen? ⟨W.heap.size + 1, 0, none⟩ = false ∧ w.frozen? ⟨W.heap.size + 1, 1, none⟩ = false) ∧
  (w.cell? ⟨W.heap.size + 1 + 1 + 1 + 1, 0, none⟩ = some (.int .u64 (nn (a.v * b.v))) ∧ w.cell? ⟨W.heap.size + 1 + 1 + 1 + 1, 1, none⟩ = some (.int .u64 0)) ∧
  (w.cell? ⟨W.heap.size + 1 + 1 + 1 + 1 + 1, 0, none⟩ = some (.int .u64 (nn u.v)) ∧ w.cell? ⟨W.heap.size + 1 + 1 + 1 + 1 + 1, 1, none⟩ = some (.int .u64 (nn u.m)) ∧ w.frozen? ⟨W.heap.size + 1 + 1 + 1 + 1 + 1, 0, none⟩ = false ∧ w.frozen? ⟨W.heap.size + 1 + 1 + 1 + 1 + 1, 1, none⟩ = false) ∧ Kp W w 6
theorem LM.next {W w w1 : World} {a b u : T} (h : LM W w a b u) (g : Below w.heap.size w w1) : LM W w1 a b u := by
  obtain ⟨⟨h1, h2, h3, h4⟩, ⟨h5, h6, f5, f6⟩, ⟨h7, h8⟩, ⟨h9, h10, f9, f10⟩, k⟩ := h
  exact ⟨⟨kp_cell k g _ _ (by omega) h1, kp_cell k g _ _ (by omega) h2, kp_cell k g _ _ (by omega) h3, kp_cell k g _ _ (by omega) h4⟩,
    ⟨kp_cell k g _ _ (by omega) h5, kp_cell k g _ _ (by omega) h6, kp_frozen k g _ _ (by omega) f5, kp_frozen k g _ _ (by omega) f6⟩,
    ⟨kp_cell k g _ _ (by omega) h7, kp_cell k g _ _ (by omega) h8⟩,
    ⟨kp_cell k g _ _ (by omega) h9, kp_cell k g _ _ (by omega) h10, kp_frozen k g _ _ (by omega) f9, kp_frozen k g _ _ (by omega) f10⟩, k.next g⟩
theorem LM.drew {W w : World} {a b u : T} (h : LM W w a b u) : LM W w.drew a b u := h.next (Below.drew (Below.refl _ _))
theorem LM.set {W w : World} {a b u : T} (h : LM W w a b u) (u' : T) :
    LM W ((w.setCell ⟨W.heap.size + 1 + 1 + 1 + 1 + 1, 0, none⟩ (.int .u64 (nn u'.v))).setCell ⟨W.heap.size + 1 + 1 + 1 + 1 + 1, 1, none⟩ (.int .u64 (nn u'.m))) a b u' := by
  obtain ⟨⟨h1, h2, h3, h4⟩, ⟨h5, h6, f5, f6⟩, ⟨h7, h8⟩, ⟨h9, h10, f9, f10⟩, k⟩ := h
  refine ⟨⟨?_, ?_, ?_, ?_⟩, ⟨?_, ?_, ?_, ?_⟩, ⟨?_, ?_⟩, ⟨?_, ?_, ?_, ?_⟩, ?_, ?_⟩
  all_goals first
    | (rw [World.cell?_setCell_far _ _ _ _ (by simp only [ne_eq]; omega), World.cell?_setCell_far _ _ _ _ (by simp only [ne_eq]; omega)]; assumption)
    | (rw [World.frozen?_setCell, World.frozen?_setCell]; assumption)
    | (go_cell; done)
    | (have := k.1; simp; omega)
    | (refine Below.setCell (Below.setCell k.2 ?_ _) ?_ _ <;> go_grown)
/-- One bit alone. -/
def bit1 (k : Nat) : BitVec 64 := BitVec.twoPow 64 k
theorem b_one (k : Nat) : IntKind.u64.wrap (2 ^ k) = nn (bit1 k) := by
  unfold nn bit1
  rw [IntKind.wrap_u64, BitVec.toNat_twoPow]
  simp
theorem and_one (x : BitVec 64) (k : Nat) : (nn (x &&& bit1 k) != 0) = x.getLsbD k := by
  unfold bit1
  rw [b_ne0, BitVec.and_twoPow]
  cases h : x.getLsbD k
  · simp
  · have hk : k < 64 := by
      rcases Nat.lt_or_ge k 64 with g | g
      · exact g
      · rw [BitVec.getLsbD_of_ge _ _ g] at h; cases h
    simp [BitVec.toNat_eq, BitVec.toNat_twoPow, Nat.mod_eq_of_lt (Nat.pow_lt_pow_right (by omega : 1 < 2) hk)]
/-- What holds at the head of a round. -/
def LR (w wr : World) (a b : T) (i : Value) : Prop := ∃ k : Nat, k ≤ 64 ∧ i = .int .i64 k ∧ LM w wr a b (mulU a b k)
set_option maxHeartbeats 1600000 in
set_option maxRecDepth 100000 in
theorem pmul_any (a b : T) (w : World) : Calls Try.prog 64 #[.agg #[.int .u64 (nn a.v), .int .u64 (nn a.m), .int .u64 (nn b.v), .int .u64 (nn b.m)]] w fun e w' => e = .returned (tv (pmul a b)) ∧ Below w.heap.size w w' := by
  have hm := b_mul
  go_enter Try.func64, Try.ntmps64
  go_wp2
  clear hm
  go_loopw [16] (fun i wr => LR w wr a b i) (fun i _ => 64 - (intOf i).toNat)
  case atStart =>
    refine ⟨0, by omega, rfl, ⟨?_, ?_, ?_, ?_⟩, ⟨?_, ?_, ?_, ?_⟩, ⟨?_, ?_⟩, ⟨?_, ?_, ?_, ?_⟩, ?_, ?_⟩
    all_goals first
      | (go_cell; done)
      | (show _ = some (Value.int .u64 0); go_cell; done)
      | (simp; done)
      | (go_simp; done)
      | (simp; omega)
      | (go_grown; done)
  case round =>
    obtain ⟨k, hk, rfl, hl⟩ := hrel
    obtain ⟨⟨h1, h2, h3, h4⟩, ⟨h5, h6, f5, f6⟩, ⟨h7, h8⟩, ⟨h9, h10, f9, f10⟩, hkp⟩ := id hl
    by_cases hlt : k < 64
    · cases hav : a.v.getLsbD k
      · cases ham : a.m.getLsbD k
        · have e : mulU a b (k + 1) = mulU a b k := by simp [mulU, st, hav, ham]
          have t1 : (nn (a.v &&& bit1 k) != 0) = false := by rw [and_one, hav]
          have t2 : (nn (a.m &&& bit1 k) != 0) = false := by rw [and_one, ham]
          have E := Lib.hid e
          have L := Lib.hid hl
          clear e hav ham hl
          go_upto_region 5 with (fail)
          have hmin : ∀ j : Nat, j < 64 → min j 64 = j := fun j h => by omega
          have hb1 := b_one
          go_upto_region 6 with (fail)
          clear hb1 hmin
          have ha := b_and
          go_upto_region 10 with (fail)
          clear ha
          go_wp2
          go_roundw
          case rel => exact ⟨k + 1, by omega, by go_num, (by rw [E.out]; exact L.out)⟩
          case measure => simp [intOf]; omega
        · have e : mulU a b (k + 1) = padd (mulU a b k) ⟨0#64, (b.v ||| b.m) <<< k⟩ := by simp [mulU, st, hav, ham]
          have t1 : (nn (a.v &&& bit1 k) != 0) = false := by rw [and_one, hav]
          have t2 : (nn (a.m &&& bit1 k) != 0) = true := by rw [and_one, ham]
          have E := Lib.hid e
          have L := Lib.hid hl
          have C := Lib.hid (fun m w => addl_any (mulU a b k) (wf_mulU a b k) m w)
          clear e hav ham hl
          generalize hU : mulU a b k = u at *
          clear hU
          go_upto_region 5 with (fail)
          have hmin : ∀ j : Nat, j < 64 → min j 64 = j := fun j h => by omega
          have hb1 := b_one
          go_upto_region 6 with (fail)
          clear hb1
          have ha := b_and
          go_upto_region 9 with (fail)
          clear ha
          have hs := b_shl
          have ho := b_or
          go_region_with ((go_at_call 24; refine (C.out _ _).mono ?_; rintro e w1 ⟨rfl, g1⟩; simp only [tv]; have f1 := LM.next (LM.drew L.out) g1; have L1 := Lib.hid f1; obtain ⟨⟨k1, k2, k3, k4⟩, ⟨k5, k6, k7, k8⟩, ⟨k9, k10⟩, ⟨k11, k12, k13, k14⟩, k15⟩ := f1))
          all_goals
            go_wp2
            go_roundw
            case rel => exact ⟨k + 1, by omega, by go_num, (by rw [E.out]; exact LM.set L1.out _)⟩
            case measure => simp [intOf]; omega
      · have e : mulU a b (k + 1) = padd (mulU a b k) ⟨0#64, b.m <<< k⟩ := by simp [mulU, st, hav]
        have t1 : (nn (a.v &&& bit1 k) != 0) = true := by rw [and_one, hav]
        have E := Lib.hid e
        have L := Lib.hid hl
        have C := Lib.hid (fun m w => addl_any (mulU a b k) (wf_mulU a b k) m w)
        clear e hav hl
        generalize hU : mulU a b k = u at *
        clear hU
        go_upto_region 5 with (fail)
        have hmin : ∀ j : Nat, j < 64 → min j 64 = j := fun j h => by omega
        have hb1 := b_one
        go_upto_region 6 with (fail)
        clear hb1
        have ha := b_and
        go_upto_region 7 with (fail)
        clear ha
        have hs := b_shl
        go_region_with ((go_at_call 24; refine (C.out _ _).mono ?_; rintro e w1 ⟨rfl, g1⟩; simp only [tv]; have f1 := LM.next (LM.drew L.out) g1; have L1 := Lib.hid f1; obtain ⟨⟨k1, k2, k3, k4⟩, ⟨k5, k6, k7, k8⟩, ⟨k9, k10⟩, ⟨k11, k12, k13, k14⟩, k15⟩ := f1))
        all_goals
          go_wp2
          go_roundw
          case rel => exact ⟨k + 1, by omega, by go_num, (by rw [E.out]; exact LM.set L1.out _)⟩
          case measure => simp [intOf]; omega
    · have e : k = 64 := by omega
      have L := Lib.hid hl
      have hp : pmul a b = padd ⟨a.v * b.v, 0#64⟩ (mulU a b 64) := rfl
      have HP := Lib.hid hp
      have C := Lib.hid (fun v w => addc_any v (mulU a b 64) (wf_mulU a b 64) w)
      clear hp hl
      subst e
      generalize hU : mulU a b 64 = u at *
      clear hU
      go_wp2_with ((with_reducible refine (C.out _ _).mono ?_); rintro e w1 ⟨rfl, g1⟩; simp only [tv]; have f1 := LM.next (L.out) g1; obtain ⟨⟨k1, k2, k3, k4⟩, ⟨k5, k6, k7, k8⟩, ⟨k9, k10⟩, ⟨k11, k12, k13, k14⟩, k15⟩ := f1)
      refine bodyPost_ret (v := tv (padd ⟨a.v * b.v, 0#64⟩ u)) ?_ rfl ⟨by rw [HP.out], ?_⟩
      · simp [results, Try.results64, go_sem, k5, k6, tv]
        try rfl
      · refine Below.setCell (Below.setCell k15.2 ?_ _) ?_ _ <;> go_grown
end Go.Proofs.Ytpmhojfbjhgjpaa
