/-
  What the document's tnums answer: the ones with one tnum, being within, meeting, ranges.
-/
import Derived.Test.YtpmhojfbjhgjpaaRefA
import Derived.BigRegion
import Derived.Deep.DeepCutAuto
namespace Go.Proofs.Ytpmhojfbjhgjpaa
open Go.ChangeShapes Go.WideShapes Go.ChangeAt Go.RowKit
set_option linter.unusedVariables false
set_option linter.unusedSimpArgs false
instance (t : T) (x : BitVec 64) : Decidable (has t x) := by unfold has; infer_instance
set_option maxRecDepth 100000 in
theorem rhas_any (a : T) (x : BitVec 64) (w : World) : Calls Try.prog 16 #[.agg #[.int .u64 (nn a.v), .int .u64 (nn a.m)], .int .u64 (nn x)] w fun e w' => e = .returned (.bool (decide (has a x))) ∧ Below w.heap.size w w' := by
  have h0 : bits .andNot .u64 (nn x) (nn a.m) = nn (x &&& ~~~a.m) := b_not _ _
  by_cases h : wf a
  · have h3 := b_eq (x &&& ~~~a.m) a.v
    have e : decide (has a x) = decide (x &&& ~~~a.m = a.v) := by unfold has; unfold wf at h; simp [h]
    rw [e]
    have C := Lib.hid (fun w => ris_yes a h w)
    clear e h
    go_enter Try.func16, Try.ntmps16
    go_wp2_with ((with_reducible refine (C.out _).mono ?_); rintro e w1 ⟨rfl, g1⟩; obtain ⟨hc, hf⟩ := bcell g1)
    clear h0 h3
    go_ret
    exact ⟨rfl, Below.trans (by go_grown) (g1.mono (by simp))⟩
  · have e : decide (has a x) = false := by unfold has; unfold wf at h; simp [h]
    rw [e]
    have C := Lib.hid (fun w => ris_no a h w)
    clear e h
    go_enter Try.func16, Try.ntmps16
    go_wp2_with ((with_reducible refine (C.out _).mono ?_); rintro e w1 ⟨rfl, g1⟩; obtain ⟨hc, hf⟩ := bcell g1)
    clear h0
    go_ret
    exact ⟨rfl, Below.trans (by go_grown) (g1.mono (by simp))⟩
/-- What is known of two blocks of the call's own. -/
def F2 (W w : World) (p q : Value) : Prop :=
  (w.cell? ⟨W.heap.size, 0, none⟩ = some p ∧ w.cell? ⟨W.heap.size, 1, none⟩ = some q ∧ w.frozen? ⟨W.heap.size, 0, none⟩ = false ∧ w.frozen? ⟨W.heap.size, 1, none⟩ = false) ∧
  (w.cell? ⟨W.heap.size + 1, 0, none⟩ = some (.int .u64 0) ∧ w.cell? ⟨W.heap.size + 1, 1, none⟩ = some (.int .u64 0) ∧ w.frozen? ⟨W.heap.size + 1, 0, none⟩ = false ∧ w.frozen? ⟨W.heap.size + 1, 1, none⟩ = false) ∧ Kp W w 2
theorem F2.next {W w w1 : World} {p q : Value} (h : F2 W w p q) (g : Below w.heap.size w w1) : F2 W w1 p q := by
  obtain ⟨⟨h1, h2, f1, f2⟩, ⟨h5, h6, f5, f6⟩, k⟩ := h
  exact ⟨⟨kp_cell k g _ _ (by omega) h1, kp_cell k g _ _ (by omega) h2, kp_frozen k g _ _ (by omega) f1, kp_frozen k g _ _ (by omega) f2⟩,
    ⟨kp_cell k g _ _ (by omega) h5, kp_cell k g _ _ (by omega) h6, kp_frozen k g _ _ (by omega) f5, kp_frozen k g _ _ (by omega) f6⟩, k.next g⟩
theorem f2_start (w : World) (a : T) : F2 w ((w.alloc (.cells #[.int .u64 (nn a.v), .int .u64 (nn a.m)] 24)).alloc (.cells #[.int .u64 0, .int .u64 0] 24)) (.int .u64 (nn a.v)) (.int .u64 (nn a.m)) :=
  ⟨⟨by go_cell, by go_cell, by go_simp, by go_simp⟩, ⟨by go_cell, by go_cell, by go_simp, by go_simp⟩, by simp, by go_grown⟩
set_option maxRecDepth 100000 in
theorem rlow_any (a : T) (w : World) : Calls Try.prog 41 #[.agg #[.int .u64 (nn a.v), .int .u64 (nn a.m)]] w fun e w' => e = .returned (.agg #[.int .u64 ((nn (kn a).v).tmod 4294967296), .int .u64 ((nn (kn a).m).tmod 4294967296)]) ∧ Below w.heap.size w w' := by
  have f0 := f2_start w a
  go_enter Try.func41, Try.ntmps41
  go_wp2_with ((with_reducible refine (may_any _ _).mono ?_); rintro e w1 ⟨rfl, g1⟩; obtain ⟨⟨k1, k2, k3, k4⟩, ⟨k5, k6, k7, k8⟩, k9⟩ := f0.next g1; have hz := k9.1; have kb := k9.2; simp only [tv])
  refine bodyPost_ret (v := .agg #[.int .u64 ((nn (kn a).v).tmod 4294967296), .int .u64 ((nn (kn a).m).tmod 4294967296)]) ?_ rfl ⟨rfl, ?_⟩
  · simp [results, Try.results41, go_sem, k5, k6]
  · go_grown
set_option maxRecDepth 100000 in
theorem rleast_any (a : T) (w : World) : Calls Try.prog 43 #[.agg #[.int .u64 (nn a.v), .int .u64 (nn a.m)]] w fun e w' => e = .returned (.int .u64 (nn (kn a).v)) ∧ Below w.heap.size w w' := by
  have h5 : ∀ w, (Instr.field 24 (.agg #[.int .u64 (nn (kn a).v), .int .u64 (nn (kn a).m)]) 0).run Try.prog w = .ok (.int .u64 (nn (kn a).v)) w := fun _ => by kernel_rfl
  go_enter Try.func43, Try.ntmps43
  go_wp2_with ((with_reducible refine (may_any _ _).mono ?_); rintro e w1 ⟨rfl, g1⟩; simp only [tv])
  go_ret
  exact ⟨rfl, Below.trans (by go_grown) (g1.mono (by simp))⟩
set_option maxRecDepth 100000 in
theorem rmost_any (a : T) (w : World) : Calls Try.prog 45 #[.agg #[.int .u64 (nn a.v), .int .u64 (nn a.m)]] w fun e w' => e = .returned (.int .u64 (nn (hi (kn a)))) ∧ Below w.heap.size w w' := by
  have h0 : bits .or .u64 (nn (kn a).v) (nn (kn a).m) = nn (hi (kn a)) := b_or _ _
  go_enter Try.func45, Try.ntmps45
  go_wp2_with ((with_reducible refine (may_any _ _).mono ?_); rintro e w1 ⟨rfl, g1⟩; obtain ⟨hc, hf⟩ := bcell g1; simp only [tv])
  have kb : Below w.heap.size w w1 := Below.trans (by go_grown) (g1.mono (by simp))
  go_ret
  exact ⟨rfl, by go_grown⟩
set_option maxRecDepth 100000 in
theorem rrange_no (x y : BitVec 64) (h : decide (nn y < nn x) = true) (w : World) : Calls Try.prog 21 #[.int .u64 (nn x), .int .u64 (nn y)] w fun e w' => e = .returned (tv unk) ∧ Below w.heap.size w w' := by
  go_enter Try.func21, Try.ntmps21
  go_wp2
  go_returns
  exact ⟨rfl, by go_grown⟩
theorem mk_all {z : BitVec 64} (h : blen z = 64) (x : BitVec 64) : wo x (mk z) = unk := by
  have e : mk z = BitVec.allOnes 64 := by
    unfold mk
    rw [h]
    rfl
  unfold wo unk
  rw [e]
  simp
set_option maxRecDepth 100000 in
theorem rrange_yes (x y : BitVec 64) (h : decide (nn y < nn x) = false) (hle : nn x ≤ nn y) (w : World) : Calls Try.prog 21 #[.int .u64 (nn x), .int .u64 (nn y)] w fun e w' => e = .returned (tv (wo x (mk (x ^^^ y)))) ∧ Below w.heap.size w w' := by
  have h1 : bits .xor .u64 (nn x) (nn y) = nn (x ^^^ y) := b_xor _ _
  generalize hz : x ^^^ y = z at *
  have HZ := Lib.hid hz
  clear hz
  by_cases h6 : blen z = 64
  · rw [mk_all h6]
    have t1 : ((blen z : Int) == 64) = true := by rw [h6]; rfl
    clear h6
    go_enter Try.func21, Try.ntmps21
    go_wp2_with (first
      | ((with_reducible refine (len_any _ _).mono ?_); rintro e w1 ⟨rfl, rfl⟩)
      | ((with_reducible refine (runk_any _).mono ?_); rintro e w2 ⟨rfl, g2⟩; obtain ⟨hc, hf⟩ := bcell g2; simp only [tv]))
    refine bodyPost_ret (v := tv unk) ?_ rfl ⟨rfl, ?_⟩
    · simp [results, Try.results21, go_sem, hc, hf, tv]
    · have kb : Below w.heap.size w w2 := Below.trans (by go_grown) (g2.mono (by simp))
      go_grown
  · have t1 : ((blen z : Int) == 64) = false := by rw [beq_eq_false_iff_ne]; omega
    have HM := Lib.hid (b_mk z)
    clear h6
    go_enter Try.func21, Try.ntmps21
    go_upto_region 6 with (first
      | ((with_reducible refine (len_any _ _).mono ?_); rintro e w1 ⟨rfl, rfl⟩))
    have h3 := HM.out
    go_wp2_with ((with_reducible refine (rof_any _ _ _).mono ?_); rintro e w2 ⟨rfl, g2⟩; obtain ⟨hc, hf⟩ := bcell g2; simp only [tv])
    refine bodyPost_ret (v := tv (wo x (mk z))) ?_ rfl ⟨rfl, ?_⟩
    · simp [results, Try.results21, go_sem, hc, hf, tv]
    · have kb : Below w.heap.size w w2 := Below.trans (by go_grown) (g2.mono (by simp))
      go_grown
end Go.Proofs.Ytpmhojfbjhgjpaa
