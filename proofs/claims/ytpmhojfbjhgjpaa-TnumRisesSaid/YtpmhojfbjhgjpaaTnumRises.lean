/-
  What is in another tnum stays so behind every operation.
-/
import Derived.Test.YtpmhojfbjhgjpaaArr
import Derived.Test.YtpmhojfbjhgjpaaSh
import Derived.Deep.DeepCutAuto
import Derived.Deep.RegionHeld3
import Derived.ProofKit
import Derived.ChangeSame
namespace Go.Proofs.Ytpmhojfbjhgjpaa.tnumRises
open Go.ChangeShapes Go.WideShapes Go.ChangeAt Go.RowKit Go.Joins
set_option linter.unusedVariables false
set_option linter.unusedSimpArgs false
theorem in_of {x y : T} (hx : wf x) (hy : wf y) (h : inn x y) : join x y = kn y := by
  unfold join
  rw [kn_wf hx, kn_wf hy]
  exact (join_inn hx hy).1 h
theorem in_true (x y : T) (hx : wf x) (hy : wf y) (h : inn x y) (w : World) : Calls Try.prog 17 #[.agg #[.int .u64 (nn x.v), .int .u64 (nn x.m)], .agg #[.int .u64 (nn y.v), .int .u64 (nn y.m)]] w fun e w' => e = .returned (.bool true) ∧ Below w.heap.size w w' := by
  have := in_any x y w
  rw [decide_eq_true (in_of hx hy h)] at this
  exact this
def In4 (a b c d : T) : Prop := wf a ∧ wf b ∧ wf c ∧ wf d ∧ inn a c ∧ inn b d
theorem wf_add (a b : T) : wf (add a b) := wf_wo _ _
theorem t_add {a b c d : T} (h : In4 a b c d) (w : World) : Calls Try.prog 17 #[.agg #[.int .u64 (nn (add a b).v), .int .u64 (nn (add a b).m)], .agg #[.int .u64 (nn (add c d).v), .int .u64 (nn (add c d).m)]] w fun e w' => e = .returned (.bool true) ∧ Below w.heap.size w w' := by
  obtain ⟨h1, h2, h3, h4, h5, h6⟩ := h
  refine in_true _ _ (wf_add _ _) (wf_add _ _) ?_ w
  unfold add
  rw [kn_wf h1, kn_wf h2, kn_wf h3, kn_wf h4]
  exact padd_inn h1 h2 h3 h4 h5 h6
theorem wf_sub (a b : T) : wf (sub a b) := wf_wo _ _
theorem t_sub {a b c d : T} (h : In4 a b c d) (w : World) : Calls Try.prog 17 #[.agg #[.int .u64 (nn (sub a b).v), .int .u64 (nn (sub a b).m)], .agg #[.int .u64 (nn (sub c d).v), .int .u64 (nn (sub c d).m)]] w fun e w' => e = .returned (.bool true) ∧ Below w.heap.size w w' := by
  obtain ⟨h1, h2, h3, h4, h5, h6⟩ := h
  refine in_true _ _ (wf_sub _ _) (wf_sub _ _) ?_ w
  unfold sub
  rw [kn_wf h1, kn_wf h2, kn_wf h3, kn_wf h4]
  exact psub_inn h1 h2 h3 h4 h5 h6
theorem wf_and (a b : T) : wf (and a b) := wf_pand _ _
theorem t_and {a b c d : T} (h : In4 a b c d) (w : World) : Calls Try.prog 17 #[.agg #[.int .u64 (nn (and a b).v), .int .u64 (nn (and a b).m)], .agg #[.int .u64 (nn (and c d).v), .int .u64 (nn (and c d).m)]] w fun e w' => e = .returned (.bool true) ∧ Below w.heap.size w w' := by
  obtain ⟨h1, h2, h3, h4, h5, h6⟩ := h
  refine in_true _ _ (wf_and _ _) (wf_and _ _) ?_ w
  unfold and
  rw [kn_wf h1, kn_wf h2, kn_wf h3, kn_wf h4]
  exact pand_inn h1 h2 h3 h4 h5 h6
theorem wf_or (a b : T) : wf (or a b) := wf_por _ _
theorem t_or {a b c d : T} (h : In4 a b c d) (w : World) : Calls Try.prog 17 #[.agg #[.int .u64 (nn (or a b).v), .int .u64 (nn (or a b).m)], .agg #[.int .u64 (nn (or c d).v), .int .u64 (nn (or c d).m)]] w fun e w' => e = .returned (.bool true) ∧ Below w.heap.size w w' := by
  obtain ⟨h1, h2, h3, h4, h5, h6⟩ := h
  refine in_true _ _ (wf_or _ _) (wf_or _ _) ?_ w
  unfold or
  rw [kn_wf h1, kn_wf h2, kn_wf h3, kn_wf h4]
  exact por_inn h1 h2 h3 h4 h5 h6
theorem wf_xor (a b : T) : wf (xor a b) := wf_wo _ _
theorem t_xor {a b c d : T} (h : In4 a b c d) (w : World) : Calls Try.prog 17 #[.agg #[.int .u64 (nn (xor a b).v), .int .u64 (nn (xor a b).m)], .agg #[.int .u64 (nn (xor c d).v), .int .u64 (nn (xor c d).m)]] w fun e w' => e = .returned (.bool true) ∧ Below w.heap.size w w' := by
  obtain ⟨h1, h2, h3, h4, h5, h6⟩ := h
  refine in_true _ _ (wf_xor _ _) (wf_xor _ _) ?_ w
  unfold xor
  rw [kn_wf h1, kn_wf h2, kn_wf h3, kn_wf h4]
  exact pxor_inn h5 h6
theorem wf_join (a b : T) : wf (join a b) := wf_wo _ _
theorem t_join {a b c d : T} (h : In4 a b c d) (w : World) : Calls Try.prog 17 #[.agg #[.int .u64 (nn (join a b).v), .int .u64 (nn (join a b).m)], .agg #[.int .u64 (nn (join c d).v), .int .u64 (nn (join c d).m)]] w fun e w' => e = .returned (.bool true) ∧ Below w.heap.size w w' := by
  obtain ⟨h1, h2, h3, h4, h5, h6⟩ := h
  refine in_true _ _ (wf_join _ _) (wf_join _ _) ?_ w
  unfold join
  rw [kn_wf h1, kn_wf h2, kn_wf h3, kn_wf h4]
  exact pjoin_inn h5 h6
theorem wfs_shl (a : T) (k : Nat) : wf (shl a k) := wf_sh _ (wf_kn _) _
theorem t_shl {a b c d : T} (h : In4 a b c d) (k : Nat) (w : World) : Calls Try.prog 17 #[.agg #[.int .u64 (nn (shl a k).v), .int .u64 (nn (shl a k).m)], .agg #[.int .u64 (nn (shl c k).v), .int .u64 (nn (shl c k).m)]] w fun e w' => e = .returned (.bool true) ∧ Below w.heap.size w w' := by
  obtain ⟨h1, h2, h3, h4, h5, h6⟩ := h
  refine in_true _ _ (wfs_shl _ _) (wfs_shl _ _) ?_ w
  unfold shl
  rw [kn_wf h1, kn_wf h3]
  exact sh_inn h5 _
theorem wfs_shr (a : T) (k : Nat) : wf (shr a k) := wf_sr _ (wf_kn _) _
theorem t_shr {a b c d : T} (h : In4 a b c d) (k : Nat) (w : World) : Calls Try.prog 17 #[.agg #[.int .u64 (nn (shr a k).v), .int .u64 (nn (shr a k).m)], .agg #[.int .u64 (nn (shr c k).v), .int .u64 (nn (shr c k).m)]] w fun e w' => e = .returned (.bool true) ∧ Below w.heap.size w w' := by
  obtain ⟨h1, h2, h3, h4, h5, h6⟩ := h
  refine in_true _ _ (wfs_shr _ _) (wfs_shr _ _) ?_ w
  unfold shr
  rw [kn_wf h1, kn_wf h3]
  exact sr_inn h5 _
theorem wfs_sar (a : T) (k : Nat) : wf (sar a k) := wf_sar _ (wf_kn _) _
theorem t_sar {a b c d : T} (h : In4 a b c d) (k : Nat) (w : World) : Calls Try.prog 17 #[.agg #[.int .u64 (nn (sar a k).v), .int .u64 (nn (sar a k).m)], .agg #[.int .u64 (nn (sar c k).v), .int .u64 (nn (sar c k).m)]] w fun e w' => e = .returned (.bool true) ∧ Below w.heap.size w w' := by
  obtain ⟨h1, h2, h3, h4, h5, h6⟩ := h
  refine in_true _ _ (wfs_sar _ _) (wfs_sar _ _) ?_ w
  unfold sar
  rw [kn_wf h1, kn_wf h3]
  exact sar_inn h5 _
theorem in_ac {a b c d : T} (h : In4 a b c d) (w : World) : Calls Try.prog 17 #[.agg #[.int .u64 (nn a.v), .int .u64 (nn a.m)], .agg #[.int .u64 (nn c.v), .int .u64 (nn c.m)]] w fun e w' => e = .returned (.bool true) ∧ Below w.heap.size w w' := by
  obtain ⟨h1, h2, h3, h4, h5, h6⟩ := h
  exact in_true a c h1 h3 h5 w
theorem in_bd {a b c d : T} (h : In4 a b c d) (w : World) : Calls Try.prog 17 #[.agg #[.int .u64 (nn b.v), .int .u64 (nn b.m)], .agg #[.int .u64 (nn d.v), .int .u64 (nn d.m)]] w fun e w' => e = .returned (.bool true) ∧ Below w.heap.size w w' := by
  obtain ⟨h1, h2, h3, h4, h5, h6⟩ := h
  exact in_true b d h2 h4 h6 w
theorem more_inn {a : T} (ha : wf a) (x : BitVec 64) : wf ⟨a.v &&& ~~~x, a.m ||| x⟩ ∧ inn a ⟨a.v &&& ~~~x, a.m ||| x⟩ := by
  constructor
  · unfold wf
    apply bit_ext; intro i hi'
    have w := wf_bit ha i
    revert w
    simp only [BitVec.getLsbD_and, BitVec.getLsbD_or, BitVec.getLsbD_not, hi', decide_true, Bool.true_and, BitVec.getLsbD_zero]
    cases a.v.getLsbD i <;> cases a.m.getLsbD i <;> cases x.getLsbD i <;> decide
  · intro i hi' hm
    revert hm
    simp only [BitVec.getLsbD_and, BitVec.getLsbD_or, BitVec.getLsbD_not, hi', decide_true, Bool.true_and]
    cases a.v.getLsbD i <;> cases a.m.getLsbD i <;> cases x.getLsbD i <;> decide
def R4 (wb w : World) (p q r s : Nat) (a b c d : T) : Prop := At w p a ∧ At w q b ∧ At w r c ∧ At w s d ∧ Below wb.heap.size wb w
theorem R4.next {wb w w1 : World} {p q r s : Nat} {a b c d : T} (h : R4 wb w p q r s a b c d) (g : Below w.heap.size w w1) : R4 wb w1 p q r s a b c d :=
  ⟨h.1.next g, h.2.1.next g, h.2.2.1.next g, h.2.2.2.1.next g, bl_trans h.2.2.2.2 g⟩
theorem R4.cells {wb w : World} {p q r s : Nat} {a b c d : T} (h : R4 wb w p q r s a b c d) : w.cell? ⟨p, 0, none⟩ = some (.int .u64 (nn a.v)) ∧ w.cell? ⟨p, 1, none⟩ = some (.int .u64 (nn a.m)) ∧ w.cell? ⟨q, 0, none⟩ = some (.int .u64 (nn b.v)) ∧ w.cell? ⟨q, 1, none⟩ = some (.int .u64 (nn b.m)) ∧ w.cell? ⟨r, 0, none⟩ = some (.int .u64 (nn c.v)) ∧ w.cell? ⟨r, 1, none⟩ = some (.int .u64 (nn c.m)) ∧ w.cell? ⟨s, 0, none⟩ = some (.int .u64 (nn d.v)) ∧ w.cell? ⟨s, 1, none⟩ = some (.int .u64 (nn d.m)) ∧ R4 wb w p q r s a b c d :=
  ⟨h.1.1, h.1.2.1, h.2.1.1, h.2.1.2.1, h.2.2.1.1, h.2.2.1.2.1, h.2.2.2.1.1, h.2.2.2.1.2.1, h⟩
theorem keep8 {wb w w1 : World} {p q r s : Nat} {a b c d : T} (g : Below w.heap.size w w1) (h : w.cell? ⟨p, 0, none⟩ = some (.int .u64 (nn a.v)) ∧ w.cell? ⟨p, 1, none⟩ = some (.int .u64 (nn a.m)) ∧ w.cell? ⟨q, 0, none⟩ = some (.int .u64 (nn b.v)) ∧ w.cell? ⟨q, 1, none⟩ = some (.int .u64 (nn b.m)) ∧ w.cell? ⟨r, 0, none⟩ = some (.int .u64 (nn c.v)) ∧ w.cell? ⟨r, 1, none⟩ = some (.int .u64 (nn c.m)) ∧ w.cell? ⟨s, 0, none⟩ = some (.int .u64 (nn d.v)) ∧ w.cell? ⟨s, 1, none⟩ = some (.int .u64 (nn d.m)) ∧ R4 wb w p q r s a b c d) : w1.cell? ⟨p, 0, none⟩ = some (.int .u64 (nn a.v)) ∧ w1.cell? ⟨p, 1, none⟩ = some (.int .u64 (nn a.m)) ∧ w1.cell? ⟨q, 0, none⟩ = some (.int .u64 (nn b.v)) ∧ w1.cell? ⟨q, 1, none⟩ = some (.int .u64 (nn b.m)) ∧ w1.cell? ⟨r, 0, none⟩ = some (.int .u64 (nn c.v)) ∧ w1.cell? ⟨r, 1, none⟩ = some (.int .u64 (nn c.m)) ∧ w1.cell? ⟨s, 0, none⟩ = some (.int .u64 (nn d.v)) ∧ w1.cell? ⟨s, 1, none⟩ = some (.int .u64 (nn d.m)) ∧ R4 wb w1 p q r s a b c d :=
  (h.2.2.2.2.2.2.2.2.next g).cells

set_option maxHeartbeats 4000000 in
set_option maxRecDepth 100000 in
theorem walk3 (a0 : T) (a1 : T) (m0 m1 : BitVec 64) (a3 : Int) (ha : wf a0) (hb : wf a1) (w : World) : Calls Try.prog 7 #[.agg #[.int .u64 (nn a0.v), .int .u64 (nn a0.m)], .agg #[.int .u64 (nn a1.v), .int .u64 (nn a1.m)], .agg #[.int .u64 (nn m0), .int .u64 (nn m1)], .int .i64 a3] w fun e w' => e = .returned (.bool true) ∧ Below w.heap.size w w' := by
  have hk := Lib.hid known_any
  have hr := Lib.hid (fun w => is_yes a0 ha w)
  have hs := Lib.hid (fun w => is_yes a1 hb w)
  go_enter Try.func7, Try.ntmps7
  go_upto_region 1 with (fail)
  have A0 : At (((w.alloc (.cells #[.int .u64 (nn a0.v), .int .u64 (nn a0.m)] 24)).alloc (.cells #[.int .u64 (nn a1.v), .int .u64 (nn a1.m)] 24)).alloc (.cells #[.int .u64 (nn m0), .int .u64 (nn m1)] 48)) w.heap.size a0 := ⟨by go_cell, by go_cell, by first | (simp; done) | (simp; omega)⟩
  have B0 : At (((w.alloc (.cells #[.int .u64 (nn a0.v), .int .u64 (nn a0.m)] 24)).alloc (.cells #[.int .u64 (nn a1.v), .int .u64 (nn a1.m)] 24)).alloc (.cells #[.int .u64 (nn m0), .int .u64 (nn m1)] 48)) (w.heap.size + 1) a1 := ⟨by go_cell, by go_cell, by first | (simp; done) | (simp; omega)⟩
  have D0 : At (((w.alloc (.cells #[.int .u64 (nn a0.v), .int .u64 (nn a0.m)] 24)).alloc (.cells #[.int .u64 (nn a1.v), .int .u64 (nn a1.m)] 24)).alloc (.cells #[.int .u64 (nn m0), .int .u64 (nn m1)] 48)) (w.heap.size + 1 + 1) ⟨m0, m1⟩ := ⟨by go_cell, by go_cell, by simp⟩
  have g0 : Below w.heap.size w (((w.alloc (.cells #[.int .u64 (nn a0.v), .int .u64 (nn a0.m)] 24)).alloc (.cells #[.int .u64 (nn a1.v), .int .u64 (nn a1.m)] 24)).alloc (.cells #[.int .u64 (nn m0), .int .u64 (nn m1)] 48)) := by go_grown
  generalize (((w.alloc (.cells #[.int .u64 (nn a0.v), .int .u64 (nn a0.m)] 24)).alloc (.cells #[.int .u64 (nn a1.v), .int .u64 (nn a1.m)] 24)).alloc (.cells #[.int .u64 (nn m0), .int .u64 (nn m1)] 48)) = w0 at *
  go_upto_region 3 with ((with_reducible refine (hk.out _).mono ?_); rintro e w1 ⟨rfl, g1⟩)
  have A1 := A0.next g1
  have B1 := B0.next g1
  have D1 := D0.next g1
  obtain ⟨x1, x2, x3⟩ := id A1
  go_upto_region 5 with (first
    | ((with_reducible refine (hr.out _).mono ?_); rintro e w2 ⟨rfl, g2⟩; have A2 := A1.next g2; have B2 := B1.next g2; have D2 := D1.next g2; obtain ⟨y1, y2, y3⟩ := id B2)
    | ((with_reducible refine (hs.out _).mono ?_); rintro e w3 ⟨rfl, g3⟩))
  have A3 := A2.next g3
  have B3 := B2.next g3
  have D3 := D2.next g3
  clear x1 x2 x3 y1 y2 y3
  obtain ⟨x1, x2, x3⟩ := id A3
  obtain ⟨y1, y2, y3⟩ := id B3
  obtain ⟨z1, z2, z3⟩ := id D3
  simp only at z1 z2
  have e1 : bits .andNot .u64 (nn a0.v) (nn m0) = nn (a0.v &&& ~~~m0) := b_not _ _
  have e2 : bits .or .u64 (nn a0.m) (nn m0) = nn (a0.m ||| m0) := b_or _ _
  have e3 : bits .andNot .u64 (nn a1.v) (nn m1) = nn (a1.v &&& ~~~m1) := b_not _ _
  have e4 : bits .or .u64 (nn a1.m) (nn m1) = nn (a1.m ||| m1) := b_or _ _
  go_upto_region 7 with (fail)
  clear e1 e2 e3 e4 x1 x2 x3 y1 y2 y3 z1 z2 z3
  obtain ⟨c, hcv, hcm⟩ : ∃ c : T, c.v = a0.v &&& ~~~m0 ∧ c.m = a0.m ||| m0 := ⟨⟨_, _⟩, rfl, rfl⟩
  obtain ⟨d, hdv, hdm⟩ : ∃ d : T, d.v = a1.v &&& ~~~m1 ∧ d.m = a1.m ||| m1 := ⟨⟨_, _⟩, rfl, rfl⟩
  have ec : c = ⟨a0.v &&& ~~~m0, a0.m ||| m0⟩ := T.ext' hcv hcm
  have ed : d = ⟨a1.v &&& ~~~m1, a1.m ||| m1⟩ := T.ext' hdv hdm
  rw [← hcv, ← hcm, ← hdv, ← hdm]
  have I := Lib.hid (show In4 a0 a1 c d from ⟨ha, hb, by rw [ec]; exact (more_inn ha m0).1, by rw [ed]; exact (more_inn hb m1).1, by rw [ec]; exact (more_inn ha m0).2, by rw [ed]; exact (more_inn hb m1).2⟩)
  clear hcv hcm hdv hdm ec ed ha hb hr hs
  have g4 := bl_alloc (bl_alloc (Below.refl _ w3) (.cells #[.int .u64 (nn c.v), .int .u64 (nn c.m)] 24)) (.cells #[.int .u64 (nn d.v), .int .u64 (nn d.m)] 24)
  have A4 := (A3.alloc (.cells #[.int .u64 (nn c.v), .int .u64 (nn c.m)] 24)).alloc (.cells #[.int .u64 (nn d.v), .int .u64 (nn d.m)] 24)
  have B4 := (B3.alloc (.cells #[.int .u64 (nn c.v), .int .u64 (nn c.m)] 24)).alloc (.cells #[.int .u64 (nn d.v), .int .u64 (nn d.m)] 24)
  have C4 := (At.new w3 c 24).alloc (.cells #[.int .u64 (nn d.v), .int .u64 (nn d.m)] 24)
  have D4 := At.new (w3.alloc (.cells #[.int .u64 (nn c.v), .int .u64 (nn c.m)] 24)) d 24
  generalize (w3.alloc (.cells #[.int .u64 (nn c.v), .int .u64 (nn c.m)] 24)).alloc (.cells #[.int .u64 (nn d.v), .int .u64 (nn d.m)] 24) = w4 at *
  have D4 : At w4 (w3.heap.size + 1) d := by simpa only [World.size_alloc] using D4
  have G := Lib.hid (bl_trans g0 (bl_trans g1 (bl_trans g2 (bl_trans g3 g4))))
  clear g0 g1 g2 g3 g4
  generalize hP : w3.heap.size = P at *
  generalize hQ : P + 1 = Q at *
  clear hP hQ
  have R0 : R4 w4 w4 w.heap.size (w.heap.size + 1) P Q a0 a1 c d := ⟨A4, B4, C4, D4, Below.refl _ _⟩
  clear A0 B0 D0 A1 B1 D1 A2 B2 D2 A3 B3 D3 A4 B4 C4 D4
  go_region_held3 (fun w' => w'.cell? ⟨w.heap.size, 0, none⟩ = some (.int .u64 (nn a0.v)) ∧ w'.cell? ⟨w.heap.size, 1, none⟩ = some (.int .u64 (nn a0.m)) ∧ w'.cell? ⟨(w.heap.size + 1), 0, none⟩ = some (.int .u64 (nn a1.v)) ∧ w'.cell? ⟨(w.heap.size + 1), 1, none⟩ = some (.int .u64 (nn a1.m)) ∧ w'.cell? ⟨P, 0, none⟩ = some (.int .u64 (nn c.v)) ∧ w'.cell? ⟨P, 1, none⟩ = some (.int .u64 (nn c.m)) ∧ w'.cell? ⟨Q, 0, none⟩ = some (.int .u64 (nn d.v)) ∧ w'.cell? ⟨Q, 1, none⟩ = some (.int .u64 (nn d.m)) ∧ R4 w4 w' w.heap.size (w.heap.size + 1) P Q a0 a1 c d)
    (first | exact keep8 (by assumption) (by assumption) | exact (R4.next R0 (Below.drew (Below.refl _ _))).cells | assumption)
    (first
      | (go_at_call 24; (with_reducible refine (add_any a0 a1 _).mono ?_); rintro e wx ⟨rfl, g_wx⟩; (try simp only [tv]))
      | (go_at_call 24; (with_reducible refine (add_any c d _).mono ?_); rintro e wx ⟨rfl, g_wx⟩; (try simp only [tv]))
      | (go_at_call 17; (with_reducible refine (t_add I.out _).mono ?_); rintro e wx ⟨rfl, g_wx⟩; (try simp only [tv]))
      | (go_at_call 26; (with_reducible refine (sub_any a0 a1 _).mono ?_); rintro e wx ⟨rfl, g_wx⟩; (try simp only [tv]))
      | (go_at_call 26; (with_reducible refine (sub_any c d _).mono ?_); rintro e wx ⟨rfl, g_wx⟩; (try simp only [tv]))
      | (go_at_call 17; (with_reducible refine (t_sub I.out _).mono ?_); rintro e wx ⟨rfl, g_wx⟩; (try simp only [tv]))
      | (go_at_call 28; (with_reducible refine (and_any a0 a1 _).mono ?_); rintro e wx ⟨rfl, g_wx⟩; (try simp only [tv]))
      | (go_at_call 28; (with_reducible refine (and_any c d _).mono ?_); rintro e wx ⟨rfl, g_wx⟩; (try simp only [tv]))
      | (go_at_call 17; (with_reducible refine (t_and I.out _).mono ?_); rintro e wx ⟨rfl, g_wx⟩; (try simp only [tv]))
      | (go_at_call 17; (with_reducible refine (t_or I.out _).mono ?_); rintro e wx ⟨rfl, g_wx⟩; (try simp only [tv]))
      | (go_at_call 17; (with_reducible refine (t_xor I.out _).mono ?_); rintro e wx ⟨rfl, g_wx⟩; (try simp only [tv]))
      | (go_at_call 17; (with_reducible refine (t_join I.out _).mono ?_); rintro e wx ⟨rfl, g_wx⟩; (try simp only [tv]))
      | (go_at_call 17; (with_reducible refine (t_shl I.out _ _).mono ?_); rintro e wx ⟨rfl, g_wx⟩; (try simp only [tv]))
      | (go_at_call 17; (with_reducible refine (t_shr I.out _ _).mono ?_); rintro e wx ⟨rfl, g_wx⟩; (try simp only [tv]))
      | (go_at_call 17; (with_reducible refine (t_sar I.out _ _).mono ?_); rintro e wx ⟨rfl, g_wx⟩; (try simp only [tv]))
      | (go_at_call 17; (with_reducible refine (in_ac I.out _).mono ?_); rintro e wx ⟨rfl, g_wx⟩; (try simp only [tv]))
      | (go_at_call 17; (with_reducible refine (in_bd I.out _).mono ?_); rintro e wx ⟨rfl, g_wx⟩; (try simp only [tv])))
  obtain ⟨_, _, _, _, _, _, _, _, q1⟩ := ‹_ ∧ _ ∧ _ ∧ _ ∧ _ ∧ _ ∧ _ ∧ _ ∧ R4 _ _ _ _ _ _ _ _ _ _›
  go_upto_region 8 with (fail)
  go_region_held3 (fun w' => w'.cell? ⟨w.heap.size, 0, none⟩ = some (.int .u64 (nn a0.v)) ∧ w'.cell? ⟨w.heap.size, 1, none⟩ = some (.int .u64 (nn a0.m)) ∧ w'.cell? ⟨(w.heap.size + 1), 0, none⟩ = some (.int .u64 (nn a1.v)) ∧ w'.cell? ⟨(w.heap.size + 1), 1, none⟩ = some (.int .u64 (nn a1.m)) ∧ w'.cell? ⟨P, 0, none⟩ = some (.int .u64 (nn c.v)) ∧ w'.cell? ⟨P, 1, none⟩ = some (.int .u64 (nn c.m)) ∧ w'.cell? ⟨Q, 0, none⟩ = some (.int .u64 (nn d.v)) ∧ w'.cell? ⟨Q, 1, none⟩ = some (.int .u64 (nn d.m)) ∧ R4 w4 w' w.heap.size (w.heap.size + 1) P Q a0 a1 c d)
    (first | exact keep8 (by assumption) (by assumption) | exact (R4.next q1 (Below.drew (Below.refl _ _))).cells | assumption)
    (first
      | (go_at_call 17; (with_reducible refine (t_add I.out _).mono ?_); rintro e wx ⟨rfl, g_wx⟩; (try simp only [tv]))
      | (go_at_call 17; (with_reducible refine (t_sub I.out _).mono ?_); rintro e wx ⟨rfl, g_wx⟩; (try simp only [tv]))
      | (go_at_call 17; (with_reducible refine (t_and I.out _).mono ?_); rintro e wx ⟨rfl, g_wx⟩; (try simp only [tv]))
      | (go_at_call 30; (with_reducible refine (or_any a0 a1 _).mono ?_); rintro e wx ⟨rfl, g_wx⟩; (try simp only [tv]))
      | (go_at_call 30; (with_reducible refine (or_any c d _).mono ?_); rintro e wx ⟨rfl, g_wx⟩; (try simp only [tv]))
      | (go_at_call 17; (with_reducible refine (t_or I.out _).mono ?_); rintro e wx ⟨rfl, g_wx⟩; (try simp only [tv]))
      | (go_at_call 32; (with_reducible refine (xor_any a0 a1 _).mono ?_); rintro e wx ⟨rfl, g_wx⟩; (try simp only [tv]))
      | (go_at_call 32; (with_reducible refine (xor_any c d _).mono ?_); rintro e wx ⟨rfl, g_wx⟩; (try simp only [tv]))
      | (go_at_call 17; (with_reducible refine (t_xor I.out _).mono ?_); rintro e wx ⟨rfl, g_wx⟩; (try simp only [tv]))
      | (go_at_call 17; (with_reducible refine (t_join I.out _).mono ?_); rintro e wx ⟨rfl, g_wx⟩; (try simp only [tv]))
      | (go_at_call 34; (with_reducible refine (lsh_any a0 a3 _).mono ?_); rintro e wx ⟨rfl, g_wx⟩; (try simp only [tv]))
      | (go_at_call 34; (with_reducible refine (lsh_any c a3 _).mono ?_); rintro e wx ⟨rfl, g_wx⟩; (try simp only [tv]))
      | (go_at_call 17; (with_reducible refine (t_shl I.out _ _).mono ?_); rintro e wx ⟨rfl, g_wx⟩; (try simp only [tv]))
      | (go_at_call 36; (with_reducible refine (rsh_any a0 a3 _).mono ?_); rintro e wx ⟨rfl, g_wx⟩; (try simp only [tv]))
      | (go_at_call 36; (with_reducible refine (rsh_any c a3 _).mono ?_); rintro e wx ⟨rfl, g_wx⟩; (try simp only [tv]))
      | (go_at_call 17; (with_reducible refine (t_shr I.out _ _).mono ?_); rintro e wx ⟨rfl, g_wx⟩; (try simp only [tv]))
      | (go_at_call 17; (with_reducible refine (t_sar I.out _ _).mono ?_); rintro e wx ⟨rfl, g_wx⟩; (try simp only [tv]))
      | (go_at_call 17; (with_reducible refine (in_ac I.out _).mono ?_); rintro e wx ⟨rfl, g_wx⟩; (try simp only [tv]))
      | (go_at_call 17; (with_reducible refine (in_bd I.out _).mono ?_); rintro e wx ⟨rfl, g_wx⟩; (try simp only [tv])))
  obtain ⟨_, _, _, _, _, _, _, _, q2⟩ := ‹_ ∧ _ ∧ _ ∧ _ ∧ _ ∧ _ ∧ _ ∧ _ ∧ R4 _ _ _ _ _ _ _ _ _ _›
  go_upto_region 9 with (fail)
  go_region_held3 (fun w' => w'.cell? ⟨w.heap.size, 0, none⟩ = some (.int .u64 (nn a0.v)) ∧ w'.cell? ⟨w.heap.size, 1, none⟩ = some (.int .u64 (nn a0.m)) ∧ w'.cell? ⟨(w.heap.size + 1), 0, none⟩ = some (.int .u64 (nn a1.v)) ∧ w'.cell? ⟨(w.heap.size + 1), 1, none⟩ = some (.int .u64 (nn a1.m)) ∧ w'.cell? ⟨P, 0, none⟩ = some (.int .u64 (nn c.v)) ∧ w'.cell? ⟨P, 1, none⟩ = some (.int .u64 (nn c.m)) ∧ w'.cell? ⟨Q, 0, none⟩ = some (.int .u64 (nn d.v)) ∧ w'.cell? ⟨Q, 1, none⟩ = some (.int .u64 (nn d.m)) ∧ R4 w4 w' w.heap.size (w.heap.size + 1) P Q a0 a1 c d)
    (first | exact keep8 (by assumption) (by assumption) | exact (R4.next q2 (Below.drew (Below.refl _ _))).cells | assumption)
    (first
      | (go_at_call 17; (with_reducible refine (t_add I.out _).mono ?_); rintro e wx ⟨rfl, g_wx⟩; (try simp only [tv]))
      | (go_at_call 17; (with_reducible refine (t_sub I.out _).mono ?_); rintro e wx ⟨rfl, g_wx⟩; (try simp only [tv]))
      | (go_at_call 17; (with_reducible refine (t_and I.out _).mono ?_); rintro e wx ⟨rfl, g_wx⟩; (try simp only [tv]))
      | (go_at_call 17; (with_reducible refine (t_or I.out _).mono ?_); rintro e wx ⟨rfl, g_wx⟩; (try simp only [tv]))
      | (go_at_call 17; (with_reducible refine (t_xor I.out _).mono ?_); rintro e wx ⟨rfl, g_wx⟩; (try simp only [tv]))
      | (go_at_call 22; (with_reducible refine (join_any a0 a1 _).mono ?_); rintro e wx ⟨rfl, g_wx⟩; (try simp only [tv]))
      | (go_at_call 22; (with_reducible refine (join_any c d _).mono ?_); rintro e wx ⟨rfl, g_wx⟩; (try simp only [tv]))
      | (go_at_call 17; (with_reducible refine (t_join I.out _).mono ?_); rintro e wx ⟨rfl, g_wx⟩; (try simp only [tv]))
      | (go_at_call 17; (with_reducible refine (t_shl I.out _ _).mono ?_); rintro e wx ⟨rfl, g_wx⟩; (try simp only [tv]))
      | (go_at_call 17; (with_reducible refine (t_shr I.out _ _).mono ?_); rintro e wx ⟨rfl, g_wx⟩; (try simp only [tv]))
      | (go_at_call 38; (with_reducible refine (arsh_any a0 a3 _).mono ?_); rintro e wx ⟨rfl, g_wx⟩; (try simp only [tv]))
      | (go_at_call 38; (with_reducible refine (arsh_any c a3 _).mono ?_); rintro e wx ⟨rfl, g_wx⟩; (try simp only [tv]))
      | (go_at_call 17; (with_reducible refine (t_sar I.out _ _).mono ?_); rintro e wx ⟨rfl, g_wx⟩; (try simp only [tv]))
      | (go_at_call 17; (with_reducible refine (in_ac I.out _).mono ?_); rintro e wx ⟨rfl, g_wx⟩; (try simp only [tv]))
      | (go_at_call 17; (with_reducible refine (in_bd I.out _).mono ?_); rintro e wx ⟨rfl, g_wx⟩; (try simp only [tv])))
  obtain ⟨_, _, _, _, _, _, _, _, q3⟩ := ‹_ ∧ _ ∧ _ ∧ _ ∧ _ ∧ _ ∧ _ ∧ _ ∧ R4 _ _ _ _ _ _ _ _ _ _›
  go_wp2
  go_ret
  exact ⟨rfl, bl_trans G.out q3.2.2.2.2⟩
set_option maxHeartbeats 1000000 in
set_option maxRecDepth 100000 in
theorem walk1 (a0 : T) (a1 : T) (m0 m1 : BitVec 64) (a3 : Int) (ha : ¬ wf a0) (w : World) : Calls Try.prog 7 #[.agg #[.int .u64 (nn a0.v), .int .u64 (nn a0.m)], .agg #[.int .u64 (nn a1.v), .int .u64 (nn a1.m)], .agg #[.int .u64 (nn m0), .int .u64 (nn m1)], .int .i64 a3] w fun e w' => e = .returned (.bool true) ∧ Below w.heap.size w w' := by
  have hk := Lib.hid known_any
  go_enter Try.func7, Try.ntmps7
  go_upto_region 1 with (fail)
  have A0 : At (((w.alloc (.cells #[.int .u64 (nn a0.v), .int .u64 (nn a0.m)] 24)).alloc (.cells #[.int .u64 (nn a1.v), .int .u64 (nn a1.m)] 24)).alloc (.cells #[.int .u64 (nn m0), .int .u64 (nn m1)] 48)) w.heap.size a0 := ⟨by go_cell, by go_cell, by first | (simp; done) | (simp; omega)⟩
  have B0 : At (((w.alloc (.cells #[.int .u64 (nn a0.v), .int .u64 (nn a0.m)] 24)).alloc (.cells #[.int .u64 (nn a1.v), .int .u64 (nn a1.m)] 24)).alloc (.cells #[.int .u64 (nn m0), .int .u64 (nn m1)] 48)) (w.heap.size + 1) a1 := ⟨by go_cell, by go_cell, by first | (simp; done) | (simp; omega)⟩
  have g0 : Below w.heap.size w (((w.alloc (.cells #[.int .u64 (nn a0.v), .int .u64 (nn a0.m)] 24)).alloc (.cells #[.int .u64 (nn a1.v), .int .u64 (nn a1.m)] 24)).alloc (.cells #[.int .u64 (nn m0), .int .u64 (nn m1)] 48)) := by go_grown
  generalize (((w.alloc (.cells #[.int .u64 (nn a0.v), .int .u64 (nn a0.m)] 24)).alloc (.cells #[.int .u64 (nn a1.v), .int .u64 (nn a1.m)] 24)).alloc (.cells #[.int .u64 (nn m0), .int .u64 (nn m1)] 48)) = w0 at *
  go_upto_region 3 with ((with_reducible refine (hk.out _).mono ?_); rintro e w1 ⟨rfl, g1⟩)
  have A1 := A0.next g1
  have B1 := B0.next g1
  obtain ⟨x1, x2, x3⟩ := id A1
  have hr := Lib.hid (fun w => is_no a0 ha w)
  clear ha
  go_wp2_with ((with_reducible refine (hr.out _).mono ?_); rintro e w2 ⟨rfl, g2⟩)
  go_ret
  exact ⟨rfl, bl_trans g0 (bl_trans g1 g2)⟩
set_option maxHeartbeats 1000000 in
set_option maxRecDepth 100000 in
theorem walk2 (a0 : T) (a1 : T) (m0 m1 : BitVec 64) (a3 : Int) (ha : wf a0) (hb : ¬ wf a1) (w : World) : Calls Try.prog 7 #[.agg #[.int .u64 (nn a0.v), .int .u64 (nn a0.m)], .agg #[.int .u64 (nn a1.v), .int .u64 (nn a1.m)], .agg #[.int .u64 (nn m0), .int .u64 (nn m1)], .int .i64 a3] w fun e w' => e = .returned (.bool true) ∧ Below w.heap.size w w' := by
  have hk := Lib.hid known_any
  go_enter Try.func7, Try.ntmps7
  go_upto_region 1 with (fail)
  have A0 : At (((w.alloc (.cells #[.int .u64 (nn a0.v), .int .u64 (nn a0.m)] 24)).alloc (.cells #[.int .u64 (nn a1.v), .int .u64 (nn a1.m)] 24)).alloc (.cells #[.int .u64 (nn m0), .int .u64 (nn m1)] 48)) w.heap.size a0 := ⟨by go_cell, by go_cell, by first | (simp; done) | (simp; omega)⟩
  have B0 : At (((w.alloc (.cells #[.int .u64 (nn a0.v), .int .u64 (nn a0.m)] 24)).alloc (.cells #[.int .u64 (nn a1.v), .int .u64 (nn a1.m)] 24)).alloc (.cells #[.int .u64 (nn m0), .int .u64 (nn m1)] 48)) (w.heap.size + 1) a1 := ⟨by go_cell, by go_cell, by first | (simp; done) | (simp; omega)⟩
  have g0 : Below w.heap.size w (((w.alloc (.cells #[.int .u64 (nn a0.v), .int .u64 (nn a0.m)] 24)).alloc (.cells #[.int .u64 (nn a1.v), .int .u64 (nn a1.m)] 24)).alloc (.cells #[.int .u64 (nn m0), .int .u64 (nn m1)] 48)) := by go_grown
  generalize (((w.alloc (.cells #[.int .u64 (nn a0.v), .int .u64 (nn a0.m)] 24)).alloc (.cells #[.int .u64 (nn a1.v), .int .u64 (nn a1.m)] 24)).alloc (.cells #[.int .u64 (nn m0), .int .u64 (nn m1)] 48)) = w0 at *
  go_upto_region 3 with ((with_reducible refine (hk.out _).mono ?_); rintro e w1 ⟨rfl, g1⟩)
  have A1 := A0.next g1
  have B1 := B0.next g1
  obtain ⟨x1, x2, x3⟩ := id A1
  have hr := Lib.hid (fun w => is_yes a0 ha w)
  have hs := Lib.hid (fun w => is_no a1 hb w)
  clear ha hb
  go_wp2_with (first
    | ((with_reducible refine (hr.out _).mono ?_); rintro e w2 ⟨rfl, g2⟩; have B2 := B1.next g2; obtain ⟨y1, y2, y3⟩ := id B2)
    | ((with_reducible refine (hs.out _).mono ?_); rintro e w3 ⟨rfl, g3⟩))
  go_ret
  exact ⟨rfl, bl_trans g0 (bl_trans g1 (bl_trans g2 g3))⟩
set_option maxHeartbeats 1000000 in
set_option maxRecDepth 100000 in
theorem walk (a0 : T) (a1 : T) (a2x a2y : BitVec 64) (a3 : Int) (w_a3 : (Lit.int .i64 a3).wf = true) (w : World) : Calls Try.prog 7 #[.agg #[.int .u64 (nn a0.v), .int .u64 (nn a0.m)], .agg #[.int .u64 (nn a1.v), .int .u64 (nn a1.m)], .agg #[.int .u64 (nn a2x), .int .u64 (nn a2y)], .int .i64 a3] w fun e w' => e = .returned (.bool true) ∧ Below w.heap.size w w' := by
  by_cases ha : wf a0
  · by_cases hb : wf a1
    · exact walk3 a0 a1 a2x a2y a3 ha hb w
    · exact walk2 a0 a1 a2x a2y a3 ha hb w
  · exact walk1 a0 a1 a2x a2y a3 ha w

set_option maxRecDepth 100000 in
theorem lifted (os : Os) (started : os.Started) (H : Type) (enc : TypeId × Value → H) :
    ReturnsInHanded {} Try.checked os 7 .any (Rows.tnumRisesSpec.pre6 enc Try.prog Try.f7 Rows.tnumRisesRow.domain false) (Rows.tnumRisesSpec.post enc Try.prog Try.f7 false true false false) := by
  refine returnsInHanded_of_change (C := Try.checked) own started (by kernel_rfl) Try.func7
    (ChangeSpec.witness6 (enc := enc) (C := Try.checked) false ⟨#[], #[.agg #[.int .u64 0, .int .u64 0], .agg #[.int .u64 0, .int .u64 0], .agg #[.int .u64 0, .int .u64 0], .int .i64 0], []⟩ 8 (by kernel_rfl) (by kernel_rfl) (by kernel_rfl) (by kernel_rfl)) ?_
  intro W base args ds gs before hval0 hW hcnd _
  have hval : ∀ (j : Nat) t v, Try.f7.params[j]? = some t → args[j]? = some v → Value.okWide Try.prog W .any base t v := hval0
  have hW' := hW
  obtain ⟨p, q, hA0, hV, rfl, hfz, hnd⟩ := hW
  have hA : DataW.TrodAll enc Try.prog W 0 (fun _ => true) true Try.f7.params.toList args.toList ds p := hA0
  rw [Try.params7] at hA hval
  obtain ⟨v0, vs0, d0, ds0, p0, q0, hargs, rfl, rfl, h0, r0⟩ := trodAll_cons hA
  obtain ⟨v1, vs1, d1, ds1, p1, q1, rfl, rfl, rfl, h1, r1⟩ := trodAll_cons r0
  obtain ⟨v2, vs2, d2, ds2, p2, q2, rfl, rfl, rfl, h2, r2⟩ := trodAll_cons r1
  obtain ⟨v3, vs3, d3, ds3, p3, q3, rfl, rfl, rfl, h3, r3⟩ := trodAll_cons r2
  obtain ⟨rfl, rfl, rfl⟩ := trodAll_nil r3
  obtain rfl : args = #[v0, v1, v2, v3] := by cases args; simp_all
  obtain ⟨rfl, rfl⟩ := trodVars_none hV
  obtain ⟨a0, rfl, rfl, rfl⟩ := open_T (hval 0 24 v0 rfl rfl) h0
  obtain ⟨a1, rfl, rfl, rfl⟩ := open_T (hval 1 24 v1 rfl rfl) h1
  obtain ⟨a2x, a2y, rfl, rfl, rfl⟩ := open_arr2 (hval 2 48 v2 rfl rfl) h2
  obtain ⟨a3, rfl, rfl, rfl, w3⟩ := open_int Try.underlying3 (hval 3 3 v3 rfl rfl) h3
  clear hA0 hval0
  simp only [List.append_nil] at hW'
  refine (walk a0 a1 a2x a2y a3 w3 W).mono fun e W' ⟨he, hg⟩ => ?_
  subst he
  exact ⟨_, rfl, post_of_below (pa := []) (pv := []) hW' (fun _ _ _ => (trodAll_cons_mk (shut_bool Try.underlying4 _) trodAll_mk0)) (fun sp _ => (trodAll_cons_mk (shut_T a0) (trodAll_cons_mk (shut_T a1) (trodAll_cons_mk (shut_arr2 a2x a2y) (trodAll_cons_mk (shut_int Try.underlying3 w3) trodAll_mk0))))) (fun _ _ => rfl) rfl
    hg (ok_one (by kernel_rfl) rfl (okWide_bool_mk Try.underlying4 _))⟩

theorem over : Rows.tnumRisesRow.holds Try.pinned (OpenSpec.ofChange Rows.tnumRisesSpec) :=
  OpenClaim.holds_of_wide 7 Try.f7 rfl rfl rfl rfl rfl rfl rfl ⟨rfl, rfl, rfl, rfl, rfl⟩ rfl rfl rfl rfl rfl (by kernel_rfl) Try.func7 (by kernel_rfl)
    (of_decide_eq_true (by kernel_rfl)) (by unfold Func.isWrapper; first | (rw [if_pos (by decide +kernel)]; kernel_rfl) | (rw [if_neg (by decide +kernel)]; exact ⟨rfl, rfl⟩))
    (fun os started H enc _ => lifted os started H enc)

/-- The statement. -/
theorem proved : Rows.TnumRisesSaid :=
  over
end Go.Proofs.Ytpmhojfbjhgjpaa.tnumRises
