/-
  Meeting and joining.
-/
import Derived.Test.YtpmhojfbjhgjpaaBase
import Derived.Test.YtpmhojfbjhgjpaaMeet
import Derived.Deep.DeepCutAuto
import Derived.Deep.RegionHeld3
import Derived.ProofKit
import Derived.ChangeSame
namespace Go.Proofs.Ytpmhojfbjhgjpaa.tnumLattice
open Go.ChangeShapes Go.WideShapes Go.ChangeAt Go.RowKit Go.Joins
set_option linter.unusedVariables false
set_option linter.unusedSimpArgs false
def R6 (wb w : World) (p q r s u v : Nat) (a b m n j k : T) : Prop := At w p a ∧ At w q b ∧ At w r m ∧ At w s n ∧ At w u j ∧ At w v k ∧ Below wb.heap.size wb w
theorem R6.next {wb w w1 : World} {p q r s u v : Nat} {a b m n j k : T} (h : R6 wb w p q r s u v a b m n j k) (g : Below w.heap.size w w1) : R6 wb w1 p q r s u v a b m n j k :=
  ⟨h.1.next g, h.2.1.next g, h.2.2.1.next g, h.2.2.2.1.next g, h.2.2.2.2.1.next g, h.2.2.2.2.2.1.next g, bl_trans h.2.2.2.2.2.2 g⟩
theorem R6.cells {wb w : World} {p q r s u v : Nat} {a b m n j k : T} (h : R6 wb w p q r s u v a b m n j k) : w.cell? ⟨p, 0, none⟩ = some (.int .u64 (nn a.v)) ∧ w.cell? ⟨p, 1, none⟩ = some (.int .u64 (nn a.m)) ∧ w.cell? ⟨q, 0, none⟩ = some (.int .u64 (nn b.v)) ∧ w.cell? ⟨q, 1, none⟩ = some (.int .u64 (nn b.m)) ∧ w.cell? ⟨r, 0, none⟩ = some (.int .u64 (nn m.v)) ∧ w.cell? ⟨r, 1, none⟩ = some (.int .u64 (nn m.m)) ∧ w.cell? ⟨s, 0, none⟩ = some (.int .u64 (nn n.v)) ∧ w.cell? ⟨s, 1, none⟩ = some (.int .u64 (nn n.m)) ∧ w.cell? ⟨u, 0, none⟩ = some (.int .u64 (nn j.v)) ∧ w.cell? ⟨u, 1, none⟩ = some (.int .u64 (nn j.m)) ∧ w.cell? ⟨v, 0, none⟩ = some (.int .u64 (nn k.v)) ∧ w.cell? ⟨v, 1, none⟩ = some (.int .u64 (nn k.m)) ∧ R6 wb w p q r s u v a b m n j k :=
  ⟨h.1.1, h.1.2.1, h.2.1.1, h.2.1.2.1, h.2.2.1.1, h.2.2.1.2.1, h.2.2.2.1.1, h.2.2.2.1.2.1, h.2.2.2.2.1.1, h.2.2.2.2.1.2.1, h.2.2.2.2.2.1.1, h.2.2.2.2.2.1.2.1, h⟩
theorem keep12 {wb w w1 : World} {p q r s u v : Nat} {a b m n j k : T} (g : Below w.heap.size w w1) (h : w.cell? ⟨p, 0, none⟩ = some (.int .u64 (nn a.v)) ∧ w.cell? ⟨p, 1, none⟩ = some (.int .u64 (nn a.m)) ∧ w.cell? ⟨q, 0, none⟩ = some (.int .u64 (nn b.v)) ∧ w.cell? ⟨q, 1, none⟩ = some (.int .u64 (nn b.m)) ∧ w.cell? ⟨r, 0, none⟩ = some (.int .u64 (nn m.v)) ∧ w.cell? ⟨r, 1, none⟩ = some (.int .u64 (nn m.m)) ∧ w.cell? ⟨s, 0, none⟩ = some (.int .u64 (nn n.v)) ∧ w.cell? ⟨s, 1, none⟩ = some (.int .u64 (nn n.m)) ∧ w.cell? ⟨u, 0, none⟩ = some (.int .u64 (nn j.v)) ∧ w.cell? ⟨u, 1, none⟩ = some (.int .u64 (nn j.m)) ∧ w.cell? ⟨v, 0, none⟩ = some (.int .u64 (nn k.v)) ∧ w.cell? ⟨v, 1, none⟩ = some (.int .u64 (nn k.m)) ∧ R6 wb w p q r s u v a b m n j k) : w1.cell? ⟨p, 0, none⟩ = some (.int .u64 (nn a.v)) ∧ w1.cell? ⟨p, 1, none⟩ = some (.int .u64 (nn a.m)) ∧ w1.cell? ⟨q, 0, none⟩ = some (.int .u64 (nn b.v)) ∧ w1.cell? ⟨q, 1, none⟩ = some (.int .u64 (nn b.m)) ∧ w1.cell? ⟨r, 0, none⟩ = some (.int .u64 (nn m.v)) ∧ w1.cell? ⟨r, 1, none⟩ = some (.int .u64 (nn m.m)) ∧ w1.cell? ⟨s, 0, none⟩ = some (.int .u64 (nn n.v)) ∧ w1.cell? ⟨s, 1, none⟩ = some (.int .u64 (nn n.m)) ∧ w1.cell? ⟨u, 0, none⟩ = some (.int .u64 (nn j.v)) ∧ w1.cell? ⟨u, 1, none⟩ = some (.int .u64 (nn j.m)) ∧ w1.cell? ⟨v, 0, none⟩ = some (.int .u64 (nn k.v)) ∧ w1.cell? ⟨v, 1, none⟩ = some (.int .u64 (nn k.m)) ∧ R6 wb w1 p q r s u v a b m n j k :=
  (h.2.2.2.2.2.2.2.2.2.2.2.2.next g).cells
theorem R6.below {wb w : World} {p q r s u v : Nat} {a b m n j k : T} (h : R6 wb w p q r s u v a b m n j k) : Below wb.heap.size wb w := h.2.2.2.2.2.2
theorem neT (x y x' y' : Int) (w : World) : (binOp .neq 24 (.agg #[.int .u64 x, .int .u64 y]) (.agg #[.int .u64 x', .int .u64 y'])).run Try.prog w = .ok (.bool (!(x == x' && y == y'))) w := by
  rw [run_neq_struct, run_equalIn_agg w 9999 24 _ _ (by kernel_rfl) (by kernel_rfl)]
  by_cases h1 : x = x' <;> by_cases h2 : y = y' <;> go_simp <;> simp [h1, h2]
theorem in_yes (x y : T) (hx : wf x) (hy : wf y) (h : inn x y) (w : World) : Calls Try.prog 17 #[.agg #[.int .u64 (nn x.v), .int .u64 (nn x.m)], .agg #[.int .u64 (nn y.v), .int .u64 (nn y.m)]] w fun e w' => e = .returned (.bool true) ∧ Below w.heap.size w w' := by
  have := in_any x y w
  rw [decide_eq_true (show join x y = kn y by unfold join; rw [kn_wf hx, kn_wf hy]; exact (join_inn hx hy).1 h)] at this
  exact this
theorem in_not (x y : T) (hx : wf x) (hy : wf y) (h : ¬ inn x y) (w : World) : Calls Try.prog 17 #[.agg #[.int .u64 (nn x.v), .int .u64 (nn x.m)], .agg #[.int .u64 (nn y.v), .int .u64 (nn y.m)]] w fun e w' => e = .returned (.bool false) ∧ Below w.heap.size w w' := by
  have := in_any x y w
  rw [decide_eq_false (show ¬ join x y = kn y by unfold join; rw [kn_wf hx, kn_wf hy]; exact fun g => h ((join_inn hx hy).2 g))] at this
  exact this
set_option maxHeartbeats 4000000 in
set_option maxRecDepth 100000 in
theorem walk1 (a0 : T) (a1 : T) (ha : ¬ wf a0) (w : World) : Calls Try.prog 9 #[.agg #[.int .u64 (nn a0.v), .int .u64 (nn a0.m)], .agg #[.int .u64 (nn a1.v), .int .u64 (nn a1.m)]] w fun e w' => e = .returned (.bool true) ∧ Below w.heap.size w w' := by
  have hk := Lib.hid known_any
  go_enter Try.func9, Try.ntmps9
  go_upto_region 1 with (fail)
  have A0 : At ((w.alloc (.cells #[.int .u64 (nn a0.v), .int .u64 (nn a0.m)] 24)).alloc (.cells #[.int .u64 (nn a1.v), .int .u64 (nn a1.m)] 24)) w.heap.size a0 := ⟨by go_cell, by go_cell, by first | (simp; done) | (simp; omega)⟩
  have B0 : At ((w.alloc (.cells #[.int .u64 (nn a0.v), .int .u64 (nn a0.m)] 24)).alloc (.cells #[.int .u64 (nn a1.v), .int .u64 (nn a1.m)] 24)) (w.heap.size + 1) a1 := ⟨by go_cell, by go_cell, by first | (simp; done) | (simp; omega)⟩
  have g0 : Below w.heap.size w ((w.alloc (.cells #[.int .u64 (nn a0.v), .int .u64 (nn a0.m)] 24)).alloc (.cells #[.int .u64 (nn a1.v), .int .u64 (nn a1.m)] 24)) := by go_grown
  generalize ((w.alloc (.cells #[.int .u64 (nn a0.v), .int .u64 (nn a0.m)] 24)).alloc (.cells #[.int .u64 (nn a1.v), .int .u64 (nn a1.m)] 24)) = w0 at *
  go_upto_region 3 with ((with_reducible refine (hk.out _).mono ?_); rintro e w1 ⟨rfl, g1⟩)
  have A1 := A0.next g1
  have B1 := B0.next g1
  obtain ⟨x1, x2, x3⟩ := id A1
  have hr := Lib.hid (fun w => is_no a0 ha w)
  clear ha
  go_wp2_with ((with_reducible refine (hr.out _).mono ?_); rintro e w2 ⟨rfl, g2⟩)
  go_ret
  exact ⟨rfl, bl_trans g0 (bl_trans g1 g2)⟩
set_option maxHeartbeats 4000000 in
set_option maxRecDepth 100000 in
theorem walk2 (a0 : T) (a1 : T) (ha : wf a0) (hb : ¬ wf a1) (w : World) : Calls Try.prog 9 #[.agg #[.int .u64 (nn a0.v), .int .u64 (nn a0.m)], .agg #[.int .u64 (nn a1.v), .int .u64 (nn a1.m)]] w fun e w' => e = .returned (.bool true) ∧ Below w.heap.size w w' := by
  have hk := Lib.hid known_any
  go_enter Try.func9, Try.ntmps9
  go_upto_region 1 with (fail)
  have A0 : At ((w.alloc (.cells #[.int .u64 (nn a0.v), .int .u64 (nn a0.m)] 24)).alloc (.cells #[.int .u64 (nn a1.v), .int .u64 (nn a1.m)] 24)) w.heap.size a0 := ⟨by go_cell, by go_cell, by first | (simp; done) | (simp; omega)⟩
  have B0 : At ((w.alloc (.cells #[.int .u64 (nn a0.v), .int .u64 (nn a0.m)] 24)).alloc (.cells #[.int .u64 (nn a1.v), .int .u64 (nn a1.m)] 24)) (w.heap.size + 1) a1 := ⟨by go_cell, by go_cell, by first | (simp; done) | (simp; omega)⟩
  have g0 : Below w.heap.size w ((w.alloc (.cells #[.int .u64 (nn a0.v), .int .u64 (nn a0.m)] 24)).alloc (.cells #[.int .u64 (nn a1.v), .int .u64 (nn a1.m)] 24)) := by go_grown
  generalize ((w.alloc (.cells #[.int .u64 (nn a0.v), .int .u64 (nn a0.m)] 24)).alloc (.cells #[.int .u64 (nn a1.v), .int .u64 (nn a1.m)] 24)) = w0 at *
  go_upto_region 3 with ((with_reducible refine (hk.out _).mono ?_); rintro e w1 ⟨rfl, g1⟩)
  have A1 := A0.next g1
  have B1 := B0.next g1
  obtain ⟨x1, x2, x3⟩ := id A1
  have hr := Lib.hid (fun w => is_yes a0 ha w)
  have hs := Lib.hid (fun w => is_no a1 hb w)
  clear ha hb
  go_wp2_with (first
    | ((with_reducible refine (hr.out _).mono ?_); rintro e w2 ⟨rfl, g2⟩; have B2 := B1.next g2; obtain ⟨y1, y2, y3⟩ := id B2)
    | ((with_reducible refine (hs.out _).mono ?_); rintro e w3 ⟨rfl, g3⟩))
  go_ret
  exact ⟨rfl, bl_trans g0 (bl_trans g1 (bl_trans g2 g3))⟩
set_option maxHeartbeats 4000000 in
set_option maxRecDepth 100000 in
theorem walk3 (a0 : T) (a1 : T) (m j : T) (hi3 : Hid (∀ w, Calls Try.prog 17 #[.agg #[.int .u64 (nn a0.v), .int .u64 (nn a0.m)], .agg #[.int .u64 (nn j.v), .int .u64 (nn j.m)]] w fun e w' => e = .returned (.bool true) ∧ Below w.heap.size w w')) (hi4 : Hid (∀ w, Calls Try.prog 17 #[.agg #[.int .u64 (nn a1.v), .int .u64 (nn a1.m)], .agg #[.int .u64 (nn j.v), .int .u64 (nn j.m)]] w fun e w' => e = .returned (.bool true) ∧ Below w.heap.size w w')) (hi5 : Hid (∀ w, Calls Try.prog 17 #[.agg #[.int .u64 (nn a0.v), .int .u64 (nn a0.m)], .agg #[.int .u64 (nn a1.v), .int .u64 (nn a1.m)]] w fun e w' => e = .returned (.bool false) ∧ Below w.heap.size w w'))(hr : Hid (∀ w, Calls Try.prog 13 #[.agg #[.int .u64 (nn a0.v), .int .u64 (nn a0.m)]] w fun e w' => e = .returned (.bool true) ∧ Below w.heap.size w w')) (hs : Hid (∀ w, Calls Try.prog 13 #[.agg #[.int .u64 (nn a1.v), .int .u64 (nn a1.m)]] w fun e w' => e = .returned (.bool true) ∧ Below w.heap.size w w')) (hm1 : Hid (∀ w, Calls Try.prog 11 #[.agg #[.int .u64 (nn a0.v), .int .u64 (nn a0.m)], .agg #[.int .u64 (nn a1.v), .int .u64 (nn a1.m)]] w fun e w' => e = .returned (.tuple #[tv m, .bool false]) ∧ Below w.heap.size w w')) (hm2 : Hid (∀ w, Calls Try.prog 11 #[.agg #[.int .u64 (nn a1.v), .int .u64 (nn a1.m)], .agg #[.int .u64 (nn a0.v), .int .u64 (nn a0.m)]] w fun e w' => e = .returned (.tuple #[tv m, .bool false]) ∧ Below w.heap.size w w')) (hm3 : Hid (∀ w, Calls Try.prog 11 #[.agg #[.int .u64 (nn a0.v), .int .u64 (nn a0.m)], .agg #[.int .u64 (nn a0.v), .int .u64 (nn a0.m)]] w fun e w' => e = .returned (.tuple #[tv a0, .bool true]) ∧ Below w.heap.size w w')) (hj1 : Hid (∀ w, Calls Try.prog 22 #[.agg #[.int .u64 (nn a0.v), .int .u64 (nn a0.m)], .agg #[.int .u64 (nn a1.v), .int .u64 (nn a1.m)]] w fun e w' => e = .returned (tv j) ∧ Below w.heap.size w w')) (hj2 : Hid (∀ w, Calls Try.prog 22 #[.agg #[.int .u64 (nn a1.v), .int .u64 (nn a1.m)], .agg #[.int .u64 (nn a0.v), .int .u64 (nn a0.m)]] w fun e w' => e = .returned (tv j) ∧ Below w.heap.size w w')) (hj3 : Hid (∀ w, Calls Try.prog 22 #[.agg #[.int .u64 (nn a0.v), .int .u64 (nn a0.m)], .agg #[.int .u64 (nn a0.v), .int .u64 (nn a0.m)]] w fun e w' => e = .returned (tv a0) ∧ Below w.heap.size w w')) (w : World) : Calls Try.prog 9 #[.agg #[.int .u64 (nn a0.v), .int .u64 (nn a0.m)], .agg #[.int .u64 (nn a1.v), .int .u64 (nn a1.m)]] w fun e w' => e = .returned (.bool true) ∧ Below w.heap.size w w' := by
  have hk := Lib.hid known_any
  go_enter Try.func9, Try.ntmps9
  go_upto_region 1 with (fail)
  have A0 : At ((w.alloc (.cells #[.int .u64 (nn a0.v), .int .u64 (nn a0.m)] 24)).alloc (.cells #[.int .u64 (nn a1.v), .int .u64 (nn a1.m)] 24)) w.heap.size a0 := ⟨by go_cell, by go_cell, by first | (simp; done) | (simp; omega)⟩
  have B0 : At ((w.alloc (.cells #[.int .u64 (nn a0.v), .int .u64 (nn a0.m)] 24)).alloc (.cells #[.int .u64 (nn a1.v), .int .u64 (nn a1.m)] 24)) (w.heap.size + 1) a1 := ⟨by go_cell, by go_cell, by first | (simp; done) | (simp; omega)⟩
  have g0 : Below w.heap.size w ((w.alloc (.cells #[.int .u64 (nn a0.v), .int .u64 (nn a0.m)] 24)).alloc (.cells #[.int .u64 (nn a1.v), .int .u64 (nn a1.m)] 24)) := by go_grown
  generalize ((w.alloc (.cells #[.int .u64 (nn a0.v), .int .u64 (nn a0.m)] 24)).alloc (.cells #[.int .u64 (nn a1.v), .int .u64 (nn a1.m)] 24)) = w0 at *
  go_upto_region 3 with ((with_reducible refine (hk.out _).mono ?_); rintro e w1 ⟨rfl, g1⟩)
  have A1 := A0.next g1
  have B1 := B0.next g1
  obtain ⟨x1, x2, x3⟩ := id A1
  go_upto_region 5 with (first
    | ((with_reducible refine (hr.out _).mono ?_); rintro e w2 ⟨rfl, g2⟩; have A2 := A1.next g2; have B2 := B1.next g2; obtain ⟨y1, y2, y3⟩ := id B2)
    | ((with_reducible refine (hs.out _).mono ?_); rintro e w3 ⟨rfl, g3⟩))
  have A3 := A2.next g3
  have B3 := B2.next g3
  clear x1 x2 x3 y1 y2 y3 hr hs
  obtain ⟨x1, x2, x3⟩ := id A3
  obtain ⟨y1, y2, y3⟩ := id B3
  have G3 := bl_trans g0 (bl_trans g1 (bl_trans g2 g3))
  go_upto_region 6 with ((with_reducible refine (hm1.out _).mono ?_); rintro e w4 ⟨rfl, g4⟩; simp only [tv])
  clear x1 x2 x3 y1 y2 y3
  have A4 := (A3.next g4).alloc (.cells #[.int .u64 (nn m.v), .int .u64 (nn m.m)] 24)
  have B4 := (B3.next g4).alloc (.cells #[.int .u64 (nn m.v), .int .u64 (nn m.m)] 24)
  have M4 := At.new w4 m 24
  have G4 := bl_trans G3 (bl_alloc g4 (.cells #[.int .u64 (nn m.v), .int .u64 (nn m.m)] 24))
  generalize hW : w4.alloc (.cells #[.int .u64 (nn m.v), .int .u64 (nn m.m)] 24) = W4 at *
  generalize hP4 : w4.heap.size = P4 at *
  clear hW hP4
  obtain ⟨x1, x2, x3⟩ := id A4
  obtain ⟨y1, y2, y3⟩ := id B4
  go_upto_region 7 with ((with_reducible refine (hm2.out _).mono ?_); rintro e w5 ⟨rfl, g5⟩; simp only [tv])
  clear x1 x2 x3 y1 y2 y3
  have A5 := (A4.next g5).alloc (.cells #[.int .u64 (nn m.v), .int .u64 (nn m.m)] 24)
  have B5 := (B4.next g5).alloc (.cells #[.int .u64 (nn m.v), .int .u64 (nn m.m)] 24)
  have M5 := (M4.next g5).alloc (.cells #[.int .u64 (nn m.v), .int .u64 (nn m.m)] 24)
  have N5 := At.new w5 m 24
  have G5 := bl_trans G4 (bl_alloc g5 (.cells #[.int .u64 (nn m.v), .int .u64 (nn m.m)] 24))
  generalize hW : w5.alloc (.cells #[.int .u64 (nn m.v), .int .u64 (nn m.m)] 24) = W5 at *
  generalize hP5 : w5.heap.size = P5 at *
  clear hW hP5
  obtain ⟨x1, x2, x3⟩ := id A5
  obtain ⟨y1, y2, y3⟩ := id B5
  go_upto_region 8 with ((with_reducible refine (hj1.out _).mono ?_); rintro e w6 ⟨rfl, g6⟩; simp only [tv])
  clear x1 x2 x3 y1 y2 y3
  have A6 := (A5.next g6).alloc (.cells #[.int .u64 (nn j.v), .int .u64 (nn j.m)] 24)
  have B6 := (B5.next g6).alloc (.cells #[.int .u64 (nn j.v), .int .u64 (nn j.m)] 24)
  have M6 := (M5.next g6).alloc (.cells #[.int .u64 (nn j.v), .int .u64 (nn j.m)] 24)
  have N6 := (N5.next g6).alloc (.cells #[.int .u64 (nn j.v), .int .u64 (nn j.m)] 24)
  have J6 := At.new w6 j 24
  have G6 := bl_trans G5 (bl_alloc g6 (.cells #[.int .u64 (nn j.v), .int .u64 (nn j.m)] 24))
  generalize hW : w6.alloc (.cells #[.int .u64 (nn j.v), .int .u64 (nn j.m)] 24) = W6 at *
  generalize hP6 : w6.heap.size = P6 at *
  clear hW hP6
  obtain ⟨x1, x2, x3⟩ := id A6
  obtain ⟨y1, y2, y3⟩ := id B6
  go_upto_region 9 with ((with_reducible refine (hm3.out _).mono ?_); rintro e w7 ⟨rfl, g7⟩; simp only [tv])
  clear x1 x2 x3 y1 y2 y3
  have A7 := (A6.next g7).alloc (.cells #[.int .u64 (nn a0.v), .int .u64 (nn a0.m)] 24)
  have B7 := (B6.next g7).alloc (.cells #[.int .u64 (nn a0.v), .int .u64 (nn a0.m)] 24)
  have M7 := (M6.next g7).alloc (.cells #[.int .u64 (nn a0.v), .int .u64 (nn a0.m)] 24)
  have N7 := (N6.next g7).alloc (.cells #[.int .u64 (nn a0.v), .int .u64 (nn a0.m)] 24)
  have J7 := (J6.next g7).alloc (.cells #[.int .u64 (nn a0.v), .int .u64 (nn a0.m)] 24)
  have K7 := At.new w7 a0 24
  have G7 := bl_trans G6 (bl_alloc g7 (.cells #[.int .u64 (nn a0.v), .int .u64 (nn a0.m)] 24))
  generalize hW : w7.alloc (.cells #[.int .u64 (nn a0.v), .int .u64 (nn a0.m)] 24) = W7 at *
  generalize hP7 : w7.heap.size = P7 at *
  clear hW hP7
  obtain ⟨x1, x2, x3⟩ := id A7
  obtain ⟨y1, y2, y3⟩ := id B7
  have R0 : R6 W7 W7 w.heap.size (w.heap.size + 1) P4 P5 P6 P7 a0 a1 m m j a0 := ⟨A7, B7, M7, N7, J7, K7, Below.refl _ _⟩
  have hN := neT
  clear x1 x2 x3 y1 y2 y3
  go_region_held3 (fun w' => w'.cell? ⟨w.heap.size, 0, none⟩ = some (.int .u64 (nn a0.v)) ∧ w'.cell? ⟨w.heap.size, 1, none⟩ = some (.int .u64 (nn a0.m)) ∧ w'.cell? ⟨(w.heap.size + 1), 0, none⟩ = some (.int .u64 (nn a1.v)) ∧ w'.cell? ⟨(w.heap.size + 1), 1, none⟩ = some (.int .u64 (nn a1.m)) ∧ w'.cell? ⟨P4, 0, none⟩ = some (.int .u64 (nn m.v)) ∧ w'.cell? ⟨P4, 1, none⟩ = some (.int .u64 (nn m.m)) ∧ w'.cell? ⟨P5, 0, none⟩ = some (.int .u64 (nn m.v)) ∧ w'.cell? ⟨P5, 1, none⟩ = some (.int .u64 (nn m.m)) ∧ w'.cell? ⟨P6, 0, none⟩ = some (.int .u64 (nn j.v)) ∧ w'.cell? ⟨P6, 1, none⟩ = some (.int .u64 (nn j.m)) ∧ w'.cell? ⟨P7, 0, none⟩ = some (.int .u64 (nn a0.v)) ∧ w'.cell? ⟨P7, 1, none⟩ = some (.int .u64 (nn a0.m)) ∧ R6 W7 w' w.heap.size (w.heap.size + 1) P4 P5 P6 P7 a0 a1 m m j a0)
    (first | exact keep12 (by assumption) (by assumption) | exact (R6.next R0 (Below.drew (Below.refl _ _))).cells | assumption)
    (first
      | (go_at_call 22; (with_reducible refine (hj2.out _).mono ?_); rintro e wx ⟨rfl, g_wx⟩; (try simp only [tv]))
      | (go_at_call 22; (with_reducible refine (hj3.out _).mono ?_); rintro e wx ⟨rfl, g_wx⟩; (try simp only [tv])))
  clear hN
  obtain ⟨_, _, _, _, _, _, _, _, _, _, _, _, q⟩ := ‹_ ∧ _ ∧ _ ∧ _ ∧ _ ∧ _ ∧ _ ∧ _ ∧ _ ∧ _ ∧ _ ∧ _ ∧ R6 _ _ _ _ _ _ _ _ _ _ _ _ _ _›
  obtain ⟨c1, c2, c3, c4, c5, c6, c7, c8, c9, c10, c11, c12, _⟩ := q.cells
  go_upto_region 13 with (fail)
  have hE := eqT
  go_wp2_with (first
    | ((with_reducible refine (hi3.out _).mono ?_); rintro e wx ⟨rfl, gx⟩; have qx := R6.next (by assumption) gx; obtain ⟨c1, c2, c3, c4, c5, c6, c7, c8, c9, c10, c11, c12, _⟩ := qx.cells)
    | ((with_reducible refine (hi4.out _).mono ?_); rintro e wx ⟨rfl, gx⟩; have qx := R6.next (by assumption) gx; obtain ⟨c1, c2, c3, c4, c5, c6, c7, c8, c9, c10, c11, c12, _⟩ := qx.cells)
    | ((with_reducible refine (hi5.out _).mono ?_); rintro e wx ⟨rfl, gx⟩; have qx := R6.next (by assumption) gx; obtain ⟨c1, c2, c3, c4, c5, c6, c7, c8, c9, c10, c11, c12, _⟩ := qx.cells))
  clear hE
  go_ret
  exact ⟨rfl, bl_trans G7 (R6.below (by assumption))⟩
set_option maxHeartbeats 4000000 in
set_option maxRecDepth 100000 in
theorem walk4 (a0 : T) (a1 : T) (m j : T)  (hi1 : Hid (∀ w, Calls Try.prog 17 #[.agg #[.int .u64 (nn m.v), .int .u64 (nn m.m)], .agg #[.int .u64 (nn a0.v), .int .u64 (nn a0.m)]] w fun e w' => e = .returned (.bool true) ∧ Below w.heap.size w w')) (hi2 : Hid (∀ w, Calls Try.prog 17 #[.agg #[.int .u64 (nn m.v), .int .u64 (nn m.m)], .agg #[.int .u64 (nn a1.v), .int .u64 (nn a1.m)]] w fun e w' => e = .returned (.bool true) ∧ Below w.heap.size w w')) (hi3 : Hid (∀ w, Calls Try.prog 17 #[.agg #[.int .u64 (nn a0.v), .int .u64 (nn a0.m)], .agg #[.int .u64 (nn j.v), .int .u64 (nn j.m)]] w fun e w' => e = .returned (.bool true) ∧ Below w.heap.size w w')) (hi4 : Hid (∀ w, Calls Try.prog 17 #[.agg #[.int .u64 (nn a1.v), .int .u64 (nn a1.m)], .agg #[.int .u64 (nn j.v), .int .u64 (nn j.m)]] w fun e w' => e = .returned (.bool true) ∧ Below w.heap.size w w')) (hi5 : Hid (∀ w, Calls Try.prog 17 #[.agg #[.int .u64 (nn a0.v), .int .u64 (nn a0.m)], .agg #[.int .u64 (nn a1.v), .int .u64 (nn a1.m)]] w fun e w' => e = .returned (.bool false) ∧ Below w.heap.size w w'))(hr : Hid (∀ w, Calls Try.prog 13 #[.agg #[.int .u64 (nn a0.v), .int .u64 (nn a0.m)]] w fun e w' => e = .returned (.bool true) ∧ Below w.heap.size w w')) (hs : Hid (∀ w, Calls Try.prog 13 #[.agg #[.int .u64 (nn a1.v), .int .u64 (nn a1.m)]] w fun e w' => e = .returned (.bool true) ∧ Below w.heap.size w w')) (hm1 : Hid (∀ w, Calls Try.prog 11 #[.agg #[.int .u64 (nn a0.v), .int .u64 (nn a0.m)], .agg #[.int .u64 (nn a1.v), .int .u64 (nn a1.m)]] w fun e w' => e = .returned (.tuple #[tv m, .bool true]) ∧ Below w.heap.size w w')) (hm2 : Hid (∀ w, Calls Try.prog 11 #[.agg #[.int .u64 (nn a1.v), .int .u64 (nn a1.m)], .agg #[.int .u64 (nn a0.v), .int .u64 (nn a0.m)]] w fun e w' => e = .returned (.tuple #[tv m, .bool true]) ∧ Below w.heap.size w w')) (hm3 : Hid (∀ w, Calls Try.prog 11 #[.agg #[.int .u64 (nn a0.v), .int .u64 (nn a0.m)], .agg #[.int .u64 (nn a0.v), .int .u64 (nn a0.m)]] w fun e w' => e = .returned (.tuple #[tv a0, .bool true]) ∧ Below w.heap.size w w')) (hj1 : Hid (∀ w, Calls Try.prog 22 #[.agg #[.int .u64 (nn a0.v), .int .u64 (nn a0.m)], .agg #[.int .u64 (nn a1.v), .int .u64 (nn a1.m)]] w fun e w' => e = .returned (tv j) ∧ Below w.heap.size w w')) (hj2 : Hid (∀ w, Calls Try.prog 22 #[.agg #[.int .u64 (nn a1.v), .int .u64 (nn a1.m)], .agg #[.int .u64 (nn a0.v), .int .u64 (nn a0.m)]] w fun e w' => e = .returned (tv j) ∧ Below w.heap.size w w')) (hj3 : Hid (∀ w, Calls Try.prog 22 #[.agg #[.int .u64 (nn a0.v), .int .u64 (nn a0.m)], .agg #[.int .u64 (nn a0.v), .int .u64 (nn a0.m)]] w fun e w' => e = .returned (tv a0) ∧ Below w.heap.size w w')) (w : World) : Calls Try.prog 9 #[.agg #[.int .u64 (nn a0.v), .int .u64 (nn a0.m)], .agg #[.int .u64 (nn a1.v), .int .u64 (nn a1.m)]] w fun e w' => e = .returned (.bool true) ∧ Below w.heap.size w w' := by
  have hk := Lib.hid known_any
  go_enter Try.func9, Try.ntmps9
  go_upto_region 1 with (fail)
  have A0 : At ((w.alloc (.cells #[.int .u64 (nn a0.v), .int .u64 (nn a0.m)] 24)).alloc (.cells #[.int .u64 (nn a1.v), .int .u64 (nn a1.m)] 24)) w.heap.size a0 := ⟨by go_cell, by go_cell, by first | (simp; done) | (simp; omega)⟩
  have B0 : At ((w.alloc (.cells #[.int .u64 (nn a0.v), .int .u64 (nn a0.m)] 24)).alloc (.cells #[.int .u64 (nn a1.v), .int .u64 (nn a1.m)] 24)) (w.heap.size + 1) a1 := ⟨by go_cell, by go_cell, by first | (simp; done) | (simp; omega)⟩
  have g0 : Below w.heap.size w ((w.alloc (.cells #[.int .u64 (nn a0.v), .int .u64 (nn a0.m)] 24)).alloc (.cells #[.int .u64 (nn a1.v), .int .u64 (nn a1.m)] 24)) := by go_grown
  generalize ((w.alloc (.cells #[.int .u64 (nn a0.v), .int .u64 (nn a0.m)] 24)).alloc (.cells #[.int .u64 (nn a1.v), .int .u64 (nn a1.m)] 24)) = w0 at *
  go_upto_region 3 with ((with_reducible refine (hk.out _).mono ?_); rintro e w1 ⟨rfl, g1⟩)
  have A1 := A0.next g1
  have B1 := B0.next g1
  obtain ⟨x1, x2, x3⟩ := id A1
  go_upto_region 5 with (first
    | ((with_reducible refine (hr.out _).mono ?_); rintro e w2 ⟨rfl, g2⟩; have A2 := A1.next g2; have B2 := B1.next g2; obtain ⟨y1, y2, y3⟩ := id B2)
    | ((with_reducible refine (hs.out _).mono ?_); rintro e w3 ⟨rfl, g3⟩))
  have A3 := A2.next g3
  have B3 := B2.next g3
  clear x1 x2 x3 y1 y2 y3 hr hs
  obtain ⟨x1, x2, x3⟩ := id A3
  obtain ⟨y1, y2, y3⟩ := id B3
  have G3 := bl_trans g0 (bl_trans g1 (bl_trans g2 g3))
  go_upto_region 6 with ((with_reducible refine (hm1.out _).mono ?_); rintro e w4 ⟨rfl, g4⟩; simp only [tv])
  clear x1 x2 x3 y1 y2 y3
  have A4 := (A3.next g4).alloc (.cells #[.int .u64 (nn m.v), .int .u64 (nn m.m)] 24)
  have B4 := (B3.next g4).alloc (.cells #[.int .u64 (nn m.v), .int .u64 (nn m.m)] 24)
  have M4 := At.new w4 m 24
  have G4 := bl_trans G3 (bl_alloc g4 (.cells #[.int .u64 (nn m.v), .int .u64 (nn m.m)] 24))
  generalize hW : w4.alloc (.cells #[.int .u64 (nn m.v), .int .u64 (nn m.m)] 24) = W4 at *
  generalize hP4 : w4.heap.size = P4 at *
  clear hW hP4
  obtain ⟨x1, x2, x3⟩ := id A4
  obtain ⟨y1, y2, y3⟩ := id B4
  go_upto_region 7 with ((with_reducible refine (hm2.out _).mono ?_); rintro e w5 ⟨rfl, g5⟩; simp only [tv])
  clear x1 x2 x3 y1 y2 y3
  have A5 := (A4.next g5).alloc (.cells #[.int .u64 (nn m.v), .int .u64 (nn m.m)] 24)
  have B5 := (B4.next g5).alloc (.cells #[.int .u64 (nn m.v), .int .u64 (nn m.m)] 24)
  have M5 := (M4.next g5).alloc (.cells #[.int .u64 (nn m.v), .int .u64 (nn m.m)] 24)
  have N5 := At.new w5 m 24
  have G5 := bl_trans G4 (bl_alloc g5 (.cells #[.int .u64 (nn m.v), .int .u64 (nn m.m)] 24))
  generalize hW : w5.alloc (.cells #[.int .u64 (nn m.v), .int .u64 (nn m.m)] 24) = W5 at *
  generalize hP5 : w5.heap.size = P5 at *
  clear hW hP5
  obtain ⟨x1, x2, x3⟩ := id A5
  obtain ⟨y1, y2, y3⟩ := id B5
  go_upto_region 8 with ((with_reducible refine (hj1.out _).mono ?_); rintro e w6 ⟨rfl, g6⟩; simp only [tv])
  clear x1 x2 x3 y1 y2 y3
  have A6 := (A5.next g6).alloc (.cells #[.int .u64 (nn j.v), .int .u64 (nn j.m)] 24)
  have B6 := (B5.next g6).alloc (.cells #[.int .u64 (nn j.v), .int .u64 (nn j.m)] 24)
  have M6 := (M5.next g6).alloc (.cells #[.int .u64 (nn j.v), .int .u64 (nn j.m)] 24)
  have N6 := (N5.next g6).alloc (.cells #[.int .u64 (nn j.v), .int .u64 (nn j.m)] 24)
  have J6 := At.new w6 j 24
  have G6 := bl_trans G5 (bl_alloc g6 (.cells #[.int .u64 (nn j.v), .int .u64 (nn j.m)] 24))
  generalize hW : w6.alloc (.cells #[.int .u64 (nn j.v), .int .u64 (nn j.m)] 24) = W6 at *
  generalize hP6 : w6.heap.size = P6 at *
  clear hW hP6
  obtain ⟨x1, x2, x3⟩ := id A6
  obtain ⟨y1, y2, y3⟩ := id B6
  go_upto_region 9 with ((with_reducible refine (hm3.out _).mono ?_); rintro e w7 ⟨rfl, g7⟩; simp only [tv])
  clear x1 x2 x3 y1 y2 y3
  have A7 := (A6.next g7).alloc (.cells #[.int .u64 (nn a0.v), .int .u64 (nn a0.m)] 24)
  have B7 := (B6.next g7).alloc (.cells #[.int .u64 (nn a0.v), .int .u64 (nn a0.m)] 24)
  have M7 := (M6.next g7).alloc (.cells #[.int .u64 (nn a0.v), .int .u64 (nn a0.m)] 24)
  have N7 := (N6.next g7).alloc (.cells #[.int .u64 (nn a0.v), .int .u64 (nn a0.m)] 24)
  have J7 := (J6.next g7).alloc (.cells #[.int .u64 (nn a0.v), .int .u64 (nn a0.m)] 24)
  have K7 := At.new w7 a0 24
  have G7 := bl_trans G6 (bl_alloc g7 (.cells #[.int .u64 (nn a0.v), .int .u64 (nn a0.m)] 24))
  generalize hW : w7.alloc (.cells #[.int .u64 (nn a0.v), .int .u64 (nn a0.m)] 24) = W7 at *
  generalize hP7 : w7.heap.size = P7 at *
  clear hW hP7
  obtain ⟨x1, x2, x3⟩ := id A7
  obtain ⟨y1, y2, y3⟩ := id B7
  have R0 : R6 W7 W7 w.heap.size (w.heap.size + 1) P4 P5 P6 P7 a0 a1 m m j a0 := ⟨A7, B7, M7, N7, J7, K7, Below.refl _ _⟩
  have hN := neT
  clear x1 x2 x3 y1 y2 y3
  go_region_held3 (fun w' => w'.cell? ⟨w.heap.size, 0, none⟩ = some (.int .u64 (nn a0.v)) ∧ w'.cell? ⟨w.heap.size, 1, none⟩ = some (.int .u64 (nn a0.m)) ∧ w'.cell? ⟨(w.heap.size + 1), 0, none⟩ = some (.int .u64 (nn a1.v)) ∧ w'.cell? ⟨(w.heap.size + 1), 1, none⟩ = some (.int .u64 (nn a1.m)) ∧ w'.cell? ⟨P4, 0, none⟩ = some (.int .u64 (nn m.v)) ∧ w'.cell? ⟨P4, 1, none⟩ = some (.int .u64 (nn m.m)) ∧ w'.cell? ⟨P5, 0, none⟩ = some (.int .u64 (nn m.v)) ∧ w'.cell? ⟨P5, 1, none⟩ = some (.int .u64 (nn m.m)) ∧ w'.cell? ⟨P6, 0, none⟩ = some (.int .u64 (nn j.v)) ∧ w'.cell? ⟨P6, 1, none⟩ = some (.int .u64 (nn j.m)) ∧ w'.cell? ⟨P7, 0, none⟩ = some (.int .u64 (nn a0.v)) ∧ w'.cell? ⟨P7, 1, none⟩ = some (.int .u64 (nn a0.m)) ∧ R6 W7 w' w.heap.size (w.heap.size + 1) P4 P5 P6 P7 a0 a1 m m j a0)
    (first | exact keep12 (by assumption) (by assumption) | exact (R6.next R0 (Below.drew (Below.refl _ _))).cells | assumption)
    (first
      | (go_at_call 22; (with_reducible refine (hj2.out _).mono ?_); rintro e wx ⟨rfl, g_wx⟩; (try simp only [tv]))
      | (go_at_call 22; (with_reducible refine (hj3.out _).mono ?_); rintro e wx ⟨rfl, g_wx⟩; (try simp only [tv])))
  clear hN
  obtain ⟨_, _, _, _, _, _, _, _, _, _, _, _, q⟩ := ‹_ ∧ _ ∧ _ ∧ _ ∧ _ ∧ _ ∧ _ ∧ _ ∧ _ ∧ _ ∧ _ ∧ _ ∧ R6 _ _ _ _ _ _ _ _ _ _ _ _ _ _›
  obtain ⟨c1, c2, c3, c4, c5, c6, c7, c8, c9, c10, c11, c12, _⟩ := q.cells
  go_upto_region 13 with (first
    | ((with_reducible refine (hi1.out _).mono ?_); rintro e wx ⟨rfl, gx⟩; have qx := R6.next (by assumption) gx; obtain ⟨c1, c2, c3, c4, c5, c6, c7, c8, c9, c10, c11, c12, _⟩ := qx.cells)
    | ((with_reducible refine (hi2.out _).mono ?_); rintro e wx ⟨rfl, gx⟩; have qx := R6.next (by assumption) gx; obtain ⟨c1, c2, c3, c4, c5, c6, c7, c8, c9, c10, c11, c12, _⟩ := qx.cells))
  have hE := eqT
  go_wp2_with (first
    | ((with_reducible refine (hi3.out _).mono ?_); rintro e wx ⟨rfl, gx⟩; have qx := R6.next (by assumption) gx; obtain ⟨c1, c2, c3, c4, c5, c6, c7, c8, c9, c10, c11, c12, _⟩ := qx.cells)
    | ((with_reducible refine (hi4.out _).mono ?_); rintro e wx ⟨rfl, gx⟩; have qx := R6.next (by assumption) gx; obtain ⟨c1, c2, c3, c4, c5, c6, c7, c8, c9, c10, c11, c12, _⟩ := qx.cells)
    | ((with_reducible refine (hi5.out _).mono ?_); rintro e wx ⟨rfl, gx⟩; have qx := R6.next (by assumption) gx; obtain ⟨c1, c2, c3, c4, c5, c6, c7, c8, c9, c10, c11, c12, _⟩ := qx.cells))
  clear hE
  go_ret
  exact ⟨rfl, bl_trans G7 (R6.below (by assumption))⟩
set_option maxHeartbeats 4000000 in
set_option maxRecDepth 100000 in
theorem walk5 (a0 : T) (a1 : T)  (hi1 : Hid (∀ w, Calls Try.prog 17 #[.agg #[.int .u64 (nn a0.v), .int .u64 (nn a0.m)], .agg #[.int .u64 (nn a0.v), .int .u64 (nn a0.m)]] w fun e w' => e = .returned (.bool true) ∧ Below w.heap.size w w')) (hi2 : Hid (∀ w, Calls Try.prog 17 #[.agg #[.int .u64 (nn a0.v), .int .u64 (nn a0.m)], .agg #[.int .u64 (nn a1.v), .int .u64 (nn a1.m)]] w fun e w' => e = .returned (.bool true) ∧ Below w.heap.size w w')) (hi3 : Hid (∀ w, Calls Try.prog 17 #[.agg #[.int .u64 (nn a0.v), .int .u64 (nn a0.m)], .agg #[.int .u64 (nn a1.v), .int .u64 (nn a1.m)]] w fun e w' => e = .returned (.bool true) ∧ Below w.heap.size w w')) (hi4 : Hid (∀ w, Calls Try.prog 17 #[.agg #[.int .u64 (nn a1.v), .int .u64 (nn a1.m)], .agg #[.int .u64 (nn a1.v), .int .u64 (nn a1.m)]] w fun e w' => e = .returned (.bool true) ∧ Below w.heap.size w w')) (hi5 : Hid (∀ w, Calls Try.prog 17 #[.agg #[.int .u64 (nn a0.v), .int .u64 (nn a0.m)], .agg #[.int .u64 (nn a1.v), .int .u64 (nn a1.m)]] w fun e w' => e = .returned (.bool true) ∧ Below w.heap.size w w'))(hr : Hid (∀ w, Calls Try.prog 13 #[.agg #[.int .u64 (nn a0.v), .int .u64 (nn a0.m)]] w fun e w' => e = .returned (.bool true) ∧ Below w.heap.size w w')) (hs : Hid (∀ w, Calls Try.prog 13 #[.agg #[.int .u64 (nn a1.v), .int .u64 (nn a1.m)]] w fun e w' => e = .returned (.bool true) ∧ Below w.heap.size w w')) (hm1 : Hid (∀ w, Calls Try.prog 11 #[.agg #[.int .u64 (nn a0.v), .int .u64 (nn a0.m)], .agg #[.int .u64 (nn a1.v), .int .u64 (nn a1.m)]] w fun e w' => e = .returned (.tuple #[tv a0, .bool true]) ∧ Below w.heap.size w w')) (hm2 : Hid (∀ w, Calls Try.prog 11 #[.agg #[.int .u64 (nn a1.v), .int .u64 (nn a1.m)], .agg #[.int .u64 (nn a0.v), .int .u64 (nn a0.m)]] w fun e w' => e = .returned (.tuple #[tv a0, .bool true]) ∧ Below w.heap.size w w')) (hm3 : Hid (∀ w, Calls Try.prog 11 #[.agg #[.int .u64 (nn a0.v), .int .u64 (nn a0.m)], .agg #[.int .u64 (nn a0.v), .int .u64 (nn a0.m)]] w fun e w' => e = .returned (.tuple #[tv a0, .bool true]) ∧ Below w.heap.size w w')) (hj1 : Hid (∀ w, Calls Try.prog 22 #[.agg #[.int .u64 (nn a0.v), .int .u64 (nn a0.m)], .agg #[.int .u64 (nn a1.v), .int .u64 (nn a1.m)]] w fun e w' => e = .returned (tv a1) ∧ Below w.heap.size w w')) (hj2 : Hid (∀ w, Calls Try.prog 22 #[.agg #[.int .u64 (nn a1.v), .int .u64 (nn a1.m)], .agg #[.int .u64 (nn a0.v), .int .u64 (nn a0.m)]] w fun e w' => e = .returned (tv a1) ∧ Below w.heap.size w w')) (hj3 : Hid (∀ w, Calls Try.prog 22 #[.agg #[.int .u64 (nn a0.v), .int .u64 (nn a0.m)], .agg #[.int .u64 (nn a0.v), .int .u64 (nn a0.m)]] w fun e w' => e = .returned (tv a0) ∧ Below w.heap.size w w')) (w : World) : Calls Try.prog 9 #[.agg #[.int .u64 (nn a0.v), .int .u64 (nn a0.m)], .agg #[.int .u64 (nn a1.v), .int .u64 (nn a1.m)]] w fun e w' => e = .returned (.bool true) ∧ Below w.heap.size w w' := by
  have hk := Lib.hid known_any
  go_enter Try.func9, Try.ntmps9
  go_upto_region 1 with (fail)
  have A0 : At ((w.alloc (.cells #[.int .u64 (nn a0.v), .int .u64 (nn a0.m)] 24)).alloc (.cells #[.int .u64 (nn a1.v), .int .u64 (nn a1.m)] 24)) w.heap.size a0 := ⟨by go_cell, by go_cell, by first | (simp; done) | (simp; omega)⟩
  have B0 : At ((w.alloc (.cells #[.int .u64 (nn a0.v), .int .u64 (nn a0.m)] 24)).alloc (.cells #[.int .u64 (nn a1.v), .int .u64 (nn a1.m)] 24)) (w.heap.size + 1) a1 := ⟨by go_cell, by go_cell, by first | (simp; done) | (simp; omega)⟩
  have g0 : Below w.heap.size w ((w.alloc (.cells #[.int .u64 (nn a0.v), .int .u64 (nn a0.m)] 24)).alloc (.cells #[.int .u64 (nn a1.v), .int .u64 (nn a1.m)] 24)) := by go_grown
  generalize ((w.alloc (.cells #[.int .u64 (nn a0.v), .int .u64 (nn a0.m)] 24)).alloc (.cells #[.int .u64 (nn a1.v), .int .u64 (nn a1.m)] 24)) = w0 at *
  go_upto_region 3 with ((with_reducible refine (hk.out _).mono ?_); rintro e w1 ⟨rfl, g1⟩)
  have A1 := A0.next g1
  have B1 := B0.next g1
  obtain ⟨x1, x2, x3⟩ := id A1
  go_upto_region 5 with (first
    | ((with_reducible refine (hr.out _).mono ?_); rintro e w2 ⟨rfl, g2⟩; have A2 := A1.next g2; have B2 := B1.next g2; obtain ⟨y1, y2, y3⟩ := id B2)
    | ((with_reducible refine (hs.out _).mono ?_); rintro e w3 ⟨rfl, g3⟩))
  have A3 := A2.next g3
  have B3 := B2.next g3
  clear x1 x2 x3 y1 y2 y3 hr hs
  obtain ⟨x1, x2, x3⟩ := id A3
  obtain ⟨y1, y2, y3⟩ := id B3
  have G3 := bl_trans g0 (bl_trans g1 (bl_trans g2 g3))
  go_upto_region 6 with ((with_reducible refine (hm1.out _).mono ?_); rintro e w4 ⟨rfl, g4⟩; simp only [tv])
  clear x1 x2 x3 y1 y2 y3
  have A4 := (A3.next g4).alloc (.cells #[.int .u64 (nn a0.v), .int .u64 (nn a0.m)] 24)
  have B4 := (B3.next g4).alloc (.cells #[.int .u64 (nn a0.v), .int .u64 (nn a0.m)] 24)
  have M4 := At.new w4 a0 24
  have G4 := bl_trans G3 (bl_alloc g4 (.cells #[.int .u64 (nn a0.v), .int .u64 (nn a0.m)] 24))
  generalize hW : w4.alloc (.cells #[.int .u64 (nn a0.v), .int .u64 (nn a0.m)] 24) = W4 at *
  generalize hP4 : w4.heap.size = P4 at *
  clear hW hP4
  obtain ⟨x1, x2, x3⟩ := id A4
  obtain ⟨y1, y2, y3⟩ := id B4
  go_upto_region 7 with ((with_reducible refine (hm2.out _).mono ?_); rintro e w5 ⟨rfl, g5⟩; simp only [tv])
  clear x1 x2 x3 y1 y2 y3
  have A5 := (A4.next g5).alloc (.cells #[.int .u64 (nn a0.v), .int .u64 (nn a0.m)] 24)
  have B5 := (B4.next g5).alloc (.cells #[.int .u64 (nn a0.v), .int .u64 (nn a0.m)] 24)
  have M5 := (M4.next g5).alloc (.cells #[.int .u64 (nn a0.v), .int .u64 (nn a0.m)] 24)
  have N5 := At.new w5 a0 24
  have G5 := bl_trans G4 (bl_alloc g5 (.cells #[.int .u64 (nn a0.v), .int .u64 (nn a0.m)] 24))
  generalize hW : w5.alloc (.cells #[.int .u64 (nn a0.v), .int .u64 (nn a0.m)] 24) = W5 at *
  generalize hP5 : w5.heap.size = P5 at *
  clear hW hP5
  obtain ⟨x1, x2, x3⟩ := id A5
  obtain ⟨y1, y2, y3⟩ := id B5
  go_upto_region 8 with ((with_reducible refine (hj1.out _).mono ?_); rintro e w6 ⟨rfl, g6⟩; simp only [tv])
  clear x1 x2 x3 y1 y2 y3
  have A6 := (A5.next g6).alloc (.cells #[.int .u64 (nn a1.v), .int .u64 (nn a1.m)] 24)
  have B6 := (B5.next g6).alloc (.cells #[.int .u64 (nn a1.v), .int .u64 (nn a1.m)] 24)
  have M6 := (M5.next g6).alloc (.cells #[.int .u64 (nn a1.v), .int .u64 (nn a1.m)] 24)
  have N6 := (N5.next g6).alloc (.cells #[.int .u64 (nn a1.v), .int .u64 (nn a1.m)] 24)
  have J6 := At.new w6 a1 24
  have G6 := bl_trans G5 (bl_alloc g6 (.cells #[.int .u64 (nn a1.v), .int .u64 (nn a1.m)] 24))
  generalize hW : w6.alloc (.cells #[.int .u64 (nn a1.v), .int .u64 (nn a1.m)] 24) = W6 at *
  generalize hP6 : w6.heap.size = P6 at *
  clear hW hP6
  obtain ⟨x1, x2, x3⟩ := id A6
  obtain ⟨y1, y2, y3⟩ := id B6
  go_upto_region 9 with ((with_reducible refine (hm3.out _).mono ?_); rintro e w7 ⟨rfl, g7⟩; simp only [tv])
  clear x1 x2 x3 y1 y2 y3
  have A7 := (A6.next g7).alloc (.cells #[.int .u64 (nn a0.v), .int .u64 (nn a0.m)] 24)
  have B7 := (B6.next g7).alloc (.cells #[.int .u64 (nn a0.v), .int .u64 (nn a0.m)] 24)
  have M7 := (M6.next g7).alloc (.cells #[.int .u64 (nn a0.v), .int .u64 (nn a0.m)] 24)
  have N7 := (N6.next g7).alloc (.cells #[.int .u64 (nn a0.v), .int .u64 (nn a0.m)] 24)
  have J7 := (J6.next g7).alloc (.cells #[.int .u64 (nn a0.v), .int .u64 (nn a0.m)] 24)
  have K7 := At.new w7 a0 24
  have G7 := bl_trans G6 (bl_alloc g7 (.cells #[.int .u64 (nn a0.v), .int .u64 (nn a0.m)] 24))
  generalize hW : w7.alloc (.cells #[.int .u64 (nn a0.v), .int .u64 (nn a0.m)] 24) = W7 at *
  generalize hP7 : w7.heap.size = P7 at *
  clear hW hP7
  obtain ⟨x1, x2, x3⟩ := id A7
  obtain ⟨y1, y2, y3⟩ := id B7
  have R0 : R6 W7 W7 w.heap.size (w.heap.size + 1) P4 P5 P6 P7 a0 a1 a0 a0 a1 a0 := ⟨A7, B7, M7, N7, J7, K7, Below.refl _ _⟩
  have hN := neT
  clear x1 x2 x3 y1 y2 y3
  go_region_held3 (fun w' => w'.cell? ⟨w.heap.size, 0, none⟩ = some (.int .u64 (nn a0.v)) ∧ w'.cell? ⟨w.heap.size, 1, none⟩ = some (.int .u64 (nn a0.m)) ∧ w'.cell? ⟨(w.heap.size + 1), 0, none⟩ = some (.int .u64 (nn a1.v)) ∧ w'.cell? ⟨(w.heap.size + 1), 1, none⟩ = some (.int .u64 (nn a1.m)) ∧ w'.cell? ⟨P4, 0, none⟩ = some (.int .u64 (nn a0.v)) ∧ w'.cell? ⟨P4, 1, none⟩ = some (.int .u64 (nn a0.m)) ∧ w'.cell? ⟨P5, 0, none⟩ = some (.int .u64 (nn a0.v)) ∧ w'.cell? ⟨P5, 1, none⟩ = some (.int .u64 (nn a0.m)) ∧ w'.cell? ⟨P6, 0, none⟩ = some (.int .u64 (nn a1.v)) ∧ w'.cell? ⟨P6, 1, none⟩ = some (.int .u64 (nn a1.m)) ∧ w'.cell? ⟨P7, 0, none⟩ = some (.int .u64 (nn a0.v)) ∧ w'.cell? ⟨P7, 1, none⟩ = some (.int .u64 (nn a0.m)) ∧ R6 W7 w' w.heap.size (w.heap.size + 1) P4 P5 P6 P7 a0 a1 a0 a0 a1 a0)
    (first | exact keep12 (by assumption) (by assumption) | exact (R6.next R0 (Below.drew (Below.refl _ _))).cells | assumption)
    (first
      | (go_at_call 22; (with_reducible refine (hj2.out _).mono ?_); rintro e wx ⟨rfl, g_wx⟩; (try simp only [tv]))
      | (go_at_call 22; (with_reducible refine (hj3.out _).mono ?_); rintro e wx ⟨rfl, g_wx⟩; (try simp only [tv])))
  clear hN
  obtain ⟨_, _, _, _, _, _, _, _, _, _, _, _, q⟩ := ‹_ ∧ _ ∧ _ ∧ _ ∧ _ ∧ _ ∧ _ ∧ _ ∧ _ ∧ _ ∧ _ ∧ _ ∧ R6 _ _ _ _ _ _ _ _ _ _ _ _ _ _›
  obtain ⟨c1, c2, c3, c4, c5, c6, c7, c8, c9, c10, c11, c12, _⟩ := q.cells
  go_upto_region 13 with (first
    | ((with_reducible refine (hi1.out _).mono ?_); rintro e wx ⟨rfl, gx⟩; have qx := R6.next (by assumption) gx; obtain ⟨c1, c2, c3, c4, c5, c6, c7, c8, c9, c10, c11, c12, _⟩ := qx.cells)
    | ((with_reducible refine (hi2.out _).mono ?_); rintro e wx ⟨rfl, gx⟩; have qx := R6.next (by assumption) gx; obtain ⟨c1, c2, c3, c4, c5, c6, c7, c8, c9, c10, c11, c12, _⟩ := qx.cells))
  have hE := eqT
  go_wp2_with (first
    | ((with_reducible refine (hi3.out _).mono ?_); rintro e wx ⟨rfl, gx⟩; have qx := R6.next (by assumption) gx; obtain ⟨c1, c2, c3, c4, c5, c6, c7, c8, c9, c10, c11, c12, _⟩ := qx.cells)
    | ((with_reducible refine (hi4.out _).mono ?_); rintro e wx ⟨rfl, gx⟩; have qx := R6.next (by assumption) gx; obtain ⟨c1, c2, c3, c4, c5, c6, c7, c8, c9, c10, c11, c12, _⟩ := qx.cells)
    | ((with_reducible refine (hi5.out _).mono ?_); rintro e wx ⟨rfl, gx⟩; have qx := R6.next (by assumption) gx; obtain ⟨c1, c2, c3, c4, c5, c6, c7, c8, c9, c10, c11, c12, _⟩ := qx.cells))
  clear hE
  go_ret
  exact ⟨rfl, bl_trans G7 (R6.below (by assumption))⟩
set_option maxHeartbeats 1000000 in
set_option maxRecDepth 100000 in
theorem walk (a0 : T) (a1 : T) (w : World) : Calls Try.prog 9 #[.agg #[.int .u64 (nn a0.v), .int .u64 (nn a0.m)], .agg #[.int .u64 (nn a1.v), .int .u64 (nn a1.m)]] w fun e w' => e = .returned (.bool true) ∧ Below w.heap.size w w' := by
  by_cases ha : wf a0
  · by_cases hb : wf a1
    · have kr : kn a0 = a0 := kn_wf ha
      have ks : kn a1 = a1 := kn_wf hb
      have hr := Lib.hid (fun w => is_yes a0 ha w)
      have hs := Lib.hid (fun w => is_yes a1 hb w)
      have j2 : join a1 a0 = join a0 a1 := by unfold join; exact pjoin_comm _ _
      have j3 : join a0 a0 = a0 := by unfold join; rw [kr]; exact pjoin_self ha
      have hj1 := Lib.hid (fun w => join_any a0 a1 w)
      have hj2 := Lib.hid (fun w => join_any a1 a0 w)
      have hj3 := Lib.hid (fun w => join_any a0 a0 w)
      rw [j2] at hj2
      rw [j3] at hj3
      have hi3 := Lib.hid (fun w => in_yes a0 (join a0 a1) ha (wf_wo _ _) (by unfold join; rw [kr, ks]; exact inn_pjoin a0 a1) w)
      have hi4 := Lib.hid (fun w => in_yes a1 (join a0 a1) hb (wf_wo _ _) (by rw [← j2]; unfold join; rw [kr, ks]; exact inn_pjoin a1 a0) w)
      have n3 : ¬ apart a0 a0 := not_apart.2 fun _ _ _ _ => rfl
      have hm3 := Lib.hid (fun w => meet_yes a0 a0 (by rw [kr]; exact n3) w)
      rw [kr, show (⟨a0.v ||| a0.v, a0.m &&& a0.m⟩ : T) = a0 from by apply T.ext' <;> simp] at hm3
      by_cases hp : apart a0 a1
      · have hm1 := Lib.hid (fun w => meet_no a0 a1 (by rw [kr, ks]; exact hp) w)
        have hm2 := Lib.hid (fun w => meet_no a1 a0 (by rw [kr, ks]; exact (apart_comm _ _).1 hp) w)
        have hi : ¬ inn a0 a1 := fun h => (inn_pmeet ha hb h).1 hp
        exact walk3 a0 a1 _ _ hi3 hi4 (Lib.hid (fun w => in_not a0 a1 ha hb hi w)) hr hs hm1 hm2 hm3 hj1 hj2 hj3 w
      · have hq : ¬ apart a1 a0 := fun h => hp ((apart_comm _ _).1 h)
        have hm1 := Lib.hid (fun w => meet_yes a0 a1 (by rw [kr, ks]; exact hp) w)
        have hm2 := Lib.hid (fun w => meet_yes a1 a0 (by rw [kr, ks]; exact hq) w)
        rw [kr, ks, show (⟨a0.v ||| a1.v, a0.m &&& a1.m⟩ : T) = pmeet a0 a1 from (if_neg hp).symm] at hm1
        rw [kr, ks, show (⟨a1.v ||| a0.v, a1.m &&& a0.m⟩ : T) = pmeet a0 a1 from by rw [pmeet_comm]; exact (if_neg hq).symm] at hm2
        have hi1 := Lib.hid (fun w => in_yes (pmeet a0 a1) a0 (wf_pmeet ha hb) ha (pmeet_inn ha hb hp) w)
        have hi2 := Lib.hid (fun w => in_yes (pmeet a0 a1) a1 (wf_pmeet ha hb) hb (by rw [pmeet_comm]; exact pmeet_inn hb ha hq) w)
        by_cases hi : inn a0 a1
        · have e1 : pmeet a0 a1 = a0 := (inn_pmeet ha hb hi).2
          have e2 : join a0 a1 = a1 := by unfold join; rw [kr, ks]; exact (join_inn ha hb).1 hi
          rw [e1] at hm1 hm2 hi1 hi2
          rw [e2] at hj1 hj2 hi3 hi4
          exact walk5 a0 a1 hi1 hi2 hi3 hi4 (Lib.hid (fun w => in_yes a0 a1 ha hb hi w)) hr hs hm1 hm2 hm3 hj1 hj2 hj3 w
        · exact walk4 a0 a1 _ _ hi1 hi2 hi3 hi4 (Lib.hid (fun w => in_not a0 a1 ha hb hi w)) hr hs hm1 hm2 hm3 hj1 hj2 hj3 w
    · exact walk2 a0 a1 ha hb w
  · exact walk1 a0 a1 ha w

set_option maxRecDepth 100000 in
theorem lifted (os : Os) (started : os.Started) (H : Type) (enc : TypeId × Value → H) :
    ReturnsInHanded {} Try.checked os 9 .any (Rows.tnumLatticeSpec.pre6 enc Try.prog Try.f9 Rows.tnumLatticeRow.domain false) (Rows.tnumLatticeSpec.post enc Try.prog Try.f9 false true false false) := by
  refine returnsInHanded_of_change (C := Try.checked) own started (by kernel_rfl) Try.func9
    (ChangeSpec.witness6 (enc := enc) (C := Try.checked) false ⟨#[], #[.agg #[.int .u64 0, .int .u64 0], .agg #[.int .u64 0, .int .u64 0]], []⟩ 8 (by kernel_rfl) (by kernel_rfl) (by kernel_rfl) (by kernel_rfl)) ?_
  intro W base args ds gs before hval0 hW hcnd _
  have hval : ∀ (j : Nat) t v, Try.f9.params[j]? = some t → args[j]? = some v → Value.okWide Try.prog W .any base t v := hval0
  have hW' := hW
  obtain ⟨p, q, hA0, hV, rfl, hfz, hnd⟩ := hW
  have hA : DataW.TrodAll enc Try.prog W 0 (fun _ => true) true Try.f9.params.toList args.toList ds p := hA0
  rw [Try.params9] at hA hval
  obtain ⟨v0, vs0, d0, ds0, p0, q0, hargs, rfl, rfl, h0, r0⟩ := trodAll_cons hA
  obtain ⟨v1, vs1, d1, ds1, p1, q1, rfl, rfl, rfl, h1, r1⟩ := trodAll_cons r0
  obtain ⟨rfl, rfl, rfl⟩ := trodAll_nil r1
  obtain rfl : args = #[v0, v1] := by cases args; simp_all
  obtain ⟨rfl, rfl⟩ := trodVars_none hV
  obtain ⟨a0, rfl, rfl, rfl⟩ := open_T (hval 0 24 v0 rfl rfl) h0
  obtain ⟨a1, rfl, rfl, rfl⟩ := open_T (hval 1 24 v1 rfl rfl) h1
  clear hA0 hval0
  simp only [List.append_nil] at hW'
  refine (walk a0 a1 W).mono fun e W' ⟨he, hg⟩ => ?_
  subst he
  exact ⟨_, rfl, post_of_below (pa := []) (pv := []) hW' (fun _ _ _ => (trodAll_cons_mk (shut_bool Try.underlying4 _) trodAll_mk0)) (fun sp _ => (trodAll_cons_mk (shut_T a0) (trodAll_cons_mk (shut_T a1) trodAll_mk0))) (fun _ _ => rfl) rfl
    hg (ok_one (by kernel_rfl) rfl (okWide_bool_mk Try.underlying4 _))⟩

theorem over : Rows.tnumLatticeRow.holds Try.pinned (OpenSpec.ofChange Rows.tnumLatticeSpec) :=
  OpenClaim.holds_of_wide 9 Try.f9 rfl rfl rfl rfl rfl rfl rfl ⟨rfl, rfl, rfl, rfl, rfl⟩ rfl rfl rfl rfl rfl (by kernel_rfl) Try.func9 (by kernel_rfl)
    (of_decide_eq_true (by kernel_rfl)) (by unfold Func.isWrapper; first | (rw [if_pos (by decide +kernel)]; kernel_rfl) | (rw [if_neg (by decide +kernel)]; exact ⟨rfl, rfl⟩))
    (fun os started H enc _ => lifted os started H enc)

/-- The statement. -/
theorem proved : Rows.TnumLatticeSaid :=
  over
end Go.Proofs.Ytpmhojfbjhgjpaa.tnumLattice
