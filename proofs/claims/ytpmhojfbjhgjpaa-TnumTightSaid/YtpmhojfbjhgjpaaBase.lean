/-
  What the laws of tnums share: the first test, cells of two words, how an argument is opened and shut.
-/
import Derived.Test.YtpmhojfbjhgjpaaMt
import Derived.Lib.SmallJoins
import Derived.ChangeSame
namespace Go.Proofs.Ytpmhojfbjhgjpaa
open Go.ChangeShapes Go.WideShapes Go.ChangeAt Go.RowKit Go.Joins
set_option linter.unusedVariables false
set_option linter.unusedSimpArgs false
theorem own : ownKnob Try.prog.godebug = none := by kernel_rfl
theorem cells22 : Try.prog.cellsOf 22 = 1 := by kernel_rfl
theorem cells24 : Try.prog.cellsOf 24 = 2 := by kernel_rfl

set_option maxRecDepth 100000 in
theorem known_any (w : World) : Calls Try.prog 10 #[] w fun e w' => e = .returned (.bool true) ∧ Below w.heap.size w w' := by
  have c1 : ∀ w, Calls Try.prog 20 #[.int .u64 4, .int .u64 7] w fun e w' => e = .returned (.agg #[.int .u64 4, .int .u64 3]) ∧ Below w.heap.size w w' := by
    intro w
    have h := range_yes 4#64 7#64 (by decide) w
    rw [show wo (4#64) (mk (4#64 ^^^ 7#64)) = ⟨4#64, 3#64⟩ from by decide +kernel] at h
    exact h
  have c2 : ∀ w, Calls Try.prog 26 #[.agg #[.int .u64 0, .int .u64 0], .agg #[.int .u64 0, .int .u64 1]] w fun e w' => e = .returned (.agg #[.int .u64 0, .int .u64 18446744073709551615]) ∧ Below w.heap.size w w' := by
    intro w
    have h := sub_any ⟨0#64, 0#64⟩ ⟨0#64, 1#64⟩ w
    rw [show sub ⟨0#64, 0#64⟩ ⟨0#64, 1#64⟩ = unk from by decide +kernel] at h
    exact h
  have c3 : ∀ w, Calls Try.prog 22 #[.agg #[.int .u64 4, .int .u64 0], .agg #[.int .u64 6, .int .u64 0]] w fun e w' => e = .returned (.agg #[.int .u64 4, .int .u64 2]) ∧ Below w.heap.size w w' := by
    intro w
    have h := join_any ⟨4#64, 0#64⟩ ⟨6#64, 0#64⟩ w
    rw [show join ⟨4#64, 0#64⟩ ⟨6#64, 0#64⟩ = ⟨4#64, 2#64⟩ from by decide +kernel] at h
    exact h
  have c4 : ∀ w, Calls Try.prog 19 #[.int .u64 0] w fun e w' => e = .returned (.agg #[.int .u64 0, .int .u64 0]) ∧ Below w.heap.size w w' := fun w => const_any 0#64 w
  have c5 : ∀ w, Calls Try.prog 19 #[.int .u64 4] w fun e w' => e = .returned (.agg #[.int .u64 4, .int .u64 0]) ∧ Below w.heap.size w w' := fun w => const_any 4#64 w
  have c6 : ∀ w, Calls Try.prog 19 #[.int .u64 6] w fun e w' => e = .returned (.agg #[.int .u64 6, .int .u64 0]) ∧ Below w.heap.size w w' := fun w => const_any 6#64 w
  have c7 : ∀ w, Calls Try.prog 50 #[] w fun e w' => e = .returned (.agg #[.int .u64 0, .int .u64 18446744073709551615]) ∧ Below w.heap.size w w' := unk_any
  have hE := eqT
  have C4 := Lib.hid c4
  have C5 := Lib.hid c5
  have C6 := Lib.hid c6
  have C7 := Lib.hid c7
  have C1 := Lib.hid c1
  have C2 := Lib.hid c2
  have C3 := Lib.hid c3
  clear c1 c2 c3 c4 c5 c6 c7
  go_enter Try.func10, Try.ntmps10
  go_wp2_with (first
    | ((with_reducible refine (C1.out _).mono ?_); rintro e w1 ⟨rfl, g1⟩)
    | ((with_reducible refine (C2.out _).mono ?_); rintro e w2 ⟨rfl, g2⟩)
    | ((with_reducible refine (C3.out _).mono ?_); rintro e w3 ⟨rfl, g3⟩)
    | ((with_reducible refine (C4.out _).mono ?_); rintro e w4 ⟨rfl, g4⟩)
    | ((with_reducible refine (C5.out _).mono ?_); rintro e w5 ⟨rfl, g5⟩)
    | ((with_reducible refine (C6.out _).mono ?_); rintro e w6 ⟨rfl, g6⟩)
    | ((with_reducible refine (C7.out _).mono ?_); rintro e w7 ⟨rfl, g7⟩))
  clear hE
  go_ret
  exact ⟨rfl, bl_trans g1 (bl_trans g4 (bl_trans g2 (bl_trans g7 (bl_trans g5 (bl_trans g6 g3)))))⟩

/-- A tnum lies in a block. -/
def At (w : World) (b : Nat) (t : T) : Prop := w.cell? ⟨b, 0, none⟩ = some (.int .u64 (nn t.v)) ∧ w.cell? ⟨b, 1, none⟩ = some (.int .u64 (nn t.m)) ∧ b < w.heap.size
theorem At.next {w w1 : World} {b : Nat} {t : T} (h : At w b t) (g : Below w.heap.size w w1) : At w1 b t :=
  ⟨(g.cell (p := ⟨b, 0, none⟩) h.2.2).trans h.1, (g.cell (p := ⟨b, 1, none⟩) h.2.2).trans h.2.1, Nat.lt_of_lt_of_le h.2.2 g.size⟩
theorem At.alloc {w : World} {b : Nat} {t : T} (h : At w b t) (o : Obj) : At (w.alloc o) b t := h.next (Below.alloc (Below.refl _ _) (Nat.le_refl _) o)
theorem At.new (w : World) (t : T) (n : TypeId) : At (w.alloc (.cells #[.int .u64 (nn t.v), .int .u64 (nn t.m)] n)) w.heap.size t :=
  ⟨by go_cell, by go_cell, by simp⟩
theorem bl_alloc {a w : World} (h : Below a.heap.size a w) (o : Obj) : Below a.heap.size a (w.alloc o) := h.alloc h.size o

section
variable {H : Type} {enc : TypeId × Value → H} {w : World} {base : Nat} {spare : Nat → Bool} {held : Bool}
/-- What a tnum reads as. -/
def dT (t : T) : DataW H := .agg [.lit (.int .u64 (nn t.v)), .lit (.int .u64 (nn t.m))]
theorem open_u64 {x : Int} (h : (Lit.int .u64 x).wf = true) : ∃ b : BitVec 64, x = nn b := by
  have hb := bounds_u64 h
  refine ⟨BitVec.ofNat 64 x.toNat, ?_⟩
  unfold nn
  rw [BitVec.toNat_ofNat]
  omega
theorem wf_nn (b : BitVec 64) : (Lit.int .u64 (nn b)).wf = true := by
  have := b.isLt
  exact WalkArith.wf_u64 (by unfold nn; omega)
theorem open_T {r : Reach} {b0 : Nat} {v : Value} {d : DataW H} {p : List MemPlace} (hv : Value.okWide Try.prog w r b0 24 v) (h : DataW.Trod enc Try.prog w base spare held 24 v d p) :
    ∃ t : T, v = .agg #[.int .u64 (nn t.v), .int .u64 (nn t.m)] ∧ d = dT t ∧ p = [] := by
  obtain ⟨c0, c1, y0, y1, m, rfl, rfl, rfl, hy0, hy1⟩ := open_agg2 Try.underlying24 (by kernel_rfl) cells24 hv h
  obtain ⟨a, e0, rfl, wa⟩ := DataW.trod_int Try.underlying22 hy0
  obtain ⟨b, e1, rfl, wb⟩ := DataW.trod_int Try.underlying22 hy1
  simp at e0 e1
  subst e0 e1
  obtain ⟨x, rfl⟩ := open_u64 wa
  obtain ⟨y, rfl⟩ := open_u64 wb
  exact ⟨⟨x, y⟩, rfl, rfl, rfl⟩
theorem shut_T (t : T) : DataW.Trod enc Try.prog w base spare true 24 (.agg #[.int .u64 (nn t.v), .int .u64 (nn t.m)]) (dT t) [] :=
  shut_agg2 (y0 := (.lit (.int .u64 (nn t.v)), [])) (y1 := (.lit (.int .u64 (nn t.m)), [])) Try.underlying24 (by kernel_rfl) cells24 ⟨1, by simp [DataW.trod, Try.underlying22, wf_nn]⟩ ⟨1, by simp [DataW.trod, Try.underlying22, wf_nn]⟩
end
section
variable {H : Type} {enc : TypeId × Value → H} {P : Program}
theorem post_of_below {f : Func} {s : ChangeSpec} {apart fresh handsOn again : Bool} {W W' : World} {args : Array Value} {v : Value} {ds gs : List (DataW H)} {before pa pv : List MemPlace}
    (hW : DataW.Whole enc P f.params.toList s.vars apart W args.toList ds gs before)
    (hres : ∀ (b : Nat) (sp : Nat → Bool) (hd : Bool), DataW.TrodAll enc P W' b sp hd f.resultTypes.toList (v.resultList f.resultTypes.size) (s.fn H (ds ++ gs)).results [])
    (hargs : ∀ sp : Nat → Bool, (∀ p ∈ before, sp p.block = true) → DataW.TrodAll enc P W' 0 sp true f.params.toList args.toList (s.fn H (ds ++ gs)).args pa)
    (hvars : ∀ sp : Nat → Bool, (∀ p ∈ before, sp p.block = true) → DataW.TrodVars enc P W' sp s.vars (s.fn H (ds ++ gs)).vars pv)
    (hps : before = pa ++ pv) (hb : Below W.heap.size W W')
    (hok : ∀ (j : Nat) (t : TypeId) (r : Value), f.resultTypes[j]? = some t → (v.resultList f.resultTypes.size)[j]? = some r → Value.okWide P W' .any 0 t r) :
    s.post enc P f apart fresh handsOn again W args v W' := by
  have hlt : ∀ p ∈ before, p.block < W.heap.size := fun p hp => hW.lt p hp
  have hold : ∀ p ∈ before, (fun b => decide (b < W.heap.size)) p.block = true := fun p hp => by simpa using hlt p hp
  refine ⟨ds, gs, before, [], pa, pv, hW, hres _ _ _, hargs _ hold, hvars _ hold, World.keptBut_mono (fun p hp => ⟨hp, ?_⟩) (hb.frame (· ∈ before)), fun _ => ?_⟩
  · rw [hps, List.mem_append] at hp
    exact Or.inr hp
  · obtain ⟨_, _, _, _, _, hz, hn⟩ := hW
    refine ⟨hok, _, _, ([] ++ pa) ++ pv, ⟨[] ++ pa, pv, trodAll_append (hargs _ (fun _ _ => rfl)) (hres _ _ _), hvars _ (fun _ _ => rfl), rfl, ?_, ?_⟩, ?_⟩
    · intro b off hp
      have hin : MemPlace.cell b off ∈ before := by rw [hps]; simpa using hp
      rw [hb.frozen (hlt _ hin)]
      exact hz b off hin
    · intro ha
      have := hn ha
      rw [hps] at this
      simpa using this
    · intro p hp _
      rw [hps]
      simpa using hp
end
theorem is_yes (a : T) (h : wf a) (w : World) : Calls Try.prog 13 #[.agg #[.int .u64 (nn a.v), .int .u64 (nn a.m)]] w fun e w' => e = .returned (.bool true) ∧ Below w.heap.size w w' := by
  have := is_any a w
  rw [decide_eq_true h] at this
  exact this
theorem is_no (a : T) (h : ¬ wf a) (w : World) : Calls Try.prog 13 #[.agg #[.int .u64 (nn a.v), .int .u64 (nn a.m)]] w fun e w' => e = .returned (.bool false) ∧ Below w.heap.size w w' := by
  have := is_any a w
  rw [decide_eq_false h] at this
  exact this
theorem at_box (w : World) (a b : T) : At ((w.alloc (.cells #[.int .u64 (nn a.v), .int .u64 (nn a.m)] 24)).alloc (.cells #[.int .u64 (nn b.v), .int .u64 (nn b.m)] 24)) w.heap.size a ∧ At ((w.alloc (.cells #[.int .u64 (nn a.v), .int .u64 (nn a.m)] 24)).alloc (.cells #[.int .u64 (nn b.v), .int .u64 (nn b.m)] 24)) (w.heap.size + 1) b :=
  ⟨⟨by go_cell, by go_cell, by simp; omega⟩, ⟨by go_cell, by go_cell, by simp⟩⟩
theorem bl_box (w : World) (o p : Obj) : Below w.heap.size w ((w.alloc o).alloc p) := by go_grown
end Go.Proofs.Ytpmhojfbjhgjpaa
