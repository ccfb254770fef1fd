/-
  Of a row of operations on registers that all have a known number at first all results are known, as layer 2 makes them; what an immediate makes is told by one: whatever the input, the law answers true.
-/
import Derived.Test.YtcdkghdjfcccfaaGreatRxK
import Derived.Test.YtcdkghdjfcccfaaGreatRyJ
import Derived.Test.YtcdkghdjfcccfaaGreatL25R
import Derived.Test.YtcdkghdjfcccfaaGreatRows
namespace Go.Proofs.YtcdkghdjfcccfaaGreat
open Go.RowKit
set_option maxRecDepth 100000
theorem opens22 {H : Type} {enc : TypeId × Value → H} {W : World} : Opens enc Tryz.prog W 22 c_Arr22 (fun x => (fun _ => True) x.x0 ∧ (fun _ => True) x.x1 ∧ (fun _ => True) x.x2 ∧ (fun _ => True) x.x3) := fun n cs y h => by
  have ht : Tryz.prog.underlying 22 = some (.array 4 21) := by kernel_rfl
  obtain ⟨x0, k0, v0⟩ := Opens.elem (sz := 1) ht (by kernel_rfl) (Opens.of (Opens.i32 (by kernel_rfl)) (fun _ => rfl)) h 0 (by decide) (o := 0) rfl
  obtain ⟨x1, k1, v1⟩ := Opens.elem (sz := 1) ht (by kernel_rfl) (Opens.of (Opens.i32 (by kernel_rfl)) (fun _ => rfl)) h 1 (by decide) (o := 1) rfl
  obtain ⟨x2, k2, v2⟩ := Opens.elem (sz := 1) ht (by kernel_rfl) (Opens.of (Opens.i32 (by kernel_rfl)) (fun _ => rfl)) h 2 (by decide) (o := 2) rfl
  obtain ⟨x3, k3, v3⟩ := Opens.elem (sz := 1) ht (by kernel_rfl) (Opens.of (Opens.i32 (by kernel_rfl)) (fun _ => rfl)) h 3 (by decide) (o := 3) rfl
  refine ⟨⟨x0, x1, x2, x3⟩, ?_, v0, v1, v2, v3⟩
  have hl0 : cs.length = 4 := (elem_len ht h).trans (by kernel_rfl)
  have e : cs.drop 0 = _ := cut_step k0 (o' := 1) rfl
  rw [cut_step k1 (o' := 2) rfl, cut_step k2 (o' := 3) rfl, cut_step k3 (o' := 4) rfl, show cs.drop 4 = [] from List.drop_eq_nil_of_le (by omega), List.drop_zero] at e
  exact e
abbrev ci16 (x : BitVec 16) : List Value := [.int .i16 (ii x)]
theorem ci16_len (x : BitVec 16) : (ci16 x).length = 1 := rfl
theorem ci16_one (x : BitVec 16) : ((ci16 x).all fun u => u.oneCell') = true := rfl
theorem opens29 {H : Type} {enc : TypeId × Value → H} {W : World} : Opens enc Tryz.prog W 29 c_Insn (fun x => (fun _ => True) x.fOp ∧ (fun _ => True) x.fDst ∧ (fun _ => True) x.fSrc ∧ (fun _ => True) x.fOff ∧ (fun _ => True) x.fImm) := fun n cs y h => by
  obtain ⟨xs, m, -, -, hl, hlen, hf⟩ := DataW.trod_struct (show Tryz.prog.underlying 29 = some (.struct (Tryz.prog.fieldsOf 29)) by kernel_rfl) h
  obtain ⟨x0, k0, v0⟩ := Opens.field (o := 0) (s := 1) hlen hf 0 (fl Tryz.prog 29 0) (by kernel_rfl) (t := 5) (by kernel_rfl) (by kernel_rfl) (by kernel_rfl) (Opens.of (Opens.u8 (by kernel_rfl)) (fun _ => rfl))
  obtain ⟨x1, k1, v1⟩ := Opens.field (o := 1) (s := 1) hlen hf 1 (fl Tryz.prog 29 1) (by kernel_rfl) (t := 5) (by kernel_rfl) (by kernel_rfl) (by kernel_rfl) (Opens.of (Opens.u8 (by kernel_rfl)) (fun _ => rfl))
  obtain ⟨x2, k2, v2⟩ := Opens.field (o := 2) (s := 1) hlen hf 2 (fl Tryz.prog 29 2) (by kernel_rfl) (t := 5) (by kernel_rfl) (by kernel_rfl) (by kernel_rfl) (Opens.of (Opens.u8 (by kernel_rfl)) (fun _ => rfl))
  obtain ⟨x3, k3, v3⟩ := Opens.field (o := 3) (s := 1) hlen hf 3 (fl Tryz.prog 29 3) (by kernel_rfl) (t := 27) (by kernel_rfl) (by kernel_rfl) (by kernel_rfl) (Opens.of (Opens.i16 (by kernel_rfl)) (fun _ => rfl))
  obtain ⟨x4, k4, v4⟩ := Opens.field (o := 4) (s := 1) hlen hf 4 (fl Tryz.prog 29 4) (by kernel_rfl) (t := 21) (by kernel_rfl) (by kernel_rfl) (by kernel_rfl) (Opens.of (Opens.i32 (by kernel_rfl)) (fun _ => rfl))
  refine ⟨⟨x0, x1, x2, x3, x4⟩, ?_, v0, v1, v2, v3, v4⟩
  have hl0 : cs.length = 5 := hl.trans (by kernel_rfl)
  have e : cs.drop 0 = _ := cut_step k0 (o' := 1) rfl
  rw [cut_step k1 (o' := 2) rfl, cut_step k2 (o' := 3) rfl, cut_step k3 (o' := 4) rfl, cut_step k4 (o' := 5) rfl, show cs.drop 5 = [] from List.drop_eq_nil_of_le (by omega), List.drop_zero] at e
  exact e
end Go.Proofs.YtcdkghdjfcccfaaGreat
namespace Go.Proofs.YtcdkghdjfcccfaaGreat.foldStraight
open Go.ChangeShapes Go.WideShapes Go.ChangeAt Go.RowKit Go.Joins
set_option linter.unusedVariables false
set_option linter.unusedSimpArgs false
theorem opn1 {H : Type} {enc : TypeId × Value → H} {W : World} : Opens enc Tryz.prog W 22 c_Arr22 (fun x => (fun _ => True) x.x0 ∧ (fun _ => True) x.x1 ∧ (fun _ => True) x.x2 ∧ (fun _ => True) x.x3) := opens22
theorem opn2 {H : Type} {enc : TypeId × Value → H} {W : World} : Opens enc Tryz.prog W 23 RS.c (RS.ok (Old W) c_Insn 5 (fun x => (fun _ => True) x.fOp ∧ (fun _ => True) x.fDst ∧ (fun _ => True) x.fSrc ∧ (fun _ => True) x.fOff ∧ (fun _ => True) x.fImm)) := Opens.slice (show Tryz.prog.underlying 23 = some (.slice 29) by kernel_rfl) (by kernel_rfl) c_Insn_len (by decide) (⟨0#8, 0#8, 0#8, 0#16, 0#32⟩ : Insn) opens29
set_option maxRecDepth 100000 in
theorem lifted (os : Os) (started : os.Started) (H : Type) (enc : TypeId × Value → H) :
    ReturnsInHanded {} Tryz.checked os 3 .any (Rows.foldStraightSpec.pre6 enc Tryz.prog Tryz.f3 Rows.foldStraightRow.domain false) (Rows.foldStraightSpec.post enc Tryz.prog Tryz.f3 false true false false) := by
  refine returnsInHanded_of_change_sized (C := Tryz.checked) (show ownKnob Tryz.prog.godebug = none by kernel_rfl) started (by kernel_rfl) Tryz.func3
    (ChangeSpec.witness6 (enc := enc) (C := Tryz.checked) false ⟨#[], #[.agg #[.int .i32 (0), .int .i32 (0), .int .i32 (0), .int .i32 (0)], .slice none 0 0], []⟩ 8 (by kernel_rfl) (by kernel_rfl) (by kernel_rfl) (by kernel_rfl)) ?_
  intro W base args ds gs before hval0 hW hcnd hsz _
  have hval : ∀ (j : Nat) t v, Tryz.f3.params[j]? = some t → args[j]? = some v → Value.okWide Tryz.prog W .any base t v := hval0
  have hW' := hW
  obtain ⟨p, q, hA0, hV, rfl, hfz, hnd⟩ := hW
  have hA : DataW.TrodAll enc Tryz.prog W 0 (fun _ => true) true Tryz.f3.params.toList args.toList ds p := hA0
  rw [Tryz.params3] at hA hval
  have hlt := hA.lt
  have hr0 := hA
  obtain ⟨v1, vs1, d1, ds1, p1, q1, hargs, rfl, rfl, h1, hr1⟩ := trodAll_cons hr0
  obtain ⟨v2, vs2, d2, ds2, p2, q2, rfl, rfl, rfl, h2, hr2⟩ := trodAll_cons hr1
  obtain ⟨rfl, rfl, rfl⟩ := trodAll_nil hr2
  obtain rfl : args = #[v1, v2] := by cases args; simp_all
  obtain ⟨rfl, rfl⟩ := trodVars_none hV
  obtain ⟨x1, rfl, hx1⟩ := opn1.arg_array (show Tryz.prog.underlying 22 = some (.array 4 21) by kernel_rfl) (hval 0 22 v1 rfl rfl) h1
  obtain ⟨x2, rfl, hx2⟩ := opn2.arg_slice (show Tryz.prog.underlying 23 = some (.slice 29) by kernel_rfl) (hval 1 23 v2 rfl rfl) h2
  have m2 := len_max' (c0 := 12) (show Tryz.prog.underlying 23 = some (.slice 29) by kernel_rfl) (by kernel_rfl) (by decide) h2 hsz 1 rfl rfl
  have key : Calls Tryz.prog 3 #[(v_Arr22 x1), .slice x2.a x2.n (x2.n + x2.k)] W fun e w' => e = .returned (.bool true) ∧ Below W.heap.size W w' :=
    (ok_barbicanlaw25_FoldStraight Old.up x1 x2.a x2.p x2.m x2.n x2.k x2.A (hx2.ro.mono fun w h => h.2) true (fold_true x1 x2.n x2.A) W (Old.self W)).2
  refine key.mono fun e W' ⟨he, hg⟩ => ?_
  subst he
  refine ⟨_, rfl, post_of_below' (pa := p1 ++ (p2 ++ [])) (pv := []) hW' (fun _ _ _ => (trodAll_cons_mk (shut_bool (show Tryz.prog.underlying 4 = some .bool by kernel_rfl) _) trodAll_mk0)) (fun sp hsp0 => ?_) (fun _ _ => rfl) (by simp)
    hg (ok_one (by kernel_rfl) rfl (okWide_bool_mk (show Tryz.prog.underlying 4 = some .bool by kernel_rfl) _))⟩
  have hsp : ∀ q ∈ p1 ++ (p2 ++ []), sp q.block = true := fun q hq => hsp0 q (by simpa using hq)
  exact (trodAll_cons_mk (reads_again' (show laidOutB Tryz.prog = true by kernel_rfl) (by kernel_rfl) (by decide +kernel) h1 (fun q hq => hlt q (List.mem_append_left _ hq)) hg (sp := sp) (fun q hq => hsp q (List.mem_append_left _ hq))) (trodAll_cons_mk (reads_again' (show laidOutB Tryz.prog = true by kernel_rfl) (by kernel_rfl) (by decide +kernel) h2 (fun q hq => hlt q (List.mem_append_right _ (List.mem_append_left _ hq))) hg (sp := sp) (fun q hq => hsp q (List.mem_append_right _ (List.mem_append_left _ hq)))) trodAll_mk0))
theorem over : Rows.foldStraightRow.holds Tryz.pinned (OpenSpec.ofChange Rows.foldStraightSpec) :=
  OpenClaim.holds_of_wide 3 Tryz.f3 rfl rfl rfl rfl rfl rfl rfl ⟨rfl, rfl, rfl, rfl, rfl⟩ rfl rfl rfl rfl rfl (by kernel_rfl) Tryz.func3 (by kernel_rfl)
    (of_decide_eq_true (by kernel_rfl)) (by unfold Func.isWrapper; first | (rw [if_pos (by decide +kernel)]; kernel_rfl) | (rw [if_neg (by decide +kernel)]; exact ⟨rfl, rfl⟩))
    (fun os started H enc _ => lifted os started H enc)

/-- The statement. -/
theorem proved : Rows.FoldStraightSaid :=
  over
end Go.Proofs.YtcdkghdjfcccfaaGreat.foldStraight

