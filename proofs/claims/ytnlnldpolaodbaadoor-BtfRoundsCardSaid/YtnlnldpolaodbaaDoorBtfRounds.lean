/-
  Types in a ring: they hold themselves, or a pointer breaks the ring and all is well: whatever the input, the law answers true.
-/
import Derived.Test.YtnlnldpolaodbaaDoorRxK
import Derived.Test.YtnlnldpolaodbaaDoorBRP
import Derived.Test.YtnlnldpolaodbaaDoorRows
import Derived.Test.YtnlnldpolaodbaaDoorTie
import Derived.Test.YtnlnldpolaodbaaDoorCards
import Derived.LaidMore
import Derived.SevenTiedAt
namespace Go.Proofs.YtnlnldpolaodbaaDoor
open Go.RowKit
set_option maxRecDepth 100000
end Go.Proofs.YtnlnldpolaodbaaDoor
namespace Go.Proofs.YtnlnldpolaodbaaDoor.btfRounds
open Go.ChangeShapes Go.WideShapes Go.ChangeAt Go.RowKit Go.Joins
set_option linter.unusedVariables false
set_option linter.unusedSimpArgs false
theorem opn1 {H : Type} {enc : TypeId × Value → H} {W : World} : Opens enc Tryd.prog W 3 (fun x : Int => [.int .i64 (x)]) isI64 := Opens.of (Opens.of (Opens.i64 (by kernel_rfl)) (fun _ => rfl)) (fun _ => rfl)
theorem opn2 {H : Type} {enc : TypeId × Value → H} {W : World} : Opens enc Tryd.prog W 22 RS.c (RS.ok (Old W) cu8 1 (fun _ => True)) := Opens.slice (show Tryd.prog.underlying 22 = some (.slice 5) by kernel_rfl) (by kernel_rfl) cu8_len (by decide) 0#8 (Opens.of (Opens.u8 (by kernel_rfl)) (fun _ => rfl))
theorem opn3 {H : Type} {enc : TypeId × Value → H} {W : World} : Opens enc Tryd.prog W 3 (fun x : Int => [.int .i64 (x)]) isI64 := Opens.of (Opens.of (Opens.i64 (by kernel_rfl)) (fun _ => rfl)) (fun _ => rfl)
theorem door_met (os : Os) (args : Array Value) : laidMetH Tryd.prog Rows.btfRoundsRow.laid ((World.doorLaid Tryd.prog 400 os).forCall (fun _ _ => 0) ⟨#[], args, []⟩).memory :=
  laidMetH_of_parts3 (fuel := 8) (laidMet_of_run' 8 (by kernel_rfl) (by kernel_rfl)) (by kernel_rfl) (by kernel_rfl)
set_option maxRecDepth 100000 in
theorem lifted (os : Os) (started : os.Started) (H : Type) (enc : TypeId × Value → H) :
    ReturnsInHanded {} Tryd.checked os 3 .any (fun w args => (Rows.btfRoundsSpec.pre enc Tryd.prog Tryd.f3 [] false w args ∧ laidMetH Tryd.prog Rows.btfRoundsRow.laid w) ∧ sizedMet enc Tryd.prog Tryd.f3 (OpenSpec.ofChange Rows.btfRoundsSpec) false w args)
      (Rows.btfRoundsSpec.post enc Tryd.prog Tryd.f3 false true false false) := by
  refine returnsInHanded_of_change_and (C := Tryd.checked) (X := (fun w _ => laidMetH Tryd.prog Rows.btfRoundsRow.laid w)) (fun _ _ _ hh h => h.of_heap hh) (show ownKnob Tryd.prog.godebug = none by kernel_rfl) started (by kernel_rfl) Tryd.func3
    (ChangeSpec.witness_shaped (enc := enc) (C := Tryd.checked) (os := os) (X := (fun w _ => laidMetH Tryd.prog Rows.btfRoundsRow.laid w)) false (World.doorLaid Tryd.prog 400 os) #[.int .i64 0, .slice none 0 0, .int .i64 0] 8 rfl (World.shaped_of_RefB (by kernel_rfl) (by kernel_rfl)) (by kernel_rfl) (by kernel_rfl) (by kernel_rfl) (door_met os _)) ?_
  intro W base args ds gs before hval0 hW hcnd hsz _ _
  have hval : ∀ (j : Nat) t v, Tryd.f3.params[j]? = some t → args[j]? = some v → Value.okWide Tryd.prog W .any base t v := hval0
  have hW' := hW
  obtain ⟨p, q, hA0, hV, rfl, hfz, hnd⟩ := hW
  have hA : DataW.TrodAll enc Tryd.prog W 0 (fun _ => true) true Tryd.f3.params.toList args.toList ds p := hA0
  rw [Tryd.params3] at hA hval
  have hlt := hA.lt
  have hr0 := hA
  obtain ⟨v1, vs1, d1, ds1, p1, q1, hargs, rfl, rfl, h1, hr1⟩ := trodAll_cons hr0
  obtain ⟨v2, vs2, d2, ds2, p2, q2, rfl, rfl, rfl, h2, hr2⟩ := trodAll_cons hr1
  obtain ⟨v3, vs3, d3, ds3, p3, q3, rfl, rfl, rfl, h3, hr3⟩ := trodAll_cons hr2
  obtain ⟨rfl, rfl, rfl⟩ := trodAll_nil hr3
  obtain rfl : args = #[v1, v2, v3] := by cases args; simp_all
  obtain ⟨rfl, rfl⟩ := trodVars_none hV
  obtain ⟨x1, rfl, hx1⟩ := opn1.arg_int (show Tryd.prog.underlying 3 = some (.int .i64) by kernel_rfl) (hval 0 3 v1 rfl rfl) h1
  obtain ⟨x2, rfl, hx2⟩ := opn2.arg_slice (show Tryd.prog.underlying 22 = some (.slice 5) by kernel_rfl) (hval 1 22 v2 rfl rfl) h2
  have m2 := len_max' (c0 := 1) (show Tryd.prog.underlying 22 = some (.slice 5) by kernel_rfl) (by kernel_rfl) (by decide) h2 hsz 1 rfl rfl
  obtain ⟨x3, rfl, hx3⟩ := opn3.arg_int (show Tryd.prog.underlying 3 = some (.int .i64) by kernel_rfl) (hval 2 3 v3 rfl rfl) h3
  have key : Calls Tryd.prog 3 #[.int .i64 (x1), .slice x2.a x2.n (x2.n + x2.k), .int .i64 (x3)] W fun e w' => e = .returned (.bool true) ∧ Below W.heap.size W w' :=
    (ok_barbicanlaw4_BtfRounds Old.up x1 x2.a x2.p x2.m x2.n x2.k x2.A (hx2.ro.mono fun w h => h.2) x3 true (btfrounds_true x1 x2.n x2.A x3) W (Old.self W)).2
  refine key.mono fun e W' ⟨he, hg⟩ => ?_
  subst he
  refine ⟨_, rfl, post_of_below' (pa := p1 ++ (p2 ++ (p3 ++ []))) (pv := []) hW' (fun _ _ _ => (trodAll_cons_mk (shut_bool (show Tryd.prog.underlying 4 = some .bool by kernel_rfl) _) trodAll_mk0)) (fun sp hsp0 => ?_) (fun _ _ => rfl) (by simp)
    hg (ok_one (by kernel_rfl) rfl (okWide_bool_mk (show Tryd.prog.underlying 4 = some .bool by kernel_rfl) _))⟩
  have hsp : ∀ q ∈ p1 ++ (p2 ++ (p3 ++ [])), sp q.block = true := fun q hq => hsp0 q (by simpa using hq)
  exact (trodAll_cons_mk (reads_again' (show laidOutB Tryd.prog = true by kernel_rfl) (by kernel_rfl) (by decide +kernel) h1 (fun q hq => hlt q (List.mem_append_left _ hq)) hg (sp := sp) (fun q hq => hsp q (List.mem_append_left _ hq))) (trodAll_cons_mk (reads_again' (show laidOutB Tryd.prog = true by kernel_rfl) (by kernel_rfl) (by decide +kernel) h2 (fun q hq => hlt q (List.mem_append_right _ (List.mem_append_left _ hq))) hg (sp := sp) (fun q hq => hsp q (List.mem_append_right _ (List.mem_append_left _ hq)))) (trodAll_cons_mk (reads_again' (show laidOutB Tryd.prog = true by kernel_rfl) (by kernel_rfl) (by decide +kernel) h3 (fun q hq => hlt q (List.mem_append_right _ (List.mem_append_right _ (List.mem_append_left _ hq)))) hg (sp := sp) (fun q hq => hsp q (List.mem_append_right _ (List.mem_append_right _ (List.mem_append_left _ hq))))) trodAll_mk0)))
theorem over : Rows.btfRoundsRow.holds Tryd.pinned (OpenSpec.ofChange Rows.btfRoundsSpec) :=
  OpenClaim.holds_of_wide 3 Tryd.f3 rfl rfl rfl rfl rfl rfl rfl ⟨rfl, rfl, rfl, rfl, rfl⟩ rfl rfl rfl rfl rfl (by kernel_rfl) Tryd.func3 (by kernel_rfl)
    (of_decide_eq_true (by kernel_rfl)) (by unfold Func.isWrapper; first | (rw [if_pos (by decide +kernel)]; kernel_rfl) | (rw [if_neg (by decide +kernel)]; exact ⟨rfl, rfl⟩))
    (fun os started H enc _ => lifted os started H enc)

/-- The statement. -/
theorem proved : Rows.BtfRoundsCardSaid :=
  Claim7.holds_tied_plain_at .later [] [.data, .data, .data] true (true, "9563038fdb67410bfba9e546f2f45944171c2eecf64ed043146e31256c503339") false
    over (fun _ h => by cases h) (by kernel_rfl) (fun _ h => by cases h) btfRounds_row_tie rfl ⟨rfl, rfl⟩ (by kernel_rfl) rfl
    (fun f fn hf hfn => by
      obtain rfl : f = 3 := Option.some.inj ((show Tryd.prog.funcNamed "barbican/barbicanlaw4.BtfRounds" = some 3 by kernel_rfl).symm.trans hf) |>.symm
      obtain rfl : fn = Tryd.f3 := (Option.some.inj (Tryd.func3.symm.trans hfn)).symm
      exact ⟨by kernel_rfl, fun j t ht => by
        rw [Tryd.params3] at ht
        have hm : t ∈ [3, 22, 3] := by simpa using Array.mem_of_getElem? ht
        have hall : ([3, 22, 3].all fun u => !Tryd.prog.wantsStandIn u) = true := by kernel_rfl
        exact (show Tryd.prog.wantsStandIn t = false by simpa using List.all_eq_true.1 hall t hm)⟩)
    (by kernel_rfl)
end Go.Proofs.YtnlnldpolaodbaaDoor.btfRounds
