/-
  Two places of one size that are told by one way are one place: whatever the input, the law answers true.
-/
import Derived.Test.YtlpjdjbophcomaaDoorRxK
import Derived.Test.YtlpjdjbophcomaaDoorRyZ
import Derived.Test.YtlpjdjbophcomaaDoorBWN
import Derived.Test.YtlpjdjbophcomaaDoorRows
import Derived.Test.YtlpjdjbophcomaaDoorTie
import Derived.Test.YtlpjdjbophcomaaDoorCards
import Derived.LaidMore
import Derived.SevenTiedAt
namespace Go.Proofs.YtlpjdjbophcomaaDoor
open Go.RowKit
set_option maxRecDepth 100000
theorem opens40 {H : Type} {enc : TypeId × Value → H} {W : World} : Opens enc Tryd.prog W 40 c_Member (fun x => (fun x => x.size ≤ maxLen) x.fName ∧ isI64 x.fType ∧ isI64 x.fBits) := fun n cs y h => by
  obtain ⟨xs, m, -, -, hl, hlen, hf⟩ := DataW.trod_struct (show Tryd.prog.underlying 40 = some (.struct (Tryd.prog.fieldsOf 40)) by kernel_rfl) h
  obtain ⟨x0, k0, v0⟩ := Opens.field (o := 0) (s := 1) hlen hf 0 (fl Tryd.prog 40 0) (by kernel_rfl) (t := 9) (by kernel_rfl) (by kernel_rfl) (by kernel_rfl) (Opens.of (Opens.string (by kernel_rfl)) (fun _ => rfl))
  obtain ⟨x1, k1, v1⟩ := Opens.field (o := 1) (s := 1) hlen hf 1 (fl Tryd.prog 40 1) (by kernel_rfl) (t := 3) (by kernel_rfl) (by kernel_rfl) (by kernel_rfl) (Opens.of (Opens.i64 (by kernel_rfl)) (fun _ => rfl))
  obtain ⟨x2, k2, v2⟩ := Opens.field (o := 2) (s := 1) hlen hf 2 (fl Tryd.prog 40 2) (by kernel_rfl) (t := 3) (by kernel_rfl) (by kernel_rfl) (by kernel_rfl) (Opens.of (Opens.i64 (by kernel_rfl)) (fun _ => rfl))
  refine ⟨⟨x0, x1, x2⟩, ?_, v0, v1, v2⟩
  have hl0 : cs.length = 3 := hl.trans (by kernel_rfl)
  have e : cs.drop 0 = _ := cut_step k0 (o' := 1) rfl
  rw [cut_step k1 (o' := 2) rfl, cut_step k2 (o' := 3) rfl, show cs.drop 3 = [] from List.drop_eq_nil_of_le (by omega), List.drop_zero] at e
  exact e
theorem opensX35 {H : Type} {enc : TypeId × Value → H} {W : World} : Opens enc Tryd.prog W 35 (xsc h_Xs35 t_Xs35) (fun x => isI64 x.1.fKind ∧ (fun x => x.size ≤ maxLen) x.1.fName ∧ isI64 x.1.fSize ∧ (fun _ => True) x.1.fSigned ∧ isI64 x.1.fTo ∧ isI64 x.1.fCount ∧ (RS.ok (Old W) c_Member 3 (fun x => (fun x => x.size ≤ maxLen) x.fName ∧ isI64 x.fType ∧ isI64 x.fBits)) x.2) := fun n cs y h => by
  obtain ⟨xs, m, -, -, hl, hlen, hf⟩ := DataW.trod_struct (show Tryd.prog.underlying 35 = some (.struct (Tryd.prog.fieldsOf 35)) by kernel_rfl) h
  obtain ⟨x0, k0, v0⟩ := Opens.field (o := 0) (s := 1) hlen hf 0 (fl Tryd.prog 35 0) (by kernel_rfl) (t := 3) (by kernel_rfl) (by kernel_rfl) (by kernel_rfl) (Opens.of (Opens.i64 (by kernel_rfl)) (fun _ => rfl))
  obtain ⟨x1, k1, v1⟩ := Opens.field (o := 1) (s := 1) hlen hf 1 (fl Tryd.prog 35 1) (by kernel_rfl) (t := 9) (by kernel_rfl) (by kernel_rfl) (by kernel_rfl) (Opens.of (Opens.string (by kernel_rfl)) (fun _ => rfl))
  obtain ⟨x2, k2, v2⟩ := Opens.field (o := 2) (s := 1) hlen hf 2 (fl Tryd.prog 35 2) (by kernel_rfl) (t := 3) (by kernel_rfl) (by kernel_rfl) (by kernel_rfl) (Opens.of (Opens.i64 (by kernel_rfl)) (fun _ => rfl))
  obtain ⟨x3, k3, v3⟩ := Opens.field (o := 3) (s := 1) hlen hf 3 (fl Tryd.prog 35 3) (by kernel_rfl) (t := 4) (by kernel_rfl) (by kernel_rfl) (by kernel_rfl) (Opens.of (Opens.bool (by kernel_rfl)) (fun _ => rfl))
  obtain ⟨x4, k4, v4⟩ := Opens.field (o := 4) (s := 1) hlen hf 4 (fl Tryd.prog 35 4) (by kernel_rfl) (t := 3) (by kernel_rfl) (by kernel_rfl) (by kernel_rfl) (Opens.of (Opens.i64 (by kernel_rfl)) (fun _ => rfl))
  obtain ⟨x5, k5, v5⟩ := Opens.field (o := 5) (s := 1) hlen hf 5 (fl Tryd.prog 35 5) (by kernel_rfl) (t := 3) (by kernel_rfl) (by kernel_rfl) (by kernel_rfl) (Opens.of (Opens.i64 (by kernel_rfl)) (fun _ => rfl))
  obtain ⟨x6, k6, v6⟩ := Opens.field (o := 6) (s := 1) hlen hf 6 (fl Tryd.prog 35 6) (by kernel_rfl) (t := 33) (by kernel_rfl) (by kernel_rfl) (by kernel_rfl) (Opens.slice (show Tryd.prog.underlying 33 = some (.slice 40) by kernel_rfl) (by kernel_rfl) c_Member_len (by decide) ((⟨ByteArray.empty, 0, 0⟩ : Member)) opens40)
  refine ⟨(⟨x0, x1, x2, x3, x4, x5⟩, x6), ?_, v0, v1, v2, v3, v4, v5, v6⟩
  have hl0 : cs.length = 7 := hl.trans (by kernel_rfl)
  have e : cs.drop 0 = _ := cut_step k0 (o' := 1) rfl
  rw [cut_step k1 (o' := 2) rfl, cut_step k2 (o' := 3) rfl, cut_step k3 (o' := 4) rfl, cut_step k4 (o' := 5) rfl, cut_step k5 (o' := 6) rfl, cut_step k6 (o' := 7) rfl, show cs.drop 7 = [] from List.drop_eq_nil_of_le (by omega), List.drop_zero] at e
  exact e
end Go.Proofs.YtlpjdjbophcomaaDoor
namespace Go.Proofs.YtlpjdjbophcomaaDoor.btfWays
open Go.ChangeShapes Go.WideShapes Go.ChangeAt Go.RowKit Go.Joins
set_option linter.unusedVariables false
set_option linter.unusedSimpArgs false
theorem opn1 {H : Type} {enc : TypeId × Value → H} {W : World} : Opens enc Tryd.prog W 22 RS.c (RS.ok (Old W) (xsc h_Xs35 t_Xs35) 7 (fun x => isI64 x.1.fKind ∧ (fun x => x.size ≤ maxLen) x.1.fName ∧ isI64 x.1.fSize ∧ (fun _ => True) x.1.fSigned ∧ isI64 x.1.fTo ∧ isI64 x.1.fCount ∧ (RS.ok (Old W) c_Member 3 (fun x => (fun x => x.size ≤ maxLen) x.fName ∧ isI64 x.fType ∧ isI64 x.fBits)) x.2)) := Opens.slice (show Tryd.prog.underlying 22 = some (.slice 35) by kernel_rfl) (by kernel_rfl) (xsc_len z_Xs35) (by decide) ((⟨0, ByteArray.empty, 0, false, 0, 0⟩ : Xs35), ⟨none, 0, 0, 0, 0, fun _ => (⟨ByteArray.empty, 0, 0⟩ : Member)⟩) opensX35
theorem opn2 {H : Type} {enc : TypeId × Value → H} {W : World} : Opens enc Tryd.prog W 3 (fun x : Int => [.int .i64 (x)]) isI64 := Opens.of (Opens.of (Opens.i64 (by kernel_rfl)) (fun _ => rfl)) (fun _ => rfl)
theorem opn3 {H : Type} {enc : TypeId × Value → H} {W : World} : Opens enc Tryd.prog W 3 (fun x : Int => [.int .i64 (x)]) isI64 := Opens.of (Opens.of (Opens.i64 (by kernel_rfl)) (fun _ => rfl)) (fun _ => rfl)
theorem door_met (os : Os) (args : Array Value) : laidMetH Tryd.prog Rows.btfWaysRow.laid ((World.doorLaid Tryd.prog 400 os).forCall (fun _ _ => 0) ⟨#[], args, []⟩).memory :=
  laidMetH_of_parts3 (fuel := 8) (laidMet_of_run' 8 (by kernel_rfl) (by kernel_rfl)) (by kernel_rfl) (by kernel_rfl)
set_option maxRecDepth 100000 in
theorem lifted (os : Os) (started : os.Started) (H : Type) (enc : TypeId × Value → H) :
    ReturnsInHanded {} Tryd.checked os 3 .any (fun w args => (Rows.btfWaysSpec.pre enc Tryd.prog Tryd.f3 [] false w args ∧ laidMetH Tryd.prog Rows.btfWaysRow.laid w) ∧ sizedMet enc Tryd.prog Tryd.f3 (OpenSpec.ofChange Rows.btfWaysSpec) false w args)
      (Rows.btfWaysSpec.post enc Tryd.prog Tryd.f3 false true false false) := by
  refine returnsInHanded_of_change_and (C := Tryd.checked) (X := (fun w _ => laidMetH Tryd.prog Rows.btfWaysRow.laid w)) (fun _ _ _ hh h => h.of_heap hh) (show ownKnob Tryd.prog.godebug = none by kernel_rfl) started (by kernel_rfl) Tryd.func3
    (ChangeSpec.witness_shaped (enc := enc) (C := Tryd.checked) (os := os) (X := (fun w _ => laidMetH Tryd.prog Rows.btfWaysRow.laid w)) false (World.doorLaid Tryd.prog 400 os) #[.slice none 0 0, .int .i64 0, .int .i64 0] 8 rfl (World.shaped_of_RefB (by kernel_rfl) (by kernel_rfl)) (by kernel_rfl) (by kernel_rfl) (by kernel_rfl) (door_met os _)) ?_
  intro W base args ds gs before hval0 hW hcnd hsz _ _
  have hval : ∀ (j : Nat) t v, Tryd.f3.params[j]? = some t → args[j]? = some v → Value.okWide Tryd.prog W .any base t v := hval0
  have hW' := hW
  obtain ⟨p, q, hA0, hV, rfl, hfz, hnd⟩ := hW
  have hA : DataW.TrodAll enc Tryd.prog W 0 (fun _ => true) true Tryd.f3.params.toList args.toList ds p := hA0
  rw [Tryd.params3] at hA hval
  have hlt := hA.lt
  have hr0 := hA
  obtain ⟨v1, vs1, d1, ds1, p1, q1, hargs, rfl, rfl, h1, hr1⟩ := trodAll_cons hr0
  obtain ⟨v2, vs2, d2, ds2, p2, q2, rfl, rfl, rfl, h2, hr2⟩ := trodAll_cons hr1
  obtain ⟨v3, vs3, d3, ds3, p3, q3, rfl, rfl, rfl, h3, hr3⟩ := trodAll_cons hr2
  obtain ⟨rfl, rfl, rfl⟩ := trodAll_nil hr3
  obtain rfl : args = #[v1, v2, v3] := by cases args; simp_all
  obtain ⟨rfl, rfl⟩ := trodVars_none hV
  obtain ⟨x1, rfl, hx1⟩ := opn1.arg_slice (show Tryd.prog.underlying 22 = some (.slice 35) by kernel_rfl) (hval 0 22 v1 rfl rfl) h1
  have m1 := len_max' (c0 := 80) (show Tryd.prog.underlying 22 = some (.slice 35) by kernel_rfl) (by kernel_rfl) (by decide) h1 hsz 0 rfl rfl
  have hs1 := RS.roS (VM := (fun x => (fun x => x.size ≤ maxLen) x.fName ∧ isI64 x.fType ∧ isI64 x.fBits)) hx1 (fun y q => q.2.2.2.2.2.2)
  obtain ⟨x2, rfl, hx2⟩ := opn2.arg_int (show Tryd.prog.underlying 3 = some (.int .i64) by kernel_rfl) (hval 1 3 v2 rfl rfl) h2
  obtain ⟨x3, rfl, hx3⟩ := opn3.arg_int (show Tryd.prog.underlying 3 = some (.int .i64) by kernel_rfl) (hval 2 3 v3 rfl rfl) h3
  have key : Calls Tryd.prog 3 #[.slice x1.a x1.n (x1.n + x1.k), .int .i64 (x2), .int .i64 (x3)] W fun e w' => e = .returned (.bool true) ∧ Below W.heap.size W w' :=
    (ok_barbicanlaw4_BtfWays Old.up x1.a x1.p x1.m x1.n x1.k _ (fun i => ((x1.A i).1, (x1.A i).2.n, (x1.A i).2.A)) (hs1.mono fun w h => h.2) x2 x3 true (btfways_true x1.n (fun i => ((x1.A i).1, (x1.A i).2.n, (x1.A i).2.A)) x2 x3 m1 (fun i hi u hu => (((hx1.each i hi).2.2.2.2.2.2.each u hu).2.2))) W (Old.self W)).2
  refine key.mono fun e W' ⟨he, hg⟩ => ?_
  subst he
  refine ⟨_, rfl, post_of_below' (pa := p1 ++ (p2 ++ (p3 ++ []))) (pv := []) hW' (fun _ _ _ => (trodAll_cons_mk (shut_bool (show Tryd.prog.underlying 4 = some .bool by kernel_rfl) _) trodAll_mk0)) (fun sp hsp0 => ?_) (fun _ _ => rfl) (by simp)
    hg (ok_one (by kernel_rfl) rfl (okWide_bool_mk (show Tryd.prog.underlying 4 = some .bool by kernel_rfl) _))⟩
  have hsp : ∀ q ∈ p1 ++ (p2 ++ (p3 ++ [])), sp q.block = true := fun q hq => hsp0 q (by simpa using hq)
  exact (trodAll_cons_mk (reads_again' (show laidOutB Tryd.prog = true by kernel_rfl) (by kernel_rfl) (by decide +kernel) h1 (fun q hq => hlt q (List.mem_append_left _ hq)) hg (sp := sp) (fun q hq => hsp q (List.mem_append_left _ hq))) (trodAll_cons_mk (reads_again' (show laidOutB Tryd.prog = true by kernel_rfl) (by kernel_rfl) (by decide +kernel) h2 (fun q hq => hlt q (List.mem_append_right _ (List.mem_append_left _ hq))) hg (sp := sp) (fun q hq => hsp q (List.mem_append_right _ (List.mem_append_left _ hq)))) (trodAll_cons_mk (reads_again' (show laidOutB Tryd.prog = true by kernel_rfl) (by kernel_rfl) (by decide +kernel) h3 (fun q hq => hlt q (List.mem_append_right _ (List.mem_append_right _ (List.mem_append_left _ hq)))) hg (sp := sp) (fun q hq => hsp q (List.mem_append_right _ (List.mem_append_right _ (List.mem_append_left _ hq))))) trodAll_mk0)))
theorem over : Rows.btfWaysRow.holds Tryd.pinned (OpenSpec.ofChange Rows.btfWaysSpec) :=
  OpenClaim.holds_of_wide 3 Tryd.f3 rfl rfl rfl rfl rfl rfl rfl ⟨rfl, rfl, rfl, rfl, rfl⟩ rfl rfl rfl rfl rfl (by kernel_rfl) Tryd.func3 (by kernel_rfl)
    (of_decide_eq_true (by kernel_rfl)) (by unfold Func.isWrapper; first | (rw [if_pos (by decide +kernel)]; kernel_rfl) | (rw [if_neg (by decide +kernel)]; exact ⟨rfl, rfl⟩))
    (fun os started H enc _ => lifted os started H enc)

/-- The statement. -/
theorem proved : Rows.BtfWaysCardSaid :=
  Claim7.holds_tied_plain_at .later [] [.data, .data, .data] true (true, "b3389f1a76bd5562f5e73255a30a2c46c1949eef3685fdd6190b90ebcd1bb507") false
    over (fun _ h => by cases h) (by kernel_rfl) (fun _ h => by cases h) btfWays_row_tie rfl ⟨rfl, rfl⟩ (by kernel_rfl) rfl
    (fun f fn hf hfn => by
      obtain rfl : f = 3 := Option.some.inj ((show Tryd.prog.funcNamed "barbican/barbicanlaw4.BtfWays" = some 3 by kernel_rfl).symm.trans hf) |>.symm
      obtain rfl : fn = Tryd.f3 := (Option.some.inj (Tryd.func3.symm.trans hfn)).symm
      exact ⟨by kernel_rfl, fun j t ht => by
        rw [Tryd.params3] at ht
        have hm : t ∈ [22, 3, 3] := by simpa using Array.mem_of_getElem? ht
        have hall : ([22, 3, 3].all fun u => !Tryd.prog.wantsStandIn u) = true := by kernel_rfl
        exact (show Tryd.prog.wantsStandIn t = false by simpa using List.all_eq_true.1 hall t hm)⟩)
    (by kernel_rfl)
end Go.Proofs.YtlpjdjbophcomaaDoor.btfWays

