/-
  In a ledger's events each reference is acquired once, ahead of its one release at most; those that aren't released are held; never more than may be: whatever the input, the law answers true.
-/
import Derived.Test.YtmopkmjddaaknaaRxK
import Derived.Test.YtmopkmjddaaknaaT11P
import Derived.Test.YtmopkmjddaaknaaRows
namespace Go.Proofs.Ytmopkmjddaaknaa
open Go.RowKit
set_option maxRecDepth 100000
theorem opens41 {H : Type} {enc : TypeId × Value → H} {W : World} : Opens enc Try.prog W 41 c_Step (fun x => isI64 x.fWhat ∧ isI64 x.fI ∧ isI64 x.fN ∧ isI64 x.fM) := fun n cs y h => by
  obtain ⟨xs, m, -, -, hl, hlen, hf⟩ := DataW.trod_struct (show Try.prog.underlying 41 = some (.struct (Try.prog.fieldsOf 41)) by kernel_rfl) h
  obtain ⟨x0, k0, v0⟩ := Opens.field (o := 0) (s := 1) hlen hf 0 (fl Try.prog 41 0) (by kernel_rfl) (t := 3) (by kernel_rfl) (by kernel_rfl) (by kernel_rfl) (Opens.of (Opens.i64 (by kernel_rfl)) (fun _ => rfl))
  obtain ⟨x1, k1, v1⟩ := Opens.field (o := 1) (s := 1) hlen hf 1 (fl Try.prog 41 1) (by kernel_rfl) (t := 3) (by kernel_rfl) (by kernel_rfl) (by kernel_rfl) (Opens.of (Opens.i64 (by kernel_rfl)) (fun _ => rfl))
  obtain ⟨x2, k2, v2⟩ := Opens.field (o := 2) (s := 1) hlen hf 2 (fl Try.prog 41 2) (by kernel_rfl) (t := 3) (by kernel_rfl) (by kernel_rfl) (by kernel_rfl) (Opens.of (Opens.i64 (by kernel_rfl)) (fun _ => rfl))
  obtain ⟨x3, k3, v3⟩ := Opens.field (o := 3) (s := 1) hlen hf 3 (fl Try.prog 41 3) (by kernel_rfl) (t := 3) (by kernel_rfl) (by kernel_rfl) (by kernel_rfl) (Opens.of (Opens.i64 (by kernel_rfl)) (fun _ => rfl))
  refine ⟨⟨x0, x1, x2, x3⟩, ?_, v0, v1, v2, v3⟩
  have hl0 : cs.length = 4 := hl.trans (by kernel_rfl)
  have e : cs.drop 0 = _ := cut_step k0 (o' := 1) rfl
  rw [cut_step k1 (o' := 2) rfl, cut_step k2 (o' := 3) rfl, cut_step k3 (o' := 4) rfl, show cs.drop 4 = [] from List.drop_eq_nil_of_le (by omega), List.drop_zero] at e
  exact e
end Go.Proofs.Ytmopkmjddaaknaa
namespace Go.Proofs.Ytmopkmjddaaknaa.sockLedger
open Go.ChangeShapes Go.WideShapes Go.ChangeAt Go.RowKit Go.Joins
set_option linter.unusedVariables false
set_option linter.unusedSimpArgs false
theorem opn1 {H : Type} {enc : TypeId × Value → H} {W : World} : Opens enc Try.prog W 23 RS.c (RS.ok (Old W) c_Step 4 (fun x => isI64 x.fWhat ∧ isI64 x.fI ∧ isI64 x.fN ∧ isI64 x.fM)) := Opens.slice (show Try.prog.underlying 23 = some (.slice 41) by kernel_rfl) (by kernel_rfl) c_Step_len (by decide) (⟨0, 0, 0, 0⟩ : Step) opens41
theorem opn2 {H : Type} {enc : TypeId × Value → H} {W : World} : Opens enc Try.prog W 3 (fun x : Int => [.int .i64 (x)]) isI64 := Opens.of (Opens.of (Opens.i64 (by kernel_rfl)) (fun _ => rfl)) (fun _ => rfl)
set_option maxRecDepth 100000 in
theorem lifted (os : Os) (started : os.Started) (H : Type) (enc : TypeId × Value → H) :
    ReturnsInHanded {} Try.checked os 4 .any (Rows.sockLedgerSpec.pre6 enc Try.prog Try.f4 Rows.sockLedgerRow.domain false) (Rows.sockLedgerSpec.post enc Try.prog Try.f4 false true false false) := by
  refine returnsInHanded_of_change_sized (C := Try.checked) (show ownKnob Try.prog.godebug = none by kernel_rfl) started (by kernel_rfl) Try.func4
    (ChangeSpec.witness6 (enc := enc) (C := Try.checked) false ⟨#[], #[.slice none 0 0, .int .i64 0], []⟩ 8 (by kernel_rfl) (by kernel_rfl) (by kernel_rfl) (by kernel_rfl)) ?_
  intro W base args ds gs before hval0 hW hcnd hsz _
  have hval : ∀ (j : Nat) t v, Try.f4.params[j]? = some t → args[j]? = some v → Value.okWide Try.prog W .any base t v := hval0
  have hW' := hW
  obtain ⟨p, q, hA0, hV, rfl, hfz, hnd⟩ := hW
  have hA : DataW.TrodAll enc Try.prog W 0 (fun _ => true) true Try.f4.params.toList args.toList ds p := hA0
  rw [Try.params4] at hA hval
  have hlt := hA.lt
  have hr0 := hA
  obtain ⟨v1, vs1, d1, ds1, p1, q1, hargs, rfl, rfl, h1, hr1⟩ := trodAll_cons hr0
  obtain ⟨v2, vs2, d2, ds2, p2, q2, rfl, rfl, rfl, h2, hr2⟩ := trodAll_cons hr1
  obtain ⟨rfl, rfl, rfl⟩ := trodAll_nil hr2
  obtain rfl : args = #[v1, v2] := by cases args; simp_all
  obtain ⟨rfl, rfl⟩ := trodVars_none hV
  obtain ⟨x1, rfl, hx1⟩ := opn1.arg_slice (show Try.prog.underlying 23 = some (.slice 41) by kernel_rfl) (hval 0 23 v1 rfl rfl) h1
  have m1 := len_max' (c0 := 32) (show Try.prog.underlying 23 = some (.slice 41) by kernel_rfl) (by kernel_rfl) (by decide) h1 hsz 0 rfl rfl
  obtain ⟨x2, rfl, hx2⟩ := opn2.arg_int (show Try.prog.underlying 3 = some (.int .i64) by kernel_rfl) (hval 1 3 v2 rfl rfl) h2
  have key : Calls Try.prog 4 #[.slice x1.a x1.n (x1.n + x1.k), .int .i64 (x2)] W fun e w' => e = .returned (.bool true) ∧ Below W.heap.size W w' :=
    (ok_barbicanlaw11_SockLedger Old.up x1.a x1.p x1.m x1.n x1.k x1.A (hx1.ro.mono fun w h => h.2) x2 true (ledger_true x1.n x1.A x2 (fun k hk => (hx1.each k hk).2.1.2)) W (Old.self W)).2
  refine key.mono fun e W' ⟨he, hg⟩ => ?_
  subst he
  refine ⟨_, rfl, post_of_below' (pa := p1 ++ (p2 ++ [])) (pv := []) hW' (fun _ _ _ => (trodAll_cons_mk (shut_bool (show Try.prog.underlying 4 = some .bool by kernel_rfl) _) trodAll_mk0)) (fun sp hsp0 => ?_) (fun _ _ => rfl) (by simp)
    hg (ok_one (by kernel_rfl) rfl (okWide_bool_mk (show Try.prog.underlying 4 = some .bool by kernel_rfl) _))⟩
  have hsp : ∀ q ∈ p1 ++ (p2 ++ []), sp q.block = true := fun q hq => hsp0 q (by simpa using hq)
  exact (trodAll_cons_mk (reads_again' (show laidOutB Try.prog = true by kernel_rfl) (by kernel_rfl) (by decide +kernel) h1 (fun q hq => hlt q (List.mem_append_left _ hq)) hg (sp := sp) (fun q hq => hsp q (List.mem_append_left _ hq))) (trodAll_cons_mk (reads_again' (show laidOutB Try.prog = true by kernel_rfl) (by kernel_rfl) (by decide +kernel) h2 (fun q hq => hlt q (List.mem_append_right _ (List.mem_append_left _ hq))) hg (sp := sp) (fun q hq => hsp q (List.mem_append_right _ (List.mem_append_left _ hq)))) trodAll_mk0))
theorem over : Rows.sockLedgerRow.holds Try.pinned (OpenSpec.ofChange Rows.sockLedgerSpec) :=
  OpenClaim.holds_of_wide 4 Try.f4 rfl rfl rfl rfl rfl rfl rfl ⟨rfl, rfl, rfl, rfl, rfl⟩ rfl rfl rfl rfl rfl (by kernel_rfl) Try.func4 (by kernel_rfl)
    (of_decide_eq_true (by kernel_rfl)) (by unfold Func.isWrapper; first | (rw [if_pos (by decide +kernel)]; kernel_rfl) | (rw [if_neg (by decide +kernel)]; exact ⟨rfl, rfl⟩))
    (fun os started H enc _ => lifted os started H enc)

/-- The statement. -/
theorem proved : Rows.SockLedgerSaid :=
  over
end Go.Proofs.Ytmopkmjddaaknaa.sockLedger
