/-
  Sockets' counts rise and fall by what is taken and dropped, never below one: whatever the input, the law answers true.
-/
import Derived.Test.YtmopkmjddaaknaaRxK
import Derived.Test.YtmopkmjddaaknaaT11Q
import Derived.Test.YtmopkmjddaaknaaRows
namespace Go.Proofs.Ytmopkmjddaaknaa
open Go.RowKit
set_option maxRecDepth 100000
end Go.Proofs.Ytmopkmjddaaknaa
namespace Go.Proofs.Ytmopkmjddaaknaa.sockCounts
open Go.ChangeShapes Go.WideShapes Go.ChangeAt Go.RowKit Go.Joins
set_option linter.unusedVariables false
set_option linter.unusedSimpArgs false
theorem opn1 {H : Type} {enc : TypeId × Value → H} {W : World} : Opens enc Try.prog W 3 (fun x : Int => [.int .i64 (x)]) isI64 := Opens.of (Opens.of (Opens.i64 (by kernel_rfl)) (fun _ => rfl)) (fun _ => rfl)
theorem opn2 {H : Type} {enc : TypeId × Value → H} {W : World} : Opens enc Try.prog W 25 RS.c (RS.ok (Old W) cu8 1 (fun _ => True)) := Opens.slice (show Try.prog.underlying 25 = some (.slice 5) by kernel_rfl) (by kernel_rfl) cu8_len (by decide) 0#8 (Opens.of (Opens.u8 (by kernel_rfl)) (fun _ => rfl))
set_option maxRecDepth 100000 in
theorem lifted (os : Os) (started : os.Started) (H : Type) (enc : TypeId × Value → H) :
    ReturnsInHanded {} Try.checked os 6 .any (Rows.sockCountsSpec.pre6 enc Try.prog Try.f6 Rows.sockCountsRow.domain false) (Rows.sockCountsSpec.post enc Try.prog Try.f6 false true false false) := by
  refine returnsInHanded_of_change_sized (C := Try.checked) (show ownKnob Try.prog.godebug = none by kernel_rfl) started (by kernel_rfl) Try.func6
    (ChangeSpec.witness6 (enc := enc) (C := Try.checked) false ⟨#[], #[.int .i64 0, .slice none 0 0], []⟩ 8 (by kernel_rfl) (by kernel_rfl) (by kernel_rfl) (by kernel_rfl)) ?_
  intro W base args ds gs before hval0 hW hcnd hsz _
  have hval : ∀ (j : Nat) t v, Try.f6.params[j]? = some t → args[j]? = some v → Value.okWide Try.prog W .any base t v := hval0
  have hW' := hW
  obtain ⟨p, q, hA0, hV, rfl, hfz, hnd⟩ := hW
  have hA : DataW.TrodAll enc Try.prog W 0 (fun _ => true) true Try.f6.params.toList args.toList ds p := hA0
  rw [Try.params6] at hA hval
  have hlt := hA.lt
  have hr0 := hA
  obtain ⟨v1, vs1, d1, ds1, p1, q1, hargs, rfl, rfl, h1, hr1⟩ := trodAll_cons hr0
  obtain ⟨v2, vs2, d2, ds2, p2, q2, rfl, rfl, rfl, h2, hr2⟩ := trodAll_cons hr1
  obtain ⟨rfl, rfl, rfl⟩ := trodAll_nil hr2
  obtain rfl : args = #[v1, v2] := by cases args; simp_all
  obtain ⟨rfl, rfl⟩ := trodVars_none hV
  obtain ⟨x1, rfl, hx1⟩ := opn1.arg_int (show Try.prog.underlying 3 = some (.int .i64) by kernel_rfl) (hval 0 3 v1 rfl rfl) h1
  obtain ⟨x2, rfl, hx2⟩ := opn2.arg_slice (show Try.prog.underlying 25 = some (.slice 5) by kernel_rfl) (hval 1 25 v2 rfl rfl) h2
  have m2 := len_max' (c0 := 1) (show Try.prog.underlying 25 = some (.slice 5) by kernel_rfl) (by kernel_rfl) (by decide) h2 hsz 1 rfl rfl
  have key : Calls Try.prog 6 #[.int .i64 (x1), .slice x2.a x2.n (x2.n + x2.k)] W fun e w' => e = .returned (.bool true) ∧ Below W.heap.size W w' :=
    (ok_barbicanlaw11_SockCounts Old.up x1 x2.a x2.p x2.m x2.n x2.k x2.A (hx2.ro.mono fun w h => h.2) true (counts_true x1 x2.n x2.A) W (Old.self W)).2
  refine key.mono fun e W' ⟨he, hg⟩ => ?_
  subst he
  refine ⟨_, rfl, post_of_below' (pa := p1 ++ (p2 ++ [])) (pv := []) hW' (fun _ _ _ => (trodAll_cons_mk (shut_bool (show Try.prog.underlying 4 = some .bool by kernel_rfl) _) trodAll_mk0)) (fun sp hsp0 => ?_) (fun _ _ => rfl) (by simp)
    hg (ok_one (by kernel_rfl) rfl (okWide_bool_mk (show Try.prog.underlying 4 = some .bool by kernel_rfl) _))⟩
  have hsp : ∀ q ∈ p1 ++ (p2 ++ []), sp q.block = true := fun q hq => hsp0 q (by simpa using hq)
  exact (trodAll_cons_mk (reads_again' (show laidOutB Try.prog = true by kernel_rfl) (by kernel_rfl) (by decide +kernel) h1 (fun q hq => hlt q (List.mem_append_left _ hq)) hg (sp := sp) (fun q hq => hsp q (List.mem_append_left _ hq))) (trodAll_cons_mk (reads_again' (show laidOutB Try.prog = true by kernel_rfl) (by kernel_rfl) (by decide +kernel) h2 (fun q hq => hlt q (List.mem_append_right _ (List.mem_append_left _ hq))) hg (sp := sp) (fun q hq => hsp q (List.mem_append_right _ (List.mem_append_left _ hq)))) trodAll_mk0))
theorem over : Rows.sockCountsRow.holds Try.pinned (OpenSpec.ofChange Rows.sockCountsSpec) :=
  OpenClaim.holds_of_wide 6 Try.f6 rfl rfl rfl rfl rfl rfl rfl ⟨rfl, rfl, rfl, rfl, rfl⟩ rfl rfl rfl rfl rfl (by kernel_rfl) Try.func6 (by kernel_rfl)
    (of_decide_eq_true (by kernel_rfl)) (by unfold Func.isWrapper; first | (rw [if_pos (by decide +kernel)]; kernel_rfl) | (rw [if_neg (by decide +kernel)]; exact ⟨rfl, rfl⟩))
    (fun os started H enc _ => lifted os started H enc)

/-- The statement. -/
theorem proved : Rows.SockCountsSaid :=
  over
end Go.Proofs.Ytmopkmjddaaknaa.sockCounts
