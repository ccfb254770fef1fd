/-
  What is trimmed is well formed, has no slot that is not reached, no jump to the slot behind it but at its subprogram's end, is no longer, and trimmed again the same; its numbers tell which slots they were: whatever the input, the law answers true.
-/
import Derived.Test.YtnoflelhkgdebaaRxK
import Derived.Test.YtnoflelhkgdebaaOGC
import Derived.Test.YtnoflelhkgdebaaRows
namespace Go.Proofs.Ytnoflelhkgdebaa
open Go.RowKit
set_option maxRecDepth 100000
abbrev cu8 (x : BitVec 8) : List Value := [.int .u8 (nn x)]
theorem cu8_len (x : BitVec 8) : (cu8 x).length = 1 := rfl
theorem cu8_one (x : BitVec 8) : ((cu8 x).all fun u => u.oneCell') = true := rfl
abbrev ci16 (x : BitVec 16) : List Value := [.int .i16 (ii x)]
theorem ci16_len (x : BitVec 16) : (ci16 x).length = 1 := rfl
theorem ci16_one (x : BitVec 16) : ((ci16 x).all fun u => u.oneCell') = true := rfl
abbrev ci32 (x : BitVec 32) : List Value := [.int .i32 (ii x)]
theorem ci32_len (x : BitVec 32) : (ci32 x).length = 1 := rfl
theorem ci32_one (x : BitVec 32) : ((ci32 x).all fun u => u.oneCell') = true := rfl
theorem opens37 {H : Type} {enc : TypeId × Value → H} {W : World} : Opens enc Try.prog W 37 c_Insn (fun x => (fun _ => True) x.fOp ∧ (fun _ => True) x.fDst ∧ (fun _ => True) x.fSrc ∧ (fun _ => True) x.fOff ∧ (fun _ => True) x.fImm) := fun n cs y h => by
  obtain ⟨xs, m, -, -, hl, hlen, hf⟩ := DataW.trod_struct (show Try.prog.underlying 37 = some (.struct (Try.prog.fieldsOf 37)) by kernel_rfl) h
  obtain ⟨x0, k0, v0⟩ := Opens.field (o := 0) (s := 1) hlen hf 0 (fl Try.prog 37 0) (by kernel_rfl) (t := 5) (by kernel_rfl) (by kernel_rfl) (by kernel_rfl) (Opens.of (Opens.u8 (by kernel_rfl)) (fun _ => rfl))
  obtain ⟨x1, k1, v1⟩ := Opens.field (o := 1) (s := 1) hlen hf 1 (fl Try.prog 37 1) (by kernel_rfl) (t := 5) (by kernel_rfl) (by kernel_rfl) (by kernel_rfl) (Opens.of (Opens.u8 (by kernel_rfl)) (fun _ => rfl))
  obtain ⟨x2, k2, v2⟩ := Opens.field (o := 2) (s := 1) hlen hf 2 (fl Try.prog 37 2) (by kernel_rfl) (t := 5) (by kernel_rfl) (by kernel_rfl) (by kernel_rfl) (Opens.of (Opens.u8 (by kernel_rfl)) (fun _ => rfl))
  obtain ⟨x3, k3, v3⟩ := Opens.field (o := 3) (s := 1) hlen hf 3 (fl Try.prog 37 3) (by kernel_rfl) (t := 35) (by kernel_rfl) (by kernel_rfl) (by kernel_rfl) (Opens.of (Opens.i16 (by kernel_rfl)) (fun _ => rfl))
  obtain ⟨x4, k4, v4⟩ := Opens.field (o := 4) (s := 1) hlen hf 4 (fl Try.prog 37 4) (by kernel_rfl) (t := 21) (by kernel_rfl) (by kernel_rfl) (by kernel_rfl) (Opens.of (Opens.i32 (by kernel_rfl)) (fun _ => rfl))
  refine ⟨⟨x0, x1, x2, x3, x4⟩, ?_, v0, v1, v2, v3, v4⟩
  have hl0 : cs.length = 5 := hl.trans (by kernel_rfl)
  have e : cs.drop 0 = _ := cut_step k0 (o' := 1) rfl
  rw [cut_step k1 (o' := 2) rfl, cut_step k2 (o' := 3) rfl, cut_step k3 (o' := 4) rfl, cut_step k4 (o' := 5) rfl, show cs.drop 5 = [] from List.drop_eq_nil_of_le (by omega), List.drop_zero] at e
  exact e
end Go.Proofs.Ytnoflelhkgdebaa
namespace Go.Proofs.Ytnoflelhkgdebaa.optForm
open Go.ChangeShapes Go.WideShapes Go.ChangeAt Go.RowKit Go.Joins
set_option linter.unusedVariables false
set_option linter.unusedSimpArgs false
theorem opn1 {H : Type} {enc : TypeId × Value → H} {W : World} : Opens enc Try.prog W 22 RS.c (RS.ok (Old W) c_Insn 5 (fun x => (fun _ => True) x.fOp ∧ (fun _ => True) x.fDst ∧ (fun _ => True) x.fSrc ∧ (fun _ => True) x.fOff ∧ (fun _ => True) x.fImm)) := Opens.slice (show Try.prog.underlying 22 = some (.slice 37) by kernel_rfl) (by kernel_rfl) c_Insn_len (by decide) (⟨0#8, 0#8, 0#8, 0#16, 0#32⟩ : Insn) opens37
set_option maxRecDepth 100000 in
theorem lifted (os : Os) (started : os.Started) (H : Type) (enc : TypeId × Value → H) :
    ReturnsInHanded {} Try.checked os 3 .any (Rows.optFormSpec.pre6 enc Try.prog Try.f3 Rows.optFormRow.domain false) (Rows.optFormSpec.post enc Try.prog Try.f3 false true false false) := by
  refine returnsInHanded_of_change_sized (C := Try.checked) (show ownKnob Try.prog.godebug = none by kernel_rfl) started (by kernel_rfl) Try.func3
    (ChangeSpec.witness6 (enc := enc) (C := Try.checked) false ⟨#[], #[.slice none 0 0], []⟩ 8 (by kernel_rfl) (by kernel_rfl) (by kernel_rfl) (by kernel_rfl)) ?_
  intro W base args ds gs before hval0 hW hcnd hsz _
  have hval : ∀ (j : Nat) t v, Try.f3.params[j]? = some t → args[j]? = some v → Value.okWide Try.prog W .any base t v := hval0
  have hW' := hW
  obtain ⟨p, q, hA0, hV, rfl, hfz, hnd⟩ := hW
  have hA : DataW.TrodAll enc Try.prog W 0 (fun _ => true) true Try.f3.params.toList args.toList ds p := hA0
  rw [Try.params3] at hA hval
  have hlt := hA.lt
  have hr0 := hA
  obtain ⟨v1, vs1, d1, ds1, p1, q1, hargs, rfl, rfl, h1, hr1⟩ := trodAll_cons hr0
  obtain ⟨rfl, rfl, rfl⟩ := trodAll_nil hr1
  obtain rfl : args = #[v1] := by cases args; simp_all
  obtain ⟨rfl, rfl⟩ := trodVars_none hV
  obtain ⟨x1, rfl, hx1⟩ := opn1.arg_slice (show Try.prog.underlying 22 = some (.slice 37) by kernel_rfl) (hval 0 22 v1 rfl rfl) h1
  have m1 := len_max' (c0 := 12) (show Try.prog.underlying 22 = some (.slice 37) by kernel_rfl) (by kernel_rfl) (by decide) h1 hsz 0 rfl rfl
  have key : Calls Try.prog 3 #[.slice x1.a x1.n (x1.n + x1.k)] W fun e w' => e = .returned (.bool true) ∧ Below W.heap.size W w' :=
    (ok_barbicanlaw20_OptForm Old.up x1.a x1.p x1.m x1.n x1.k x1.A (hx1.ro.mono fun w h => h.2) true (optform_true x1.n x1.A) W (Old.self W)).2
  refine key.mono fun e W' ⟨he, hg⟩ => ?_
  subst he
  refine ⟨_, rfl, post_of_below' (pa := p1 ++ []) (pv := []) hW' (fun _ _ _ => (trodAll_cons_mk (shut_bool (show Try.prog.underlying 4 = some .bool by kernel_rfl) _) trodAll_mk0)) (fun sp hsp0 => ?_) (fun _ _ => rfl) (by simp)
    hg (ok_one (by kernel_rfl) rfl (okWide_bool_mk (show Try.prog.underlying 4 = some .bool by kernel_rfl) _))⟩
  have hsp : ∀ q ∈ p1 ++ [], sp q.block = true := fun q hq => hsp0 q (by simpa using hq)
  exact (trodAll_cons_mk (reads_again' (show laidOutB Try.prog = true by kernel_rfl) (by kernel_rfl) (by decide +kernel) h1 (fun q hq => hlt q (List.mem_append_left _ hq)) hg (sp := sp) (fun q hq => hsp q (List.mem_append_left _ hq))) trodAll_mk0)
theorem over : Rows.optFormRow.holds Try.pinned (OpenSpec.ofChange Rows.optFormSpec) :=
  OpenClaim.holds_of_wide 3 Try.f3 rfl rfl rfl rfl rfl rfl rfl ⟨rfl, rfl, rfl, rfl, rfl⟩ rfl rfl rfl rfl rfl (by kernel_rfl) Try.func3 (by kernel_rfl)
    (of_decide_eq_true (by kernel_rfl)) (by unfold Func.isWrapper; first | (rw [if_pos (by decide +kernel)]; kernel_rfl) | (rw [if_neg (by decide +kernel)]; exact ⟨rfl, rfl⟩))
    (fun os started H enc _ => lifted os started H enc)

/-- The statement. -/
theorem proved : Rows.OptFormSaid :=
  over
end Go.Proofs.Ytnoflelhkgdebaa.optForm

