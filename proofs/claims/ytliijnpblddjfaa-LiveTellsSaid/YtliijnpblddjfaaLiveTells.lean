/-
  Of every slot what it reads and writes, of every program what is live at each slot, and what is written in vain, are the document's: whatever the input, the law answers true.
-/
import Derived.Test.YtliijnpblddjfaaRxK
import Derived.Test.YtliijnpblddjfaaLTG
import Derived.Test.YtliijnpblddjfaaRows
namespace Go.Proofs.Ytliijnpblddjfaa
open Go.RowKit
set_option maxRecDepth 100000
abbrev cu8 (x : BitVec 8) : List Value := [.int .u8 (nn x)]
theorem zDB (x : BitVec 8) : (cu8 x).length = 1 := rfl
theorem zDA (x : BitVec 8) : ((cu8 x).all fun u => u.oneCell') = true := rfl
abbrev ci16 (x : BitVec 16) : List Value := [.int .i16 (ii x)]
theorem zDu (x : BitVec 16) : (ci16 x).length = 1 := rfl
theorem zDt (x : BitVec 16) : ((ci16 x).all fun u => u.oneCell') = true := rfl
abbrev ci32 (x : BitVec 32) : List Value := [.int .i32 (ii x)]
theorem zDs (x : BitVec 32) : (ci32 x).length = 1 := rfl
theorem zDr (x : BitVec 32) : ((ci32 x).all fun u => u.oneCell') = true := rfl
theorem zAZ {H : Type} {enc : TypeId × Value → H} {W : World} : Opens enc Try.prog W 25 zd9 (fun x => (fun _ => True) x.fOp ∧ (fun _ => True) x.fDst ∧ (fun _ => True) x.fSrc ∧ (fun _ => True) x.fOff ∧ (fun _ => True) x.fImm) := fun n cs y h => by
  obtain ⟨xs, m, -, -, hl, hlen, hf⟩ := DataW.trod_struct (show Try.prog.underlying 25 = some (.struct (Try.prog.fieldsOf 25)) by kernel_rfl) h
  obtain ⟨x0, k0, v0⟩ := Opens.field (o := 0) (s := 1) hlen hf 0 (fl Try.prog 25 0) (by kernel_rfl) (t := 5) (by kernel_rfl) (by kernel_rfl) (by kernel_rfl) (Opens.of (Opens.u8 (by kernel_rfl)) (fun _ => rfl))
  obtain ⟨x1, k1, v1⟩ := Opens.field (o := 1) (s := 1) hlen hf 1 (fl Try.prog 25 1) (by kernel_rfl) (t := 5) (by kernel_rfl) (by kernel_rfl) (by kernel_rfl) (Opens.of (Opens.u8 (by kernel_rfl)) (fun _ => rfl))
  obtain ⟨x2, k2, v2⟩ := Opens.field (o := 2) (s := 1) hlen hf 2 (fl Try.prog 25 2) (by kernel_rfl) (t := 5) (by kernel_rfl) (by kernel_rfl) (by kernel_rfl) (Opens.of (Opens.u8 (by kernel_rfl)) (fun _ => rfl))
  obtain ⟨x3, k3, v3⟩ := Opens.field (o := 3) (s := 1) hlen hf 3 (fl Try.prog 25 3) (by kernel_rfl) (t := 23) (by kernel_rfl) (by kernel_rfl) (by kernel_rfl) (Opens.of (Opens.i16 (by kernel_rfl)) (fun _ => rfl))
  obtain ⟨x4, k4, v4⟩ := Opens.field (o := 4) (s := 1) hlen hf 4 (fl Try.prog 25 4) (by kernel_rfl) (t := 21) (by kernel_rfl) (by kernel_rfl) (by kernel_rfl) (Opens.of (Opens.i32 (by kernel_rfl)) (fun _ => rfl))
  refine ⟨⟨x0, x1, x2, x3, x4⟩, ?_, v0, v1, v2, v3, v4⟩
  have hl0 : cs.length = 5 := hl.trans (by kernel_rfl)
  have e : cs.drop 0 = _ := zuW k0 (o' := 1) rfl
  rw [zuW k1 (o' := 2) rfl, zuW k2 (o' := 3) rfl, zuW k3 (o' := 4) rfl, zuW k4 (o' := 5) rfl, show cs.drop 5 = [] from List.drop_eq_nil_of_le (by omega), List.drop_zero] at e
  exact e
end Go.Proofs.Ytliijnpblddjfaa
namespace Go.Proofs.Ytliijnpblddjfaa.liveTells
open Go.ChangeShapes Go.WideShapes Go.ChangeAt Go.RowKit Go.Joins
set_option linter.unusedVariables false
set_option linter.unusedSimpArgs false
theorem opn1 {H : Type} {enc : TypeId × Value → H} {W : World} : Opens enc Try.prog W 22 RS.c (RS.ok (Old W) zd9 5 (fun x => (fun _ => True) x.fOp ∧ (fun _ => True) x.fDst ∧ (fun _ => True) x.fSrc ∧ (fun _ => True) x.fOff ∧ (fun _ => True) x.fImm)) := Opens.slice (show Try.prog.underlying 22 = some (.slice 25) by kernel_rfl) (by kernel_rfl) zj (by decide) (⟨0#8, 0#8, 0#8, 0#16, 0#32⟩ : Insn) zAZ
theorem opn2 {H : Type} {enc : TypeId × Value → H} {W : World} : Opens enc Try.prog W 25 zd9 (fun x => (fun _ => True) x.fOp ∧ (fun _ => True) x.fDst ∧ (fun _ => True) x.fSrc ∧ (fun _ => True) x.fOff ∧ (fun _ => True) x.fImm) := zAZ
set_option maxRecDepth 100000 in
theorem lifted (os : Os) (started : os.Started) (H : Type) (enc : TypeId × Value → H) :
    ReturnsInHanded {} Try.checked os 3 .any (Rows.liveTellsSpec.pre6 enc Try.prog Try.f3 Rows.liveTellsRow.domain false) (Rows.liveTellsSpec.post enc Try.prog Try.f3 false true false false) := by
  refine returnsInHanded_of_change_sized (C := Try.checked) (show ownKnob Try.prog.godebug = none by kernel_rfl) started (by kernel_rfl) Try.func3
    (ChangeSpec.witness6 (enc := enc) (C := Try.checked) false ⟨#[], #[.slice none 0 0, .agg #[.int .u8 (0), .int .u8 (0), .int .u8 (0), .int .i16 (0), .int .i32 (0)]], []⟩ 8 (by kernel_rfl) (by kernel_rfl) (by kernel_rfl) (by kernel_rfl)) ?_
  intro W base args ds gs before hval0 hW hcnd hsz _
  have hval : ∀ (j : Nat) t v, Try.f3.params[j]? = some t → args[j]? = some v → Value.okWide Try.prog W .any base t v := hval0
  have hW' := hW
  obtain ⟨p, q, hA0, hV, rfl, hfz, hnd⟩ := hW
  have hA : DataW.TrodAll enc Try.prog W 0 (fun _ => true) true Try.f3.params.toList args.toList ds p := hA0
  rw [Try.params3] at hA hval
  have hlt := hA.lt
  have hr0 := hA
  obtain ⟨v1, vs1, d1, ds1, p1, q1, hargs, rfl, rfl, h1, hr1⟩ := trodAll_cons hr0
  obtain ⟨v2, vs2, d2, ds2, p2, q2, rfl, rfl, rfl, h2, hr2⟩ := trodAll_cons hr1
  obtain ⟨rfl, rfl, rfl⟩ := trodAll_nil hr2
  obtain rfl : args = #[v1, v2] := by cases args; simp_all
  obtain ⟨rfl, rfl⟩ := trodVars_none hV
  obtain ⟨x1, rfl, hx1⟩ := opn1.arg_slice (show Try.prog.underlying 22 = some (.slice 25) by kernel_rfl) (hval 0 22 v1 rfl rfl) h1
  have m1 := zB4 (c0 := 12) (show Try.prog.underlying 22 = some (.slice 25) by kernel_rfl) (by kernel_rfl) (by decide) h1 hsz 0 rfl rfl
  obtain ⟨x2, rfl, hx2⟩ := opn2.arg_struct (show Try.prog.underlying 25 = some (.struct (Try.prog.fieldsOf 25)) by kernel_rfl) (hval 1 25 v2 rfl rfl) h2
  have key : Calls Try.prog 3 #[.slice x1.a x1.n (x1.n + x1.k), (zeP x2)] W fun e w' => e = .returned (.bool true) ∧ Below W.heap.size W w' :=
    (zot Old.up x1.a x1.p x1.m x1.n x1.k x1.A (hx1.ro.mono fun w h => h.2) x2 true (zxK x1.n x1.A x2) W (Old.self W)).2
  refine key.mono fun e W' ⟨he, hg⟩ => ?_
  subst he
  refine ⟨_, rfl, zxI (pa := p1 ++ (p2 ++ [])) (pv := []) hW' (fun _ _ _ => (trodAll_cons_mk (shut_bool (show Try.prog.underlying 4 = some .bool by kernel_rfl) _) trodAll_mk0)) (fun sp hsp0 => ?_) (fun _ _ => rfl) (by simp)
    hg (ok_one (by kernel_rfl) rfl (okWide_bool_mk (show Try.prog.underlying 4 = some .bool by kernel_rfl) _))⟩
  have hsp : ∀ q ∈ p1 ++ (p2 ++ []), sp q.block = true := fun q hq => hsp0 q (by simpa using hq)
  exact (trodAll_cons_mk (zvP (show laidOutB Try.prog = true by kernel_rfl) (by kernel_rfl) (by decide +kernel) h1 (fun q hq => hlt q (List.mem_append_left _ hq)) hg (sp := sp) (fun q hq => hsp q (List.mem_append_left _ hq))) (trodAll_cons_mk (zvP (show laidOutB Try.prog = true by kernel_rfl) (by kernel_rfl) (by decide +kernel) h2 (fun q hq => hlt q (List.mem_append_right _ (List.mem_append_left _ hq))) hg (sp := sp) (fun q hq => hsp q (List.mem_append_right _ (List.mem_append_left _ hq)))) trodAll_mk0))
theorem over : Rows.liveTellsRow.holds Try.pinned (OpenSpec.ofChange Rows.liveTellsSpec) :=
  OpenClaim.holds_of_wide 3 Try.f3 rfl rfl rfl rfl rfl rfl rfl ⟨rfl, rfl, rfl, rfl, rfl⟩ rfl rfl rfl rfl rfl (by kernel_rfl) Try.func3 (by kernel_rfl)
    (of_decide_eq_true (by kernel_rfl)) (by unfold Func.isWrapper; first | (rw [if_pos (by decide +kernel)]; kernel_rfl) | (rw [if_neg (by decide +kernel)]; exact ⟨rfl, rfl⟩))
    (fun os started H enc _ => lifted os started H enc)

/-- The statement. -/
theorem proved : Rows.LiveTellsSaid :=
  over
end Go.Proofs.Ytliijnpblddjfaa.liveTells

