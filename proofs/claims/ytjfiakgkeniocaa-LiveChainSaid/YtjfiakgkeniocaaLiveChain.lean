/-
  A number goes from register to register: each slot needs just the one that holds it, and none is dead: whatever the input, the law answers true.
-/
import Derived.Test.YtjfiakgkeniocaaRxK
import Derived.Test.YtjfiakgkeniocaaL16O
import Derived.Test.YtjfiakgkeniocaaRows
namespace Go.Proofs.Ytjfiakgkeniocaa
open Go.RowKit
set_option maxRecDepth 100000
end Go.Proofs.Ytjfiakgkeniocaa
namespace Go.Proofs.Ytjfiakgkeniocaa.liveChain
open Go.ChangeShapes Go.WideShapes Go.ChangeAt Go.RowKit Go.Joins
set_option linter.unusedVariables false
set_option linter.unusedSimpArgs false
theorem opn1 {H : Type} {enc : TypeId × Value → H} {W : World} : Opens enc Try.prog W 35 RS.c (RS.ok (Old W) cu8 1 (fun _ => True)) := Opens.slice (show Try.prog.underlying 35 = some (.slice 5) by kernel_rfl) (by kernel_rfl) cu8_len (by decide) 0#8 (Opens.of (Opens.u8 (by kernel_rfl)) (fun _ => rfl))
set_option maxRecDepth 100000 in
theorem lifted (os : Os) (started : os.Started) (H : Type) (enc : TypeId × Value → H) :
    ReturnsInHanded {} Try.checked os 4 .any (Rows.liveChainSpec.pre6 enc Try.prog Try.f4 Rows.liveChainRow.domain false) (Rows.liveChainSpec.post enc Try.prog Try.f4 false true false false) := by
  refine returnsInHanded_of_change_sized (C := Try.checked) (show ownKnob Try.prog.godebug = none by kernel_rfl) started (by kernel_rfl) Try.func4
    (ChangeSpec.witness6 (enc := enc) (C := Try.checked) false ⟨#[], #[.slice none 0 0], []⟩ 8 (by kernel_rfl) (by kernel_rfl) (by kernel_rfl) (by kernel_rfl)) ?_
  intro W base args ds gs before hval0 hW hcnd hsz _
  have hval : ∀ (j : Nat) t v, Try.f4.params[j]? = some t → args[j]? = some v → Value.okWide Try.prog W .any base t v := hval0
  have hW' := hW
  obtain ⟨p, q, hA0, hV, rfl, hfz, hnd⟩ := hW
  have hA : DataW.TrodAll enc Try.prog W 0 (fun _ => true) true Try.f4.params.toList args.toList ds p := hA0
  rw [Try.params4] at hA hval
  have hlt := hA.lt
  have hr0 := hA
  obtain ⟨v1, vs1, d1, ds1, p1, q1, hargs, rfl, rfl, h1, hr1⟩ := trodAll_cons hr0
  obtain ⟨rfl, rfl, rfl⟩ := trodAll_nil hr1
  obtain rfl : args = #[v1] := by cases args; simp_all
  obtain ⟨rfl, rfl⟩ := trodVars_none hV
  obtain ⟨x1, rfl, hx1⟩ := opn1.arg_slice (show Try.prog.underlying 35 = some (.slice 5) by kernel_rfl) (hval 0 35 v1 rfl rfl) h1
  have m1 := len_max' (c0 := 1) (show Try.prog.underlying 35 = some (.slice 5) by kernel_rfl) (by kernel_rfl) (by decide) h1 hsz 0 rfl rfl
  have key : Calls Try.prog 4 #[.slice x1.a x1.n (x1.n + x1.k)] W fun e w' => e = .returned (.bool true) ∧ Below W.heap.size W w' :=
    (ok_barbicanlaw16_LiveChain Old.up x1.a x1.p x1.m x1.n x1.k x1.A (hx1.ro.mono fun w h => h.2) true (chain_true x1.n x1.A) W (Old.self W)).2
  refine key.mono fun e W' ⟨he, hg⟩ => ?_
  subst he
  refine ⟨_, rfl, post_of_below' (pa := p1 ++ []) (pv := []) hW' (fun _ _ _ => (trodAll_cons_mk (shut_bool (show Try.prog.underlying 4 = some .bool by kernel_rfl) _) trodAll_mk0)) (fun sp hsp0 => ?_) (fun _ _ => rfl) (by simp)
    hg (ok_one (by kernel_rfl) rfl (okWide_bool_mk (show Try.prog.underlying 4 = some .bool by kernel_rfl) _))⟩
  have hsp : ∀ q ∈ p1 ++ [], sp q.block = true := fun q hq => hsp0 q (by simpa using hq)
  exact (trodAll_cons_mk (reads_again' (show laidOutB Try.prog = true by kernel_rfl) (by kernel_rfl) (by decide +kernel) h1 (fun q hq => hlt q (List.mem_append_left _ hq)) hg (sp := sp) (fun q hq => hsp q (List.mem_append_left _ hq))) trodAll_mk0)
theorem over : Rows.liveChainRow.holds Try.pinned (OpenSpec.ofChange Rows.liveChainSpec) :=
  OpenClaim.holds_of_wide 4 Try.f4 rfl rfl rfl rfl rfl rfl rfl ⟨rfl, rfl, rfl, rfl, rfl⟩ rfl rfl rfl rfl rfl (by kernel_rfl) Try.func4 (by kernel_rfl)
    (of_decide_eq_true (by kernel_rfl)) (by unfold Func.isWrapper; first | (rw [if_pos (by decide +kernel)]; kernel_rfl) | (rw [if_neg (by decide +kernel)]; exact ⟨rfl, rfl⟩))
    (fun os started H enc _ => lifted os started H enc)

/-- The statement. -/
theorem proved : Rows.LiveChainSaid :=
  over
end Go.Proofs.Ytjfiakgkeniocaa.liveChain

