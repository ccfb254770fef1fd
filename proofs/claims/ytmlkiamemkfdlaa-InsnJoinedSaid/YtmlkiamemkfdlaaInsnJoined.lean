/-
  Slots one behind the other have their bytes one behind the other: whatever the input, the law answers true.
-/
import Derived.Test.YtmlkiamemkfdlaaS1R
import Derived.Test.YtmlkiamemkfdlaaS1H
import Derived.SizedLaws
namespace Go.Proofs.Ytmlkiamemkfdlaa.insnJoined
open Go.ChangeShapes Go.WideShapes Go.ChangeAt Go.RowKit Go.Joins
set_option linter.unusedVariables false
set_option linter.unusedSimpArgs false
theorem len_read {H : Type} {enc : TypeId × Value → H} {W : World} {a0 : Option Addr} {n c : Nat} {d : DataW H} {p : List MemPlace} (h : DataW.Trod enc Try.prog W 0 (fun _ => true) true 22 (.slice a0 n c) d p) : n = 0 ∨ ∃ el sp, d = .slice el sp ∧ el.length = n := by
  obtain ⟨fuel, hf⟩ := h
  rcases DataW.trod_slice Try.underlying22 hf with ⟨hcs, -⟩ | ⟨a, len', cap', elems, rest, m, -, hcs, hx, -, hl, hm, hlen, -⟩
  · simp [Value.cells] at hcs
    exact .inl hcs.2.1
  · simp [Value.cells] at hcs
    simp only [Prod.mk.injEq] at hx
    exact .inr ⟨_, _, hx.1, by rw [List.length_map, hlen]; exact hcs.2.1.symm⟩
theorem len_max {H : Type} {enc : TypeId × Value → H} {W : World} {a0 : Option Addr} {n c : Nat} {d : DataW H} {p : List MemPlace} (h : DataW.Trod enc Try.prog W 0 (fun _ => true) true 22 (.slice a0 n c) d p) {ts : List TypeId} {ds : List (DataW H)}
    (hsz : (DataW.weightsEach Try.prog ts ds).all (· ≤ reachBytes) = true) (k : Nat) (ht : ts[k]? = some 22) (hd : ds[k]? = some d) : n ≤ 140737488351232 := by
  rcases len_read h with rfl | ⟨el, sp, rfl, rfl⟩
  · omega
  · have hb : Try.prog.bytesOf 35 = 12 := by kernel_rfl
    have := sized_slice hsz ht hd Try.underlying22
    rw [hb] at this
    have hr : reachBytes = 140737488351232 := rfl
    omega
set_option maxRecDepth 100000 in
theorem lifted (os : Os) (started : os.Started) (H : Type) (enc : TypeId × Value → H) :
    ReturnsInHanded {} Try.checked os 6 .any (Rows.insnJoinedSpec.pre6 enc Try.prog Try.f6 Rows.insnJoinedRow.domain false) (Rows.insnJoinedSpec.post enc Try.prog Try.f6 false true false false) := by
  refine returnsInHanded_of_change_sized (C := Try.checked) own started (by kernel_rfl) Try.func6
    (ChangeSpec.witness6 (enc := enc) (C := Try.checked) false ⟨#[], #[.slice none 0 0, .slice none 0 0], []⟩ 8 (by kernel_rfl) (by kernel_rfl) (by kernel_rfl) (by kernel_rfl)) ?_
  intro W base args ds gs before hval0 hW hcnd hsz _
  have hval : ∀ (j : Nat) t v, Try.f6.params[j]? = some t → args[j]? = some v → Value.okWide Try.prog W .any base t v := hval0
  have hW' := hW
  obtain ⟨p, q, hA0, hV, rfl, hfz, hnd⟩ := hW
  have hA : DataW.TrodAll enc Try.prog W 0 (fun _ => true) true Try.f6.params.toList args.toList ds p := hA0
  rw [Try.params6] at hA hval
  have hlt := hA.lt
  obtain ⟨v1, vs1, d1, ds1, p1, q1, hargs, rfl, rfl, h1, r1⟩ := trodAll_cons hA
  obtain ⟨v2, vs2, d2, ds2, p2, q2, rfl, rfl, rfl, h2, r2⟩ := trodAll_cons r1
  obtain ⟨rfl, rfl, rfl⟩ := trodAll_nil r2
  obtain rfl : args = #[v1, v2] := by cases args; simp_all
  obtain ⟨rfl, rfl⟩ := trodVars_none hV
  obtain ⟨a0, n0, cap0, pb0, q0, A0, rfl, hro0⟩ := open_insns (hval 0 22 v1 rfl rfl) h1
  obtain ⟨a1, n1, cap1, pb1, q1, A1, rfl, hro1⟩ := open_insns (hval 1 22 v2 rfl rfl) h2
  have m0 := len_max h1 hsz 0 rfl rfl
  have m1 := len_max h2 hsz 1 rfl rfl
  clear hA0 hval0
  simp only [List.append_nil] at hW' hlt
  have key : Calls Try.prog 6 #[.slice a0 n0 cap0, .slice a1 n1 cap1] W fun e w' => e = .returned (.bool true) ∧ Below W.heap.size W w' :=
    (ok_barbicanlaw1_InsnJoined (M := fun _ => False) (B0 := W.heap.size) (S := fun w => W.heap.size ≤ w.heap.size ∧ ∀ j, j < W.heap.size → w.heap[j]? = W.heap[j]?) ⟨fun _ h => h.1, fun w1 w2 h hc => ⟨Nat.le_trans h.1 hc.size, fun j hj => (hc.block j hj (fun c => c)).trans (h.2 j hj)⟩⟩ a0 pb0 q0 n0 cap0 A0 (hro0.mono fun w h => h.2) a1 pb1 q1 n1 cap1 A1 (hro1.mono fun w h => h.2) true (joined_true (by omega) A0 A1) W ⟨Nat.le_refl _, fun _ _ => rfl⟩).2
  refine key.mono fun e W' ⟨he, hg⟩ => ?_
  subst he
  exact ⟨_, rfl, post_of_below (pa := p1 ++ p2) (pv := []) hW' (fun _ _ _ => (trodAll_cons_mk (shut_bool Try.underlying4 _) trodAll_mk0))
    (fun sp hsp => by
      have t := trodAll_cons_mk (reads_again (by kernel_rfl) (by decide +kernel) h1 (fun q hq => hlt q (List.mem_append_left _ hq)) hg (sp := sp) (fun q hq => hsp q (List.mem_append_left _ hq))) (trodAll_cons_mk (reads_again (by kernel_rfl) (by decide +kernel) h2 (fun q hq => hlt q (List.mem_append_right _ hq)) hg (sp := sp) (fun q hq => hsp q (List.mem_append_right _ hq))) trodAll_mk0)
      simp only [List.append_nil] at t
      exact t) (fun _ _ => rfl) (by simp)
    hg (ok_one (by kernel_rfl) rfl (okWide_bool_mk Try.underlying4 _))⟩

theorem over : Rows.insnJoinedRow.holds Try.pinned (OpenSpec.ofChange Rows.insnJoinedSpec) :=
  OpenClaim.holds_of_wide 6 Try.f6 rfl rfl rfl rfl rfl rfl rfl ⟨rfl, rfl, rfl, rfl, rfl⟩ rfl rfl rfl rfl rfl (by kernel_rfl) Try.func6 (by kernel_rfl)
    (of_decide_eq_true (by kernel_rfl)) (by unfold Func.isWrapper; first | (rw [if_pos (by decide +kernel)]; kernel_rfl) | (rw [if_neg (by decide +kernel)]; exact ⟨rfl, rfl⟩))
    (fun os started H enc _ => lifted os started H enc)

/-- The statement. -/
theorem proved : Rows.InsnJoinedSaid :=
  over
end Go.Proofs.Ytmlkiamemkfdlaa.insnJoined
