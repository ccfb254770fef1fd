/-
  An argument that is a slice of instructions: how it is opened, and that it reads as it did.
-/
import Derived.Test.YtmlkiamemkfdlaaS1Q
import Derived.Test.YtmlkiamemkfdlaaS1A
import Derived.Carry
namespace Go.Proofs.Ytmlkiamemkfdlaa
open Go.ChangeShapes Go.WideShapes Go.ChangeAt Go.RowKit Go.Joins Go.WideElems
set_option linter.unusedVariables false
set_option linter.unusedSimpArgs false
theorem laid : laidOutB Try.prog = true := by kernel_rfl
theorem reads_again {H : Type} {enc : TypeId × Value → H} {W W' : World} {t : TypeId} {v : Value} {d : DataW H} {p : List MemPlace} (hr : Try.prog.readableRec t = true) (ht : t < Try.prog.types.size) (h : DataW.Trod enc Try.prog W 0 (fun _ => true) true t v d p)
    (hlt : ∀ q ∈ p, q.block < W.heap.size) (hb : Below W.heap.size W W') {sp : Nat → Bool} (hsp : ∀ q ∈ p, sp q.block = true) : DataW.Trod enc Try.prog W' 0 sp true t v d p := by
  obtain ⟨n, hn⟩ := h
  exact ⟨n, DataW.trod_stays (kids_book laid hr) (book_sized hr) (fun h => by cases h) ⟨ht, book_self t⟩ hn (fun x hx => hb.same (hlt x hx)) hsp⟩
theorem bits_i16 {x : Int} (h : (Lit.int .i16 x).wf = true) : ∃ b : BitVec 16, x = ii b := by
  have hb : -32768 ≤ x ∧ x < 32768 := by
    simp [Lit.wf] at h
    revert h
    show (-32768 ≤ x ∧ x ≤ 32767) → _
    omega
  refine ⟨BitVec.ofInt 16 x, ?_⟩
  unfold ii
  rw [BitVec.toInt_ofInt, Int.bmod_eq_of_le] <;> omega
theorem bits_i32 {x : Int} (h : (Lit.int .i32 x).wf = true) : ∃ b : BitVec 32, x = ii b := by
  have hb : -2147483648 ≤ x ∧ x < 2147483648 := by
    simp [Lit.wf] at h
    revert h
    show (-2147483648 ≤ x ∧ x ≤ 2147483647) → _
    omega
  refine ⟨BitVec.ofInt 32 x, ?_⟩
  unfold ii
  rw [BitVec.toInt_ofInt, Int.bmod_eq_of_le] <;> omega
theorem one_cell {cs : List Value} {o : Nat} {v : Value} (h : (cs.drop o).take 1 = [v]) : cs[o]? = some v := by
  have := congrArg (·[0]?) h
  simpa [List.getElem?_take, List.getElem?_drop] using this
section
variable {H : Type} {enc : TypeId × Value → H} {W : World}
theorem open_insn {n : Nat} {cs : List Value} {y : DataW H × List MemPlace} (h : DataW.trod enc Try.prog W 0 (fun _ => true) true n 35 cs = some y) : ∃ x : Insn, cs = c_Insn x := by
  obtain ⟨xs, m, -, -, hl, hlen, hf⟩ := DataW.trod_struct Try.underlying35 h
  have hl5 : cs.length = 5 := hl.trans (by kernel_rfl)
  have hx5 : xs.length = 5 := hlen
  have get : ∀ i, i < 5 → ∃ z, xs[i]? = some z := fun i hi => ⟨xs[i], List.getElem?_eq_getElem (by omega)⟩
  obtain ⟨z0, hz0⟩ := get 0 (by omega)
  obtain ⟨z1, hz1⟩ := get 1 (by omega)
  obtain ⟨z2, hz2⟩ := get 2 (by omega)
  obtain ⟨z3, hz3⟩ := get 3 (by omega)
  obtain ⟨z4, hz4⟩ := get 4 (by omega)
  have f0 : DataW.trod enc Try.prog W 0 (fun _ => true) true m 5 ((cs.drop 0).take (Try.prog.cellsOf 5)) = some z0 := (hf 0 _ rfl).trans hz0
  have f1 : DataW.trod enc Try.prog W 0 (fun _ => true) true m 5 ((cs.drop 1).take (Try.prog.cellsOf 5)) = some z1 := (hf 1 _ rfl).trans hz1
  have f2 : DataW.trod enc Try.prog W 0 (fun _ => true) true m 5 ((cs.drop 2).take (Try.prog.cellsOf 5)) = some z2 := (hf 2 _ rfl).trans hz2
  have f3 : DataW.trod enc Try.prog W 0 (fun _ => true) true m 33 ((cs.drop 3).take (Try.prog.cellsOf 33)) = some z3 := (hf 3 _ rfl).trans hz3
  have f4 : DataW.trod enc Try.prog W 0 (fun _ => true) true m 21 ((cs.drop 4).take (Try.prog.cellsOf 21)) = some z4 := (hf 4 _ rfl).trans hz4
  have c5 : Try.prog.cellsOf 5 = 1 := by kernel_rfl
  have c33 : Try.prog.cellsOf 33 = 1 := by kernel_rfl
  have c21 : Try.prog.cellsOf 21 = 1 := by kernel_rfl
  rw [c5] at f0 f1 f2
  rw [c33] at f3
  rw [c21] at f4
  obtain ⟨m0, g0, -, w0⟩ := DataW.trod_int Try.underlying5 f0
  obtain ⟨m1, g1, -, w1⟩ := DataW.trod_int Try.underlying5 f1
  obtain ⟨m2, g2, -, w2⟩ := DataW.trod_int Try.underlying5 f2
  obtain ⟨m3, g3, -, w3⟩ := DataW.trod_int Try.underlying33 f3
  obtain ⟨m4, g4, -, w4⟩ := DataW.trod_int Try.underlying21 f4
  obtain ⟨b0, rfl⟩ := open_u8 w0
  obtain ⟨b1, rfl⟩ := open_u8 w1
  obtain ⟨b2, rfl⟩ := open_u8 w2
  obtain ⟨b3, rfl⟩ := bits_i16 w3
  obtain ⟨b4, rfl⟩ := bits_i32 w4
  have k0 := one_cell g0
  have k1 := one_cell g1
  have k2 := one_cell g2
  have k3 := one_cell g3
  have k4 := one_cell g4
  refine ⟨⟨b0, b1, b2, b3, b4⟩, List.ext_getElem? fun i => ?_⟩
  rcases i with _ | _ | _ | _ | _ | i
  · exact k0
  · exact k1
  · exact k2
  · exact k3
  · exact k4
  · rw [List.getElem?_eq_none (by omega)]; rfl
/-- The slots of a slice, as they lie there before the call. -/
theorem open_insns {b0 : Nat} {r : Reach} {v : Value} {d : DataW H} {p : List MemPlace} (hv : Value.okWide Try.prog W r b0 22 v) (h : DataW.Trod enc Try.prog W 0 (fun _ => true) true 22 v d p) :
    ∃ (a0 : Option Addr) (n cap pb q : Nat) (A : Nat → Insn), v = .slice a0 n cap ∧ Ro (fun w => ∀ j, j < W.heap.size → w.heap[j]? = W.heap[j]?) c_Insn 5 a0 pb q n A := by
  obtain ⟨a0, len, cap, rfl⟩ := okWide_slice Try.underlying22 hv
  obtain ⟨fuel, hf⟩ := h
  rcases DataW.trod_slice Try.underlying22 hf with ⟨hcs, -⟩ | ⟨a, len', cap', elems, rest, m, -, hcs, -, -, -, -, hlen, hel, -, -⟩
  · simp [Value.cells] at hcs
    obtain ⟨rfl, rfl, rfl⟩ := hcs
    exact ⟨none, 0, 0, 0, 0, fun _ => ⟨0, 0, 0, 0, 0⟩, rfl, Ro.nil⟩
  · simp [Value.cells] at hcs
    obtain ⟨rfl, rfl, rfl⟩ := hcs
    have c35 : Try.prog.cellsOf 35 = 5 := by kernel_rfl
    have each : ∀ i, i < len → ∃ x : Insn, ∀ j, j < 5 → W.cell? ((a.add (i * 5)).add j) = (c_Insn x)[j]? := fun i hi => by
      have he := hel i hi
      rw [List.getElem?_eq_getElem (by omega), Option.bind_eq_some_iff, c35] at he
      obtain ⟨cs, hcs, hy⟩ := he
      obtain ⟨x, rfl⟩ := open_insn hy
      exact ⟨x, (World.cells?_some hcs).2.2⟩
    by_cases h0 : len = 0
    · subst h0
      exact ⟨some a, 0, cap, 0, 0, fun _ => ⟨0, 0, 0, 0, 0⟩, rfl, Ro.nil⟩
    have hspot : a.spot = none := by
      obtain ⟨x, hx⟩ := each 0 (by omega)
      have h1 := hx 0 (by omega)
      have ea : (a.add (0 * 5)).add 0 = a := by simp [Addr.add]
      rw [ea] at h1
      cases hsp : a.spot with
      | none => rfl
      | some z =>
        simp only [World.cell?, hsp] at h1
        split at h1 <;> simp at h1
    have hadd : ∀ i j, (a.add (i * 5)).add j = ⟨a.block, a.off + i * 5 + j, none⟩ := fun i j => by
      obtain ⟨ab, ao, asp⟩ := a
      dsimp only at hspot
      subst hspot
      simp only [Addr.add]
      split <;> split <;> simp_all
    obtain ⟨A, hA⟩ : ∃ A : Nat → Insn, ∀ i, i < len → ∀ j, j < 5 → W.cell? ⟨a.block, a.off + i * 5 + j, none⟩ = (c_Insn (A i))[j]? := by
      refine ⟨fun i => if hi : i < len then (each i hi).choose else ⟨0, 0, 0, 0, 0⟩, fun i hi j hj => ?_⟩
      have := (each i hi).choose_spec j hj
      rw [hadd] at this
      simp only [dif_pos hi]
      exact this
    refine ⟨some a, len, cap, a.block, a.off, A, rfl, fun _ => by obtain ⟨ab, ao, asp⟩ := a; dsimp only at hspot; subst hspot; rfl, fun w hw k hk j hj => ?_⟩
    have h1 := hA k hk j hj
    have hblk : (⟨a.block, a.off + k * 5 + j, none⟩ : Addr).block < W.heap.size := World.block_lt_of_cell? W _ (h1.trans (List.getElem?_eq_getElem (l := c_Insn (A k)) (show j < 5 from hj)))
    rw [← h1]
    exact World.cell?_of_block (hw a.block hblk)
end
end Go.Proofs.Ytmlkiamemkfdlaa
