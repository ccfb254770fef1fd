/-
  Arguments opened: slices, at any depth, that are only read. Nothing of the program stands here.
-/
import Derived.Test.YtlpjdjbophcomaaDoorRxJ
import Derived.ProofKit
import Derived.ChangeSame
import Derived.ChangeSlices
import Derived.Lib.SmallJoins
import Derived.Carry
import Derived.SizedLaws
namespace Go.Proofs.YtlpjdjbophcomaaDoor
open Go.ChangeShapes Go.WideShapes Go.ChangeAt Go.RowKit Go.Joins Go.WideElems
set_option linter.unusedVariables false
set_option linter.unusedSimpArgs false
/-- A slice that is only read, as data: where it lies, its length, its room behind, its elements. -/
structure RS (τ : Type) where
  a : Option Addr
  p : Nat
  m : Nat
  n : Nat
  k : Nat
  A : Nat → τ
namespace RS
variable {τ : Type}
abbrev v (x : RS τ) : Value := .slice x.a x.n (x.n + x.k)
abbrev c (x : RS τ) : List Value := [.slice x.a x.n (x.n + x.k)]
structure ok (S : World → Prop) (f : τ → List Value) (sz : Nat) (V : τ → Prop) (x : RS τ) : Prop where
  ro : Ro S f sz x.a x.p x.m x.n x.A
  each : ∀ k, k < x.n → V (x.A k)
end RS
/-- The heap of before is as it was. -/
def Old (W : World) (w : World) : Prop := ∀ j, j < W.heap.size → w.heap[j]? = W.heap[j]?
section
variable {H : Type} {enc : TypeId × Value → H} {P : Program} {W : World} {τ : Type}
/-- Every value of the type reads as data. -/
def Opens (enc : TypeId × Value → H) (P : Program) (W : World) (t : TypeId) (f : τ → List Value) (V : τ → Prop) : Prop :=
  ∀ n cs y, DataW.trod enc P W 0 (fun _ => true) true n t cs = some y → ∃ x, cs = f x ∧ V x
theorem Opens.u8 {t : TypeId} (ht : P.underlying t = some (.int .u8)) : Opens enc P W t (fun x : BitVec 8 => [.int .u8 (nn x)]) (fun _ => True) := fun n cs y h => by
  obtain ⟨z, rfl, -, hw⟩ := DataW.trod_int ht h
  have hb := bounds_u8 hw
  refine ⟨BitVec.ofNat 8 z.toNat, ?_, trivial⟩
  have : nn (BitVec.ofNat 8 z.toNat) = z := by unfold nn; rw [BitVec.toNat_ofNat]; omega
  show _ = [Value.int .u8 (nn (BitVec.ofNat 8 z.toNat))]
  rw [this]
theorem Opens.u64 {t : TypeId} (ht : P.underlying t = some (.int .u64)) : Opens enc P W t (fun x : BitVec 64 => [.int .u64 (nn x)]) (fun _ => True) := fun n cs y h => by
  obtain ⟨z, rfl, -, hw⟩ := DataW.trod_int ht h
  have hb := bounds_u64 hw
  refine ⟨BitVec.ofNat 64 z.toNat, ?_, trivial⟩
  have : nn (BitVec.ofNat 64 z.toNat) = z := by unfold nn; rw [BitVec.toNat_ofNat]; omega
  show _ = [Value.int .u64 (nn (BitVec.ofNat 64 z.toNat))]
  rw [this]
def isI64 (x : Int) : Prop := -9223372036854775808 ≤ x ∧ x < 9223372036854775808
theorem Opens.i64 {t : TypeId} (ht : P.underlying t = some (.int .i64)) : Opens enc P W t (fun x : Int => [.int .i64 x]) isI64 := fun n cs y h => by
  obtain ⟨z, rfl, -, hw⟩ := DataW.trod_int ht h
  have hb : -9223372036854775808 ≤ z ∧ z ≤ 9223372036854775807 := by simp [Lit.wf] at hw; exact hw
  exact ⟨z, rfl, by unfold isI64; omega⟩
theorem Opens.bool {t : TypeId} (ht : P.underlying t = some .bool) : Opens enc P W t (fun x : Bool => [.bool x]) (fun _ => True) := fun n cs y h => by
  obtain ⟨b, rfl, -⟩ := DataW.trod_bool ht h
  exact ⟨b, rfl, trivial⟩
theorem Opens.string {t : TypeId} (ht : P.underlying t = some .string) : Opens enc P W t (fun x : ByteArray => [.string x]) (fun x => x.size ≤ maxLen) := fun n cs y h => by
  obtain ⟨b, rfl, -, hb⟩ := DataW.trod_string ht h
  exact ⟨b, rfl, hb⟩
theorem Opens.slice {t e : TypeId} {sz : Nat} {f : τ → List Value} {V : τ → Prop} (ht : P.underlying t = some (.slice e)) (hc : P.cellsOf e = sz) (hf : ∀ x, (f x).length = sz) (hsz : 0 < sz) (dflt : τ) (h : Opens enc P W e f V) : Opens enc P W t RS.c (RS.ok (Old W) f sz V) := fun fuel cs0 y hf0 => by
  rcases DataW.trod_slice ht hf0 with ⟨rfl, -⟩ | ⟨a, len, cap, elems, rest, m, -, rfl, -, -, hlc, -, hlen, hel, -, -⟩
  · exact ⟨⟨none, 0, 0, 0, 0, fun _ => dflt⟩, rfl, Ro.nil, fun k hk => absurd hk (by show ¬ k < 0; omega)⟩
  · have each : ∀ i, i < len → ∃ x : τ, V x ∧ ∀ j, j < sz → W.cell? ((a.add (i * sz)).add j) = (f x)[j]? := fun i hi => by
      have he := hel i hi
      rw [List.getElem?_eq_getElem (by omega), Option.bind_eq_some_iff, hc] at he
      obtain ⟨cs, hcs, hy⟩ := he
      obtain ⟨x, rfl, hx⟩ := h _ _ _ hy
      exact ⟨x, hx, (World.cells?_some hcs).2.2⟩
    by_cases h0 : len = 0
    · subst h0
      exact ⟨⟨some a, 0, 0, 0, cap, fun _ => dflt⟩, by simp [RS.c], Ro.nil, fun k hk => absurd hk (by show ¬ k < 0; omega)⟩
    have hspot : a.spot = none := by
      obtain ⟨x, _, hx⟩ := each 0 (by omega)
      have h1 := hx 0 (by omega)
      have ea : (a.add (0 * sz)).add 0 = a := by simp [Addr.add]
      rw [ea] at h1
      cases hsp : a.spot with
      | none => rfl
      | some z =>
        have hl := hf x
        rw [List.getElem?_eq_getElem (by omega)] at h1
        simp only [World.cell?, hsp] at h1
        split at h1 <;> simp at h1
    have hadd : ∀ i j, (a.add (i * sz)).add j = ⟨a.block, a.off + i * sz + j, none⟩ := fun i j => by
      obtain ⟨ab, ao, asp⟩ := a
      dsimp only at hspot
      subst hspot
      simp only [Addr.add]
      split <;> split <;> simp_all
    obtain ⟨A, hA⟩ : ∃ A : Nat → τ, ∀ i, i < len → V (A i) ∧ ∀ j, j < sz → W.cell? ⟨a.block, a.off + i * sz + j, none⟩ = (f (A i))[j]? := by
      refine ⟨fun i => if hi : i < len then (each i hi).choose else dflt, fun i hi => ?_⟩
      simp only [dif_pos hi]
      refine ⟨(each i hi).choose_spec.1, fun j hj => ?_⟩
      have := (each i hi).choose_spec.2 j hj
      rw [hadd] at this
      exact this
    refine ⟨⟨some a, a.block, a.off, len, cap - len, A⟩, by simp only [RS.c]; rw [show len + (cap - len) = cap by omega], ⟨fun _ => by obtain ⟨ab, ao, asp⟩ := a; dsimp only at hspot; subst hspot; rfl, fun w hw k hk j hj => ?_⟩, fun k hk => (hA k hk).1⟩
    have h1 := (hA k hk).2 j hj
    have hl := hf (A k)
    have hblk : (⟨a.block, a.off + k * sz + j, none⟩ : Addr).block < W.heap.size := World.block_lt_of_cell? W _ (h1.trans (List.getElem?_eq_getElem (l := f (A k)) (show j < (f (A k)).length by omega)))
    show w.cell? ⟨a.block, a.off + k * sz + j, none⟩ = _
    rw [← h1]
    exact World.cell?_of_block (hw a.block hblk)
theorem Opens.arg_slice {t e : TypeId} {r : Reach} {b0 : Nat} {v : Value} {d : DataW H} {p : List MemPlace} {V : RS τ → Prop} (ht : P.underlying t = some (.slice e)) (ho : Opens enc P W t RS.c V) (hv : Value.okWide P W r b0 t v) (h : DataW.Trod enc P W 0 (fun _ => true) true t v d p) : ∃ x : RS τ, v = x.v ∧ V x := by
  obtain ⟨a0, len, cap, rfl⟩ := okWide_slice ht hv
  obtain ⟨fuel, hf⟩ := h
  obtain ⟨x, hx, hV⟩ := ho _ _ _ hf
  refine ⟨x, ?_, hV⟩
  simpa [Value.cells, RS.c] using hx
theorem Opens.field {fs : Array Field} {m : Nat} {cs : List Value} {xs : List (DataW H × List MemPlace)} {g : τ → List Value} {V : τ → Prop} (hlen : xs.length = fs.size) (hf : ∀ (i : Nat) (f : Field), fs[i]? = some f → DataW.trod enc P W 0 (fun _ => true) true m f.type ((cs.drop f.offset).take (P.cellsOf f.type)) = xs[i]?)
    (i : Nat) (f : Field) (hi : fs[i]? = some f) {t o s : Nat} (ht : f.type = t) (ho : f.offset = o) (hs : P.cellsOf t = s) (h : Opens enc P W t g V) : ∃ x, (cs.drop o).take s = g x ∧ V x := by
  subst ht ho hs
  have h1 := hf i f hi
  have h2 := (Array.getElem?_eq_some_iff.1 hi).1
  rw [List.getElem?_eq_getElem (by omega)] at h1
  exact h _ _ _ h1
theorem cut_step {cs l : List Value} {o s o' : Nat} (h : (cs.drop o).take s = l) (ho : o + s = o') : cs.drop o = l ++ cs.drop o' := by
  subst ho
  rw [← h, ← List.drop_drop, List.take_append_drop]
theorem Opens.of {t : TypeId} {f g : τ → List Value} {V : τ → Prop} (h : Opens enc P W t f V) (e : ∀ x, f x = g x) : Opens enc P W t g V := fun n cs y hy => by
  obtain ⟨x, h1, h2⟩ := h n cs y hy
  exact ⟨x, h1.trans (e x), h2⟩
theorem Opens.arg1 {t : TypeId} {v : Value} {d : DataW H} {p : List MemPlace} {g : τ → Value} {V : τ → Prop} (hc : v.cells = #[v]) (ho : Opens enc P W t (fun x => [g x]) V) (h : DataW.Trod enc P W 0 (fun _ => true) true t v d p) : ∃ x : τ, v = g x ∧ V x := by
  obtain ⟨fuel, hf⟩ := h
  obtain ⟨x, hx, hV⟩ := ho _ _ _ hf
  rw [hc] at hx
  refine ⟨x, ?_, hV⟩
  simpa using hx
theorem Opens.arg_int {t : TypeId} {k : IntKind} {r : Reach} {b0 : Nat} {v : Value} {d : DataW H} {p : List MemPlace} {g : τ → Value} {V : τ → Prop} (ht : P.underlying t = some (.int k)) (ho : Opens enc P W t (fun x => [g x]) V) (hv : Value.okWide P W r b0 t v) (h : DataW.Trod enc P W 0 (fun _ => true) true t v d p) : ∃ x : τ, v = g x ∧ V x := by
  obtain ⟨n, rfl⟩ := okWide_int ht hv
  exact ho.arg1 rfl h
/-- How an argument reads as it did. -/
theorem reads_again' {W W' : World} {t : TypeId} {v : Value} {d : DataW H} {p : List MemPlace} (hl : laidOutB P = true) (hr : P.readableRec t = true) (ht : t < P.types.size) (h : DataW.Trod enc P W 0 (fun _ => true) true t v d p)
    (hlt : ∀ q ∈ p, q.block < W.heap.size) (hb : Below W.heap.size W W') {sp : Nat → Bool} (hsp : ∀ q ∈ p, sp q.block = true) : DataW.Trod enc P W' 0 sp true t v d p := by
  obtain ⟨n, hn⟩ := h
  exact ⟨n, DataW.trod_stays (kids_book hl hr) (book_sized hr) (fun h => by cases h) ⟨ht, book_self t⟩ hn (fun x hx => hb.same (hlt x hx)) hsp⟩
theorem post_of_below' {f : Func} {s : ChangeSpec} {apart fresh handsOn again : Bool} {W W' : World} {args : Array Value} {v : Value} {ds gs : List (DataW H)} {before pa pv : List MemPlace}
    (hW : DataW.Whole enc P f.params.toList s.vars apart W args.toList ds gs before)
    (hres : ∀ (b : Nat) (sp : Nat → Bool) (hd : Bool), DataW.TrodAll enc P W' b sp hd f.resultTypes.toList (v.resultList f.resultTypes.size) (s.fn H (ds ++ gs)).results [])
    (hargs : ∀ sp : Nat → Bool, (∀ p ∈ before, sp p.block = true) → DataW.TrodAll enc P W' 0 sp true f.params.toList args.toList (s.fn H (ds ++ gs)).args pa)
    (hvars : ∀ sp : Nat → Bool, (∀ p ∈ before, sp p.block = true) → DataW.TrodVars enc P W' sp s.vars (s.fn H (ds ++ gs)).vars pv)
    (hps : before = pa ++ pv) (hb : Below W.heap.size W W')
    (hok : ∀ (j : Nat) (t : TypeId) (r : Value), f.resultTypes[j]? = some t → (v.resultList f.resultTypes.size)[j]? = some r → Value.okWide P W' .any 0 t r) :
    s.post enc P f apart fresh handsOn again W args v W' := by
  have hlt : ∀ p ∈ before, p.block < W.heap.size := fun p hp => hW.lt p hp
  have hold : ∀ p ∈ before, (fun b => decide (b < W.heap.size)) p.block = true := fun p hp => by simpa using hlt p hp
  refine ⟨ds, gs, before, [], pa, pv, hW, hres _ _ _, hargs _ hold, hvars _ hold, World.keptBut_mono (fun p hp => ⟨hp, ?_⟩) (hb.frame (· ∈ before)), fun _ => ?_⟩
  · rw [hps, List.mem_append] at hp
    exact Or.inr hp
  · obtain ⟨_, _, _, _, _, hz, hn⟩ := hW
    refine ⟨hok, _, _, ([] ++ pa) ++ pv, ⟨[] ++ pa, pv, trodAll_append (hargs _ (fun _ _ => rfl)) (hres _ _ _), hvars _ (fun _ _ => rfl), rfl, ?_, ?_⟩, ?_⟩
    · intro b off hp
      have hin : MemPlace.cell b off ∈ before := by rw [hps]; simpa using hp
      rw [hb.frozen (hlt _ hin)]
      exact hz b off hin
    · intro ha
      have := hn ha
      rw [hps] at this
      simpa using this
    · intro p hp _
      rw [hps]
      simpa using hp
theorem Old.up {W : World} : Up (fun _ => False) W.heap.size (fun w => W.heap.size ≤ w.heap.size ∧ Old W w) :=
  ⟨fun _ h => h.1, fun w1 w2 h hc => ⟨Nat.le_trans h.1 hc.size, fun j hj => (hc.block j hj (fun c => c)).trans (h.2 j hj)⟩⟩
theorem Old.self (W : World) : W.heap.size ≤ W.heap.size ∧ Old W W := ⟨Nat.le_refl _, fun _ _ => rfl⟩
/-- How long a slice that is an argument may be, where all arguments' bytes are bounded. -/
theorem len_read' {t e : TypeId} (ht : P.underlying t = some (.slice e)) {a0 : Option Addr} {n c : Nat} {d : DataW H} {p : List MemPlace} (h : DataW.Trod enc P W 0 (fun _ => true) true t (.slice a0 n c) d p) : n = 0 ∨ ∃ el sp, d = .slice el sp ∧ el.length = n := by
  obtain ⟨fuel, hf⟩ := h
  rcases DataW.trod_slice ht hf with ⟨hcs, -⟩ | ⟨a, len', cap', elems, rest, m, -, hcs, hx, -, hl, hm, hlen, -⟩
  · simp [Value.cells] at hcs
    exact .inl hcs.2.1
  · simp [Value.cells] at hcs
    simp only [Prod.mk.injEq] at hx
    exact .inr ⟨_, _, hx.1, by rw [List.length_map, hlen]; exact hcs.2.1.symm⟩
theorem len_max' {t e : TypeId} {c0 : Nat} (hT : P.underlying t = some (.slice e)) (hb : P.bytesOf e = c0) (h0 : 0 < c0) {a0 : Option Addr} {n c : Nat} {d : DataW H} {p : List MemPlace} (h : DataW.Trod enc P W 0 (fun _ => true) true t (.slice a0 n c) d p) {ts : List TypeId} {ds : List (DataW H)}
    (hsz : (DataW.weightsEach P ts ds).all (· ≤ reachBytes) = true) (k : Nat) (ht : ts[k]? = some t) (hd : ds[k]? = some d) : n ≤ 140737488351232 := by
  rcases len_read' hT h with rfl | ⟨el, sp, rfl, rfl⟩
  · omega
  · have := sized_slice hsz ht hd hT
    rw [hb] at this
    have hr : reachBytes = 140737488351232 := rfl
    have h1 : (el.length + sp.length) * 1 ≤ (el.length + sp.length) * c0 := Nat.mul_le_mul_left _ h0
    omega
end
end Go.Proofs.YtlpjdjbophcomaaDoor

