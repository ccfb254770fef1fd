/-
  How the arguments of layer 7's laws are opened and shut.
-/
import Derived.Test.YtmhiiahfjoijgaaGreatL7F
import Derived.Test.YtmhiiahfjoijgaaGreatRows
import Derived.Lib.SmallJoins
import Derived.ProofKit
import Derived.ChangeSame
namespace Go.Proofs.YtmhiiahfjoijgaaGreat
open Go.ChangeShapes Go.WideShapes Go.ChangeAt Go.RowKit Go.Joins
set_option linter.unusedVariables false
set_option linter.unusedSimpArgs false
theorem own : ownKnob Tryz.prog.godebug = none := by kernel_rfl
theorem cells22 : Tryz.prog.cellsOf 22 = 1 := by kernel_rfl
section
variable {H : Type} {enc : TypeId × Value → H} {P : Program}
theorem post_of_below {f : Func} {s : ChangeSpec} {apart fresh handsOn again : Bool} {W W' : World} {args : Array Value} {v : Value} {ds gs : List (DataW H)} {before pa pv : List MemPlace}
    (hW : DataW.Whole enc P f.params.toList s.vars apart W args.toList ds gs before)
    (hres : ∀ (b : Nat) (sp : Nat → Bool) (hd : Bool), DataW.TrodAll enc P W' b sp hd f.resultTypes.toList (v.resultList f.resultTypes.size) (s.fn H (ds ++ gs)).results [])
    (hargs : ∀ sp : Nat → Bool, (∀ p ∈ before, sp p.block = true) → DataW.TrodAll enc P W' 0 sp true f.params.toList args.toList (s.fn H (ds ++ gs)).args pa)
    (hvars : ∀ sp : Nat → Bool, (∀ p ∈ before, sp p.block = true) → DataW.TrodVars enc P W' sp s.vars (s.fn H (ds ++ gs)).vars pv)
    (hps : before = pa ++ pv) (hb : Below W.heap.size W W')
    (hok : ∀ (j : Nat) (t : TypeId) (r : Value), f.resultTypes[j]? = some t → (v.resultList f.resultTypes.size)[j]? = some r → Value.okWide P W' .any 0 t r) :
    s.post enc P f apart fresh handsOn again W args v W' := by
  have hlt : ∀ p ∈ before, p.block < W.heap.size := fun p hp => hW.lt p hp
  have hold : ∀ p ∈ before, (fun b => decide (b < W.heap.size)) p.block = true := fun p hp => by simpa using hlt p hp
  refine ⟨ds, gs, before, [], pa, pv, hW, hres _ _ _, hargs _ hold, hvars _ hold, World.keptBut_mono (fun p hp => ⟨hp, ?_⟩) (hb.frame (· ∈ before)), fun _ => ?_⟩
  · rw [hps, List.mem_append] at hp
    exact Or.inr hp
  · obtain ⟨_, _, _, _, _, hz, hn⟩ := hW
    refine ⟨hok, _, _, ([] ++ pa) ++ pv, ⟨[] ++ pa, pv, trodAll_append (hargs _ (fun _ _ => rfl)) (hres _ _ _), hvars _ (fun _ _ => rfl), rfl, ?_, ?_⟩, ?_⟩
    · intro b off hp
      have hin : MemPlace.cell b off ∈ before := by rw [hps]; simpa using hp
      rw [hb.frozen (hlt _ hin)]
      exact hz b off hin
    · intro ha
      have := hn ha
      rw [hps] at this
      simpa using this
    · intro p hp _
      rw [hps]
      simpa using hp
end
section
variable {H : Type} {enc : TypeId × Value → H} {P : Program} {w : World} {base : Nat} {spare : Nat → Bool} {held : Bool}
theorem open_u64 {x : Int} (h : (Lit.int .u64 x).wf = true) : ∃ b : BitVec 64, x = nn b := by
  have hb := bounds_u64 h
  refine ⟨BitVec.ofNat 64 x.toNat, ?_⟩
  unfold nn
  rw [BitVec.toNat_ofNat]
  omega
theorem open_i64 {x : Int} (h : (Lit.int .i64 x).wf = true) : ∃ b : BitVec 64, x = ii b := by
  have hb := bounds_i64 h
  refine ⟨BitVec.ofInt 64 x, ?_⟩
  unfold ii
  rw [BitVec.toInt_ofInt, Int.bmod_eq_of_le] <;> omega
theorem open_u8 {x : Int} (h : (Lit.int .u8 x).wf = true) : ∃ b : BitVec 8, x = nn b := by
  have hb := bounds_u8 h
  refine ⟨BitVec.ofNat 8 x.toNat, ?_⟩
  unfold nn
  rw [BitVec.toNat_ofNat]
  omega
theorem wf_nn (b : BitVec 64) : (Lit.int .u64 (nn b)).wf = true := by
  have := b.isLt
  exact WalkArith.wf_u64 (by unfold nn; omega)
theorem okWide_arr {r : Reach} {b0 : Nat} {t e : TypeId} {n : Nat} {v : Value} (ht : P.underlying t = some (.array n e)) (h : Value.okWide P w r b0 t v) : ∃ cs, v = .agg cs ∧ cs.size = P.cellsOf t := by
  simp only [Value.okWide, ht] at h
  obtain ⟨cs, h1, h2, _⟩ := h
  exact ⟨cs, h1, h2⟩
theorem open_arr_ints {r : Reach} {b0 : Nat} {t e : TypeId} {n : Nat} {k : IntKind} {v : Value} {d : DataW H} {p : List MemPlace} (ht : P.underlying t = some (.array n e)) (he : P.underlying e = some (.int k)) (hce : P.cellsOf e = 1) (hC : P.cellsOf t = n)
    (hv : Value.okWide P w r b0 t v) (h : DataW.Trod enc P w base spare held t v d p) :
    ∃ zs : List Int, zs.length = n ∧ v = .agg (zs.map (Value.int k)).toArray ∧ d = .agg (zs.map fun z => .lit (.int k z)) ∧ p = [] ∧ ∀ z ∈ zs, (Lit.int k z).wf = true := by
  obtain ⟨cs, rfl, hsz⟩ := okWide_arr ht hv
  obtain ⟨fuel, hf⟩ := h
  obtain ⟨xs, m, rfl, hx, hl, hn, hi⟩ := DataW.trod_array ht hf
  simp only [Value.cells] at hi hl
  rw [hC] at hl
  have key : ∀ i, i < n → ∃ z, cs.toList[i]? = some (.int k z) ∧ xs[i]? = some (.lit (.int k z), []) ∧ (Lit.int k z).wf = true := by
    intro i h1
    have h2 := hi i h1
    rw [hce, Nat.mul_one] at h2
    have hlt : i < cs.toList.length := by rw [hl]; exact h1
    have h3 : (cs.toList.drop i).take 1 = [cs.toList[i]] := by rw [List.drop_eq_getElem_cons hlt]; rfl
    rw [h3] at h2
    have h4 : xs[i]? = some (xs[i]'(by omega)) := List.getElem?_eq_getElem (by omega)
    rw [h4] at h2
    obtain ⟨z, e1, e2, e3⟩ := DataW.trod_int he h2
    refine ⟨z, ?_, ?_, e3⟩
    · rw [List.getElem?_eq_getElem hlt]
      simpa using e1
    · rw [h4, e2]
  let zs : List Int := cs.toList.map intOf
  have hz : zs.length = n := by simp only [zs, List.length_map]; exact hl
  have hcs : cs.toList = zs.map (Value.int k) := by
    apply List.ext_getElem?
    intro i
    by_cases h1 : i < n
    · obtain ⟨z, e1, e2, e3⟩ := key i h1
      simp only [zs, List.getElem?_map, e1, Option.map_some, intOf]
    · rw [List.getElem?_eq_none (by omega), List.getElem?_eq_none (by simp only [List.length_map, hz]; omega)]
  have hxs : xs = zs.map fun z => ((.lit (.int k z), []) : DataW H × List MemPlace) := by
    apply List.ext_getElem?
    intro i
    by_cases h1 : i < n
    · obtain ⟨z, e1, e2, e3⟩ := key i h1
      simp only [zs, List.getElem?_map, e1, e2, Option.map_some, intOf]
    · rw [List.getElem?_eq_none (by omega), List.getElem?_eq_none (by simp only [List.length_map, hz]; omega)]
  refine ⟨zs, hz, ?_, ?_, ?_, ?_⟩
  · rw [← hcs]
  · have := congrArg Prod.fst hx
    simp only at this
    rw [this, hxs, List.map_map]
    rfl
  · have := congrArg Prod.snd hx
    simp only at this
    rw [this, hxs]
    simp
  · intro z h1
    obtain ⟨i, h2⟩ := List.getElem?_of_mem h1
    have h3 : i < n := by
      have := List.getElem?_eq_some_iff.1 h2
      obtain ⟨h4, _⟩ := this
      omega
    obtain ⟨z', e1, e2, e3⟩ := key i h3
    simp only [zs, List.getElem?_map, e1, Option.map_some, intOf] at h2
    rw [← Option.some.inj h2]
    exact e3
end
section
variable {H : Type} {enc : TypeId × Value → H} {w : World} {base : Nat} {spare : Nat → Bool} {held : Bool}
set_option maxRecDepth 100000 in
theorem open_A4 {r : Reach} {b0 : Nat} {v : Value} {d : DataW H} {p : List MemPlace} (hv : Value.okWide Tryz.prog w r b0 34 v) (h : DataW.Trod enc Tryz.prog w base spare held 34 v d p) :
    ∃ l : A4, v = a4v l ∧ d = .agg [.lit (.int .u64 (nn l.a)), .lit (.int .u64 (nn l.b)), .lit (.int .u64 (nn l.c)), .lit (.int .u64 (nn l.d))] ∧ p = [] := by
  obtain ⟨zs, hz, rfl, rfl, rfl, hw⟩ := open_arr_ints Tryz.underlying34 Tryz.underlying22 cells22 (by kernel_rfl) hv h
  match zs, hz with
  | [a, b, c, e], _ =>
    obtain ⟨x, rfl⟩ := open_u64 (hw a (by simp))
    obtain ⟨y, rfl⟩ := open_u64 (hw b (by simp))
    obtain ⟨z, rfl⟩ := open_u64 (hw c (by simp))
    obtain ⟨u, rfl⟩ := open_u64 (hw e (by simp))
    exact ⟨⟨x, y, z, u⟩, rfl, rfl, rfl⟩
set_option maxRecDepth 100000 in
theorem shut_A4 (l : A4) : DataW.Trod enc Tryz.prog w base spare true 34 (a4v l) (.agg [.lit (.int .u64 (nn l.a)), .lit (.int .u64 (nn l.b)), .lit (.int .u64 (nn l.c)), .lit (.int .u64 (nn l.d))]) [] := by
  refine ⟨2, ?_⟩
  have r : List.range 4 = [0, 1, 2, 3] := rfl
  have c34 : Tryz.prog.cellsOf 34 = 4 := by kernel_rfl
  have wx := wf_nn l.a
  have wy := wf_nn l.b
  have wz := wf_nn l.c
  have wu := wf_nn l.d
  simp [a4v, DataW.trod, Tryz.underlying34, Tryz.underlying22, Value.cells, r, cells22, c34, wx, wy, wz, wu]
end
theorem Con.walk {P : Program} {f : FuncId} {a : Array Value} {b : Bool} (h : Con P f a (.bool b)) (hb : b = true) (w : World) : Calls P f a w fun e w' => e = .returned (.bool true) ∧ Below w.heap.size w w' := by
  subst hb; exact (h w).2
theorem known_true : m_barbicanlaw7_known = true := by kernel_rfl
end Go.Proofs.YtmhiiahfjoijgaaGreat
