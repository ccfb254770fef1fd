/-
  How the arguments of layer 1's laws are opened and shut.
-/
import Derived.Test.YtmlkiamemkfdlaaRxU
import Derived.Test.YtmlkiamemkfdlaaProg
import Derived.Test.YtmlkiamemkfdlaaRows
import Derived.Lib.SmallJoins
import Derived.ProofKit
import Derived.ChangeSame
import Derived.ChangeSlices
namespace Go.Proofs.Ytmlkiamemkfdlaa
open Go.ChangeShapes Go.WideShapes Go.ChangeAt Go.RowKit Go.Joins
set_option linter.unusedVariables false
set_option linter.unusedSimpArgs false
theorem own : ownKnob Try.prog.godebug = none := by kernel_rfl
theorem cells5 : Try.prog.cellsOf 5 = 1 := by kernel_rfl
section
variable {H : Type} {enc : TypeId × Value → H} {P : Program}
theorem post_of_below {f : Func} {s : ChangeSpec} {apart fresh handsOn again : Bool} {W W' : World} {args : Array Value} {v : Value} {ds gs : List (DataW H)} {before pa pv : List MemPlace}
    (hW : DataW.Whole enc P f.params.toList s.vars apart W args.toList ds gs before)
    (hres : ∀ (b : Nat) (sp : Nat → Bool) (hd : Bool), DataW.TrodAll enc P W' b sp hd f.resultTypes.toList (v.resultList f.resultTypes.size) (s.fn H (ds ++ gs)).results [])
    (hargs : ∀ sp : Nat → Bool, (∀ p ∈ before, sp p.block = true) → DataW.TrodAll enc P W' 0 sp true f.params.toList args.toList (s.fn H (ds ++ gs)).args pa)
    (hvars : ∀ sp : Nat → Bool, (∀ p ∈ before, sp p.block = true) → DataW.TrodVars enc P W' sp s.vars (s.fn H (ds ++ gs)).vars pv)
    (hps : before = pa ++ pv) (hb : Below W.heap.size W W')
    (hok : ∀ (j : Nat) (t : TypeId) (r : Value), f.resultTypes[j]? = some t → (v.resultList f.resultTypes.size)[j]? = some r → Value.okWide P W' .any 0 t r) :
    s.post enc P f apart fresh handsOn again W args v W' := by
  have hlt : ∀ p ∈ before, p.block < W.heap.size := fun p hp => hW.lt p hp
  have hold : ∀ p ∈ before, (fun b => decide (b < W.heap.size)) p.block = true := fun p hp => by simpa using hlt p hp
  refine ⟨ds, gs, before, [], pa, pv, hW, hres _ _ _, hargs _ hold, hvars _ hold, World.keptBut_mono (fun p hp => ⟨hp, ?_⟩) (hb.frame (· ∈ before)), fun _ => ?_⟩
  · rw [hps, List.mem_append] at hp
    exact Or.inr hp
  · obtain ⟨_, _, _, _, _, hz, hn⟩ := hW
    refine ⟨hok, _, _, ([] ++ pa) ++ pv, ⟨[] ++ pa, pv, trodAll_append (hargs _ (fun _ _ => rfl)) (hres _ _ _), hvars _ (fun _ _ => rfl), rfl, ?_, ?_⟩, ?_⟩
    · intro b off hp
      have hin : MemPlace.cell b off ∈ before := by rw [hps]; simpa using hp
      rw [hb.frozen (hlt _ hin)]
      exact hz b off hin
    · intro ha
      have := hn ha
      rw [hps] at this
      simpa using this
    · intro p hp _
      rw [hps]
      simpa using hp
end
section
variable {H : Type} {enc : TypeId × Value → H} {P : Program} {w : World} {base : Nat} {spare : Nat → Bool} {held : Bool}
theorem open_u64 {x : Int} (h : (Lit.int .u64 x).wf = true) : ∃ b : BitVec 64, x = nn b := by
  have hb := bounds_u64 h
  refine ⟨BitVec.ofNat 64 x.toNat, ?_⟩
  unfold nn
  rw [BitVec.toNat_ofNat]
  omega
theorem open_i64 {x : Int} (h : (Lit.int .i64 x).wf = true) : ∃ b : BitVec 64, x = ii b := by
  have hb := bounds_i64 h
  refine ⟨BitVec.ofInt 64 x, ?_⟩
  unfold ii
  rw [BitVec.toInt_ofInt, Int.bmod_eq_of_le] <;> omega
theorem open_u8 {x : Int} (h : (Lit.int .u8 x).wf = true) : ∃ b : BitVec 8, x = nn b := by
  have hb := bounds_u8 h
  refine ⟨BitVec.ofNat 8 x.toNat, ?_⟩
  unfold nn
  rw [BitVec.toNat_ofNat]
  omega
theorem wf_nn (b : BitVec 64) : (Lit.int .u64 (nn b)).wf = true := by
  have := b.isLt
  exact WalkArith.wf_u64 (by unfold nn; omega)
end
section
variable {H : Type} {enc : TypeId × Value → H} {P : Program} {W : World}
/-- An argument that is a slice of bytes: how it is opened, and that it reads as it did. -/
theorem open_bytes {t e : TypeId} (ht : P.underlying t = some (.slice e)) (he : P.underlying e = some (.int .u8)) (hc : P.cellsOf e = 1) {r : Reach} {b0 : Nat} {v : Value} {d : DataW H} {p : List MemPlace} (hv : Value.okWide P W r b0 t v) (h : DataW.Trod enc P W 0 (fun _ => true) true t v d p) :
    ∃ (a0 : Option Addr) (n cap : Nat), v = .slice a0 n cap ∧ (∀ W', Below W.heap.size W W' → ∀ sp : Nat → Bool, (∀ q ∈ p, sp q.block = true) → DataW.Trod enc P W' 0 sp true t v d p) ∧
      (0 < n → ∃ (b m : Nat) (c : Array Value) (T : TypeId) (z : Nat × Nat) (bs : Nat → BitVec 8), a0 = some ⟨b, m, none⟩ ∧ W.heap[b]? = some (.cells c T z) ∧ ∀ k, k < n → c[m + k]? = some (.int .u8 (nn (bs k)))) := by
  obtain ⟨a0, len, cap, rfl⟩ := okWide_slice ht hv
  obtain ⟨fuel, hf⟩ := h
  refine ⟨a0, len, cap, rfl, ?_⟩
  rcases open_ints ht he hc hf with ⟨hcs, hx⟩ | ⟨a, len', cap', zs, hcs, _, hl, hm, hz, hx, hcell, hwz⟩
  · simp [Value.cells] at hcs
    obtain ⟨rfl, rfl, rfl⟩ := hcs
    simp only [Prod.mk.injEq] at hx
    obtain ⟨rfl, rfl⟩ := hx
    exact ⟨fun W' _ sp _ => shut_slice_nil ht, fun h => absurd h (by omega)⟩
  · simp [Value.cells] at hcs
    obtain ⟨rfl, rfl, rfl⟩ := hcs
    simp only [Prod.mk.injEq] at hx
    obtain ⟨rfl, rfl⟩ := hx
    simp only [if_true] at hz
    refine ⟨fun W' hb sp hsp => ?_, fun hn => ?_⟩
    · have hcell' : ∀ i, i < zs.length → W'.cell? (a.add i) = some (.int .u8 (zs.getD i 0)) := fun i hi => by
        rw [hb.cell (World.block_lt_of_cell? W _ (hcell i hi))]; exact hcell i hi
      by_cases hz0 : zs.length = 0
      · have hc0 : cap = 0 := by omega
        have hl0 : len = 0 := by omega
        subst hc0; subst hl0
        have t0 := shut_ints (enc := enc) (w := W') (base := 0) (spare := sp) (held := true) (a := a) (len := 0) (cap := 0) (zs := zs) 0 ht he hc (Nat.zero_le _) (Nat.le_refl _) hm (by simp [hz0]) hcell' hwz
        exact ⟨2, by simpa [Value.cells] using t0⟩
      · have hspb : sp a.block = true := by
          have := hsp (.cell a.block a.off) (MemPlace.mem_row.2 ⟨0, by omega, by simp⟩)
          exact this
        have t0 := shut_ints (enc := enc) (w := W') (base := 0) (spare := sp) (held := true) (a := a) (len := len) (cap := cap) (zs := zs) 0 ht he hc (Nat.zero_le _) hl hm (by simp [hspb, hz]) hcell' hwz
        exact ⟨2, by simpa [Value.cells] using t0⟩
    · have h0 := hcell 0 (by omega)
      have ea : a.add 0 = a := by simp [Addr.add]
      rw [ea] at h0
      have hspot : a.spot = none := by
        cases hsp : a.spot with
        | none => rfl
        | some x =>
          simp only [World.cell?, hsp] at h0
          split at h0 <;> simp at h0
      have hblk : ∃ c T z, W.heap[a.block]? = some (.cells c T z) := by
        simp only [World.cell?] at h0
        split at h0
        · rename_i c T z hc; exact ⟨c, T, z, hc⟩
        · cases h0
      obtain ⟨c, T, z, hblk⟩ := hblk
      refine ⟨a.block, a.off, c, T, z, fun k => BitVec.ofNat 8 (zs.getD k 0).toNat, by cases a; simp at hspot; subst hspot; rfl, hblk, fun k hk => ?_⟩
      have hk1 := hcell k (by omega)
      have hadd : a.add k = ⟨a.block, a.off + k, none⟩ := by
        unfold Addr.add
        split
        · rename_i h; subst h; cases a; simp at hspot; subst hspot; rfl
        · rfl
      rw [hadd] at hk1
      have hk2 : c[a.off + k]? = some (.int .u8 (zs.getD k 0)) := by simpa [World.cell?, hblk] using hk1
      rw [hk2]
      have hw := hwz (zs.getD k 0) (by
        rw [List.getD_eq_getElem?_getD, List.getElem?_eq_getElem (by omega)]; simp)
      have hb := bounds_u8 hw
      congr 2
      unfold nn
      rw [BitVec.toNat_ofNat]
      omega
end
theorem Con.walk' {P : Program} {f : FuncId} {a : Array Value} {w : World} (h : Calls P f a w fun e w' => e = .returned (.bool true) ∧ Below w.heap.size w w') : Calls P f a w fun e w' => e = .returned (.bool true) ∧ Below w.heap.size w w' := h
end Go.Proofs.Ytmlkiamemkfdlaa
