/-
  What slots read and write, where they go on: the program's and the document's are alike, in plain words.
-/
import Derived.Test.YtliijnpblddjfaaLGA
import Derived.Test.YtliijnpblddjfaaLTM
namespace Go.Proofs.Ytliijnpblddjfaa
open Go.RowKit
set_option linter.unusedVariables false
set_option linter.unusedSimpArgs false
/-- Where the slot k goes on, in order. -/
noncomputable def nxN (A : Nat → Insn) (k : Nat) : Nat :=
  bif (A k).fOp == 149#8 then 0 else bif zV (A k) then (bif (A k).fOp == 5#8 then 1 else bif (A k).fOff == 0#16 then 1 else 2) else 1
noncomputable def nxL (A : Nat → Insn) (k : Nat) (i : Nat) : Int :=
  bif zV (A k) then (bif (A k).fOp == 5#8 then (k : Int) + 1 + ii (A k).fOff else bif i == 0 then (k : Int) + 1 else (k : Int) + 1 + ii (A k).fOff) else ((k + wid (A k) : Nat) : Int)
theorem b00 {α : Type} {x y : α} : (bif (0 : Nat) == 0 then x else y) = x := rfl
theorem b10 {α : Type} {x y : α} : (bif (1 : Nat) == 0 then x else y) = y := rfl
/-- A list of slots that is that one. -/
def zxy (A : Nat → Insn) (k m : Nat) (L : Nat → Int) : Prop := m = nxN A k ∧ ∀ i, i < m → L i = nxL A k i
theorem zBF (x : BitVec 16) : (x == 0#16) = decide (ii x = 0) := by
  cases h : (x == 0#16)
  · rw [d_f]
    intro c
    have : x = 0#16 := by
      apply BitVec.eq_of_toInt_eq
      exact c
    rw [this] at h
    cases h
  · rw [d_t (zCd _ h)]
section
variable {n N : Nat} {A : Nat → Insn} {P : Nat → Part}
theorem zzB (h : Fine n A N P) {k : Nat} (hk : Slot n A k) : (nxN A k = 0 ∧ zbs n A (k : Int) = some .e0) ∨ ∃ m L, 0 < m ∧ m ≤ 2 ∧ zbs n A (k : Int) = some (.e1 m L) ∧ zxy A k m L := by
  have hm := h.most
  have hkn := hk.1
  have hw := zw0 (A k)
  have ew : IntKind.i64.wrap ((k : Int) + (wid (A k) : Int)) = ((k + wid (A k) : Nat) : Int) := by rw [wr] <;> omega
  unfold zbs zxy nxN nxL
  rw [ct (zt hk.1), Int.toNat_natCast, zqc]
  simp only [zv]
  cases hx : ((A k).fOp == 149#8)
  · rw [cf rfl, cf rfl, ew]
    refine .inr ?_
    cases hj : zV (A k)
    · rw [cf rfl, cf rfl]
      exact ⟨1, _, by omega, by omega, rfl, rfl, fun i hi => rfl⟩
    · rw [ct rfl, ct rfl, zxe h hk hj]
      simp only [Option.bind_some]
      cases h5 : ((A k).fOp == 5#8)
      · rw [cf rfl, cf rfl, zBF, zy2 hj]
        by_cases c : ii (A k).fOff = 0
        · rw [ct (by rw [c]; simp), d_t c, ct rfl]
          refine ⟨1, _, by omega, by omega, rfl, rfl, fun i hi => ?_⟩
          obtain rfl : i = 0 := by omega
          rw [ct rfl, cf rfl, b00, c]
          omega
        · rw [cf (by rw [beq_eq_false_iff_ne]; omega), d_f c, cf rfl]
          refine ⟨2, _, by omega, by omega, rfl, rfl, fun i hi => ?_⟩
          rcases (show i = 0 ∨ i = 1 by omega) with rfl | rfl
          · rw [ct rfl, cf rfl, b00, zbW _ _ (by decide)]
            omega
          · rw [ct rfl, cf rfl, b10, zcM]
      · rw [ct rfl, ct rfl]
        refine ⟨1, _, by omega, by omega, rfl, rfl, fun i hi => ?_⟩
        rw [ct rfl, ct rfl]
  · rw [ct rfl, ct rfl]
    exact .inl ⟨rfl, rfl⟩
theorem zAo (h : Fine n A N P) {k : Nat} (hk : Slot n A k) : (nxN A k = 0 ∧ zco n A (k : Int) = some .e0) ∨ ∃ m L, 0 < m ∧ m ≤ 2 ∧ zco n A (k : Int) = some (.e1 m L) ∧ zxy A k m L := by
  have hm := h.most
  have hkn := hk.1
  have kn := h.known hk.1 hk.2
  have h16 := ii16 (A k).fOff
  have e1 : IntKind.i64.wrap ((k : Int) + 1) = (k : Int) + 1 := by rw [wr] <;> omega
  have e2 : IntKind.i64.wrap ((k : Int) + 2) = (k : Int) + 2 := by rw [wr] <;> omega
  have e3 : IntKind.i64.wrap ((k : Int) + 1 + ii (A k).fOff) = (k : Int) + 1 + ii (A k).fOff := by rw [wr] <;> omega
  have je := zyH kn
  unfold zco zbQ zxy nxN nxL
  rw [ct (zt hk.1), Int.toNat_natCast, e1, e2, e3, zvr kn]
  rw [zAi kn] at je ⊢
  cases hx : ((A k).fOp == 149#8)
  · rw [cf rfl, cf rfl]
    refine .inr ?_
    cases hj : zV (A k)
    · rw [hj, Bool.or_eq_false_iff] at je
      rw [je.1, je.2, cf rfl, cf rfl, cf rfl]
      have wd : wid (A k) = if ((A k).fOp == 24#8) = true then 2 else 1 := rfl
      unfold zK
      cases hw : ((A k).fOp == 24#8)
      · rw [hw] at wd
        rw [cf rfl, Option.bind_some]
        refine ⟨1, _, by omega, by omega, rfl, rfl, fun i hi => ?_⟩
        show (k : Int) + 1 = _
        rw [cf rfl, wd]
        simp
      · rw [hw] at wd
        rw [ct rfl, Option.bind_some]
        refine ⟨1, _, by omega, by omega, rfl, rfl, fun i hi => ?_⟩
        show (k : Int) + 2 = _
        rw [cf rfl, wd]
        simp
    · rw [ct rfl]
      cases h5 : ((A k).fOp == 5#8)
      · rw [hj, h5, Bool.false_or] at je
        rw [cf rfl, je, ct rfl, cf rfl]
        cases h0 : ((A k).fOff == 0#16)
        · rw [cf rfl, cf rfl, Option.bind_some]
          refine ⟨2, _, by omega, by omega, rfl, rfl, fun i hi => ?_⟩
          rcases (show i = 0 ∨ i = 1 by omega) with rfl | rfl
          · rw [ct rfl, cf rfl, b00, zbW _ _ (by decide)]
          · rw [ct rfl, cf rfl, b10, zcM]
        · rw [ct rfl, ct rfl, Option.bind_some]
          refine ⟨1, _, by omega, by omega, rfl, rfl, fun i hi => ?_⟩
          obtain rfl : i = 0 := by omega
          rw [ct rfl, cf rfl, b00]
      · rw [ct rfl, ct rfl, Option.bind_some]
        refine ⟨1, _, by omega, by omega, rfl, rfl, fun i hi => ?_⟩
        rw [ct rfl, ct rfl]
  · rw [ct rfl, ct rfl, Option.bind_some]
    exact .inl ⟨rfl, rfl⟩
/-- Where it goes on there is a slot. -/
theorem zCX (h : Fine n A N P) {k : Nat} (hk : Slot n A k) {i : Nat} (hi : i < nxN A k) : ∃ t : Nat, nxL A k i = (t : Int) ∧ t < n := by
  rcases zzg h hk with ⟨hx, e⟩ | ⟨m, L, e, hL⟩
  · unfold nxN at hi
    rw [hx, ct rfl] at hi
    omega
  · rcases zzB h hk with ⟨h0, _⟩ | ⟨m', L', _, _, e', hm, hL'⟩
    · omega
    · rw [e] at e'
      injection e' with e'
      injection e' with e1 e2
      subst e1 e2
      obtain ⟨t, et, he⟩ := hL.2.1 i (by omega)
      exact ⟨t, by rw [← hL' i (by omega)]; exact et, (h.edge hk he).1⟩
end
/-! ### What a slot reads and writes -/
theorem zC9 {A : Nat → Insn} : (errB 1 A 0 == 11) = !zw (A 0) := by
  unfold errB
  cases zw (A 0)
  · rfl
  · generalize (BitVec.ult 10#8 (A 0).fDst || (BitVec.ult 10#8 (A 0).fSrc || (((A 0).fDst == 10#8) && zdc (A 0)))) = b2
    generalize (zgG (A 0) && !zpx 1 A 0) = b3
    generalize (((A 0).fOp == 133#8) && (((A 0).fSrc == 0#8) && (BitVec.slt (A 0).fImm 1#32 || BitVec.slt 28#32 (A 0).fImm))) = b4
    generalize (zs (A 0) && !ztQ 1 A (((0 : Nat) : Int) + 1 + ii (A 0).fImm)) = b5
    revert b2 b3 b4 b5
    decide
theorem zCi (x : Insn) : ∃ r, zb0 1 (fun _ => x) = some r ∧ (r.2 == 11) = !zw x := by
  obtain ⟨r, hr, hc⟩ := zuG 1 (fun _ => x)
  refine ⟨r, hr, ?_⟩
  have e11 := zC9 (A := fun _ => x)
  have kn : okTo 1 (fun _ => x) 1 → zw x = true := fun h => zpD (h 0 (by omega) (by omega) rfl)
  have of : ∀ {N : Nat} {P : Nat → Part}, SubsIs 1 (fun _ => x) (.e1 N P) → zw x = true := fun h => by
    cases h with
    | fine _ _ hok => exact kn hok
  cases hc with
  | subs a e h =>
    cases h with
    | many h => omega
    | slot hn k hk hs he hok =>
      obtain rfl : k = 0 := by omega
      exact e11
    | subs _ _ hok => rw [kn hok]; rfl
    | ends _ _ hok => rw [kn hok]; rfl
  | jump N P h => rw [of h]; rfl
  | fine N P h => rw [of h]; rfl
theorem zmN (x : Insn) : ziO x = some (zw x && (!BitVec.ult 10#8 x.fDst && !BitVec.ult 10#8 x.fSrc)) := by
  obtain ⟨r, hr, e⟩ := zCi x
  unfold ziO
  rw [hr, Option.bind_some, e]
  cases zw x
  · rfl
  · rw [cf (b := !true) rfl]
    cases BitVec.ult 10#8 x.fDst <;> rfl
/-- The registers that arguments are. -/
def tkA (x : zde) : BitVec 16 :=
  let r0 := if x.x0 = 0 then 0#16 else 2#16
  let r1 := if x.x1 = 0 then r0 else r0 ||| 4#16
  let r2 := if x.x2 = 0 then r1 else r1 ||| 8#16
  let r3 := if x.x3 = 0 then r2 else r2 ||| 16#16
  if x.x4 = 0 then r3 else r3 ||| 32#16
theorem zsQ {r : zZ × Int} {v : BitVec 16} {k : Nat} (hk : k < 5) : lpO (zdb r) (.c0 v (k : Int)) = lpO (zdb r) (.c0 (if zvN r.1.fArgs k = 0 then v else v ||| (1#16 <<< (k + 1))) ((k + 1 : Nat) : Int)) := by
  refine zdd ?_
  unfold zdb
  simp only
  rw [ct (d_t (by omega)), ct (zt hk), Int.toNat_natCast, zjU (by omega)]
  by_cases c : zvN r.1.fArgs k = 0
  · rw [ct (by rw [c]; rfl), if_pos c]
  · rw [cf (by simpa using c), ct (d_t (by omega)), if_neg c, Int.toNat_natCast]
theorem zzz (r : zZ × Int) : lpO (zdb r) (.c0 (0#16) 0) = some (.e0 (tkA r.1.fArgs)) := by
  have h0 := zsQ (r := r) (v := 0#16) (k := 0) (by omega)
  have h0 : lpO (zdb r) (.c0 (0#16) 0) = _ := h0
  rw [h0, zsQ (by omega), zsQ (by omega), zsQ (by omega), zsQ (by omega)]
  rw [zfz (r := .e0 _) (by
    unfold zdb
    simp only
    rw [cf (d_f (by omega))])]
  obtain ⟨⟨nm, ⟨a0, a1, a2, a3, a4⟩, b, c, d, e⟩, z⟩ := r
  unfold tkA zvN
  simp
/-- What a helper takes, by the document. -/
noncomputable def tkR (y : Int) : Option (BitVec 16 × Bool) :=
  (zes y).bind fun r2 =>
        bif r2.2 == 0 then
          (zv (zz r2.1) fun r3 =>
          bif decide (0 ≤ (IntKind.i64.wrap (r3 + 1))) then
            (some (((1#16 <<< ((IntKind.i64.wrap (r3 + 1))).toNat) - 2#16), true))
          else (none))
        else (some (0#16, true))
theorem zDf : ∀ j : Fin 28, zz (tb1 j.val) + 1 = ((Nat.succ (zz (tb1 j.val)).toNat : Nat) : Int) ∧ (zz (tb1 j.val)).toNat < 6 ∧ (1#16 <<< Nat.succ (zz (tb1 j.val)).toNat) - 2#16 = tkA (tb0 (j.val + 1)).fArgs := by
  unfold zz
  decide +kernel
theorem zzW (y : Int) : ∃ v, zkM y = some v ∧ tkR y = some (v, true) := by
  unfold zkM tkR zs0 zes
  by_cases c0 : y < 1
  · rw [ct (d_t c0), ct (d_t c0)]
    refine ⟨0#16, ?_, rfl⟩
    rw [Option.bind_some, zzz]
    rfl
  by_cases c1 : 28 < y
  · rw [cf (d_f c0), ct (d_t c1), cf (d_f c0), ct (d_t c1)]
    refine ⟨0#16, ?_, rfl⟩
    rw [Option.bind_some, zzz]
    rfl
  · obtain ⟨j, hj⟩ := Int.eq_ofNat_of_zero_le (show 0 ≤ y - 1 by omega)
    have hy : y = ((j + 1 : Nat) : Int) := by omega
    subst hy
    have e1 : IntKind.i64.wrap (((j + 1 : Nat) : Int) - 1) = (j : Int) := by rw [wr] <;> omega
    obtain ⟨t1, t2, t3⟩ := zDf ⟨j, by omega⟩
    rw [cf (d_f c0), cf (d_f c1), cf (d_f c0), cf (d_f c1), ct (zt (show j + 1 < 29 by omega)), e1, ct (zt (show j < 28 by omega)), Option.bind_some, Option.bind_some, zzz]
    simp only [Int.toNat_natCast]
    refine ⟨tkA (tb0 (j + 1)).fArgs, rfl, ?_⟩
    rw [ct (by rfl)]
    simp only [zv]
    have t1 : zz (tb1 j) + 1 = ((Nat.succ (zz (tb1 j)).toNat : Nat) : Int) := t1
    have t2 : (zz (tb1 j)).toNat < 6 := t2
    have e2 : IntKind.i64.wrap (zz (tb1 j) + 1) = ((Nat.succ (zz (tb1 j)).toNat : Nat) : Int) := by rw [t1, wr] <;> omega
    show (bif decide (0 ≤ IntKind.i64.wrap (zz (tb1 j) + 1)) then some ((1#16 <<< (IntKind.i64.wrap (zz (tb1 j) + 1)).toNat) - 2#16, true) else none) = _
    rw [e2, ct (d_t (by omega)), Int.toNat_natCast, t3]
end Go.Proofs.Ytliijnpblddjfaa

