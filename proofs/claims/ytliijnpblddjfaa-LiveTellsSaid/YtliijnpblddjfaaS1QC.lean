/-
  Instructions: the reference's words on one slot are the program's.
-/
import Derived.Test.YtliijnpblddjfaaRxJ
import Derived.Test.YtliijnpblddjfaaFM
import Derived.Test.YtliijnpblddjfaaS1CC
namespace Go.Proofs.Ytliijnpblddjfaa
open Go.RowKit
set_option linter.unusedVariables false
set_option linter.unusedSimpArgs false
set_option maxRecDepth 100000
theorem zCU (s : BitVec 8) : (s == 0#8, s == 1#8, s == 4#8, BitVec.ult 1#8 s) = (true, false, false, false) ∨ (s == 0#8, s == 1#8, s == 4#8, BitVec.ult 1#8 s) = (false, true, false, false) ∨ (s == 0#8, s == 1#8, s == 4#8, BitVec.ult 1#8 s) = (false, false, true, true) ∨ (s == 0#8, s == 1#8, s == 4#8, BitVec.ult 1#8 s) = (false, false, false, true) := by
  revert s; decide +kernel
theorem zCV (i : BitVec 32) : (i == 0#32, i == 16#32, i == 32#32, i == 64#32) = (true, false, false, false) ∨ (i == 0#32, i == 16#32, i == 32#32, i == 64#32) = (false, true, false, false) ∨ (i == 0#32, i == 16#32, i == 32#32, i == 64#32) = (false, false, true, false) ∨ (i == 0#32, i == 16#32, i == 32#32, i == 64#32) = (false, false, false, true) ∨ (i == 0#32, i == 16#32, i == 32#32, i == 64#32) = (false, false, false, false) := by
  by_cases h0 : i = 0#32
  · subst h0; simp
  · by_cases h1 : i = 16#32
    · subst h1; simp
    · by_cases h2 : i = 32#32
      · subst h2; simp
      · by_cases h3 : i = 64#32
        · subst h3; simp
        · simp [h0, h1, h2, h3]
set_option maxHeartbeats 4000000 in
theorem zAb (x : Insn) : zdT x = zw x := by
  obtain ⟨o, d, s, f, i⟩ := x
  have hs := zCU s
  have hi := zCV i
  unfold zdT zw zf7 zfW zn zdu zc2 zdA zc5 zck zcd zcg zch zcq zcA zcB zcr zcp zcC zcy zeh zK zT zk zY
  dsimp only
  rw [show (f == f) = true from beq_self_eq_true f]
  generalize (s == 0#8) = s0 at *
  generalize (s == 1#8) = s1 at *
  generalize (s == 4#8) = s4 at *
  generalize (BitVec.ult 1#8 s) = sg at *
  generalize (i == 0#32) = i0 at *
  generalize (i == 16#32) = i16 at *
  generalize (i == 32#32) = i32 at *
  generalize (i == 64#32) = i64 at *
  generalize (d == 0#8) = d0 at *
  generalize (f == 0#16) = f0 at *
  clear s i d f
  simp only [Prod.mk.injEq] at hs hi
  rcases hs with ⟨rfl, rfl, rfl, rfl⟩ | ⟨rfl, rfl, rfl, rfl⟩ | ⟨rfl, rfl, rfl, rfl⟩ | ⟨rfl, rfl, rfl, rfl⟩ <;> rcases hi with ⟨rfl, rfl, rfl, rfl⟩ | ⟨rfl, rfl, rfl, rfl⟩ | ⟨rfl, rfl, rfl, rfl⟩ | ⟨rfl, rfl, rfl, rfl⟩ | ⟨rfl, rfl, rfl, rfl⟩ <;> (revert o d0 f0; decide +kernel)
end Go.Proofs.Ytliijnpblddjfaa
/-
  Instructions: the reference's words on known slots are the program's.
-/
namespace Go.Proofs.Ytliijnpblddjfaa
open Go.RowKit
set_option linter.unusedVariables false
set_option linter.unusedSimpArgs false
set_option maxRecDepth 100000
/-- The Ops of known operations, as far as it matters. -/
def okOp (o : BitVec 8) : Bool :=
  (!(o &&& 7#8 == 5#8) || (o == 5#8 || (o == 133#8 || (o == 149#8 || !(o >>> 4 == 0#8 || (o >>> 4 == 8#8 || o >>> 4 == 9#8)))))) && (!(o &&& 7#8 == 6#8) || !(o >>> 4 == 0#8 || (o >>> 4 == 8#8 || o >>> 4 == 9#8)))
set_option maxHeartbeats 4000000 in
theorem zuZ {x : Insn} (h : zw x = true) : okOp x.fOp = true := by
  obtain ⟨o, d, s, f, i⟩ := x
  revert h
  unfold zw zf7 zfW zn okOp
  dsimp only
  generalize (f == f) = ff
  generalize (s == 0#8) = s0
  generalize (s == 1#8) = s1
  generalize (s == 4#8) = s4
  generalize (i == 0#32) = i0
  generalize (i == 16#32) = i16
  generalize (i == 32#32) = i32
  generalize (i == 64#32) = i64
  generalize (d == 0#8) = d0
  generalize (f == 0#16) = f0
  clear s i d f
  have key : ∀ (o : BitVec 8) (a : Bool), ((!(o &&& 7#8 == 5#8) || (o == 5#8 || (o == 133#8 || (o == 149#8 || !(o >>> 4 == 0#8 || (o >>> 4 == 8#8 || o >>> 4 == 9#8)))))) && (!(o &&& 7#8 == 6#8) || !(o >>> 4 == 0#8 || (o >>> 4 == 8#8 || o >>> 4 == 9#8)))) = false →
      (o == 24#8) = false ∧ (o == 98#8) = false ∧ (o == 106#8) = false ∧ (o == 114#8) = false ∧ (o == 122#8) = false ∧ (o == 97#8) = false ∧ (o == 105#8) = false ∧ (o == 113#8) = false ∧ (o == 121#8) = false ∧ (o == 99#8) = false ∧ (o == 107#8) = false ∧ (o == 115#8) = false ∧ (o == 123#8) = false ∧ (o == 5#8) = false ∧ (o == 133#8) = false ∧ (o == 149#8) = false ∧ ((o &&& 7#8) == 4#8) = false ∧ ((o &&& 7#8) == 7#8) = false ∧ ((o >>> 4) == 1#8) = false ∧ ((o >>> 4) == 2#8) = false ∧ ((o >>> 4) == 3#8) = false ∧ ((o >>> 4) == 4#8) = false ∧ ((o >>> 4) == 5#8) = false ∧ ((o >>> 4) == 6#8) = false ∧ ((o >>> 4) == 7#8) = false ∧ ((o >>> 4) == 10#8) = false ∧ ((o >>> 4) == 11#8) = false ∧ ((o >>> 4) == 12#8) = false ∧ ((o >>> 4) == 13#8) = false := by decide +kernel
  intro h
  rcases Bool.eq_false_or_eq_true (((!(o &&& 7#8 == 5#8) || (o == 5#8 || (o == 133#8 || (o == 149#8 || !(o >>> 4 == 0#8 || (o >>> 4 == 8#8 || o >>> 4 == 9#8)))))) && (!(o &&& 7#8 == 6#8) || !(o >>> 4 == 0#8 || (o >>> 4 == 8#8 || o >>> 4 == 9#8))))) with hb | hb
  rotate_left
  · obtain ⟨h1, h2, h3, h4, h5, h6, h7, h8, h9, h10, h11, h12, h13, h14, h15, h16, h17, h18, h19, h20, h21, h22, h23, h24, h25, h26, h27, h28, h29⟩ := key o true hb
    rw [h1, h2, h3, h4, h5, h6, h7, h8, h9, h10, h11, h12, h13, h14, h15, h16, h17, h18, h19, h20, h21, h22, h23, h24, h25, h26, h27, h28, h29] at h
    revert h
    cases ((o &&& 7#8) == 5#8) <;> cases ((o &&& 7#8) == 6#8) <;> simp
  · exact hb
theorem zww {x : Insn} (h : zw x = true) : zca x = zs x := by
  have ho := zuZ h
  clear h
  obtain ⟨o, d, s, f, i⟩ := x
  revert ho
  unfold zca zs zi zK zk zY
  dsimp only
  generalize (s == 1#8) = s1
  generalize (s == 4#8) = s4
  clear s
  revert o s1 s4
  decide +kernel
theorem zAV {x : Insn} (h : zw x = true) : zdC x = ((x.fOp == 133#8) && (x.fSrc == 0#8)) := by
  have ho := zuZ h
  clear h
  obtain ⟨o, d, s, f, i⟩ := x
  revert ho
  unfold zdC zi zk zY
  dsimp only
  generalize (s == 0#8) = s1
  clear s
  revert o s1
  decide +kernel
theorem zzd (x : Insn) : zdy x = zdc x := by
  obtain ⟨o, d, s, f, i⟩ := x
  unfold zdy zdc zk
  dsimp only
  clear d s f i
  revert o
  decide +kernel
theorem zvr {x : Insn} (h : zw x = true) : zi x 9 = (x.fOp == 149#8) := by
  have ho := zuZ h
  clear h
  obtain ⟨o, d, s, f, i⟩ := x
  revert ho
  unfold zi zk zY
  dsimp only
  clear d s f i
  revert o
  decide +kernel
theorem zAi {x : Insn} (h : zw x = true) : zi x 0 = (x.fOp == 5#8) := by
  have ho := zuZ h
  clear h
  obtain ⟨o, d, s, f, i⟩ := x
  revert ho
  unfold zi zk zY
  dsimp only
  clear d s f i
  revert o
  decide +kernel
theorem zyH {x : Insn} (h : zw x = true) : (zi x 0 || zbj x) = zV x := by
  have ho := zuZ h
  clear h
  obtain ⟨o, d, s, f, i⟩ := x
  revert ho
  unfold zi zbj zV zk zY
  dsimp only
  clear d s f i
  revert o
  decide +kernel
end Go.Proofs.Ytliijnpblddjfaa
/-
  Instructions: the reference's second slots, and what it says of a slot by itself.
-/
namespace Go.Proofs.Ytliijnpblddjfaa
open Go.RowKit
set_option linter.unusedVariables false
set_option linter.unusedSimpArgs false
set_option maxRecDepth 100000
theorem zsj {n : Nat} (hn : n ≤ 1000000) (A : Nat → Insn) : ∃ G, zb9 n A = some (.e0 G) ∧ ∀ k, k < n → G k = sec A k := by
  have h0 : ∃ k : Nat, (1 : Int) = (k : Int) ∧ 1 ≤ k ∧ (k ≤ n ∨ k = 1) ∧ ∀ j, j < k → (fun _ => false) j = sec A j := ⟨1, rfl, Nat.le_refl _, .inr rfl, fun j hj => by
    have hj0 : j = 0 := by omega
    subst hj0
    rfl⟩
  have key : ∃ r, lpO (zbu n A) (.c0 (fun _ => false) 1) = some r ∧ ∃ G, r = .e0 G ∧ ∀ k, k < n → G k = sec A k := by
    refine zgD (st := zbu n A) (fun s => match s with | .c0 G x => ∃ k : Nat, x = (k : Int) ∧ 1 ≤ k ∧ (k ≤ n ∨ k = 1) ∧ ∀ j, j < k → G j = sec A j) (fun s => match s with | .c0 G x => n + 1 - x.toNat)
      (fun _ r => ∃ G, r = .e0 G ∧ ∀ k, k < n → G k = sec A k) ?_ _ h0
    rintro ⟨G, x⟩ ⟨k, rfl, h1, hk, hG⟩
    by_cases h : k < n
    · obtain ⟨i, rfl⟩ : ∃ i, k = i + 1 := ⟨k - 1, by omega⟩
      have e1 : IntKind.i64.wrap (((i + 1 : Nat) : Int) - 1) = (i : Int) := by rw [wz] <;> omega
      have e2 : IntKind.i64.wrap (((i + 1 : Nat) : Int) + 1) = ((i + 1 + 1 : Nat) : Int) := by rw [wz] <;> omega
      refine .inl ⟨.c0 (updF G (i + 1) (sec A (i + 1))) ((i + 1 + 1 : Nat) : Int), ?_, ⟨i + 1 + 1, rfl, by omega, .inl (by omega), fun j hj => ?_⟩, by show n + 1 - ((i + 1 + 1 : Nat) : Int).toNat < n + 1 - ((i + 1 : Nat) : Int).toNat; omega, fun r hr => hr⟩
      · unfold zbu
        dsimp only
        have hw : zK (A i) = zgG (A i) := rfl
        have hsec : sec A (i + 1) = (zgG (A i) && !sec A i) := rfl
        rw [e1, e2]
        simp only [Int.toNat_natCast]
        rw [bd_t (by omega), bi_t (by omega), hw, bi_t (by omega), bi_t (by omega), bi_t (by omega), hG i (by omega), hsec]
        cases zgG (A i) <;> cases sec A i <;> rfl
      · rw [zuD]
        by_cases c : j = i + 1
        · rw [if_pos c, c]
        · rw [if_neg c]; exact hG j (by omega)
    · refine .inr ⟨.e0 G, ?_, G, rfl, fun j hj => hG j (by omega)⟩
      unfold zbu
      dsimp only
      rw [bd_f (by omega)]
  obtain ⟨r, hr, G, rfl, hG⟩ := key
  refine ⟨G, ?_, hG⟩
  unfold zb9
  rw [bi_t (by omega), hr]
  rfl
theorem zBC {n : Nat} (A : Nat → Insn) {k : Nat} (hk : k ≤ 1000000) {y : Int} (h0 : -4000000000 ≤ y) (h1 : y ≤ 4000000000) : zbm n A (k : Int) y = if 0 ≤ (k : Int) + 1 + y ∧ (k : Int) + 1 + y < n then (k : Int) + 1 + y else -1 := by
  have e1 : IntKind.i64.wrap ((k : Int) + 1) = (k : Int) + 1 := by rw [wz] <;> omega
  have e2 : IntKind.i64.wrap ((k : Int) + 1 + y) = (k : Int) + 1 + y := by rw [wz] <;> omega
  unfold zbm
  rw [e1, e2]
  by_cases c : (k : Int) + 1 + y < 0
  · rw [bd_t c, if_neg (by omega)]
  · rw [bd_f c]
    by_cases c2 : (n : Int) ≤ (k : Int) + 1 + y
    · rw [bd_t c2, if_neg (by omega)]
    · rw [bd_f c2, if_pos (by omega)]
theorem zB6 {n : Nat} (hn : n ≤ 4096) {A : Nat → Insn} {G : Nat → Bool} (hG : ∀ k, k < n → G k = sec A k) {k : Nat} (hk : k < n) : zfx n A n G (k : Int) = some (errB n A k) := by
  have h32 := ii32 (A k).fImm
  have e1 : IntKind.i64.wrap ((k : Int) + 1) = ((k + 1 : Nat) : Int) := by rw [wz] <;> omega
  have ht := zBC (n := n) A (k := k) (by omega) (y := ii (A k).fImm) (by omega) (by omega)
  have hcall : ∀ f : Bool → Option Int, ((zv (zbm n A (k : Int) (ii (A k).fImm)) fun r3 => (zdk n G r3).bind f)) = f (!ztQ n A ((k : Int) + 1 + ii (A k).fImm)) := fun f => by
    rw [ht]
    unfold zv zdk ztQ
    generalize hz : (k : Int) + 1 + ii (A k).fImm = z
    by_cases c : 0 ≤ z ∧ z < n
    · rw [if_pos c]
      dsimp only
      by_cases c1 : z < 1
      · rw [bd_t c1, dd_f (p := 0 < z) (by omega)]; rfl
      · rw [bd_f c1, bi_t c, dd_t (p := 0 < z) (by omega), dd_t (p := z < n) (by omega), hG _ (by omega)]
        cases sec A z.toNat <;> rfl
    · rw [if_neg c]
      dsimp only
      rw [bd_t (by omega)]
      by_cases c1 : 0 < z
      · rw [dd_t c1, dd_f (p := z < n) (by omega)]; rfl
      · rw [dd_f c1]; rfl
  have hcall' : ∀ f : Bool → Option Int, ((zv (zbm n A (k : Int) (ii (A k).fImm)) fun r3 => (zd6 n G r3).bind f)) = f (!ztQ n A ((k : Int) + 1 + ii (A k).fImm)) := hcall
  have hw : zK (A k) = zgG (A k) := rfl
  unfold zfx
  rw [bi_t (by omega)]
  simp only [Int.toNat_natCast]
  rw [zAb]
  unfold errB
  cases hkn : zw (A k)
  · rfl
  simp only [hcall, hcall', hw, zww hkn]
  rw [b_t]
  unfold zeb zed zee
  simp only [Int.toNat_natCast, zzd, zAV hkn, e1]
  have hr : zpx n A k = !(bif ((k + 1 : Nat) : Int) == (n : Int) then true else zcU A (k : Int)) := by
    unfold zpx zcU
    simp only [e1, Int.toNat_natCast]
    by_cases c : k + 1 < n
    · rw [dd_t c, bz_f (by omega)]
      cases (A (k + 1)).fOp == 0#8 <;> cases (A (k + 1)).fDst == 0#8 <;> cases (A (k + 1)).fSrc == 0#8 <;> cases (A (k + 1)).fOff == 0#16 <;> cases (A k).fSrc == 0#8 <;> cases (A (k + 1)).fImm == 0#32 <;> rfl
    · rw [dd_f c, bz_t (by omega)]; rfl
  by_cases c : k + 1 < n
  · rw [bz_f (show ((k + 1 : Nat) : Int) ≠ (n : Int) by omega)] at hr ⊢
    rw [bi_t (by omega)]
    rw [hr]
    unfold zv
    generalize BitVec.ult 10#8 (A k).fDst = b2
    generalize BitVec.ult 10#8 (A k).fSrc = b3
    generalize ((A k).fDst == 10#8) = b4
    generalize zdc (A k) = b5
    generalize zgG (A k) = b6
    generalize zcU A (k : Int) = b7
    generalize ((A k).fOp == 133#8) = b8
    generalize ((A k).fSrc == 0#8) = b9
    generalize BitVec.slt (A k).fImm 1#32 = b10
    generalize BitVec.slt 28#32 (A k).fImm = b11
    generalize zs (A k) = b12
    generalize ztQ n A ((k : Int) + 1 + ii (A k).fImm) = b13
    revert b2 b3 b4 b5 b6 b7 b8 b9 b10 b11 b12 b13
    decide +kernel
  · rw [bz_t (show ((k + 1 : Nat) : Int) = (n : Int) by omega)] at hr ⊢
    rw [hr]
    unfold zv
    generalize BitVec.ult 10#8 (A k).fDst = b2
    generalize BitVec.ult 10#8 (A k).fSrc = b3
    generalize ((A k).fDst == 10#8) = b4
    generalize zdc (A k) = b5
    generalize zgG (A k) = b6
    generalize ((A k).fOp == 133#8) = b8
    generalize ((A k).fSrc == 0#8) = b9
    generalize BitVec.slt (A k).fImm 1#32 = b10
    generalize BitVec.slt 28#32 (A k).fImm = b11
    generalize zs (A k) = b12
    generalize ztQ n A ((k : Int) + 1 + ii (A k).fImm) = b13
    revert b2 b3 b4 b5 b6 b8 b9 b10 b11 b12 b13
    decide +kernel
end Go.Proofs.Ytliijnpblddjfaa
