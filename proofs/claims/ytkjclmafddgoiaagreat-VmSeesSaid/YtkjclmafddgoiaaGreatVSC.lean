/-
  A law's run in stages: what the letters are; the stages put together.
-/
import Derived.Test.YtkjclmafddgoiaaGreatVSA
import Derived.Test.YtkjclmafddgoiaaGreatVSR0
import Derived.Test.YtkjclmafddgoiaaGreatVSR1
import Derived.Test.YtkjclmafddgoiaaGreatVSR2
import Derived.Test.YtkjclmafddgoiaaGreatVSR3
import Derived.Test.YtkjclmafddgoiaaGreatVSR4
import Derived.Test.YtkjclmafddgoiaaGreatVSR5
import Derived.Test.YtkjclmafddgoiaaGreatVSR6
import Derived.Test.YtkjclmafddgoiaaGreatVSR7
import Derived.Test.YtkjclmafddgoiaaGreatVSR8
import Derived.Test.YtkjclmafddgoiaaGreatVSR9
import Derived.Test.YtkjclmafddgoiaaGreatVSR10
import Derived.Test.YtkjclmafddgoiaaGreatVSR11
import Derived.Test.YtkjclmafddgoiaaGreatVSR12
import Derived.Test.YtkjclmafddgoiaaGreatVSR13
import Derived.Laws.BitsLemmas
namespace Go.Proofs.YtkjclmafddgoiaaGreat.Ev
open Go.RowKit
set_option linter.unusedVariables false
set_option linter.unusedSimpArgs false
set_option linter.unusedSectionVars false
/-! ### Numbers -/
theorem wrapFits (k : IntKind) (n : Int) (h1 : kMin k ≤ n) (h2 : n ≤ kMax k) : k.wrap n = n := by
  cases k <;> simp [IntKind.wrap, IntKind.bits, IntKind.signed, kMin, kMax] at * <;> (try split) <;> omega
theorem w64N {n : Nat} (h : n < 18446744073709551616) : IntKind.u64.wrap (n : Int) = (n : Int) :=
  wrapFits .u64 _ (by show (0 : Int) ≤ _; omega) (by show _ ≤ (18446744073709551615 : Int); omega)
theorem addN {a b : Nat} (h : a + b < 18446744073709551616) : opI .add .u64 (a : Int) (b : Int) = ((a + b : Nat) : Int) := by
  show IntKind.u64.wrap ((a : Int) + (b : Int)) = _
  rw [← Int.natCast_add, w64N h]
theorem mulN {a b : Nat} (h : a * b < 18446744073709551616) : opI .mul .u64 (a : Int) (b : Int) = ((a * b : Nat) : Int) := by
  show IntKind.u64.wrap ((a : Int) * (b : Int)) = _
  rw [← Int.natCast_mul, w64N h]
theorem quoN {a b : Nat} (h : a < 18446744073709551616) : opI .quo .u64 (a : Int) (b : Int) = ((a / b : Nat) : Int) := by
  show IntKind.u64.wrap ((a : Int).tdiv (b : Int)) = _
  have : (a : Int).tdiv (b : Int) = ((a / b : Nat) : Int) := rfl
  rw [this, w64N (Nat.lt_of_le_of_lt (Nat.div_le_self a b) h)]
theorem remN (a b : Nat) : opI .rem .u64 (a : Int) (b : Int) = ((a % b : Nat) : Int) := rfl
theorem subN {a b : Nat} (hb : b ≤ a) (h : a < 18446744073709551616) : opI .sub .u64 (a : Int) (b : Int) = ((a - b : Nat) : Int) := by
  show IntKind.u64.wrap ((a : Int) - (b : Int)) = _
  have : (a : Int) - (b : Int) = ((a - b : Nat) : Int) := by omega
  rw [this, w64N (by omega)]
theorem shrN (m j k : Nat) (hk : 2 ^ j = k) (hj : j ≤ 63) : opI .shr .u64 (m : Int) (j : Int) = ((m / k : Nat) : Int) := by
  show (m : Int).fdiv (2 ^ (Min.min ((j : Int)).toNat 64)) = _
  have : Min.min ((j : Int)).toNat 64 = j := by
    rw [Int.toNat_natCast]; omega
  rw [this, Int.fdiv_eq_ediv_of_nonneg _ (by exact Int.le_of_lt (Int.pow_pos (by decide)))]
  subst hk
  rw [Int.natCast_ediv]
  congr 1
theorem w8N (x : Nat) : IntKind.u8.wrap (x : Int) = ((x % 256 : Nat) : Int) := by
  have : IntKind.u8.wrap (x : Int) = (x : Int) % 256 := IntKind.wrap_u8 x
  rw [this]; rfl
theorem quoE_ev {η : Nat → Int} {E : SE} {m : Nat} (hE : E.ev η = (m : Int)) (hm : m < 18446744073709551616) : ∀ i, (quoE E i).ev η = ((m / 10 ^ i : Nat) : Int)
  | 0 => by simp [quoE, hE]
  | i + 1 => by
    show opI .quo .u64 ((quoE E i).ev η) ((10 : Nat) : Int) = _
    rw [quoE_ev hE hm i, quoN (Nat.lt_of_le_of_lt (Nat.div_le_self _ _) hm), Nat.div_div_eq_div_mul, Nat.pow_succ]
theorem chE_ev {η : Nat → Int} {E : SE} {m : Nat} (hE : E.ev η = (m : Int)) (hm : m < 18446744073709551616) (i : Nat) : (chE E i).ev η = ((48 + m / 10 ^ i % 10 : Nat) : Int) := by
  show opI .add .u64 ((48 : Nat) : Int) (opI .rem .u64 ((quoE E i).ev η) ((10 : Nat) : Int)) = _
  rw [quoE_ev hE hm i, remN, addN (by omega)]
theorem dgE_ev {η : Nat → Int} {E : SE} {m : Nat} (hE : E.ev η = (m : Int)) (hm : m < 18446744073709551616) (i : Nat) : (SE.o .sub .u64 (chE E i) (.c 48)).ev η = ((m / 10 ^ i % 10 : Nat) : Int) := by
  show opI .sub .u64 ((chE E i).ev η) ((48 : Nat) : Int) = _
  rw [chE_ev hE hm i, subN (by omega) (by omega)]
  congr 1; omega
theorem parE_ev {η : Nat → Int} {E : SE} {m : Nat} (hE : E.ev η = (m : Int)) (hm : m < 1844674407370955161) : ∀ (k : Nat) (a : SE), a.ev η = ((m / 10 ^ k : Nat) : Int) → (parE E k a).ev η = (m : Int)
  | 0, a, h => by simpa [parE] using h
  | k + 1, a, h => by
    refine parE_ev hE hm k _ ?_
    show opI .add .u64 (opI .mul .u64 ((10 : Nat) : Int) (a.ev η)) ((SE.o .sub .u64 (chE E k) (.c 48)).ev η) = _
    have h1 : m / 10 ^ (k + 1) ≤ m := Nat.div_le_self _ _
    have h2 : m / 10 ^ k ≤ m := Nat.div_le_self _ _
    have h3 : m / 10 ^ (k + 1) = m / 10 ^ k / 10 := by rw [Nat.div_div_eq_div_mul, Nat.pow_succ]
    rw [h, dgE_ev hE (by omega) k, mulN (by omega), addN (by omega)]
    congr 1
    omega
theorem parsE_ev {η : Nat → Int} {E : SE} {m d : Nat} (hE : E.ev η = (m : Int)) (hm : m < 1844674407370955161) (hd : m < 10 ^ (d + 1)) : (parsE E d).ev η = (m : Int) := by
  refine parE_ev hE hm d _ ?_
  show opI .add .u64 ((0 : Nat) : Int) ((SE.o .sub .u64 (chE E d) (.c 48)).ev η) = _
  rw [dgE_ev hE (by omega) d, addN (by omega), Nat.zero_add]
  congr 1
  refine Nat.mod_eq_of_lt ?_
  rw [Nat.div_lt_iff_lt_mul (Nat.pow_pos (by decide))]
  rw [Nat.pow_succ, Nat.mul_comm] at hd
  exact hd
theorem gotE_ev {η : Nat → Int} {u : Nat} (hu : (SE.w .u64 (.v 1)).ev η = (u : Int)) (h : u < 18446744073709551616) : gotE.ev η = (u : Int) := by
  have hb : ∀ (j k : Nat), 2 ^ j = k → j ≤ 63 → (SE.w .u8 (.o .shr .u64 (.w .u64 (.v 1)) (.c (Int.ofNat j)))).ev η = ((u / k % 256 : Nat) : Int) := by
    intro j k hk hj
    show IntKind.u8.wrap (opI .shr .u64 ((SE.w .u64 (.v 1)).ev η) ((j : Nat) : Int)) = _
    rw [hu, shrN u j k hk hj, w8N]
  have h0 : (SE.o .add .u64 (.c 0) (.o .shr .u64 (.w .u64 (.v 1)) (.c 56))).ev η = ((u / 72057594037927936 : Nat) : Int) := by
    show opI .add .u64 ((0 : Nat) : Int) (opI .shr .u64 ((SE.w .u64 (.v 1)).ev η) ((56 : Nat) : Int)) = _
    rw [hu, shrN u 56 72057594037927936 (by decide) (by decide), addN (by omega), Nat.zero_add]
  have st : ∀ (a x : SE) (K K' : Nat), K' = K * 256 → a.ev η = ((u / K' : Nat) : Int) → x.ev η = ((u / K % 256 : Nat) : Int) → (SE.o .add .u64 (.o .mul .u64 (.c 256) a) x).ev η = ((u / K : Nat) : Int) := by
    intro a x K K' hK ha hx
    subst hK
    rw [← Nat.div_div_eq_div_mul] at ha
    have hle : u / K ≤ u := Nat.div_le_self _ _
    show opI .add .u64 (opI .mul .u64 ((256 : Nat) : Int) (a.ev η)) (x.ev η) = _
    rw [ha, hx]
    generalize u / K = t at hle ⊢
    rw [mulN (by omega), addN (by omega)]
    congr 1
    omega
  have h1 := st _ (bE 48) 281474976710656 72057594037927936 rfl h0 (hb 48 _ (by decide) (by decide))
  have h2 := st _ (bE 40) 1099511627776 281474976710656 rfl h1 (hb 40 _ (by decide) (by decide))
  have h3 := st _ (bE 32) 4294967296 1099511627776 rfl h2 (hb 32 _ (by decide) (by decide))
  have h4 := st _ (bE 24) 16777216 4294967296 rfl h3 (hb 24 _ (by decide) (by decide))
  have h5 := st _ (bE 16) 65536 16777216 rfl h4 (hb 16 _ (by decide) (by decide))
  have h6 := st _ (bE 8) 256 65536 rfl h5 (hb 8 _ (by decide) (by decide))
  have h7 := st _ (bE 0) 1 256 rfl h6 (hb 0 _ (by decide) (by decide))
  rw [Nat.div_one] at h7
  exact h7
/-- The letters of one call. -/
@[reducible] def En4 (k v o n : Int) : En := ⟨fun i => match i with
  | 0 => v
  | 1 => n
  | 2 => k
  | _ => o⟩
theorem cmp_eq {x y : Int} (h : x = y) : cmpI .eql x y = true := by simp [cmpI, h]
theorem cmp_ne {x y : Int} (h : x = y) : cmpI .neq x y = false := by simp [cmpI, h]
theorem vE_ev {k o n : Int} {v : Nat} (hv : v < 18446744073709551616) (j : Nat) (hj : j < 8) : ∃ c : Nat, c < 256 ∧ (vE j).ev (En4 k v o n).η = (c : Int) := by
  by_cases h7 : j = 7
  · subst h7
    refine ⟨v / 72057594037927936, by omega, ?_⟩
    show opI .shr .u64 ((v : Nat) : Int) ((56 : Nat) : Int) = _
    rw [shrN v 56 72057594037927936 (by decide) (by decide)]
  · have e : vE j = .w .u8 (.o .shr .u64 (.v 0) (.c (Int.ofNat (8 * j)))) := by
      unfold vE
      split
      · exact absurd rfl h7
      · rfl
    rw [e]
    refine ⟨v / 2 ^ (8 * j) % 256, Nat.mod_lt _ (by decide), ?_⟩
    show IntKind.u8.wrap (opI .shr .u64 ((v : Nat) : Int) ((8 * j : Nat) : Int)) = _
    rw [shrN v (8 * j) _ rfl (by omega), w8N]
theorem fa_ok {k o n : Int} {v : Nat} (hv : v < 18446744073709551616) (j : Nat) (hj : j < 8) : @FsOk (FA j) (En4 k v o n) := by
  refine @FsOk.mk (FA j) (En4 k v o n) (fun f hf => ?_) (fun p hp => by cases hp) (fun p hp => by cases hp)
  have hf : f ∈ ([⟨.neq, .o .or .u64 (.c 0) (.o .shl .u64 (vE j) (.c 0)), vE j, false⟩] : List SF) := hf
  simp only [List.mem_cons, List.not_mem_nil, or_false] at hf
  subst hf
  refine cmp_ne ?_
  obtain ⟨c, hc, he⟩ := vE_ev (k := k) (o := o) (n := n) hv j hj
  show opI .or .u64 0 (opI .shl .u64 ((vE j).ev (En4 k v o n).η) 0) = (vE j).ev (En4 k v o n).η
  rw [he]
  have e1 : opI .shl .u64 (c : Int) 0 = (c : Int) := by
    show IntKind.u64.wrap ((c : Int) * 2 ^ 0) = _
    rw [Int.pow_zero, Int.mul_one, w64N (by omega)]
  rw [e1]
  show IntKind.u64.wrap (((BitVec.ofInt 64 0 ||| BitVec.ofInt 64 (c : Int)).toNat : Nat) : Int) = _
  have e2 : (BitVec.ofInt 64 0 ||| BitVec.ofInt 64 (c : Int)).toNat = c := by
    rw [BitVec.toNat_or]
    have e3 : (BitVec.ofInt 64 (c : Int)).toNat = c := by rw [BitVec.toNat_ofInt]; omega
    rw [e3]
    simp
  rw [e2, w64N (by omega)]
/-- What is made of v as an immediate. -/
def nOf (v : Int) : Int := IntKind.i32.wrap (v.tmod 4294967296)
theorem fp_ok {k o v lo hi : Int} {d m : Nat} (hn : nOf v = (m : Int)) (h0 : (m : Int) ≤ 2147483647) (h1 : lo ≤ (m : Int)) (h2 : (m : Int) ≤ hi) (hd : m < 10 ^ (d + 1)) : @FsOk (FP lo hi d) (En4 k v o m) := by
  refine @FsOk.mk (FP lo hi d) (En4 k v o m) (fun f hf => ?_) (fun p hp => by cases hp) (fun p hp => ?_)
  · have hf : f ∈ ([⟨.eql, gotE, .v 1, true⟩] : List SF) := hf
    simp only [List.mem_cons, List.not_mem_nil, or_false] at hf
    subst hf
    exact cmp_eq (gotE_ev (η := (En4 k v o m).η) (u := m) (by show IntKind.u64.wrap (m : Int) = _; exact w64N (by omega)) (by omega))
  · have hp : p ∈ subsP lo hi d := hp
    simp only [subsP, List.mem_cons, List.not_mem_nil, or_false] at hp
    rcases hp with rfl | rfl
    · have e : sR.ev (En4 k v o m).η = (m : Int) := hn
      show lo ≤ sR.ev (En4 k v o m).η ∧ sR.ev (En4 k v o m).η ≤ hi ∧ (m : Int) = sR.ev (En4 k v o m).η
      rw [e]
      exact ⟨h1, h2, rfl⟩
    · have e : (parsE (.v 1) d).ev (En4 k v o m).η = (m : Int) := parsE_ev rfl (by omega) hd
      show -2147483648 ≤ (parsE (.v 1) d).ev (En4 k v o m).η ∧ (parsE (.v 1) d).ev (En4 k v o m).η ≤ 2147483647 ∧ (m : Int) = (parsE (.v 1) d).ev (En4 k v o m).η
      rw [e]
      exact ⟨by omega, h0, rfl⟩
theorem wneg {m : Nat} (h0 : 1 ≤ m) (h1 : m ≤ 2147483648) : IntKind.u64.wrap (-(m : Int)) = ((18446744073709551616 - m : Nat) : Int) := by
  have : IntKind.u64.wrap (-(m : Int)) = (-(m : Int)) % 18446744073709551616 := IntKind.wrap_u64 _
  rw [this]; omega
theorem fn_ok {k o v lo hi : Int} {d m : Nat} (hn : nOf v = -(m : Int)) (hm : 1 ≤ m) (h0 : m ≤ 2147483648) (h1 : lo ≤ -(m : Int)) (h2 : -(m : Int) ≤ hi) (hd : m < 10 ^ (d + 1)) : @FsOk (FN lo hi d) (En4 k v o (-(m : Int))) := by
  have eu : (SE.w .u64 (.v 1)).ev (En4 k v o (-(m : Int))).η = ((18446744073709551616 - m : Nat) : Int) := wneg hm h0
  have eN : negE.ev (En4 k v o (-(m : Int))).η = (m : Int) := by
    show opI .sub .u64 0 ((SE.w .u64 (.v 1)).ev (En4 k v o (-(m : Int))).η) = _
    rw [eu]
    show IntKind.u64.wrap (0 - ((18446744073709551616 - m : Nat) : Int)) = _
    have : IntKind.u64.wrap (0 - ((18446744073709551616 - m : Nat) : Int)) = (0 - ((18446744073709551616 - m : Nat) : Int)) % 18446744073709551616 := IntKind.wrap_u64 _
    rw [this]; omega
  refine @FsOk.mk (FN lo hi d) (En4 k v o (-(m : Int))) (fun f hf => ?_) (fun p hp => by cases hp) (fun p hp => ?_)
  · have hf : f ∈ ([⟨.eql, gotE, .w .u64 (.v 1), true⟩] : List SF) := hf
    simp only [List.mem_cons, List.not_mem_nil, or_false] at hf
    subst hf
    exact cmp_eq ((gotE_ev eu (by omega)).trans eu.symm)
  · have hp : p ∈ subsN lo hi d := hp
    simp only [subsN, List.mem_cons, List.not_mem_nil, or_false] at hp
    rcases hp with rfl | rfl | rfl | rfl
    · have e : sR.ev (En4 k v o (-(m : Int))).η = -(m : Int) := hn
      show lo ≤ sR.ev (En4 k v o (-(m : Int))).η ∧ sR.ev (En4 k v o (-(m : Int))).η ≤ hi ∧ -(m : Int) = sR.ev (En4 k v o (-(m : Int))).η
      rw [e]
      exact ⟨h1, h2, rfl⟩
    · show -hi ≤ negE.ev (En4 k v o (-(m : Int))).η ∧ negE.ev (En4 k v o (-(m : Int))).η ≤ -lo ∧ negE.ev (En4 k v o (-(m : Int))).η = negE.ev (En4 k v o (-(m : Int))).η
      rw [eN]
      exact ⟨by omega, by omega, rfl⟩
    · have e : (parsE negE d).ev (En4 k v o (-(m : Int))).η = (m : Int) := parsE_ev eN (by omega) hd
      show -hi ≤ (parsE negE d).ev (En4 k v o (-(m : Int))).η ∧ (parsE negE d).ev (En4 k v o (-(m : Int))).η ≤ -lo ∧ negE.ev (En4 k v o (-(m : Int))).η = (parsE negE d).ev (En4 k v o (-(m : Int))).η
      rw [e, eN]
      exact ⟨by omega, by omega, rfl⟩
    · have e : (SE.o .sub .i64 (.c 0) negE).ev (En4 k v o (-(m : Int))).η = -(m : Int) := by
        show IntKind.i64.wrap (0 - negE.ev (En4 k v o (-(m : Int))).η) = _
        rw [eN, wrapFits .i64 _ (by show (-9223372036854775808 : Int) ≤ _; omega) (by show _ ≤ (9223372036854775807 : Int); omega)]
        omega
      show -2147483648 ≤ (SE.o .sub .i64 (.c 0) negE).ev (En4 k v o (-(m : Int))).η ∧ (SE.o .sub .i64 (.c 0) negE).ev (En4 k v o (-(m : Int))).η ≤ 2147483647 ∧ -(m : Int) = (SE.o .sub .i64 (.c 0) negE).ev (En4 k v o (-(m : Int))).η
      rw [e]
      exact ⟨by omega, by omega, rfl⟩
/-! ### The stages -/
section
variable [E : En]
theorem noFs_ok : @FsOk noFs E := @FsOk.mk noFs E (fun f hf => by cases hf) (fun p hp => by cases hp) (fun p hp => by cases hp)
theorem noHk_ok : @HkOk E noHk Tryz.prog := @HkOk.mk E noHk Tryz.prog (fun t ht => by cases ht)
/-- What is left to do, told. -/
def Done (c : Code) (T : Tr PV) (H : Hp) : Prop := ∃ T' H', T'.at 6 = some (.bl true) ∧ Goes Tryz.prog (fun Q a w => c.wp Tryz.prog Q a w) 151 T [] H .ret T' [] H'
theorem goS {F : Fs} (hF : @FsOk F E) {cs : List Code} {z : Code} {T : Tr PV} {H : Hp} {s : S2} (h : @evL F noHk _ Tryz.prog (@evDraw F _ Tryz.prog) 10000 151 cs T [] H (kS2 s) = some ()) (g : Done z s.T s.H) : Done (catC cs z) T H := by
  letI := F
  haveI := hF
  letI := noHk
  haveI := noHk_ok
  obtain ⟨T9, H9, h9, g⟩ := g
  exact ⟨T9, H9, h9, stage2 (draw := evDraw Tryz.prog) (evDraw_ok (by kernel_rfl)) h g⟩
theorem goT {F : Fs} (hF : @FsOk F E) {n : Nat} {c : Code} {T : Tr PV} {H : Hp} (h : @evC F _ Tryz.prog noHk (@evDraw F _ Tryz.prog) n false 151 c T [] H kT = some ()) : Done c T H := by
  letI := F
  haveI := hF
  letI := noHk
  haveI := noHk_ok
  exact goes_true (draw := evDraw Tryz.prog) (evDraw_ok (by kernel_rfl)) (n := n) (N := 151) (t := 6) h
theorem goA {k o : Nat} (hF : @FsOk (FA o) E) (h : runA k o = some ()) (g : Done d10 (sA k).T (sA k).H) : Done d2 (T1 (.it .i32 (Int.ofNat k)) sv (.it .i64 (Int.ofNat o))) ⟨.lf, 1197⟩ := by
  rw [d2_is]
  exact goS hF h g
theorem fin {p0 p1 p2 : PV} {l : List Value} (hl : ∀ b, VL b [p0, p1, p2] l) (g : Done d2 (T1 p0 p1 p2) ⟨.lf, 1197⟩) (w : World) : Calls Tryz.prog 3 ⟨l⟩ w fun e w' => e = .returned (.bool true) ∧ Below w.heap.size w w' := by
  letI := noFs
  haveI := noFs_ok
  letI := noHk
  haveI := noHk_ok
  obtain ⟨T', H', h1, g2⟩ := g
  have dr : DrawOk Tryz.prog (evDraw Tryz.prog (α := Tr PV × Nat)) := evDraw_ok (by kernel_rfl)
  have g0 := goes_bare (n := 1000) (N := 151) (c := c0) (T := T0 p0 p1 p2) (H := ⟨.lf, 0⟩) (X := (_, 0)) dr (X0_is p0 p1 p2)
  have g1 := goes_bare (n := 10000) (N := 151) (c := c1) (T := Ta p0 p1 p2) (H := ⟨.lf, 0⟩) (X := (_, 1197)) dr (X1_is p0 p1 p2)
  exact calls_of_goes (P := Tryz.prog) Tryz.func3 tB_is (args := [p0, p1, p2]) hl (Nat.le_of_ble_eq_true (by kernel_rfl)) (by kernel_rfl) h1 (Goes.chain g0 (Goes.chain g1 g2)) w
end
theorem nOf_le (v : Int) : -2147483648 ≤ nOf v ∧ nOf v ≤ 2147483647 := by
  have e : nOf v = (v.tmod 4294967296 + 2147483648) % 4294967296 - 2147483648 := IntKind.wrap_i32 _
  rw [e]; omega
theorem fz_ok {k o v : Int} (hn : nOf v = ((0 : Nat) : Int)) : @FsOk FZ (En4 k v o ((0 : Nat) : Int)) := by
  refine @FsOk.mk FZ (En4 k v o ((0 : Nat) : Int)) (fun f hf => ?_) (fun p hp => by cases hp) (fun p hp => ?_)
  · have hf : f ∈ ([⟨.eql, .c 0, .v 1, true⟩] : List SF) := hf
    simp only [List.mem_cons, List.not_mem_nil, or_false] at hf
    subst hf
    exact cmp_eq rfl
  · have hp : p ∈ ([(sR, 0, 0, .v 1)] : List (SE × Int × Int × SE)) := hp
    simp only [List.mem_cons, List.not_mem_nil, or_false] at hp
    subst hp
    have e : sR.ev (En4 k v o ((0 : Nat) : Int)).η = ((0 : Nat) : Int) := hn
    show 0 ≤ sR.ev (En4 k v o ((0 : Nat) : Int)).η ∧ sR.ev (En4 k v o ((0 : Nat) : Int)).η ≤ 0 ∧ ((0 : Nat) : Int) = sR.ev (En4 k v o ((0 : Nat) : Int)).η
    rw [e]
    exact ⟨by omega, by omega, rfl⟩
theorem b_0 {v : Int} {o : Nat} : @Done (En4 0 v o (nOf v)) d10 (sA 0).T (sA 0).H := by
  have hb := nOf_le v
  by_cases h : 0 ≤ nOf v
  · obtain ⟨m, hm⟩ := Int.eq_ofNat_of_zero_le h
    rw [hm]
    rw [hm] at hb
    by_cases hz : m = 0
    · subst hz
      exact goT (E := En4 0 v o ((0 : Nat) : Int)) (fz_ok hm) rb_0_z
    by_cases h0 : m < 10
    · exact goT (E := En4 0 v o m) (fp_ok (lo := 1) (hi := 9) (d := 0) hm hb.2 (by omega) (by omega) (by omega)) rb_0_p0
    by_cases h1 : m < 100
    · exact goT (E := En4 0 v o m) (fp_ok (lo := 10) (hi := 99) (d := 1) hm hb.2 (by omega) (by omega) (by omega)) rb_0_p1
    by_cases h2 : m < 1000
    · exact goT (E := En4 0 v o m) (fp_ok (lo := 100) (hi := 999) (d := 2) hm hb.2 (by omega) (by omega) (by omega)) rb_0_p2
    by_cases h3 : m < 10000
    · exact goT (E := En4 0 v o m) (fp_ok (lo := 1000) (hi := 9999) (d := 3) hm hb.2 (by omega) (by omega) (by omega)) rb_0_p3
    by_cases h4 : m < 100000
    · exact goT (E := En4 0 v o m) (fp_ok (lo := 10000) (hi := 99999) (d := 4) hm hb.2 (by omega) (by omega) (by omega)) rb_0_p4
    by_cases h5 : m < 1000000
    · exact goT (E := En4 0 v o m) (fp_ok (lo := 100000) (hi := 999999) (d := 5) hm hb.2 (by omega) (by omega) (by omega)) rb_0_p5
    by_cases h6 : m < 10000000
    · exact goT (E := En4 0 v o m) (fp_ok (lo := 1000000) (hi := 9999999) (d := 6) hm hb.2 (by omega) (by omega) (by omega)) rb_0_p6
    by_cases h7 : m < 100000000
    · exact goT (E := En4 0 v o m) (fp_ok (lo := 10000000) (hi := 99999999) (d := 7) hm hb.2 (by omega) (by omega) (by omega)) rb_0_p7
    by_cases h8 : m < 1000000000
    · exact goT (E := En4 0 v o m) (fp_ok (lo := 100000000) (hi := 999999999) (d := 8) hm hb.2 (by omega) (by omega) (by omega)) rb_0_p8
    exact goT (E := En4 0 v o m) (fp_ok (lo := 1000000000) (hi := 2147483647) (d := 9) hm hb.2 (by omega) (by omega) (by omega)) rb_0_p9
  · obtain ⟨m, hm⟩ := Int.eq_ofNat_of_zero_le (show 0 ≤ -nOf v by omega)
    have hn : nOf v = -(m : Int) := by omega
    rw [hn]
    rw [hn] at hb h
    by_cases h0 : m < 10
    · exact goT (E := En4 0 v o (-(m : Int))) (fn_ok (lo := -9) (hi := -1) (d := 0) hn (by omega) (by omega) (by omega) (by omega) (by omega)) rb_0_n0
    by_cases h1 : m < 100
    · exact goT (E := En4 0 v o (-(m : Int))) (fn_ok (lo := -99) (hi := -10) (d := 1) hn (by omega) (by omega) (by omega) (by omega) (by omega)) rb_0_n1
    by_cases h2 : m < 1000
    · exact goT (E := En4 0 v o (-(m : Int))) (fn_ok (lo := -999) (hi := -100) (d := 2) hn (by omega) (by omega) (by omega) (by omega) (by omega)) rb_0_n2
    by_cases h3 : m < 10000
    · exact goT (E := En4 0 v o (-(m : Int))) (fn_ok (lo := -9999) (hi := -1000) (d := 3) hn (by omega) (by omega) (by omega) (by omega) (by omega)) rb_0_n3
    by_cases h4 : m < 100000
    · exact goT (E := En4 0 v o (-(m : Int))) (fn_ok (lo := -99999) (hi := -10000) (d := 4) hn (by omega) (by omega) (by omega) (by omega) (by omega)) rb_0_n4
    by_cases h5 : m < 1000000
    · exact goT (E := En4 0 v o (-(m : Int))) (fn_ok (lo := -999999) (hi := -100000) (d := 5) hn (by omega) (by omega) (by omega) (by omega) (by omega)) rb_0_n5
    by_cases h6 : m < 10000000
    · exact goT (E := En4 0 v o (-(m : Int))) (fn_ok (lo := -9999999) (hi := -1000000) (d := 6) hn (by omega) (by omega) (by omega) (by omega) (by omega)) rb_0_n6
    by_cases h7 : m < 100000000
    · exact goT (E := En4 0 v o (-(m : Int))) (fn_ok (lo := -99999999) (hi := -10000000) (d := 7) hn (by omega) (by omega) (by omega) (by omega) (by omega)) rb_0_n7
    by_cases h8 : m < 1000000000
    · exact goT (E := En4 0 v o (-(m : Int))) (fn_ok (lo := -999999999) (hi := -100000000) (d := 8) hn (by omega) (by omega) (by omega) (by omega) (by omega)) rb_0_n8
    exact goT (E := En4 0 v o (-(m : Int))) (fn_ok (lo := -2147483648) (hi := -1000000000) (d := 9) hn (by omega) (by omega) (by omega) (by omega) (by omega)) rb_0_n9
theorem b_1 {v : Int} {o : Nat} : @Done (En4 1 v o (nOf v)) d10 (sA 1).T (sA 1).H := by
  have hb := nOf_le v
  by_cases h : 0 ≤ nOf v
  · obtain ⟨m, hm⟩ := Int.eq_ofNat_of_zero_le h
    rw [hm]
    rw [hm] at hb
    by_cases hz : m = 0
    · subst hz
      exact goT (E := En4 1 v o ((0 : Nat) : Int)) (fz_ok hm) rb_1_z
    by_cases h0 : m < 10
    · exact goT (E := En4 1 v o m) (fp_ok (lo := 1) (hi := 9) (d := 0) hm hb.2 (by omega) (by omega) (by omega)) rb_1_p0
    by_cases h1 : m < 100
    · exact goT (E := En4 1 v o m) (fp_ok (lo := 10) (hi := 99) (d := 1) hm hb.2 (by omega) (by omega) (by omega)) rb_1_p1
    by_cases h2 : m < 1000
    · exact goT (E := En4 1 v o m) (fp_ok (lo := 100) (hi := 999) (d := 2) hm hb.2 (by omega) (by omega) (by omega)) rb_1_p2
    by_cases h3 : m < 10000
    · exact goT (E := En4 1 v o m) (fp_ok (lo := 1000) (hi := 9999) (d := 3) hm hb.2 (by omega) (by omega) (by omega)) rb_1_p3
    by_cases h4 : m < 100000
    · exact goT (E := En4 1 v o m) (fp_ok (lo := 10000) (hi := 99999) (d := 4) hm hb.2 (by omega) (by omega) (by omega)) rb_1_p4
    by_cases h5 : m < 1000000
    · exact goT (E := En4 1 v o m) (fp_ok (lo := 100000) (hi := 999999) (d := 5) hm hb.2 (by omega) (by omega) (by omega)) rb_1_p5
    by_cases h6 : m < 10000000
    · exact goT (E := En4 1 v o m) (fp_ok (lo := 1000000) (hi := 9999999) (d := 6) hm hb.2 (by omega) (by omega) (by omega)) rb_1_p6
    by_cases h7 : m < 100000000
    · exact goT (E := En4 1 v o m) (fp_ok (lo := 10000000) (hi := 99999999) (d := 7) hm hb.2 (by omega) (by omega) (by omega)) rb_1_p7
    by_cases h8 : m < 1000000000
    · exact goT (E := En4 1 v o m) (fp_ok (lo := 100000000) (hi := 999999999) (d := 8) hm hb.2 (by omega) (by omega) (by omega)) rb_1_p8
    exact goT (E := En4 1 v o m) (fp_ok (lo := 1000000000) (hi := 2147483647) (d := 9) hm hb.2 (by omega) (by omega) (by omega)) rb_1_p9
  · obtain ⟨m, hm⟩ := Int.eq_ofNat_of_zero_le (show 0 ≤ -nOf v by omega)
    have hn : nOf v = -(m : Int) := by omega
    rw [hn]
    rw [hn] at hb h
    by_cases h0 : m < 10
    · exact goT (E := En4 1 v o (-(m : Int))) (fn_ok (lo := -9) (hi := -1) (d := 0) hn (by omega) (by omega) (by omega) (by omega) (by omega)) rb_1_n0
    by_cases h1 : m < 100
    · exact goT (E := En4 1 v o (-(m : Int))) (fn_ok (lo := -99) (hi := -10) (d := 1) hn (by omega) (by omega) (by omega) (by omega) (by omega)) rb_1_n1
    by_cases h2 : m < 1000
    · exact goT (E := En4 1 v o (-(m : Int))) (fn_ok (lo := -999) (hi := -100) (d := 2) hn (by omega) (by omega) (by omega) (by omega) (by omega)) rb_1_n2
    by_cases h3 : m < 10000
    · exact goT (E := En4 1 v o (-(m : Int))) (fn_ok (lo := -9999) (hi := -1000) (d := 3) hn (by omega) (by omega) (by omega) (by omega) (by omega)) rb_1_n3
    by_cases h4 : m < 100000
    · exact goT (E := En4 1 v o (-(m : Int))) (fn_ok (lo := -99999) (hi := -10000) (d := 4) hn (by omega) (by omega) (by omega) (by omega) (by omega)) rb_1_n4
    by_cases h5 : m < 1000000
    · exact goT (E := En4 1 v o (-(m : Int))) (fn_ok (lo := -999999) (hi := -100000) (d := 5) hn (by omega) (by omega) (by omega) (by omega) (by omega)) rb_1_n5
    by_cases h6 : m < 10000000
    · exact goT (E := En4 1 v o (-(m : Int))) (fn_ok (lo := -9999999) (hi := -1000000) (d := 6) hn (by omega) (by omega) (by omega) (by omega) (by omega)) rb_1_n6
    by_cases h7 : m < 100000000
    · exact goT (E := En4 1 v o (-(m : Int))) (fn_ok (lo := -99999999) (hi := -10000000) (d := 7) hn (by omega) (by omega) (by omega) (by omega) (by omega)) rb_1_n7
    by_cases h8 : m < 1000000000
    · exact goT (E := En4 1 v o (-(m : Int))) (fn_ok (lo := -999999999) (hi := -100000000) (d := 8) hn (by omega) (by omega) (by omega) (by omega) (by omega)) rb_1_n8
    exact goT (E := En4 1 v o (-(m : Int))) (fn_ok (lo := -2147483648) (hi := -1000000000) (d := 9) hn (by omega) (by omega) (by omega) (by omega) (by omega)) rb_1_n9
theorem b_2 {v : Int} {o : Nat} : @Done (En4 2 v o (nOf v)) d10 (sA 2).T (sA 2).H := by
  have hb := nOf_le v
  by_cases h : 0 ≤ nOf v
  · obtain ⟨m, hm⟩ := Int.eq_ofNat_of_zero_le h
    rw [hm]
    rw [hm] at hb
    by_cases hz : m = 0
    · subst hz
      exact goT (E := En4 2 v o ((0 : Nat) : Int)) (fz_ok hm) rb_2_z
    by_cases h0 : m < 10
    · exact goT (E := En4 2 v o m) (fp_ok (lo := 1) (hi := 9) (d := 0) hm hb.2 (by omega) (by omega) (by omega)) rb_2_p0
    by_cases h1 : m < 100
    · exact goT (E := En4 2 v o m) (fp_ok (lo := 10) (hi := 99) (d := 1) hm hb.2 (by omega) (by omega) (by omega)) rb_2_p1
    by_cases h2 : m < 1000
    · exact goT (E := En4 2 v o m) (fp_ok (lo := 100) (hi := 999) (d := 2) hm hb.2 (by omega) (by omega) (by omega)) rb_2_p2
    by_cases h3 : m < 10000
    · exact goT (E := En4 2 v o m) (fp_ok (lo := 1000) (hi := 9999) (d := 3) hm hb.2 (by omega) (by omega) (by omega)) rb_2_p3
    by_cases h4 : m < 100000
    · exact goT (E := En4 2 v o m) (fp_ok (lo := 10000) (hi := 99999) (d := 4) hm hb.2 (by omega) (by omega) (by omega)) rb_2_p4
    by_cases h5 : m < 1000000
    · exact goT (E := En4 2 v o m) (fp_ok (lo := 100000) (hi := 999999) (d := 5) hm hb.2 (by omega) (by omega) (by omega)) rb_2_p5
    by_cases h6 : m < 10000000
    · exact goT (E := En4 2 v o m) (fp_ok (lo := 1000000) (hi := 9999999) (d := 6) hm hb.2 (by omega) (by omega) (by omega)) rb_2_p6
    by_cases h7 : m < 100000000
    · exact goT (E := En4 2 v o m) (fp_ok (lo := 10000000) (hi := 99999999) (d := 7) hm hb.2 (by omega) (by omega) (by omega)) rb_2_p7
    by_cases h8 : m < 1000000000
    · exact goT (E := En4 2 v o m) (fp_ok (lo := 100000000) (hi := 999999999) (d := 8) hm hb.2 (by omega) (by omega) (by omega)) rb_2_p8
    exact goT (E := En4 2 v o m) (fp_ok (lo := 1000000000) (hi := 2147483647) (d := 9) hm hb.2 (by omega) (by omega) (by omega)) rb_2_p9
  · obtain ⟨m, hm⟩ := Int.eq_ofNat_of_zero_le (show 0 ≤ -nOf v by omega)
    have hn : nOf v = -(m : Int) := by omega
    rw [hn]
    rw [hn] at hb h
    by_cases h0 : m < 10
    · exact goT (E := En4 2 v o (-(m : Int))) (fn_ok (lo := -9) (hi := -1) (d := 0) hn (by omega) (by omega) (by omega) (by omega) (by omega)) rb_2_n0
    by_cases h1 : m < 100
    · exact goT (E := En4 2 v o (-(m : Int))) (fn_ok (lo := -99) (hi := -10) (d := 1) hn (by omega) (by omega) (by omega) (by omega) (by omega)) rb_2_n1
    by_cases h2 : m < 1000
    · exact goT (E := En4 2 v o (-(m : Int))) (fn_ok (lo := -999) (hi := -100) (d := 2) hn (by omega) (by omega) (by omega) (by omega) (by omega)) rb_2_n2
    by_cases h3 : m < 10000
    · exact goT (E := En4 2 v o (-(m : Int))) (fn_ok (lo := -9999) (hi := -1000) (d := 3) hn (by omega) (by omega) (by omega) (by omega) (by omega)) rb_2_n3
    by_cases h4 : m < 100000
    · exact goT (E := En4 2 v o (-(m : Int))) (fn_ok (lo := -99999) (hi := -10000) (d := 4) hn (by omega) (by omega) (by omega) (by omega) (by omega)) rb_2_n4
    by_cases h5 : m < 1000000
    · exact goT (E := En4 2 v o (-(m : Int))) (fn_ok (lo := -999999) (hi := -100000) (d := 5) hn (by omega) (by omega) (by omega) (by omega) (by omega)) rb_2_n5
    by_cases h6 : m < 10000000
    · exact goT (E := En4 2 v o (-(m : Int))) (fn_ok (lo := -9999999) (hi := -1000000) (d := 6) hn (by omega) (by omega) (by omega) (by omega) (by omega)) rb_2_n6
    by_cases h7 : m < 100000000
    · exact goT (E := En4 2 v o (-(m : Int))) (fn_ok (lo := -99999999) (hi := -10000000) (d := 7) hn (by omega) (by omega) (by omega) (by omega) (by omega)) rb_2_n7
    by_cases h8 : m < 1000000000
    · exact goT (E := En4 2 v o (-(m : Int))) (fn_ok (lo := -999999999) (hi := -100000000) (d := 8) hn (by omega) (by omega) (by omega) (by omega) (by omega)) rb_2_n8
    exact goT (E := En4 2 v o (-(m : Int))) (fn_ok (lo := -2147483648) (hi := -1000000000) (d := 9) hn (by omega) (by omega) (by omega) (by omega) (by omega)) rb_2_n9
theorem b_3 {v : Int} {o : Nat} : @Done (En4 3 v o (nOf v)) d10 (sA 3).T (sA 3).H := by
  have hb := nOf_le v
  by_cases h : 0 ≤ nOf v
  · obtain ⟨m, hm⟩ := Int.eq_ofNat_of_zero_le h
    rw [hm]
    rw [hm] at hb
    by_cases hz : m = 0
    · subst hz
      exact goT (E := En4 3 v o ((0 : Nat) : Int)) (fz_ok hm) rb_3_z
    by_cases h0 : m < 10
    · exact goT (E := En4 3 v o m) (fp_ok (lo := 1) (hi := 9) (d := 0) hm hb.2 (by omega) (by omega) (by omega)) rb_3_p0
    by_cases h1 : m < 100
    · exact goT (E := En4 3 v o m) (fp_ok (lo := 10) (hi := 99) (d := 1) hm hb.2 (by omega) (by omega) (by omega)) rb_3_p1
    by_cases h2 : m < 1000
    · exact goT (E := En4 3 v o m) (fp_ok (lo := 100) (hi := 999) (d := 2) hm hb.2 (by omega) (by omega) (by omega)) rb_3_p2
    by_cases h3 : m < 10000
    · exact goT (E := En4 3 v o m) (fp_ok (lo := 1000) (hi := 9999) (d := 3) hm hb.2 (by omega) (by omega) (by omega)) rb_3_p3
    by_cases h4 : m < 100000
    · exact goT (E := En4 3 v o m) (fp_ok (lo := 10000) (hi := 99999) (d := 4) hm hb.2 (by omega) (by omega) (by omega)) rb_3_p4
    by_cases h5 : m < 1000000
    · exact goT (E := En4 3 v o m) (fp_ok (lo := 100000) (hi := 999999) (d := 5) hm hb.2 (by omega) (by omega) (by omega)) rb_3_p5
    by_cases h6 : m < 10000000
    · exact goT (E := En4 3 v o m) (fp_ok (lo := 1000000) (hi := 9999999) (d := 6) hm hb.2 (by omega) (by omega) (by omega)) rb_3_p6
    by_cases h7 : m < 100000000
    · exact goT (E := En4 3 v o m) (fp_ok (lo := 10000000) (hi := 99999999) (d := 7) hm hb.2 (by omega) (by omega) (by omega)) rb_3_p7
    by_cases h8 : m < 1000000000
    · exact goT (E := En4 3 v o m) (fp_ok (lo := 100000000) (hi := 999999999) (d := 8) hm hb.2 (by omega) (by omega) (by omega)) rb_3_p8
    exact goT (E := En4 3 v o m) (fp_ok (lo := 1000000000) (hi := 2147483647) (d := 9) hm hb.2 (by omega) (by omega) (by omega)) rb_3_p9
  · obtain ⟨m, hm⟩ := Int.eq_ofNat_of_zero_le (show 0 ≤ -nOf v by omega)
    have hn : nOf v = -(m : Int) := by omega
    rw [hn]
    rw [hn] at hb h
    by_cases h0 : m < 10
    · exact goT (E := En4 3 v o (-(m : Int))) (fn_ok (lo := -9) (hi := -1) (d := 0) hn (by omega) (by omega) (by omega) (by omega) (by omega)) rb_3_n0
    by_cases h1 : m < 100
    · exact goT (E := En4 3 v o (-(m : Int))) (fn_ok (lo := -99) (hi := -10) (d := 1) hn (by omega) (by omega) (by omega) (by omega) (by omega)) rb_3_n1
    by_cases h2 : m < 1000
    · exact goT (E := En4 3 v o (-(m : Int))) (fn_ok (lo := -999) (hi := -100) (d := 2) hn (by omega) (by omega) (by omega) (by omega) (by omega)) rb_3_n2
    by_cases h3 : m < 10000
    · exact goT (E := En4 3 v o (-(m : Int))) (fn_ok (lo := -9999) (hi := -1000) (d := 3) hn (by omega) (by omega) (by omega) (by omega) (by omega)) rb_3_n3
    by_cases h4 : m < 100000
    · exact goT (E := En4 3 v o (-(m : Int))) (fn_ok (lo := -99999) (hi := -10000) (d := 4) hn (by omega) (by omega) (by omega) (by omega) (by omega)) rb_3_n4
    by_cases h5 : m < 1000000
    · exact goT (E := En4 3 v o (-(m : Int))) (fn_ok (lo := -999999) (hi := -100000) (d := 5) hn (by omega) (by omega) (by omega) (by omega) (by omega)) rb_3_n5
    by_cases h6 : m < 10000000
    · exact goT (E := En4 3 v o (-(m : Int))) (fn_ok (lo := -9999999) (hi := -1000000) (d := 6) hn (by omega) (by omega) (by omega) (by omega) (by omega)) rb_3_n6
    by_cases h7 : m < 100000000
    · exact goT (E := En4 3 v o (-(m : Int))) (fn_ok (lo := -99999999) (hi := -10000000) (d := 7) hn (by omega) (by omega) (by omega) (by omega) (by omega)) rb_3_n7
    by_cases h8 : m < 1000000000
    · exact goT (E := En4 3 v o (-(m : Int))) (fn_ok (lo := -999999999) (hi := -100000000) (d := 8) hn (by omega) (by omega) (by omega) (by omega) (by omega)) rb_3_n8
    exact goT (E := En4 3 v o (-(m : Int))) (fn_ok (lo := -2147483648) (hi := -1000000000) (d := 9) hn (by omega) (by omega) (by omega) (by omega) (by omega)) rb_3_n9
theorem a_0_0 {v : Nat} (hv : v < 18446744073709551616) : @Done (En4 0 v 0 (nOf v)) d2 (T1 (.it .i32 0) sv (.it .i64 0)) ⟨.lf, 1197⟩ := goA (E := En4 0 v 0 (nOf v)) (k := 0) (o := 0) (fa_ok hv 0 (by decide)) ra_0_0 (b_0 (o := 0))
theorem a_0_1 {v : Nat} (hv : v < 18446744073709551616) : @Done (En4 0 v 1 (nOf v)) d2 (T1 (.it .i32 0) sv (.it .i64 1)) ⟨.lf, 1197⟩ := goA (E := En4 0 v 1 (nOf v)) (k := 0) (o := 1) (fa_ok hv 1 (by decide)) ra_0_1 (b_0 (o := 1))
theorem a_0_2 {v : Nat} (hv : v < 18446744073709551616) : @Done (En4 0 v 2 (nOf v)) d2 (T1 (.it .i32 0) sv (.it .i64 2)) ⟨.lf, 1197⟩ := goA (E := En4 0 v 2 (nOf v)) (k := 0) (o := 2) (fa_ok hv 2 (by decide)) ra_0_2 (b_0 (o := 2))
theorem a_0_3 {v : Nat} (hv : v < 18446744073709551616) : @Done (En4 0 v 3 (nOf v)) d2 (T1 (.it .i32 0) sv (.it .i64 3)) ⟨.lf, 1197⟩ := goA (E := En4 0 v 3 (nOf v)) (k := 0) (o := 3) (fa_ok hv 3 (by decide)) ra_0_3 (b_0 (o := 3))
theorem a_0_4 {v : Nat} (hv : v < 18446744073709551616) : @Done (En4 0 v 4 (nOf v)) d2 (T1 (.it .i32 0) sv (.it .i64 4)) ⟨.lf, 1197⟩ := goA (E := En4 0 v 4 (nOf v)) (k := 0) (o := 4) (fa_ok hv 4 (by decide)) ra_0_4 (b_0 (o := 4))
theorem a_0_5 {v : Nat} (hv : v < 18446744073709551616) : @Done (En4 0 v 5 (nOf v)) d2 (T1 (.it .i32 0) sv (.it .i64 5)) ⟨.lf, 1197⟩ := goA (E := En4 0 v 5 (nOf v)) (k := 0) (o := 5) (fa_ok hv 5 (by decide)) ra_0_5 (b_0 (o := 5))
theorem a_0_6 {v : Nat} (hv : v < 18446744073709551616) : @Done (En4 0 v 6 (nOf v)) d2 (T1 (.it .i32 0) sv (.it .i64 6)) ⟨.lf, 1197⟩ := goA (E := En4 0 v 6 (nOf v)) (k := 0) (o := 6) (fa_ok hv 6 (by decide)) ra_0_6 (b_0 (o := 6))
theorem a_0_7 {v : Nat} (hv : v < 18446744073709551616) : @Done (En4 0 v 7 (nOf v)) d2 (T1 (.it .i32 0) sv (.it .i64 7)) ⟨.lf, 1197⟩ := goA (E := En4 0 v 7 (nOf v)) (k := 0) (o := 7) (fa_ok hv 7 (by decide)) ra_0_7 (b_0 (o := 7))
theorem a_1_0 {v : Nat} (hv : v < 18446744073709551616) : @Done (En4 1 v 0 (nOf v)) d2 (T1 (.it .i32 1) sv (.it .i64 0)) ⟨.lf, 1197⟩ := goA (E := En4 1 v 0 (nOf v)) (k := 1) (o := 0) (fa_ok hv 0 (by decide)) ra_1_0 (b_1 (o := 0))
theorem a_1_1 {v : Nat} (hv : v < 18446744073709551616) : @Done (En4 1 v 1 (nOf v)) d2 (T1 (.it .i32 1) sv (.it .i64 1)) ⟨.lf, 1197⟩ := goA (E := En4 1 v 1 (nOf v)) (k := 1) (o := 1) (fa_ok hv 1 (by decide)) ra_1_1 (b_1 (o := 1))
theorem a_1_2 {v : Nat} (hv : v < 18446744073709551616) : @Done (En4 1 v 2 (nOf v)) d2 (T1 (.it .i32 1) sv (.it .i64 2)) ⟨.lf, 1197⟩ := goA (E := En4 1 v 2 (nOf v)) (k := 1) (o := 2) (fa_ok hv 2 (by decide)) ra_1_2 (b_1 (o := 2))
theorem a_1_3 {v : Nat} (hv : v < 18446744073709551616) : @Done (En4 1 v 3 (nOf v)) d2 (T1 (.it .i32 1) sv (.it .i64 3)) ⟨.lf, 1197⟩ := goA (E := En4 1 v 3 (nOf v)) (k := 1) (o := 3) (fa_ok hv 3 (by decide)) ra_1_3 (b_1 (o := 3))
theorem a_1_4 {v : Nat} (hv : v < 18446744073709551616) : @Done (En4 1 v 4 (nOf v)) d2 (T1 (.it .i32 1) sv (.it .i64 4)) ⟨.lf, 1197⟩ := goA (E := En4 1 v 4 (nOf v)) (k := 1) (o := 4) (fa_ok hv 4 (by decide)) ra_1_4 (b_1 (o := 4))
theorem a_1_5 {v : Nat} (hv : v < 18446744073709551616) : @Done (En4 1 v 5 (nOf v)) d2 (T1 (.it .i32 1) sv (.it .i64 5)) ⟨.lf, 1197⟩ := goA (E := En4 1 v 5 (nOf v)) (k := 1) (o := 5) (fa_ok hv 5 (by decide)) ra_1_5 (b_1 (o := 5))
theorem a_1_6 {v : Nat} (hv : v < 18446744073709551616) : @Done (En4 1 v 6 (nOf v)) d2 (T1 (.it .i32 1) sv (.it .i64 6)) ⟨.lf, 1197⟩ := goA (E := En4 1 v 6 (nOf v)) (k := 1) (o := 6) (fa_ok hv 6 (by decide)) ra_1_6 (b_1 (o := 6))
theorem a_1_7 {v : Nat} (hv : v < 18446744073709551616) : @Done (En4 1 v 7 (nOf v)) d2 (T1 (.it .i32 1) sv (.it .i64 7)) ⟨.lf, 1197⟩ := goA (E := En4 1 v 7 (nOf v)) (k := 1) (o := 7) (fa_ok hv 7 (by decide)) ra_1_7 (b_1 (o := 7))
theorem a_2_0 {v : Nat} (hv : v < 18446744073709551616) : @Done (En4 2 v 0 (nOf v)) d2 (T1 (.it .i32 2) sv (.it .i64 0)) ⟨.lf, 1197⟩ := goA (E := En4 2 v 0 (nOf v)) (k := 2) (o := 0) (fa_ok hv 0 (by decide)) ra_2_0 (b_2 (o := 0))
theorem a_2_1 {v : Nat} (hv : v < 18446744073709551616) : @Done (En4 2 v 1 (nOf v)) d2 (T1 (.it .i32 2) sv (.it .i64 1)) ⟨.lf, 1197⟩ := goA (E := En4 2 v 1 (nOf v)) (k := 2) (o := 1) (fa_ok hv 1 (by decide)) ra_2_1 (b_2 (o := 1))
theorem a_2_2 {v : Nat} (hv : v < 18446744073709551616) : @Done (En4 2 v 2 (nOf v)) d2 (T1 (.it .i32 2) sv (.it .i64 2)) ⟨.lf, 1197⟩ := goA (E := En4 2 v 2 (nOf v)) (k := 2) (o := 2) (fa_ok hv 2 (by decide)) ra_2_2 (b_2 (o := 2))
theorem a_2_3 {v : Nat} (hv : v < 18446744073709551616) : @Done (En4 2 v 3 (nOf v)) d2 (T1 (.it .i32 2) sv (.it .i64 3)) ⟨.lf, 1197⟩ := goA (E := En4 2 v 3 (nOf v)) (k := 2) (o := 3) (fa_ok hv 3 (by decide)) ra_2_3 (b_2 (o := 3))
theorem a_2_4 {v : Nat} (hv : v < 18446744073709551616) : @Done (En4 2 v 4 (nOf v)) d2 (T1 (.it .i32 2) sv (.it .i64 4)) ⟨.lf, 1197⟩ := goA (E := En4 2 v 4 (nOf v)) (k := 2) (o := 4) (fa_ok hv 4 (by decide)) ra_2_4 (b_2 (o := 4))
theorem a_2_5 {v : Nat} (hv : v < 18446744073709551616) : @Done (En4 2 v 5 (nOf v)) d2 (T1 (.it .i32 2) sv (.it .i64 5)) ⟨.lf, 1197⟩ := goA (E := En4 2 v 5 (nOf v)) (k := 2) (o := 5) (fa_ok hv 5 (by decide)) ra_2_5 (b_2 (o := 5))
theorem a_2_6 {v : Nat} (hv : v < 18446744073709551616) : @Done (En4 2 v 6 (nOf v)) d2 (T1 (.it .i32 2) sv (.it .i64 6)) ⟨.lf, 1197⟩ := goA (E := En4 2 v 6 (nOf v)) (k := 2) (o := 6) (fa_ok hv 6 (by decide)) ra_2_6 (b_2 (o := 6))
theorem a_2_7 {v : Nat} (hv : v < 18446744073709551616) : @Done (En4 2 v 7 (nOf v)) d2 (T1 (.it .i32 2) sv (.it .i64 7)) ⟨.lf, 1197⟩ := goA (E := En4 2 v 7 (nOf v)) (k := 2) (o := 7) (fa_ok hv 7 (by decide)) ra_2_7 (b_2 (o := 7))
theorem a_3_0 {v : Nat} (hv : v < 18446744073709551616) : @Done (En4 3 v 0 (nOf v)) d2 (T1 (.it .i32 3) sv (.it .i64 0)) ⟨.lf, 1197⟩ := goA (E := En4 3 v 0 (nOf v)) (k := 3) (o := 0) (fa_ok hv 0 (by decide)) ra_3_0 (b_3 (o := 0))
theorem a_3_1 {v : Nat} (hv : v < 18446744073709551616) : @Done (En4 3 v 1 (nOf v)) d2 (T1 (.it .i32 3) sv (.it .i64 1)) ⟨.lf, 1197⟩ := goA (E := En4 3 v 1 (nOf v)) (k := 3) (o := 1) (fa_ok hv 1 (by decide)) ra_3_1 (b_3 (o := 1))
theorem a_3_2 {v : Nat} (hv : v < 18446744073709551616) : @Done (En4 3 v 2 (nOf v)) d2 (T1 (.it .i32 3) sv (.it .i64 2)) ⟨.lf, 1197⟩ := goA (E := En4 3 v 2 (nOf v)) (k := 3) (o := 2) (fa_ok hv 2 (by decide)) ra_3_2 (b_3 (o := 2))
theorem a_3_3 {v : Nat} (hv : v < 18446744073709551616) : @Done (En4 3 v 3 (nOf v)) d2 (T1 (.it .i32 3) sv (.it .i64 3)) ⟨.lf, 1197⟩ := goA (E := En4 3 v 3 (nOf v)) (k := 3) (o := 3) (fa_ok hv 3 (by decide)) ra_3_3 (b_3 (o := 3))
theorem a_3_4 {v : Nat} (hv : v < 18446744073709551616) : @Done (En4 3 v 4 (nOf v)) d2 (T1 (.it .i32 3) sv (.it .i64 4)) ⟨.lf, 1197⟩ := goA (E := En4 3 v 4 (nOf v)) (k := 3) (o := 4) (fa_ok hv 4 (by decide)) ra_3_4 (b_3 (o := 4))
theorem a_3_5 {v : Nat} (hv : v < 18446744073709551616) : @Done (En4 3 v 5 (nOf v)) d2 (T1 (.it .i32 3) sv (.it .i64 5)) ⟨.lf, 1197⟩ := goA (E := En4 3 v 5 (nOf v)) (k := 3) (o := 5) (fa_ok hv 5 (by decide)) ra_3_5 (b_3 (o := 5))
theorem a_3_6 {v : Nat} (hv : v < 18446744073709551616) : @Done (En4 3 v 6 (nOf v)) d2 (T1 (.it .i32 3) sv (.it .i64 6)) ⟨.lf, 1197⟩ := goA (E := En4 3 v 6 (nOf v)) (k := 3) (o := 6) (fa_ok hv 6 (by decide)) ra_3_6 (b_3 (o := 6))
theorem a_3_7 {v : Nat} (hv : v < 18446744073709551616) : @Done (En4 3 v 7 (nOf v)) d2 (T1 (.it .i32 3) sv (.it .i64 7)) ⟨.lf, 1197⟩ := goA (E := En4 3 v 7 (nOf v)) (k := 3) (o := 7) (fa_ok hv 7 (by decide)) ra_3_7 (b_3 (o := 7))
end Go.Proofs.YtkjclmafddgoiaaGreat.Ev
