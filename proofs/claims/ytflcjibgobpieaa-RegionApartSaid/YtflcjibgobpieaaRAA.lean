/-
  A law's run in stages: its code; what is known between two stages.
-/
import Derived.Test.YtflcjibgobpieaaEyZI
import Derived.Test.YtflcjibgobpieaaChecked
namespace Go.Proofs.Ytflcjibgobpieaa.Ev
open Go.RowKit
set_option linter.unusedVariables false
noncomputable def fstC : Code → Code
  | .seq x _ => x
  | c => c
noncomputable def sndC : Code → Code
  | .seq _ y => y
  | c => c
noncomputable def inB : Code → Code
  | .block _ (.loop x) => x
  | c => c
noncomputable def tB : Code := Try.f3.body.getD .skip
noncomputable def c0 : Code := fstC tB
noncomputable def d1 : Code := sndC tB
noncomputable def c1 : Code := fstC d1
noncomputable def d2 : Code := sndC d1
noncomputable def c2 : Code := fstC d2
noncomputable def d3 : Code := sndC d2
noncomputable def c3 : Code := fstC d3
noncomputable def d4 : Code := sndC d3
noncomputable def c4 : Code := fstC d4
noncomputable def d5 : Code := sndC d4
noncomputable def c5 : Code := fstC d5
noncomputable def d6 : Code := sndC d5
noncomputable def c6 : Code := fstC d6
noncomputable def d7 : Code := sndC d6
noncomputable def c7 : Code := fstC d7
noncomputable def d8 : Code := sndC d7
noncomputable def c8 : Code := fstC d8
noncomputable def d9 : Code := sndC d8
noncomputable def r18 : Code := fstC c7
noncomputable def blk : Code := sndC c7
noncomputable def rnd : Code := inB blk
theorem tB_is : Try.f3.body = some (.seq c0 (.seq c1 d2)) := by kernel_rfl
theorem d2_is : d2 = catC [c2, c3, c4] d5 := by kernel_rfl
theorem d5_is : d5 = .seq c5 (.seq c6 (.seq (.seq r18 (.block 2 (.loop rnd))) d8)) := by kernel_rfl
@[reducible] noncomputable def noFs : Fs := ⟨[], []⟩
@[reducible] noncomputable def noHk : Hk := ⟨[]⟩
noncomputable def sw : PV := .sy .i64 (-9223372036854775808) 9223372036854775807 (.v 1)
noncomputable def sv : PV := .sy .u64 0 18446744073709551615 (.v 2)
noncomputable def sk : PV := .sy .i64 0 39 (.v 3)
noncomputable def kB (e : AE) (T : Tr PV) (D : DL) (H : Hp) : Option (Tr PV × Nat) := match e with
  | .normal => match D with
    | [] => some (T, H.n)
    | _ => none
  | _ => none
noncomputable def kT (e : AE) (T : Tr PV) (D : DL) (H : Hp) : Option Unit := match e with
      | .ret => match D with
        | [] => match T.at 6 with
          | some (.bl true) => some ()
          | _ => none
        | _ => none
      | _ => none
/-- Where the loop's round goes out of the loop. -/
noncomputable def kX (e : AE) (T : Tr PV) (D : DL) (H : Hp) : Option Unit := match e with
  | .exit j => match D with
    | [] => match Nat.beq j 2 && Nat.ble H.n 5000 with
      | true => some ()
      | false => none
    | _ => none
  | _ => none
/-- A state come to, what was made since forgotten. -/
noncomputable def kF (n0 : Nat) (s : S2) (e : AE) (T : Tr PV) (D : DL) (H : Hp) : Option Unit := match e with
  | .normal => match D with
    | [] => match chkT3 n0 [] T s.t && chkOs3 n0 [] H.t s.r with
      | true => some ()
      | false => none
    | _ => none
  | _ => none
noncomputable def T0 (p0 p1 p2 : PV) : Tr PV := Tr.fill .lf 0 [p0, p1, p2]
noncomputable def Ta (p0 p1 p2 : PV) : Tr PV := (T0 p0 p1 p2).put 6 (some (.bl false))
noncomputable def T1 (p0 p1 p2 : PV) : Tr PV := ((Ta p0 p1 p2).put 14 (some (.bl true))).put 15 (some (.bl false))
noncomputable def X0 (p0 p1 p2 : PV) : Option (Tr PV × Nat) := @evC noFs _ Try.prog noHk (@evDraw noFs _ Try.prog) 1000 false 91 c0 (T0 p0 p1 p2) [] ⟨.lf, 0⟩ kB
noncomputable def X1 (p0 p1 p2 : PV) : Option (Tr PV × Nat) := @evC noFs _ Try.prog noHk (@evDraw noFs _ Try.prog) 10000 false 91 c1 (Ta p0 p1 p2) [] ⟨.lf, 0⟩ kB
/-! ### Regions -/
noncomputable def zero8 : List PV := [.it .u8 0, .it .u8 0, .it .u8 0, .it .u8 0, .it .u8 0, .it .u8 0, .it .u8 0, .it .u8 0]
noncomputable def vb : List PV := [.sy .u8 0 255 (.w .u8 (.o .shr .u64 (.v 2) (.c 0))), .sy .u8 0 255 (.w .u8 (.o .shr .u64 (.v 2) (.c 8))), .sy .u8 0 255 (.w .u8 (.o .shr .u64 (.v 2) (.c 16))), .sy .u8 0 255 (.w .u8 (.o .shr .u64 (.v 2) (.c 24))), .sy .u8 0 255 (.w .u8 (.o .shr .u64 (.v 2) (.c 32))), .sy .u8 0 255 (.w .u8 (.o .shr .u64 (.v 2) (.c 40))), .sy .u8 0 255 (.w .u8 (.o .shr .u64 (.v 2) (.c 48))), .sy .u8 0 255 (.o .shr .u64 (.v 2) (.c 56))]
noncomputable def regs (j : Nat) : List (Nat × AO) := match Nat.beq (j % 2) 0 with
  | true => [(122 + 29 * (j / 2), .row zero8 5 1 true), (123 + 29 * (j / 2), .row [.sl (122 + 29 * (j / 2)) 0 8 8 true, .bl true, .it .i64 0, .bl false] 43 0 false)]
  | false => [(136 + 29 * (j / 2), .part [(575, .it .u8 0), (828, .it .i64 0), (829, .it .u64 0), (830, .it .i64 0), (831, .it .i64 0), (895, .it .i64 0)] 960 51 0 false)]
noncomputable def regw (j : Nat) : List (Nat × AO) := match Nat.beq (j % 2) 0 with
  | true => [(122 + 29 * (j / 2), .row vb 5 1 true), (123 + 29 * (j / 2), .row [.sl (122 + 29 * (j / 2)) 0 8 8 true, .bl true, .it .i64 0, .bl false] 43 0 false)]
  | false => [(136 + 29 * (j / 2), .part [(504, .sy .u8 0 255 (.w .u8 (.o .shr .u64 (.v 2) (.c 0)))), (505, .sy .u8 0 255 (.w .u8 (.o .shr .u64 (.v 2) (.c 8)))), (506, .sy .u8 0 255 (.w .u8 (.o .shr .u64 (.v 2) (.c 16)))), (507, .sy .u8 0 255 (.w .u8 (.o .shr .u64 (.v 2) (.c 24)))), (508, .sy .u8 0 255 (.w .u8 (.o .shr .u64 (.v 2) (.c 32)))), (509, .sy .u8 0 255 (.w .u8 (.o .shr .u64 (.v 2) (.c 40)))), (510, .sy .u8 0 255 (.w .u8 (.o .shr .u64 (.v 2) (.c 48)))), (511, .sy .u8 0 255 (.o .shr .u64 (.v 2) (.c 56))), (575, .it .u8 255), (828, .it .i64 0), (829, .it .u64 0), (830, .it .i64 0), (831, .it .i64 0), (895, .it .i64 0)] 960 51 0 false)]
noncomputable def ent (j : Nat) : PV × PV × Nat := (.it .i64 (Int.ofNat (j + 1)), (match Nat.beq (j % 2) 0 with
  | true => .ic 40 (.pt (123 + 29 * (j / 2)) 0)
  | false => .ic 44 (.pt (136 + 29 * (j / 2)) 0)), j)
noncomputable def ents : Nat → Nat → List (PV × PV × Nat)
  | 0, _ => []
  | m + 1, j => ent j :: ents m (j + 1)
noncomputable def base (n : Nat) : List (Nat × AO) := [(118, .mp (ents n 0) n), (119, .row [.mp 118, .it .i64 (Int.ofNat n)] 38 0 false)]
noncomputable def all (f : Nat → List (Nat × AO)) : Nat → Nat → List (Nat × AO)
  | 0, _ => []
  | m + 1, j => f j ++ all f m (j + 1)
noncomputable def NS (n : Nat) : Nat := match Nat.beq (n % 2) 0 with
  | true => 120 + 29 * (n / 2)
  | false => 136 + 29 * (n / 2)
noncomputable def it (n : Nat) : PV := .it .i64 (Int.ofNat n)
noncomputable def sA (n : Nat) : S2 := ⟨[(0, it n), (1, sw), (2, sv), (7, .pt 119 0)], base n ++ all regs n 0, NS n⟩
noncomputable def sB0 (n : Nat) : S2 := ⟨[(0, it n), (1, sw), (2, sv), (7, .pt 119 0)], [], NS n⟩
noncomputable def sB (n k : Nat) : S2 := ⟨[(0, it n), (2, sv), (7, .pt 119 0), (10, it k)], [], NS n⟩
noncomputable def sC0 (n k : Nat) : S2 := ⟨[(0, it n), (2, sv), (7, .pt 119 0), (10, it k)], base n ++ regs k, NS n⟩
noncomputable def sC (n k : Nat) : S2 := ⟨[(0, it n), (2, sv), (7, .pt 119 0), (10, it k)], base n ++ regw k, 5000⟩
noncomputable def tD (n i : Nat) : List (Nat × PV) := [(0, it n), (2, sv), (7, .pt 119 0), (10, sk), (11, it i)]
noncomputable def sD (f : Nat → List (Nat × AO)) (n i j : Nat) : S2 := ⟨tD n j, base n ++ f i, 5000⟩
@[reducible] noncomputable def FV (n : Nat) (r : Int) : Fs := ⟨[], [(.o .rem .i64 (.v 1) (.c (Int.ofNat n)), r)]⟩
@[reducible] noncomputable def F1 (i : Nat) : Fs := ⟨[⟨.eql, .c (Int.ofNat i), .v 3, false⟩], []⟩
noncomputable def sV : SE := (.o .or .u64 (.o .or .u64 (.o .or .u64 (.o .or .u64 (.o .or .u64 (.o .or .u64 (.o .or .u64 (.o .or .u64 (.c 0) (.o .shl .u64 (.w .u8 (.o .shr .u64 (.v 2) (.c 0))) (.c 0))) (.o .shl .u64 (.w .u8 (.o .shr .u64 (.v 2) (.c 8))) (.c 8))) (.o .shl .u64 (.w .u8 (.o .shr .u64 (.v 2) (.c 16))) (.c 16))) (.o .shl .u64 (.w .u8 (.o .shr .u64 (.v 2) (.c 24))) (.c 24))) (.o .shl .u64 (.w .u8 (.o .shr .u64 (.v 2) (.c 32))) (.c 32))) (.o .shl .u64 (.w .u8 (.o .shr .u64 (.v 2) (.c 40))) (.c 40))) (.o .shl .u64 (.w .u8 (.o .shr .u64 (.v 2) (.c 48))) (.c 48))) (.o .shl .u64 (.o .shr .u64 (.v 2) (.c 56)) (.c 56)))
@[reducible] noncomputable def F2 (i : Nat) : Fs := ⟨[⟨.eql, .c (Int.ofNat i), .v 3, true⟩, ⟨.neq, sV, .v 2, false⟩], []⟩
noncomputable def runA (n : Nat) : Option Unit := @evL noFs noHk _ Try.prog (@evDraw noFs _ Try.prog) 10000 91 [c2, c3, c4] (T1 (it n) sw sv) [] ⟨.lf, 118⟩ (kS2 (sA n))
noncomputable def runB (n z : Nat) : Option Unit := @evC (FV n (Int.subNatNat z (n - 1))) _ Try.prog noHk (@evDraw (FV n (Int.subNatNat z (n - 1))) _ Try.prog) 1000 false 91 c5 (sB0 n).T [] (sB0 n).H (kS2 (sB n ((z + 1) % n)))
noncomputable def runC (n k : Nat) : Option Unit := @evC noFs _ Try.prog noHk (@evDraw noFs _ Try.prog) 1000 false 91 c6 (sC0 n k).T [] (sC0 n k).H (kS2 (sC n k))
noncomputable def runR (n : Nat) : Option Unit := @evC noFs _ Try.prog noHk (@evDraw noFs _ Try.prog) 1000 false 91 r18 (puts [(0, it n), (2, sv), (7, .pt 119 0), (10, sk)]) [] ⟨.lf, 5000⟩ (kS2 ⟨tD n 0, [], 5000⟩)
noncomputable def runD1 (n i : Nat) : Option Unit := @evC (F1 i) _ Try.prog noHk (@evDraw (F1 i) _ Try.prog) 1000 false 91 rnd (sD regs n i i).T [] (sD regs n i i).H (kF 5000 (sD regs n i (i + 1)))
noncomputable def runD2 (n i : Nat) : Option Unit := @evC (F2 i) _ Try.prog noHk (@evDraw (F2 i) _ Try.prog) 1000 false 91 rnd (sD regw n i i).T [] (sD regw n i i).H (kF 5000 (sD regw n i (i + 1)))
noncomputable def runX (n : Nat) : Option Unit := @evC noFs _ Try.prog noHk (@evDraw noFs _ Try.prog) 1000 false 91 rnd (puts (tD n n)) [] ⟨.lf, 5000⟩ kX
noncomputable def runE (p0 p1 p2 : PV) : Option Unit := @evC noFs _ Try.prog noHk (@evDraw noFs _ Try.prog) 1000 false 91 d2 (T1 p0 p1 p2) [] ⟨.lf, 118⟩ kT
noncomputable def runF : Option Unit := @evC noFs _ Try.prog noHk (@evDraw noFs _ Try.prog) 1000 false 91 d8 .lf [] ⟨.lf, 5000⟩ kT
noncomputable def pLo : PV := .sy .i64 (-9223372036854775808) 0 (.v 0)
noncomputable def pHi : PV := .sy .i64 41 9223372036854775807 (.v 0)
/-- All from a to b. -/
noncomputable def allN (f : Nat → Option Unit) : Nat → Nat → Bool
  | 0, _ => true
  | m + 1, a => match f a with
    | some _ => allN f m (a + 1)
    | none => false
theorem allN_ok {f : Nat → Option Unit} : ∀ {m a : Nat}, allN f m a = true → ∀ i, a ≤ i → i < a + m → f i = some ()
  | 0, a, _, i, h1, h2 => by omega
  | m + 1, a, h, i, h1, h2 => by
    unfold allN at h
    split at h
    · rename_i u hu
      by_cases e : i = a
      · subst e; exact hu
      · exact allN_ok h i (by omega) (by omega)
    · cases h
set_option maxRecDepth 100000000
theorem X0_is (p0 p1 p2 : PV) : X0 p0 p1 p2 = some (Ta p0 p1 p2, 0) := by kernel_rfl
theorem X1_is (p0 p1 p2 : PV) : X1 p0 p1 p2 = some (T1 p0 p1 p2, 118) := by kernel_rfl
theorem e_lo (p1 p2 : PV) : runE pLo p1 p2 = some () := by kernel_rfl
theorem e_hi (p1 p2 : PV) : runE pHi p1 p2 = some () := by kernel_rfl
theorem r_f : runF = some () := by kernel_rfl
end Go.Proofs.Ytflcjibgobpieaa.Ev
