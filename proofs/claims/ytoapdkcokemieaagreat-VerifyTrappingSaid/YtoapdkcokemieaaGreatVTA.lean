/-
  A law's run in stages: its code; the calls that are told apart.
-/
import Derived.Test.YtoapdkcokemieaaGreatEuZJ
import Derived.Test.YtoapdkcokemieaaGreatChecked
namespace Go.Proofs.YtoapdkcokemieaaGreat.Ev
open Go.RowKit
set_option linter.unusedVariables false
noncomputable def fstC : Code → Code
  | .seq x _ => x
  | c => c
noncomputable def sndC : Code → Code
  | .seq _ y => y
  | c => c
noncomputable def tB : Code := Tryz.f3.body.getD .skip
noncomputable def c0 : Code := fstC tB
noncomputable def d1 : Code := sndC tB
noncomputable def c1 : Code := fstC d1
noncomputable def d2 : Code := sndC d1
noncomputable def c2 : Code := fstC d2
noncomputable def d3 : Code := sndC d2
theorem tB_is : Tryz.f3.body = some (.seq c0 (.seq c1 d2)) := by kernel_rfl
@[reducible] noncomputable def noFs : Fs := ⟨[], [], []⟩
@[reducible] noncomputable def noHk : Hk := ⟨[]⟩
noncomputable def sx : PV := .sy .i64 (-9223372036854775808) 9223372036854775807 (.v 0)
noncomputable def kB (e : AE) (T : Tr PV) (D : DL) (H : Hp) : Option (Tr PV × Nat) := match e with
  | .normal => match D with
    | [] => some (T, H.n)
    | _ => none
  | _ => none
noncomputable def kT (e : AE) (T : Tr PV) (D : DL) (H : Hp) : Option Unit := match e with
      | .ret => match D with
        | [] => match T.at 2 with
          | some (.bl true) => some ()
          | _ => none
        | _ => none
      | _ => none
noncomputable def T0 : Tr PV := Tr.fill .lf 0 [sx]
noncomputable def Ta : Tr PV := T0.put 2 (some (.bl false))
noncomputable def X0 : Option (Tr PV × Nat) := @evC noFs _ Tryz.prog noHk (@evDraw noFs _ Tryz.prog) 1000 false 16 c0 T0 [] ⟨.lf, 0⟩ kB
/-! ### Told calls -/
noncomputable def a_0 : PV := (.sl 0 0 2 2 true)
noncomputable def q_0 : List (Nat × AO) := [(0, .row [(.it .u8 (191)), (.it .u8 (0)), (.it .u8 (5)), (.it .i16 (0)), (.it .i32 (0)), (.it .u8 (149)), (.it .u8 (0)), (.it .u8 (0)), (.it .i16 (0)), (.it .i32 (0))] 83 5 true)]
noncomputable def tL_0 : Told := { f := 9, args := [.st [114, 48, 32, 61, 32, 114, 53, 59, 32, 101, 120, 105, 116]], v := a_0, r := q_0, n := 1 }
noncomputable def tC_0 : Told := { f := 50, args := [a_0], v := (.tp [(.it .i64 (0)), (.it .i64 (0))]), r := [], n := 0, m := 1, q := q_0 }
noncomputable def tV_0 : Told := { f := 27, args := [a_0], v := (.tp [(.sl 1 0 2 2 false), (.it .i64 (0))]), r := [(1, .row [(.it .u16 (32)), (.it .u16 (1))] 253 0 false)], n := 1, m := 1, q := q_0 }
noncomputable def tS_0 : Told := { f := 13, args := [a_0], v := (.ag [(.it .i64 (0)), (.it .i64 (0))]), r := [], n := 0, m := 1, q := q_0 }
noncomputable def tJ_0 : Told := { f := 28, args := [a_0], v := (.sl 1 0 3 3 false), r := [(1, .row [(.bl true), (.bl false), (.bl false)] 4 0 false)], n := 1, m := 1, q := q_0 }
@[reducible] noncomputable def hkC_0 : Hk := ⟨[tC_0]⟩
@[reducible] noncomputable def hk_0 : Hk := ⟨[tL_0, tC_0, tV_0, tS_0, tJ_0]⟩
noncomputable def a_1 : PV := (.sl 0 0 3 3 true)
noncomputable def q_1 : List (Nat × AO) := [(0, .row [(.it .u8 (183)), (.it .u8 (1)), (.it .u8 (0)), (.it .i16 (0)), (.it .i32 (5)), (.it .u8 (113)), (.it .u8 (0)), (.it .u8 (1)), (.it .i16 (0)), (.it .i32 (0)), (.it .u8 (149)), (.it .u8 (0)), (.it .u8 (0)), (.it .i16 (0)), (.it .i32 (0))] 83 5 true)]
noncomputable def tL_1 : Told := { f := 9, args := [.st [114, 49, 32, 61, 32, 53, 59, 32, 114, 48, 32, 61, 32, 42, 40, 117, 56, 32, 42, 41, 40, 114, 49, 32, 43, 48, 41, 59, 32, 101, 120, 105, 116]], v := a_1, r := q_1, n := 1 }
noncomputable def tC_1 : Told := { f := 50, args := [a_1], v := (.tp [(.it .i64 (0)), (.it .i64 (0))]), r := [], n := 0, m := 1, q := q_1 }
noncomputable def tV_1 : Told := { f := 27, args := [a_1], v := (.tp [(.sl 1 0 3 3 false), (.it .i64 (0))]), r := [(1, .row [(.it .u16 (0)), (.it .u16 (2)), (.it .u16 (1))] 253 0 false)], n := 1, m := 1, q := q_1 }
noncomputable def tS_1 : Told := { f := 13, args := [a_1], v := (.ag [(.it .i64 (0)), (.it .i64 (0))]), r := [], n := 0, m := 1, q := q_1 }
noncomputable def tJ_1 : Told := { f := 28, args := [a_1], v := (.sl 1 0 4 4 false), r := [(1, .row [(.bl true), (.bl false), (.bl false), (.bl false)] 4 0 false)], n := 1, m := 1, q := q_1 }
@[reducible] noncomputable def hkC_1 : Hk := ⟨[tC_1]⟩
@[reducible] noncomputable def hk_1 : Hk := ⟨[tL_1, tC_1, tV_1, tS_1, tJ_1]⟩
noncomputable def a_2 : PV := (.sl 0 0 3 3 true)
noncomputable def q_2 : List (Nat × AO) := [(0, .row [(.it .u8 (114)), (.it .u8 (1)), (.it .u8 (0)), (.it .i16 (0)), (.it .i32 (1)), (.it .u8 (183)), (.it .u8 (0)), (.it .u8 (0)), (.it .i16 (0)), (.it .i32 (0)), (.it .u8 (149)), (.it .u8 (0)), (.it .u8 (0)), (.it .i16 (0)), (.it .i32 (0))] 83 5 true)]
noncomputable def tL_2 : Told := { f := 9, args := [.st [42, 40, 117, 56, 32, 42, 41, 40, 114, 49, 32, 43, 48, 41, 32, 61, 32, 49, 59, 32, 114, 48, 32, 61, 32, 48, 59, 32, 101, 120, 105, 116]], v := a_2, r := q_2, n := 1 }
noncomputable def tC_2 : Told := { f := 50, args := [a_2], v := (.tp [(.it .i64 (0)), (.it .i64 (0))]), r := [], n := 0, m := 1, q := q_2 }
noncomputable def tV_2 : Told := { f := 27, args := [a_2], v := (.tp [(.sl 1 0 3 3 false), (.it .i64 (0))]), r := [(1, .row [(.it .u16 (2)), (.it .u16 (0)), (.it .u16 (1))] 253 0 false)], n := 1, m := 1, q := q_2 }
noncomputable def tS_2 : Told := { f := 13, args := [a_2], v := (.ag [(.it .i64 (0)), (.it .i64 (0))]), r := [], n := 0, m := 1, q := q_2 }
noncomputable def tJ_2 : Told := { f := 28, args := [a_2], v := (.sl 1 0 4 4 false), r := [(1, .row [(.bl true), (.bl false), (.bl false), (.bl false)] 4 0 false)], n := 1, m := 1, q := q_2 }
@[reducible] noncomputable def hkC_2 : Hk := ⟨[tC_2]⟩
@[reducible] noncomputable def hk_2 : Hk := ⟨[tL_2, tC_2, tV_2, tS_2, tJ_2]⟩
noncomputable def a_3 : PV := (.sl 0 0 3 3 true)
noncomputable def q_3 : List (Nat × AO) := [(0, .row [(.it .u8 (15)), (.it .u8 (1)), (.it .u8 (10)), (.it .i16 (0)), (.it .i32 (0)), (.it .u8 (183)), (.it .u8 (0)), (.it .u8 (0)), (.it .i16 (0)), (.it .i32 (0)), (.it .u8 (149)), (.it .u8 (0)), (.it .u8 (0)), (.it .i16 (0)), (.it .i32 (0))] 83 5 true)]
noncomputable def tL_3 : Told := { f := 9, args := [.st [114, 49, 32, 43, 61, 32, 114, 49, 48, 59, 32, 114, 48, 32, 61, 32, 48, 59, 32, 101, 120, 105, 116]], v := a_3, r := q_3, n := 1 }
noncomputable def tC_3 : Told := { f := 50, args := [a_3], v := (.tp [(.it .i64 (0)), (.it .i64 (0))]), r := [], n := 0, m := 1, q := q_3 }
noncomputable def tV_3 : Told := { f := 27, args := [a_3], v := (.tp [(.sl 1 0 3 3 false), (.it .i64 (0))]), r := [(1, .row [(.it .u16 (1026)), (.it .u16 (0)), (.it .u16 (1))] 253 0 false)], n := 1, m := 1, q := q_3 }
noncomputable def tS_3 : Told := { f := 13, args := [a_3], v := (.ag [(.it .i64 (0)), (.it .i64 (0))]), r := [], n := 0, m := 1, q := q_3 }
noncomputable def tJ_3 : Told := { f := 28, args := [a_3], v := (.sl 1 0 4 4 false), r := [(1, .row [(.bl true), (.bl false), (.bl false), (.bl false)] 4 0 false)], n := 1, m := 1, q := q_3 }
@[reducible] noncomputable def hkC_3 : Hk := ⟨[tC_3]⟩
@[reducible] noncomputable def hk_3 : Hk := ⟨[tL_3, tC_3, tV_3, tS_3, tJ_3]⟩
noncomputable def a_4 : PV := (.sl 0 0 6 6 true)
noncomputable def q_4 : List (Nat × AO) := [(0, .row [(.it .u8 (24)), (.it .u8 (1)), (.it .u8 (1)), (.it .i16 (0)), (.it .i32 (0)), (.it .u8 (0)), (.it .u8 (0)), (.it .u8 (0)), (.it .i16 (0)), (.it .i32 (0)), (.it .u8 (183)), (.it .u8 (2)), (.it .u8 (0)), (.it .i16 (0)), (.it .i32 (8)), (.it .u8 (133)), (.it .u8 (0)), (.it .u8 (0)), (.it .i16 (0)), (.it .i32 (9)), (.it .u8 (183)), (.it .u8 (0)), (.it .u8 (0)), (.it .i16 (0)), (.it .i32 (0)), (.it .u8 (149)), (.it .u8 (0)), (.it .u8 (0)), (.it .i16 (0)), (.it .i32 (0))] 83 5 true)]
noncomputable def tL_4 : Told := { f := 9, args := [.st [114, 49, 32, 61, 32, 109, 97, 112, 32, 48, 59, 32, 114, 50, 32, 61, 32, 56, 59, 32, 99, 97, 108, 108, 32, 57, 59, 32, 114, 48, 32, 61, 32, 48, 59, 32, 101, 120, 105, 116]], v := a_4, r := q_4, n := 1 }
noncomputable def tC_4 : Told := { f := 50, args := [a_4], v := (.tp [(.it .i64 (0)), (.it .i64 (0))]), r := [], n := 0, m := 1, q := q_4 }
noncomputable def tV_4 : Told := { f := 27, args := [a_4], v := (.tp [(.sl 1 0 6 6 false), (.it .i64 (0))]), r := [(1, .row [(.it .u16 (0)), (.it .u16 (0)), (.it .u16 (2)), (.it .u16 (6)), (.it .u16 (0)), (.it .u16 (1))] 253 0 false)], n := 1, m := 1, q := q_4 }
noncomputable def tS_4 : Told := { f := 13, args := [a_4], v := (.ag [(.it .i64 (0)), (.it .i64 (0))]), r := [], n := 0, m := 1, q := q_4 }
noncomputable def tJ_4 : Told := { f := 28, args := [a_4], v := (.sl 1 0 7 7 false), r := [(1, .row [(.bl true), (.bl false), (.bl false), (.bl false), (.bl false), (.bl false), (.bl false)] 4 0 false)], n := 1, m := 1, q := q_4 }
@[reducible] noncomputable def hkC_4 : Hk := ⟨[tC_4]⟩
@[reducible] noncomputable def hk_4 : Hk := ⟨[tL_4, tC_4, tV_4, tS_4, tJ_4]⟩
noncomputable def a_5 : PV := (.sl 0 0 2 2 true)
noncomputable def q_5 : List (Nat × AO) := [(0, .row [(.it .u8 (191)), (.it .u8 (0)), (.it .u8 (10)), (.it .i16 (0)), (.it .i32 (0)), (.it .u8 (149)), (.it .u8 (0)), (.it .u8 (0)), (.it .i16 (0)), (.it .i32 (0))] 83 5 true)]
noncomputable def tL_5 : Told := { f := 9, args := [.st [114, 48, 32, 61, 32, 114, 49, 48, 59, 32, 101, 120, 105, 116]], v := a_5, r := q_5, n := 1 }
noncomputable def tC_5 : Told := { f := 50, args := [a_5], v := (.tp [(.it .i64 (0)), (.it .i64 (0))]), r := [], n := 0, m := 1, q := q_5 }
noncomputable def tV_5 : Told := { f := 27, args := [a_5], v := (.tp [(.sl 1 0 2 2 false), (.it .i64 (0))]), r := [(1, .row [(.it .u16 (1024)), (.it .u16 (1))] 253 0 false)], n := 1, m := 1, q := q_5 }
noncomputable def tS_5 : Told := { f := 13, args := [a_5], v := (.ag [(.it .i64 (0)), (.it .i64 (0))]), r := [], n := 0, m := 1, q := q_5 }
noncomputable def tJ_5 : Told := { f := 28, args := [a_5], v := (.sl 1 0 3 3 false), r := [(1, .row [(.bl true), (.bl false), (.bl false)] 4 0 false)], n := 1, m := 1, q := q_5 }
@[reducible] noncomputable def hkC_5 : Hk := ⟨[tC_5]⟩
@[reducible] noncomputable def hk_5 : Hk := ⟨[tL_5, tC_5, tV_5, tS_5, tJ_5]⟩
noncomputable def a_6 : PV := (.sl 0 0 2 2 true)
noncomputable def q_6 : List (Nat × AO) := [(0, .row [(.it .u8 (121)), (.it .u8 (0)), (.it .u8 (10)), (.it .i16 (-8)), (.it .i32 (0)), (.it .u8 (149)), (.it .u8 (0)), (.it .u8 (0)), (.it .i16 (0)), (.it .i32 (0))] 83 5 true)]
noncomputable def tL_6 : Told := { f := 9, args := [.st [114, 48, 32, 61, 32, 42, 40, 117, 54, 52, 32, 42, 41, 40, 114, 49, 48, 32, 45, 56, 41, 59, 32, 101, 120, 105, 116]], v := a_6, r := q_6, n := 1 }
noncomputable def tC_6 : Told := { f := 50, args := [a_6], v := (.tp [(.it .i64 (0)), (.it .i64 (0))]), r := [], n := 0, m := 1, q := q_6 }
noncomputable def tV_6 : Told := { f := 27, args := [a_6], v := (.tp [(.sl 1 0 2 2 false), (.it .i64 (0))]), r := [(1, .row [(.it .u16 (1024)), (.it .u16 (1))] 253 0 false)], n := 1, m := 1, q := q_6 }
noncomputable def tS_6 : Told := { f := 13, args := [a_6], v := (.ag [(.it .i64 (0)), (.it .i64 (0))]), r := [], n := 0, m := 1, q := q_6 }
noncomputable def tJ_6 : Told := { f := 28, args := [a_6], v := (.sl 1 0 3 3 false), r := [(1, .row [(.bl true), (.bl false), (.bl false)] 4 0 false)], n := 1, m := 1, q := q_6 }
@[reducible] noncomputable def hkC_6 : Hk := ⟨[tC_6]⟩
@[reducible] noncomputable def hk_6 : Hk := ⟨[tL_6, tC_6, tV_6, tS_6, tJ_6]⟩
noncomputable def a_7 : PV := (.sl 0 0 3 3 true)
noncomputable def q_7 : List (Nat × AO) := [(0, .row [(.it .u8 (122)), (.it .u8 (10)), (.it .u8 (0)), (.it .i16 (-516)), (.it .i32 (1)), (.it .u8 (183)), (.it .u8 (0)), (.it .u8 (0)), (.it .i16 (0)), (.it .i32 (0)), (.it .u8 (149)), (.it .u8 (0)), (.it .u8 (0)), (.it .i16 (0)), (.it .i32 (0))] 83 5 true)]
noncomputable def tL_7 : Told := { f := 9, args := [.st [42, 40, 117, 54, 52, 32, 42, 41, 40, 114, 49, 48, 32, 45, 53, 49, 54, 41, 32, 61, 32, 49, 59, 32, 114, 48, 32, 61, 32, 48, 59, 32, 101, 120, 105, 116]], v := a_7, r := q_7, n := 1 }
noncomputable def tC_7 : Told := { f := 50, args := [a_7], v := (.tp [(.it .i64 (0)), (.it .i64 (0))]), r := [], n := 0, m := 1, q := q_7 }
noncomputable def tV_7 : Told := { f := 27, args := [a_7], v := (.tp [(.sl 1 0 3 3 false), (.it .i64 (0))]), r := [(1, .row [(.it .u16 (1024)), (.it .u16 (0)), (.it .u16 (1))] 253 0 false)], n := 1, m := 1, q := q_7 }
noncomputable def tS_7 : Told := { f := 13, args := [a_7], v := (.ag [(.it .i64 (0)), (.it .i64 (0))]), r := [], n := 0, m := 1, q := q_7 }
noncomputable def tJ_7 : Told := { f := 28, args := [a_7], v := (.sl 1 0 4 4 false), r := [(1, .row [(.bl true), (.bl false), (.bl false), (.bl false)] 4 0 false)], n := 1, m := 1, q := q_7 }
@[reducible] noncomputable def hkC_7 : Hk := ⟨[tC_7]⟩
@[reducible] noncomputable def hk_7 : Hk := ⟨[tL_7, tC_7, tV_7, tS_7, tJ_7]⟩
noncomputable def a_8 : PV := (.sl 0 0 9 9 true)
noncomputable def q_8 : List (Nat × AO) := [(0, .row [(.it .u8 (24)), (.it .u8 (1)), (.it .u8 (1)), (.it .i16 (0)), (.it .i32 (0)), (.it .u8 (0)), (.it .u8 (0)), (.it .u8 (0)), (.it .i16 (0)), (.it .i32 (0)), (.it .u8 (183)), (.it .u8 (2)), (.it .u8 (0)), (.it .i16 (0)), (.it .i32 (8)), (.it .u8 (133)), (.it .u8 (0)), (.it .u8 (0)), (.it .i16 (0)), (.it .i32 (9)), (.it .u8 (191)), (.it .u8 (1)), (.it .u8 (0)), (.it .i16 (0)), (.it .i32 (0)), (.it .u8 (7)), (.it .u8 (1)), (.it .u8 (0)), (.it .i16 (0)), (.it .i32 (1)), (.it .u8 (133)), (.it .u8 (0)), (.it .u8 (0)), (.it .i16 (0)), (.it .i32 (10)), (.it .u8 (183)), (.it .u8 (0)), (.it .u8 (0)), (.it .i16 (0)), (.it .i32 (0)), (.it .u8 (149)), (.it .u8 (0)), (.it .u8 (0)), (.it .i16 (0)), (.it .i32 (0))] 83 5 true)]
noncomputable def tL_8 : Told := { f := 9, args := [.st [114, 49, 32, 61, 32, 109, 97, 112, 32, 48, 59, 32, 114, 50, 32, 61, 32, 56, 59, 32, 99, 97, 108, 108, 32, 57, 59, 32, 114, 49, 32, 61, 32, 114, 48, 59, 32, 114, 49, 32, 43, 61, 32, 49, 59, 32, 99, 97, 108, 108, 32, 49, 48, 59, 32, 114, 48, 32, 61, 32, 48, 59, 32, 101, 120, 105, 116]], v := a_8, r := q_8, n := 1 }
noncomputable def tC_8 : Told := { f := 50, args := [a_8], v := (.tp [(.it .i64 (0)), (.it .i64 (0))]), r := [], n := 0, m := 1, q := q_8 }
noncomputable def tV_8 : Told := { f := 27, args := [a_8], v := (.tp [(.sl 1 0 9 9 false), (.it .i64 (0))]), r := [(1, .row [(.it .u16 (0)), (.it .u16 (0)), (.it .u16 (2)), (.it .u16 (6)), (.it .u16 (1)), (.it .u16 (2)), (.it .u16 (2)), (.it .u16 (0)), (.it .u16 (1))] 253 0 false)], n := 1, m := 1, q := q_8 }
noncomputable def tS_8 : Told := { f := 13, args := [a_8], v := (.ag [(.it .i64 (0)), (.it .i64 (0))]), r := [], n := 0, m := 1, q := q_8 }
noncomputable def tJ_8 : Told := { f := 28, args := [a_8], v := (.sl 1 0 10 10 false), r := [(1, .row [(.bl true), (.bl false), (.bl false), (.bl false), (.bl false), (.bl false), (.bl false), (.bl false), (.bl false), (.bl false)] 4 0 false)], n := 1, m := 1, q := q_8 }
@[reducible] noncomputable def hkC_8 : Hk := ⟨[tC_8]⟩
@[reducible] noncomputable def hk_8 : Hk := ⟨[tL_8, tC_8, tV_8, tS_8, tJ_8]⟩
noncomputable def a_9 : PV := (.sl 0 0 3 3 true)
noncomputable def q_9 : List (Nat × AO) := [(0, .row [(.it .u8 (123)), (.it .u8 (10)), (.it .u8 (1)), (.it .i16 (-8)), (.it .i32 (0)), (.it .u8 (97)), (.it .u8 (0)), (.it .u8 (10)), (.it .i16 (-8)), (.it .i32 (0)), (.it .u8 (149)), (.it .u8 (0)), (.it .u8 (0)), (.it .i16 (0)), (.it .i32 (0))] 83 5 true)]
noncomputable def tL_9 : Told := { f := 9, args := [.st [42, 40, 117, 54, 52, 32, 42, 41, 40, 114, 49, 48, 32, 45, 56, 41, 32, 61, 32, 114, 49, 59, 32, 114, 48, 32, 61, 32, 42, 40, 117, 51, 50, 32, 42, 41, 40, 114, 49, 48, 32, 45, 56, 41, 59, 32, 101, 120, 105, 116]], v := a_9, r := q_9, n := 1 }
noncomputable def tC_9 : Told := { f := 50, args := [a_9], v := (.tp [(.it .i64 (0)), (.it .i64 (0))]), r := [], n := 0, m := 1, q := q_9 }
noncomputable def tV_9 : Told := { f := 27, args := [a_9], v := (.tp [(.sl 1 0 3 3 false), (.it .i64 (0))]), r := [(1, .row [(.it .u16 (1026)), (.it .u16 (1024)), (.it .u16 (1))] 253 0 false)], n := 1, m := 1, q := q_9 }
noncomputable def tS_9 : Told := { f := 13, args := [a_9], v := (.ag [(.it .i64 (0)), (.it .i64 (0))]), r := [], n := 0, m := 1, q := q_9 }
noncomputable def tJ_9 : Told := { f := 28, args := [a_9], v := (.sl 1 0 4 4 false), r := [(1, .row [(.bl true), (.bl false), (.bl false), (.bl false)] 4 0 false)], n := 1, m := 1, q := q_9 }
@[reducible] noncomputable def hkC_9 : Hk := ⟨[tC_9]⟩
@[reducible] noncomputable def hk_9 : Hk := ⟨[tL_9, tC_9, tV_9, tS_9, tJ_9]⟩
noncomputable def a_10 : PV := (.sl 0 0 9 9 true)
noncomputable def q_10 : List (Nat × AO) := [(0, .row [(.it .u8 (24)), (.it .u8 (1)), (.it .u8 (1)), (.it .i16 (0)), (.it .i32 (0)), (.it .u8 (0)), (.it .u8 (0)), (.it .u8 (0)), (.it .i16 (0)), (.it .i32 (0)), (.it .u8 (183)), (.it .u8 (2)), (.it .u8 (0)), (.it .i16 (0)), (.it .i32 (8)), (.it .u8 (133)), (.it .u8 (0)), (.it .u8 (0)), (.it .i16 (0)), (.it .i32 (9)), (.it .u8 (191)), (.it .u8 (6)), (.it .u8 (0)), (.it .i16 (0)), (.it .i32 (0)), (.it .u8 (191)), (.it .u8 (1)), (.it .u8 (6)), (.it .i16 (0)), (.it .i32 (0)), (.it .u8 (133)), (.it .u8 (0)), (.it .u8 (0)), (.it .i16 (0)), (.it .i32 (10)), (.it .u8 (113)), (.it .u8 (0)), (.it .u8 (6)), (.it .i16 (0)), (.it .i32 (0)), (.it .u8 (149)), (.it .u8 (0)), (.it .u8 (0)), (.it .i16 (0)), (.it .i32 (0))] 83 5 true)]
noncomputable def tL_10 : Told := { f := 9, args := [.st [114, 49, 32, 61, 32, 109, 97, 112, 32, 48, 59, 32, 114, 50, 32, 61, 32, 56, 59, 32, 99, 97, 108, 108, 32, 57, 59, 32, 114, 54, 32, 61, 32, 114, 48, 59, 32, 114, 49, 32, 61, 32, 114, 54, 59, 32, 99, 97, 108, 108, 32, 49, 48, 59, 32, 114, 48, 32, 61, 32, 42, 40, 117, 56, 32, 42, 41, 40, 114, 54, 32, 43, 48, 41, 59, 32, 101, 120, 105, 116]], v := a_10, r := q_10, n := 1 }
noncomputable def tC_10 : Told := { f := 50, args := [a_10], v := (.tp [(.it .i64 (0)), (.it .i64 (0))]), r := [], n := 0, m := 1, q := q_10 }
noncomputable def tV_10 : Told := { f := 27, args := [a_10], v := (.tp [(.sl 1 0 9 9 false), (.it .i64 (0))]), r := [(1, .row [(.it .u16 (0)), (.it .u16 (0)), (.it .u16 (2)), (.it .u16 (6)), (.it .u16 (1)), (.it .u16 (64)), (.it .u16 (66)), (.it .u16 (64)), (.it .u16 (1))] 253 0 false)], n := 1, m := 1, q := q_10 }
noncomputable def tS_10 : Told := { f := 13, args := [a_10], v := (.ag [(.it .i64 (0)), (.it .i64 (0))]), r := [], n := 0, m := 1, q := q_10 }
noncomputable def tJ_10 : Told := { f := 28, args := [a_10], v := (.sl 1 0 10 10 false), r := [(1, .row [(.bl true), (.bl false), (.bl false), (.bl false), (.bl false), (.bl false), (.bl false), (.bl false), (.bl false), (.bl false)] 4 0 false)], n := 1, m := 1, q := q_10 }
@[reducible] noncomputable def hkC_10 : Hk := ⟨[tC_10]⟩
@[reducible] noncomputable def hk_10 : Hk := ⟨[tL_10, tC_10, tV_10, tS_10, tJ_10]⟩
noncomputable def a_11 : PV := (.sl 0 0 5 5 true)
noncomputable def q_11 : List (Nat × AO) := [(0, .row [(.it .u8 (191)), (.it .u8 (1)), (.it .u8 (10)), (.it .i16 (0)), (.it .i32 (0)), (.it .u8 (7)), (.it .u8 (1)), (.it .u8 (0)), (.it .i16 (0)), (.it .i32 (-16)), (.it .u8 (133)), (.it .u8 (0)), (.it .u8 (0)), (.it .i16 (0)), (.it .i32 (27)), (.it .u8 (183)), (.it .u8 (0)), (.it .u8 (0)), (.it .i16 (0)), (.it .i32 (0)), (.it .u8 (149)), (.it .u8 (0)), (.it .u8 (0)), (.it .i16 (0)), (.it .i32 (0))] 83 5 true)]
noncomputable def tL_11 : Told := { f := 9, args := [.st [114, 49, 32, 61, 32, 114, 49, 48, 59, 32, 114, 49, 32, 43, 61, 32, 45, 49, 54, 59, 32, 99, 97, 108, 108, 32, 50, 55, 59, 32, 114, 48, 32, 61, 32, 48, 59, 32, 101, 120, 105, 116]], v := a_11, r := q_11, n := 1 }
noncomputable def tC_11 : Told := { f := 50, args := [a_11], v := (.tp [(.it .i64 (0)), (.it .i64 (0))]), r := [], n := 0, m := 1, q := q_11 }
noncomputable def tV_11 : Told := { f := 27, args := [a_11], v := (.tp [(.sl 1 0 5 5 false), (.it .i64 (0))]), r := [(1, .row [(.it .u16 (1024)), (.it .u16 (2)), (.it .u16 (2)), (.it .u16 (0)), (.it .u16 (1))] 253 0 false)], n := 1, m := 1, q := q_11 }
noncomputable def tS_11 : Told := { f := 13, args := [a_11], v := (.ag [(.it .i64 (0)), (.it .i64 (0))]), r := [], n := 0, m := 1, q := q_11 }
noncomputable def tJ_11 : Told := { f := 28, args := [a_11], v := (.sl 1 0 6 6 false), r := [(1, .row [(.bl true), (.bl false), (.bl false), (.bl false), (.bl false), (.bl false)] 4 0 false)], n := 1, m := 1, q := q_11 }
@[reducible] noncomputable def hkC_11 : Hk := ⟨[tC_11]⟩
@[reducible] noncomputable def hk_11 : Hk := ⟨[tL_11, tC_11, tV_11, tS_11, tJ_11]⟩
noncomputable def a_12 : PV := (.sl 0 0 12 12 true)
noncomputable def q_12 : List (Nat × AO) := [(0, .row [(.it .u8 (24)), (.it .u8 (1)), (.it .u8 (1)), (.it .i16 (0)), (.it .i32 (0)), (.it .u8 (0)), (.it .u8 (0)), (.it .u8 (0)), (.it .i16 (0)), (.it .i32 (0)), (.it .u8 (183)), (.it .u8 (2)), (.it .u8 (0)), (.it .i16 (0)), (.it .i32 (8)), (.it .u8 (133)), (.it .u8 (0)), (.it .u8 (0)), (.it .i16 (0)), (.it .i32 (9)), (.it .u8 (21)), (.it .u8 (0)), (.it .u8 (0)), (.it .i16 (5)), (.it .i32 (0)), (.it .u8 (191)), (.it .u8 (6)), (.it .u8 (0)), (.it .i16 (0)), (.it .i32 (0)), (.it .u8 (191)), (.it .u8 (1)), (.it .u8 (6)), (.it .i16 (0)), (.it .i32 (0)), (.it .u8 (133)), (.it .u8 (0)), (.it .u8 (0)), (.it .i16 (0)), (.it .i32 (10)), (.it .u8 (191)), (.it .u8 (1)), (.it .u8 (6)), (.it .i16 (0)), (.it .i32 (0)), (.it .u8 (133)), (.it .u8 (0)), (.it .u8 (0)), (.it .i16 (0)), (.it .i32 (10)), (.it .u8 (183)), (.it .u8 (0)), (.it .u8 (0)), (.it .i16 (0)), (.it .i32 (0)), (.it .u8 (149)), (.it .u8 (0)), (.it .u8 (0)), (.it .i16 (0)), (.it .i32 (0))] 83 5 true)]
noncomputable def tL_12 : Told := { f := 9, args := [.st [114, 49, 32, 61, 32, 109, 97, 112, 32, 48, 59, 32, 114, 50, 32, 61, 32, 56, 59, 32, 99, 97, 108, 108, 32, 57, 59, 32, 105, 102, 32, 114, 48, 32, 61, 61, 32, 48, 32, 103, 111, 116, 111, 32, 43, 53, 59, 32, 114, 54, 32, 61, 32, 114, 48, 59, 32, 114, 49, 32, 61, 32, 114, 54, 59, 32, 99, 97, 108, 108, 32, 49, 48, 59, 32, 114, 49, 32, 61, 32, 114, 54, 59, 32, 99, 97, 108, 108, 32, 49, 48, 59, 32, 114, 48, 32, 61, 32, 48, 59, 32, 101, 120, 105, 116]], v := a_12, r := q_12, n := 1 }
noncomputable def tC_12 : Told := { f := 50, args := [a_12], v := (.tp [(.it .i64 (0)), (.it .i64 (0))]), r := [], n := 0, m := 1, q := q_12 }
noncomputable def tV_12 : Told := { f := 27, args := [a_12], v := (.tp [(.sl 1 0 12 12 false), (.it .i64 (0))]), r := [(1, .row [(.it .u16 (0)), (.it .u16 (0)), (.it .u16 (2)), (.it .u16 (6)), (.it .u16 (1)), (.it .u16 (1)), (.it .u16 (64)), (.it .u16 (66)), (.it .u16 (64)), (.it .u16 (2)), (.it .u16 (0)), (.it .u16 (1))] 253 0 false)], n := 1, m := 1, q := q_12 }
noncomputable def tS_12 : Told := { f := 13, args := [a_12], v := (.ag [(.it .i64 (0)), (.it .i64 (0))]), r := [], n := 0, m := 1, q := q_12 }
noncomputable def tJ_12 : Told := { f := 28, args := [a_12], v := (.sl 1 0 13 13 false), r := [(1, .row [(.bl true), (.bl false), (.bl false), (.bl false), (.bl false), (.bl true), (.bl false), (.bl false), (.bl false), (.bl false), (.bl true), (.bl false), (.bl false)] 4 0 false)], n := 1, m := 1, q := q_12 }
@[reducible] noncomputable def hkC_12 : Hk := ⟨[tC_12]⟩
@[reducible] noncomputable def hk_12 : Hk := ⟨[tL_12, tC_12, tV_12, tS_12, tJ_12]⟩
noncomputable def a_13 : PV := (.sl 0 0 6 6 true)
noncomputable def q_13 : List (Nat × AO) := [(0, .row [(.it .u8 (24)), (.it .u8 (1)), (.it .u8 (1)), (.it .i16 (0)), (.it .i32 (0)), (.it .u8 (0)), (.it .u8 (0)), (.it .u8 (0)), (.it .i16 (0)), (.it .i32 (0)), (.it .u8 (191)), (.it .u8 (2)), (.it .u8 (10)), (.it .i16 (0)), (.it .i32 (0)), (.it .u8 (133)), (.it .u8 (0)), (.it .u8 (0)), (.it .i16 (0)), (.it .i32 (9)), (.it .u8 (183)), (.it .u8 (0)), (.it .u8 (0)), (.it .i16 (0)), (.it .i32 (0)), (.it .u8 (149)), (.it .u8 (0)), (.it .u8 (0)), (.it .i16 (0)), (.it .i32 (0))] 83 5 true)]
noncomputable def tL_13 : Told := { f := 9, args := [.st [114, 49, 32, 61, 32, 109, 97, 112, 32, 48, 59, 32, 114, 50, 32, 61, 32, 114, 49, 48, 59, 32, 99, 97, 108, 108, 32, 57, 59, 32, 114, 48, 32, 61, 32, 48, 59, 32, 101, 120, 105, 116]], v := a_13, r := q_13, n := 1 }
noncomputable def tC_13 : Told := { f := 50, args := [a_13], v := (.tp [(.it .i64 (0)), (.it .i64 (0))]), r := [], n := 0, m := 1, q := q_13 }
noncomputable def tV_13 : Told := { f := 27, args := [a_13], v := (.tp [(.sl 1 0 6 6 false), (.it .i64 (0))]), r := [(1, .row [(.it .u16 (1024)), (.it .u16 (0)), (.it .u16 (1026)), (.it .u16 (6)), (.it .u16 (0)), (.it .u16 (1))] 253 0 false)], n := 1, m := 1, q := q_13 }
noncomputable def tS_13 : Told := { f := 13, args := [a_13], v := (.ag [(.it .i64 (0)), (.it .i64 (0))]), r := [], n := 0, m := 1, q := q_13 }
noncomputable def tJ_13 : Told := { f := 28, args := [a_13], v := (.sl 1 0 7 7 false), r := [(1, .row [(.bl true), (.bl false), (.bl false), (.bl false), (.bl false), (.bl false), (.bl false)] 4 0 false)], n := 1, m := 1, q := q_13 }
@[reducible] noncomputable def hkC_13 : Hk := ⟨[tC_13]⟩
@[reducible] noncomputable def hk_13 : Hk := ⟨[tL_13, tC_13, tV_13, tS_13, tJ_13]⟩
noncomputable def a_14 : PV := (.sl 0 0 3 3 true)
noncomputable def q_14 : List (Nat × AO) := [(0, .row [(.it .u8 (4)), (.it .u8 (1)), (.it .u8 (0)), (.it .i16 (0)), (.it .i32 (1)), (.it .u8 (183)), (.it .u8 (0)), (.it .u8 (0)), (.it .i16 (0)), (.it .i32 (0)), (.it .u8 (149)), (.it .u8 (0)), (.it .u8 (0)), (.it .i16 (0)), (.it .i32 (0))] 83 5 true)]
noncomputable def tL_14 : Told := { f := 9, args := [.st [119, 49, 32, 43, 61, 32, 49, 59, 32, 114, 48, 32, 61, 32, 48, 59, 32, 101, 120, 105, 116]], v := a_14, r := q_14, n := 1 }
noncomputable def tC_14 : Told := { f := 50, args := [a_14], v := (.tp [(.it .i64 (0)), (.it .i64 (0))]), r := [], n := 0, m := 1, q := q_14 }
noncomputable def tV_14 : Told := { f := 27, args := [a_14], v := (.tp [(.sl 1 0 3 3 false), (.it .i64 (0))]), r := [(1, .row [(.it .u16 (2)), (.it .u16 (0)), (.it .u16 (1))] 253 0 false)], n := 1, m := 1, q := q_14 }
noncomputable def tS_14 : Told := { f := 13, args := [a_14], v := (.ag [(.it .i64 (0)), (.it .i64 (0))]), r := [], n := 0, m := 1, q := q_14 }
noncomputable def tJ_14 : Told := { f := 28, args := [a_14], v := (.sl 1 0 4 4 false), r := [(1, .row [(.bl true), (.bl false), (.bl false), (.bl false)] 4 0 false)], n := 1, m := 1, q := q_14 }
@[reducible] noncomputable def hkC_14 : Hk := ⟨[tC_14]⟩
@[reducible] noncomputable def hk_14 : Hk := ⟨[tL_14, tC_14, tV_14, tS_14, tJ_14]⟩
noncomputable def a_15 : PV := (.sl 0 0 8 8 true)
noncomputable def q_15 : List (Nat × AO) := [(0, .row [(.it .u8 (191)), (.it .u8 (1)), (.it .u8 (10)), (.it .i16 (0)), (.it .i32 (0)), (.it .u8 (7)), (.it .u8 (1)), (.it .u8 (0)), (.it .i16 (0)), (.it .i32 (-16)), (.it .u8 (183)), (.it .u8 (2)), (.it .u8 (0)), (.it .i16 (0)), (.it .i32 (0)), (.it .u8 (183)), (.it .u8 (3)), (.it .u8 (0)), (.it .i16 (0)), (.it .i32 (5)), (.it .u8 (133)), (.it .u8 (0)), (.it .u8 (0)), (.it .i16 (0)), (.it .i32 (26)), (.it .u8 (122)), (.it .u8 (10)), (.it .u8 (0)), (.it .i16 (-8)), (.it .i32 (1)), (.it .u8 (183)), (.it .u8 (0)), (.it .u8 (0)), (.it .i16 (0)), (.it .i32 (0)), (.it .u8 (149)), (.it .u8 (0)), (.it .u8 (0)), (.it .i16 (0)), (.it .i32 (0))] 83 5 true)]
noncomputable def tL_15 : Told := { f := 9, args := [.st [114, 49, 32, 61, 32, 114, 49, 48, 59, 32, 114, 49, 32, 43, 61, 32, 45, 49, 54, 59, 32, 114, 50, 32, 61, 32, 48, 59, 32, 114, 51, 32, 61, 32, 53, 59, 32, 99, 97, 108, 108, 32, 50, 54, 59, 32, 42, 40, 117, 54, 52, 32, 42, 41, 40, 114, 49, 48, 32, 45, 56, 41, 32, 61, 32, 49, 59, 32, 114, 48, 32, 61, 32, 48, 59, 32, 101, 120, 105, 116]], v := a_15, r := q_15, n := 1 }
noncomputable def tC_15 : Told := { f := 50, args := [a_15], v := (.tp [(.it .i64 (0)), (.it .i64 (0))]), r := [], n := 0, m := 1, q := q_15 }
noncomputable def tV_15 : Told := { f := 27, args := [a_15], v := (.tp [(.sl 1 0 8 8 false), (.it .i64 (0))]), r := [(1, .row [(.it .u16 (1024)), (.it .u16 (1026)), (.it .u16 (1026)), (.it .u16 (1030)), (.it .u16 (1038)), (.it .u16 (1024)), (.it .u16 (0)), (.it .u16 (1))] 253 0 false)], n := 1, m := 1, q := q_15 }
noncomputable def tS_15 : Told := { f := 13, args := [a_15], v := (.ag [(.it .i64 (0)), (.it .i64 (0))]), r := [], n := 0, m := 1, q := q_15 }
noncomputable def tJ_15 : Told := { f := 28, args := [a_15], v := (.sl 1 0 9 9 false), r := [(1, .row [(.bl true), (.bl false), (.bl false), (.bl false), (.bl false), (.bl false), (.bl false), (.bl false), (.bl false)] 4 0 false)], n := 1, m := 1, q := q_15 }
@[reducible] noncomputable def hkC_15 : Hk := ⟨[tC_15]⟩
@[reducible] noncomputable def hk_15 : Hk := ⟨[tL_15, tC_15, tV_15, tS_15, tJ_15]⟩
noncomputable def a_16 : PV := (.sl 0 0 2 2 true)
noncomputable def q_16 : List (Nat × AO) := [(0, .row [(.it .u8 (183)), (.it .u8 (0)), (.it .u8 (0)), (.it .i16 (0)), (.it .i32 (0)), (.it .u8 (149)), (.it .u8 (0)), (.it .u8 (0)), (.it .i16 (0)), (.it .i32 (0))] 83 5 true)]
noncomputable def tL_16 : Told := { f := 9, args := [.st [114, 48, 32, 61, 32, 48, 59, 32, 101, 120, 105, 116]], v := a_16, r := q_16, n := 1 }
noncomputable def tC_16 : Told := { f := 50, args := [a_16], v := (.tp [(.it .i64 (0)), (.it .i64 (0))]), r := [], n := 0, m := 1, q := q_16 }
noncomputable def tV_16 : Told := { f := 27, args := [a_16], v := (.tp [(.sl 1 0 2 2 false), (.it .i64 (0))]), r := [(1, .row [(.it .u16 (0)), (.it .u16 (1))] 253 0 false)], n := 1, m := 1, q := q_16 }
noncomputable def tS_16 : Told := { f := 13, args := [a_16], v := (.ag [(.it .i64 (0)), (.it .i64 (0))]), r := [], n := 0, m := 1, q := q_16 }
noncomputable def tJ_16 : Told := { f := 28, args := [a_16], v := (.sl 1 0 3 3 false), r := [(1, .row [(.bl true), (.bl false), (.bl false)] 4 0 false)], n := 1, m := 1, q := q_16 }
@[reducible] noncomputable def hkC_16 : Hk := ⟨[tC_16]⟩
@[reducible] noncomputable def hk_16 : Hk := ⟨[tL_16, tC_16, tV_16, tS_16, tJ_16]⟩
noncomputable def a_17 : PV := (.sl 0 0 1 1 true)
noncomputable def q_17 : List (Nat × AO) := [(0, .row [(.it .u8 (149)), (.it .u8 (0)), (.it .u8 (0)), (.it .i16 (0)), (.it .i32 (0))] 83 5 true)]
noncomputable def tL_17 : Told := { f := 9, args := [.st [101, 120, 105, 116]], v := a_17, r := q_17, n := 1 }
noncomputable def tC_17 : Told := { f := 50, args := [a_17], v := (.tp [(.it .i64 (0)), (.it .i64 (0))]), r := [], n := 0, m := 1, q := q_17 }
noncomputable def tV_17 : Told := { f := 27, args := [a_17], v := (.tp [(.sl 1 0 1 1 false), (.it .i64 (0))]), r := [(1, .row [(.it .u16 (1))] 253 0 false)], n := 1, m := 1, q := q_17 }
noncomputable def tS_17 : Told := { f := 13, args := [a_17], v := (.ag [(.it .i64 (0)), (.it .i64 (0))]), r := [], n := 0, m := 1, q := q_17 }
noncomputable def tJ_17 : Told := { f := 28, args := [a_17], v := (.sl 1 0 2 2 false), r := [(1, .row [(.bl true), (.bl false)] 4 0 false)], n := 1, m := 1, q := q_17 }
@[reducible] noncomputable def hkC_17 : Hk := ⟨[tC_17]⟩
@[reducible] noncomputable def hk_17 : Hk := ⟨[tL_17, tC_17, tV_17, tS_17, tJ_17]⟩
@[reducible] noncomputable def hkK : Hk := ⟨[tL_16, tC_16, tV_16, tS_16, tJ_16, tL_17, tC_17, tV_17, tS_17, tJ_17]⟩
noncomputable def runT (hk : Hk) (t : Told) : Option Unit := @evCall noFs _ Tryz.prog hk (@evDraw noFs _ Tryz.prog) 10000 t.f t.args ⟨putO t.q, t.m⟩ (kToldA t) (fun _ _ => none)
/-! ### The stages -/
noncomputable def sK : S2 := ⟨[(0, sx)], [], 3300⟩
@[reducible] noncomputable def FV (r : Int) : Fs := ⟨[], [(.o .rem .i64 (.v 0) (.c 16), r)], []⟩
noncomputable def runK : Option Unit := @evL noFs hkK _ Tryz.prog (@evDraw noFs _ Tryz.prog) 10000 16 [c1] Ta [] ⟨.lf, 0⟩ (kS2 sK)
noncomputable def runM (hk : Hk) (r : Int) : Option Unit := @evC (FV r) _ Tryz.prog hk (@evDraw (FV r) _ Tryz.prog) 10000 false 16 d2 sK.T [] sK.H kT
set_option maxRecDepth 100000000
theorem X0_is : X0 = some (Ta, 0) := by kernel_rfl
end Go.Proofs.YtoapdkcokemieaaGreat.Ev
