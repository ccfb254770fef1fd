/-
  The law on numbers that go from register to register, by the program's text.
-/
import Derived.Test.YtjfiakgkeniocaaL16C
import Derived.Test.YtjfiakgkeniocaaL16K
namespace Go.Proofs.Ytjfiakgkeniocaa
open Go.RowKit
set_option linter.unusedVariables false
set_option linter.unusedSimpArgs false
set_option linter.unusedSectionVars false
set_option maxRecDepth 100000
set_option maxHeartbeats 4000000
section
variable {M : Nat → Prop} {B0 : Nat} {S : World → Prop} (hU : Up M B0 S) (a0 : Option Addr) (p0 : Nat) (q0 : Nat) (n0 : Nat) (k0 : Nat) (A0 : Nat → Insn) (hR0 : Ro S c_Insn 5 a0 p0 q0 n0 A0)
include hU a0 p0 q0 n0 k0 A0 hR0
theorem go_flow_program_reached_v1_L0 (s : Sh_flow_program_reached_v1_L0) (r : Ex_flow_program_reached_v1_L0) (h : lpO (st_flow_program_reached_v1_L0 n0 A0) s = some r) : GoesG Try.prog M B0 S (.loop bd_flow_program_reached_v1_L0) 3 (fr_flow_program_reached_v1_L0 a0 p0 q0 n0 k0 A0 s) (Hs_flow_program_reached_v1_L0 a0 p0 q0 n0 k0 A0 s) (ex_flow_program_reached_v1_L0 r) 1 (vf_flow_program_reached_v1_L0 a0 p0 q0 n0 k0 A0 r) (Hf_flow_program_reached_v1_L0 a0 p0 q0 n0 k0 A0 r) 3 :=
  goes_lpO (fun s q e => by
    cases s with
    | c0  =>
      unfold st_flow_program_reached_v1_L0 at e
      dsimp only at e
      replace e := bindO_eq e
      obtain ⟨gb0, e_gb0, e⟩ := e
      let P1 : List (PG Try.prog M B0 S) := [.o, .o, .o, .o, .o, .o, .o, .o, .a 1, .o, .o, .o, .o, .o, .x (sqShrP_ok rt36 (f := cZ) (N := 1) (A := (fun _ => 0)) (x := 0) [.int .i64 (0)] rfl cZ_len (fun w => by kernel_rfl) (show inR 0 (1 + 1) = true from by decide) (by decide)) [1], .o, .o, .o]
      rcases gb0 with _ | ⟨gb0_0⟩ | ⟨gb0_0, gb0_1⟩
      · try dsimp only at e
        replace e := bindO_eq e
        obtain ⟨rb1, e_rb1, e⟩ := e
        try dsimp only at e
        replace e := cond_eq_or e
        let P2 : List (PG Try.prog M B0 S) := P1 ++ [.xg (ok0_flow_program_next_v3 hU a0 p0 q0 n0 k0 A0 hR0 0  e_gb0) [], .o, .o, .o, .cg (ok_flow_program_named_v3 hU a0 p0 q0 n0 k0 A0 hR0 0 rb1 e_rb1), .o, .o]
        rcases e with ⟨hq0, e⟩ | ⟨hq0, e⟩
        · replace e := cond_eq_or e
          let P3 : List (PG Try.prog M B0 S) := P2 ++ [.b hq0, .o, .o, .o, .o, .o, .o, .x (sqAppL1_ok (ty := 36) rt36 #[false, false] (f := cZ) (c := 1) rb1.1 (T' := 3) cZ_len cZ_one (by decide)) [4], .o, .o, .o, .o, .o, .q (ixM_ok (kd := .i64) (T := 36) (x := 0) (N := 1) (sz := 1) rfl (fun w => by kernel_rfl) (show inR 0 1 = true from by decide)), .l (accG (i := 5) (f := cZ) (A := (fun _ => rb1.1)) (k := 0) 0 [.int .i64 (((fun _ => rb1.1) 0))] cZ_len (inR_nat (show inR 0 1 = true from by decide)) rfl), .o, .o, .o]
          rcases e with ⟨hq1, e⟩ | ⟨hq1, e⟩
          · replace e := cond_eq_or e
            let P4 : List (PG Try.prog M B0 S) := P3 ++ [.q (ixM_ok (kd := .i64) (T := 64) (x := ((fun _ => rb1.1) 0)) (N := n0) (sz := 1) rfl (fun w => by kernel_rfl) hq1)]
            rcases e with ⟨hq2, e⟩ | ⟨hq2, e⟩
            · cases e; exact goes_runM hU (P4 ++ [.l (accG (i := 0) (f := cB) (A := updF (fun _ => false) 0 true) (k := (((fun _ => rb1.1) 0)).toNat) 0 [.bool true] cB_len (inR_nat hq1) (congrArg (fun b => [Value.bool b]) hq2)), .o, .o, .o, .o]) [0, 3] (fun b => rfl) (by decide) rfl rfl (fun b => by kernel_rfl)
            · cases e; exact goes_runM hU (P4 ++ [.l (accG (i := 0) (f := cB) (A := updF (fun _ => false) 0 true) (k := (((fun _ => rb1.1) 0)).toNat) 0 [.bool false] cB_len (inR_nat hq1) (congrArg (fun b => [Value.bool b]) hq2)), .o, .o, .o, .q (ixM_ok (kd := .i64) (T := 64) (x := ((fun _ => rb1.1) 0)) (N := n0) (sz := 1) rfl (fun w => by kernel_rfl) hq1), .x (sqStG_ok (T := 4) (e := 4) (f := cB) (A := updF (fun _ => false) 0 true) (v := true) 0 (.bool true) cB_len cB_one rfl rfl (fun w => by kernel_rfl) (inR_nat hq1)) [0], .o, .o, .o, .x (sqAppL_ok (ty := 36) rt36 #[false, false] (f := cZ) (N := 0) (A := (fun _ => 0)) (c := 1) [((fun _ => rb1.1) 0)] (T' := 3) .row cZ_len cZ_one (by decide) rfl (by decide)) [3, 6], .o, .o, .o, .o]) [0, 7] (fun b => rfl) (by decide) rfl rfl (fun b => by kernel_rfl)
          · exact none_some e
        · cases e; exact goes_runM hU (P2 ++ [.b hq0, .o, .o, .o, .o, .o, .o, .o]) [0, 3] (fun b => rfl) (by decide) rfl rfl (fun b => by kernel_rfl)
      · try dsimp only at e
        replace e := bindO_eq e
        obtain ⟨rb1, e_rb1, e⟩ := e
        try dsimp only at e
        replace e := cond_eq_or e
        let P5 : List (PG Try.prog M B0 S) := P1 ++ [.xg (ok1_flow_program_next_v3 hU a0 p0 q0 n0 k0 A0 hR0 0 gb0_0 e_gb0) [], .o, .o, .o, .cg (ok_flow_program_named_v3 hU a0 p0 q0 n0 k0 A0 hR0 0 rb1 e_rb1), .o, .o]
        rcases e with ⟨hq0, e⟩ | ⟨hq0, e⟩
        · replace e := cond_eq_or e
          let P6 : List (PG Try.prog M B0 S) := P5 ++ [.b hq0, .o, .o, .o, .o, .o, .o, .x (sqAppL_ok (ty := 36) rt36 #[false, false] (f := cZ) (N := 1) (A := (fun _ => gb0_0)) (c := 1) [rb1.1] (T' := 3) .plain cZ_len cZ_one (by decide) rfl (by decide)) [4, 5], .o, .o, .o, .o, .o, .q (ixM_ok (kd := .i64) (T := 36) (x := 0) (N := 2) (sz := 1) rfl (fun w => by kernel_rfl) (show inR 0 2 = true from by decide)), .l (accG (i := 6) (f := cZ) (A := updF (fun _ => gb0_0) 1 rb1.1) (k := 0) 0 [.int .i64 (((fun _ => gb0_0) 0))] cZ_len (inR_nat (show inR 0 2 = true from by decide)) rfl), .o, .o, .o]
          rcases e with ⟨hq1, e⟩ | ⟨hq1, e⟩
          · replace e := cond_eq_or e
            let P7 : List (PG Try.prog M B0 S) := P6 ++ [.q (ixM_ok (kd := .i64) (T := 64) (x := ((fun _ => gb0_0) 0)) (N := n0) (sz := 1) rfl (fun w => by kernel_rfl) hq1)]
            rcases e with ⟨hq2, e⟩ | ⟨hq2, e⟩
            · replace e := cond_eq_or e
              let P8 : List (PG Try.prog M B0 S) := P7 ++ [.l (accG (i := 0) (f := cB) (A := updF (fun _ => false) 0 true) (k := (((fun _ => gb0_0) 0)).toNat) 0 [.bool true] cB_len (inR_nat hq1) (congrArg (fun b => [Value.bool b]) hq2)), .o, .o, .o, .o, .q (ixM_ok (kd := .i64) (T := 36) (x := 1) (N := 2) (sz := 1) rfl (fun w => by kernel_rfl) (show inR 1 2 = true from by decide)), .l (accG (i := 6) (f := cZ) (A := updF (fun _ => gb0_0) 1 rb1.1) (k := 1) 0 [.int .i64 (rb1.1)] cZ_len (inR_nat (show inR 1 2 = true from by decide)) rfl), .o, .o, .o]
              rcases e with ⟨hq3, e⟩ | ⟨hq3, e⟩
              · replace e := cond_eq_or e
                let P9 : List (PG Try.prog M B0 S) := P8 ++ [.q (ixM_ok (kd := .i64) (T := 64) (x := rb1.1) (N := n0) (sz := 1) rfl (fun w => by kernel_rfl) hq3)]
                rcases e with ⟨hq4, e⟩ | ⟨hq4, e⟩
                · cases e; exact goes_runM hU (P9 ++ [.l (accG (i := 0) (f := cB) (A := updF (fun _ => false) 0 true) (k := (rb1.1).toNat) 0 [.bool true] cB_len (inR_nat hq3) (congrArg (fun b => [Value.bool b]) hq4)), .o, .o, .o, .o]) [0, 3] (fun b => rfl) (by decide) rfl rfl (fun b => by kernel_rfl)
                · cases e; exact goes_runM hU (P9 ++ [.l (accG (i := 0) (f := cB) (A := updF (fun _ => false) 0 true) (k := (rb1.1).toNat) 0 [.bool false] cB_len (inR_nat hq3) (congrArg (fun b => [Value.bool b]) hq4)), .o, .o, .o, .q (ixM_ok (kd := .i64) (T := 64) (x := rb1.1) (N := n0) (sz := 1) rfl (fun w => by kernel_rfl) hq3), .x (sqStG_ok (T := 4) (e := 4) (f := cB) (A := updF (fun _ => false) 0 true) (v := true) 0 (.bool true) cB_len cB_one rfl rfl (fun w => by kernel_rfl) (inR_nat hq3)) [0], .o, .o, .o, .x (sqAppL_ok (ty := 36) rt36 #[false, false] (f := cZ) (N := 0) (A := (fun _ => 0)) (c := 1) [rb1.1] (T' := 3) .row cZ_len cZ_one (by decide) rfl (by decide)) [3, 7], .o, .o, .o, .o]) [0, 8] (fun b => rfl) (by decide) rfl rfl (fun b => by kernel_rfl)
              · exact none_some e
            · replace e := cond_eq_or e
              let P10 : List (PG Try.prog M B0 S) := P7 ++ [.l (accG (i := 0) (f := cB) (A := updF (fun _ => false) 0 true) (k := (((fun _ => gb0_0) 0)).toNat) 0 [.bool false] cB_len (inR_nat hq1) (congrArg (fun b => [Value.bool b]) hq2)), .o, .o, .o, .q (ixM_ok (kd := .i64) (T := 64) (x := ((fun _ => gb0_0) 0)) (N := n0) (sz := 1) rfl (fun w => by kernel_rfl) hq1), .x (sqStG_ok (T := 4) (e := 4) (f := cB) (A := updF (fun _ => false) 0 true) (v := true) 0 (.bool true) cB_len cB_one rfl rfl (fun w => by kernel_rfl) (inR_nat hq1)) [0], .o, .o, .o, .x (sqAppL_ok (ty := 36) rt36 #[false, false] (f := cZ) (N := 0) (A := (fun _ => 0)) (c := 1) [((fun _ => gb0_0) 0)] (T' := 3) .row cZ_len cZ_one (by decide) rfl (by decide)) [3, 7], .o, .o, .o, .o, .q (ixM_ok (kd := .i64) (T := 36) (x := 1) (N := 2) (sz := 1) rfl (fun w => by kernel_rfl) (show inR 1 2 = true from by decide)), .l (accG (i := 6) (f := cZ) (A := updF (fun _ => gb0_0) 1 rb1.1) (k := 1) 0 [.int .i64 (rb1.1)] cZ_len (inR_nat (show inR 1 2 = true from by decide)) rfl), .o, .o, .o]
              rcases e with ⟨hq3, e⟩ | ⟨hq3, e⟩
              · replace e := cond_eq_or e
                let P11 : List (PG Try.prog M B0 S) := P10 ++ [.q (ixM_ok (kd := .i64) (T := 64) (x := rb1.1) (N := n0) (sz := 1) rfl (fun w => by kernel_rfl) hq3)]
                rcases e with ⟨hq4, e⟩ | ⟨hq4, e⟩
                · cases e; exact goes_runM hU (P11 ++ [.l (accG (i := 0) (f := cB) (A := updF (updF (fun _ => false) 0 true) (((fun _ => gb0_0) 0)).toNat true) (k := (rb1.1).toNat) 0 [.bool true] cB_len (inR_nat hq3) (congrArg (fun b => [Value.bool b]) hq4)), .o, .o, .o, .o]) [0, 8] (fun b => rfl) (by decide) rfl rfl (fun b => by kernel_rfl)
                · replace e := bindT_eq e
                  obtain ⟨rb2, e_rb2, e⟩ := e
                  try dsimp only at e
                  cases e; exact goes_runM hU (P11 ++ [.l (accG (i := 0) (f := cB) (A := updF (updF (fun _ => false) 0 true) (((fun _ => gb0_0) 0)).toNat true) (k := (rb1.1).toNat) 0 [.bool false] cB_len (inR_nat hq3) (congrArg (fun b => [Value.bool b]) hq4)), .o, .o, .o, .q (ixM_ok (kd := .i64) (T := 64) (x := rb1.1) (N := n0) (sz := 1) rfl (fun w => by kernel_rfl) hq3), .x (sqStGr_ok (T := 4) (e := 4) (f := cB) (A := updF (updF (fun _ => false) 0 true) (((fun _ => gb0_0) 0)).toNat true) (v := true) 0 (.bool true) cB_len cB_one rfl rfl (fun w => by kernel_rfl) (inR_nat hq3) e_rb2) [0], .o, .o, .o, .x (sqAppL_ok (ty := 36) rt36 #[false, false] (f := cZ) (N := 1) (A := updF (fun _ => 0) 0 ((fun _ => gb0_0) 0)) (c := 1) [rb1.1] (T' := 3) .row cZ_len cZ_one (by decide) rfl (by decide)) [8, 9], .o, .o, .o, .o]) [0, 10] (fun b => rfl) (by decide) rfl rfl (fun b => by kernel_rfl)
              · exact none_some e
          · exact none_some e
        · replace e := cond_eq_or e
          rcases e with ⟨hq1, e⟩ | ⟨hq1, e⟩
          · replace e := cond_eq_or e
            let P12 : List (PG Try.prog M B0 S) := P5 ++ [.b hq0, .o, .o, .o, .o, .o, .o, .o, .o, .a 4, .o, .o, .o, .q (ixM_ok (kd := .i64) (T := 64) (x := gb0_0) (N := n0) (sz := 1) rfl (fun w => by kernel_rfl) hq1)]
            rcases e with ⟨hq2, e⟩ | ⟨hq2, e⟩
            · cases e; exact goes_runM hU (P12 ++ [.l (accG (i := 0) (f := cB) (A := updF (fun _ => false) 0 true) (k := (gb0_0).toNat) 0 [.bool true] cB_len (inR_nat hq1) (congrArg (fun b => [Value.bool b]) hq2)), .o, .o, .o, .o]) [0, 3] (fun b => rfl) (by decide) rfl rfl (fun b => by kernel_rfl)
            · cases e; exact goes_runM hU (P12 ++ [.l (accG (i := 0) (f := cB) (A := updF (fun _ => false) 0 true) (k := (gb0_0).toNat) 0 [.bool false] cB_len (inR_nat hq1) (congrArg (fun b => [Value.bool b]) hq2)), .o, .o, .o, .q (ixM_ok (kd := .i64) (T := 64) (x := gb0_0) (N := n0) (sz := 1) rfl (fun w => by kernel_rfl) hq1), .x (sqStG_ok (T := 4) (e := 4) (f := cB) (A := updF (fun _ => false) 0 true) (v := true) 0 (.bool true) cB_len cB_one rfl rfl (fun w => by kernel_rfl) (inR_nat hq1)) [0], .o, .o, .o, .x (sqAppL_ok (ty := 36) rt36 #[false, false] (f := cZ) (N := 0) (A := (fun _ => 0)) (c := 1) [gb0_0] (T' := 3) .row cZ_len cZ_one (by decide) rfl (by decide)) [3, 5], .o, .o, .o, .o]) [0, 6] (fun b => rfl) (by decide) rfl rfl (fun b => by kernel_rfl)
          · exact none_some e
      · try dsimp only at e
        replace e := bindO_eq e
        obtain ⟨rb1, e_rb1, e⟩ := e
        try dsimp only at e
        replace e := cond_eq_or e
        let P13 : List (PG Try.prog M B0 S) := P1 ++ [.xg (ok2_flow_program_next_v3 hU a0 p0 q0 n0 k0 A0 hR0 0 gb0_0 gb0_1 e_gb0) [], .o, .o, .o, .cg (ok_flow_program_named_v3 hU a0 p0 q0 n0 k0 A0 hR0 0 rb1 e_rb1), .o, .o]
        rcases e with ⟨hq0, e⟩ | ⟨hq0, e⟩
        · replace e := cond_eq_or e
          let P14 : List (PG Try.prog M B0 S) := P13 ++ [.b hq0, .o, .o, .o, .o, .o, .o, .x (sqAppL_ok (ty := 36) rt36 #[false, false] (f := cZ) (N := 2) (A := (fun k => if k = 0 then gb0_0 else gb0_1)) (c := 1) [rb1.1] (T' := 3) .plain cZ_len cZ_one (by decide) rfl (by decide)) [4, 5], .o, .o, .o, .o, .o, .q (ixM_ok (kd := .i64) (T := 36) (x := 0) (N := 3) (sz := 1) rfl (fun w => by kernel_rfl) (show inR 0 3 = true from by decide)), .l (accG (i := 6) (f := cZ) (A := updF (fun k => if k = 0 then gb0_0 else gb0_1) 2 rb1.1) (k := 0) 0 [.int .i64 (((fun k => if k = 0 then gb0_0 else gb0_1) 0))] cZ_len (inR_nat (show inR 0 3 = true from by decide)) rfl), .o, .o, .o]
          rcases e with ⟨hq1, e⟩ | ⟨hq1, e⟩
          · replace e := cond_eq_or e
            let P15 : List (PG Try.prog M B0 S) := P14 ++ [.q (ixM_ok (kd := .i64) (T := 64) (x := ((fun k => if k = 0 then gb0_0 else gb0_1) 0)) (N := n0) (sz := 1) rfl (fun w => by kernel_rfl) hq1)]
            rcases e with ⟨hq2, e⟩ | ⟨hq2, e⟩
            · replace e := cond_eq_or e
              let P16 : List (PG Try.prog M B0 S) := P15 ++ [.l (accG (i := 0) (f := cB) (A := updF (fun _ => false) 0 true) (k := (((fun k => if k = 0 then gb0_0 else gb0_1) 0)).toNat) 0 [.bool true] cB_len (inR_nat hq1) (congrArg (fun b => [Value.bool b]) hq2)), .o, .o, .o, .o, .q (ixM_ok (kd := .i64) (T := 36) (x := 1) (N := 3) (sz := 1) rfl (fun w => by kernel_rfl) (show inR 1 3 = true from by decide)), .l (accG (i := 6) (f := cZ) (A := updF (fun k => if k = 0 then gb0_0 else gb0_1) 2 rb1.1) (k := 1) 0 [.int .i64 (((fun k => if k = 0 then gb0_0 else gb0_1) 1))] cZ_len (inR_nat (show inR 1 3 = true from by decide)) rfl), .o, .o, .o]
              rcases e with ⟨hq3, e⟩ | ⟨hq3, e⟩
              · replace e := cond_eq_or e
                let P17 : List (PG Try.prog M B0 S) := P16 ++ [.q (ixM_ok (kd := .i64) (T := 64) (x := ((fun k => if k = 0 then gb0_0 else gb0_1) 1)) (N := n0) (sz := 1) rfl (fun w => by kernel_rfl) hq3)]
                rcases e with ⟨hq4, e⟩ | ⟨hq4, e⟩
                · replace e := cond_eq_or e
                  let P18 : List (PG Try.prog M B0 S) := P17 ++ [.l (accG (i := 0) (f := cB) (A := updF (fun _ => false) 0 true) (k := (((fun k => if k = 0 then gb0_0 else gb0_1) 1)).toNat) 0 [.bool true] cB_len (inR_nat hq3) (congrArg (fun b => [Value.bool b]) hq4)), .o, .o, .o, .o, .q (ixM_ok (kd := .i64) (T := 36) (x := 2) (N := 3) (sz := 1) rfl (fun w => by kernel_rfl) (show inR 2 3 = true from by decide)), .l (accG (i := 6) (f := cZ) (A := updF (fun k => if k = 0 then gb0_0 else gb0_1) 2 rb1.1) (k := 2) 0 [.int .i64 (rb1.1)] cZ_len (inR_nat (show inR 2 3 = true from by decide)) rfl), .o, .o, .o]
                  rcases e with ⟨hq5, e⟩ | ⟨hq5, e⟩
                  · replace e := cond_eq_or e
                    let P19 : List (PG Try.prog M B0 S) := P18 ++ [.q (ixM_ok (kd := .i64) (T := 64) (x := rb1.1) (N := n0) (sz := 1) rfl (fun w => by kernel_rfl) hq5)]
                    rcases e with ⟨hq6, e⟩ | ⟨hq6, e⟩
                    · cases e; exact goes_runM hU (P19 ++ [.l (accG (i := 0) (f := cB) (A := updF (fun _ => false) 0 true) (k := (rb1.1).toNat) 0 [.bool true] cB_len (inR_nat hq5) (congrArg (fun b => [Value.bool b]) hq6)), .o, .o, .o, .o]) [0, 3] (fun b => rfl) (by decide) rfl rfl (fun b => by kernel_rfl)
                    · cases e; exact goes_runM hU (P19 ++ [.l (accG (i := 0) (f := cB) (A := updF (fun _ => false) 0 true) (k := (rb1.1).toNat) 0 [.bool false] cB_len (inR_nat hq5) (congrArg (fun b => [Value.bool b]) hq6)), .o, .o, .o, .q (ixM_ok (kd := .i64) (T := 64) (x := rb1.1) (N := n0) (sz := 1) rfl (fun w => by kernel_rfl) hq5), .x (sqStG_ok (T := 4) (e := 4) (f := cB) (A := updF (fun _ => false) 0 true) (v := true) 0 (.bool true) cB_len cB_one rfl rfl (fun w => by kernel_rfl) (inR_nat hq5)) [0], .o, .o, .o, .x (sqAppL_ok (ty := 36) rt36 #[false, false] (f := cZ) (N := 0) (A := (fun _ => 0)) (c := 1) [rb1.1] (T' := 3) .row cZ_len cZ_one (by decide) rfl (by decide)) [3, 7], .o, .o, .o, .o]) [0, 8] (fun b => rfl) (by decide) rfl rfl (fun b => by kernel_rfl)
                  · exact none_some e
                · replace e := bindT_eq e
                  obtain ⟨rb2, e_rb2, e⟩ := e
                  try dsimp only at e
                  replace e := cond_eq_or e
                  let P20 : List (PG Try.prog M B0 S) := P17 ++ [.l (accG (i := 0) (f := cB) (A := updF (fun _ => false) 0 true) (k := (((fun k => if k = 0 then gb0_0 else gb0_1) 1)).toNat) 0 [.bool false] cB_len (inR_nat hq3) (congrArg (fun b => [Value.bool b]) hq4)), .o, .o, .o, .q (ixM_ok (kd := .i64) (T := 64) (x := ((fun k => if k = 0 then gb0_0 else gb0_1) 1)) (N := n0) (sz := 1) rfl (fun w => by kernel_rfl) hq3), .x (sqStGr_ok (T := 4) (e := 4) (f := cB) (A := updF (fun _ => false) 0 true) (v := true) 0 (.bool true) cB_len cB_one rfl rfl (fun w => by kernel_rfl) (inR_nat hq3) e_rb2) [0], .o, .o, .o, .x (sqAppL_ok (ty := 36) rt36 #[false, false] (f := cZ) (N := 0) (A := (fun _ => 0)) (c := 1) [((fun k => if k = 0 then gb0_0 else gb0_1) 1)] (T' := 3) .row cZ_len cZ_one (by decide) rfl (by decide)) [3, 7], .o, .o, .o, .o, .q (ixM_ok (kd := .i64) (T := 36) (x := 2) (N := 3) (sz := 1) rfl (fun w => by kernel_rfl) (show inR 2 3 = true from by decide)), .l (accG (i := 6) (f := cZ) (A := updF (fun k => if k = 0 then gb0_0 else gb0_1) 2 rb1.1) (k := 2) 0 [.int .i64 (rb1.1)] cZ_len (inR_nat (show inR 2 3 = true from by decide)) rfl), .o, .o, .o]
                  rcases e with ⟨hq5, e⟩ | ⟨hq5, e⟩
                  · replace e := cond_eq_or e
                    let P21 : List (PG Try.prog M B0 S) := P20 ++ [.q (ixM_ok (kd := .i64) (T := 64) (x := rb1.1) (N := n0) (sz := 1) rfl (fun w => by kernel_rfl) hq5)]
                    rcases e with ⟨hq6, e⟩ | ⟨hq6, e⟩
                    · cases e; exact goes_runM hU (P21 ++ [.l (accG (i := 0) (f := cB) (A := rb2) (k := (rb1.1).toNat) 0 [.bool true] cB_len (inR_nat hq5) (congrArg (fun b => [Value.bool b]) hq6)), .o, .o, .o, .o]) [0, 8] (fun b => rfl) (by decide) rfl rfl (fun b => by kernel_rfl)
                    · replace e := bindT_eq e
                      obtain ⟨rb3, e_rb3, e⟩ := e
                      try dsimp only at e
                      cases e; exact goes_runM hU (P21 ++ [.l (accG (i := 0) (f := cB) (A := rb2) (k := (rb1.1).toNat) 0 [.bool false] cB_len (inR_nat hq5) (congrArg (fun b => [Value.bool b]) hq6)), .o, .o, .o, .q (ixM_ok (kd := .i64) (T := 64) (x := rb1.1) (N := n0) (sz := 1) rfl (fun w => by kernel_rfl) hq5), .x (sqStG_ok (T := 4) (e := 4) (f := cB) (A := rb2) (v := true) 0 (.bool true) cB_len cB_one rfl rfl (fun w => by kernel_rfl) (inR_nat hq5)) [0], .o, .o, .o, .x (sqAppLr_ok (ty := 36) rt36 #[false, false] (f := cZ) (N := 1) (A := updF (fun _ => 0) 0 ((fun k => if k = 0 then gb0_0 else gb0_1) 1)) (c := 1) [rb1.1] (T' := 3) .row cZ_len cZ_one (by decide) rfl (by decide) e_rb3) [8, 9], .o, .o, .o, .o]) [0, 10] (fun b => rfl) (by decide) rfl rfl (fun b => by kernel_rfl)
                  · exact none_some e
              · exact none_some e
            · replace e := bindT_eq e
              obtain ⟨rb2, e_rb2, e⟩ := e
              try dsimp only at e
              replace e := cond_eq_or e
              let P22 : List (PG Try.prog M B0 S) := P15 ++ [.l (accG (i := 0) (f := cB) (A := updF (fun _ => false) 0 true) (k := (((fun k => if k = 0 then gb0_0 else gb0_1) 0)).toNat) 0 [.bool false] cB_len (inR_nat hq1) (congrArg (fun b => [Value.bool b]) hq2)), .o, .o, .o, .q (ixM_ok (kd := .i64) (T := 64) (x := ((fun k => if k = 0 then gb0_0 else gb0_1) 0)) (N := n0) (sz := 1) rfl (fun w => by kernel_rfl) hq1), .x (sqStGr_ok (T := 4) (e := 4) (f := cB) (A := updF (fun _ => false) 0 true) (v := true) 0 (.bool true) cB_len cB_one rfl rfl (fun w => by kernel_rfl) (inR_nat hq1) e_rb2) [0], .o, .o, .o, .x (sqAppL_ok (ty := 36) rt36 #[false, false] (f := cZ) (N := 0) (A := (fun _ => 0)) (c := 1) [((fun k => if k = 0 then gb0_0 else gb0_1) 0)] (T' := 3) .row cZ_len cZ_one (by decide) rfl (by decide)) [3, 7], .o, .o, .o, .o, .q (ixM_ok (kd := .i64) (T := 36) (x := 1) (N := 3) (sz := 1) rfl (fun w => by kernel_rfl) (show inR 1 3 = true from by decide)), .l (accG (i := 6) (f := cZ) (A := updF (fun k => if k = 0 then gb0_0 else gb0_1) 2 rb1.1) (k := 1) 0 [.int .i64 (((fun k => if k = 0 then gb0_0 else gb0_1) 1))] cZ_len (inR_nat (show inR 1 3 = true from by decide)) rfl), .o, .o, .o]
              rcases e with ⟨hq3, e⟩ | ⟨hq3, e⟩
              · replace e := cond_eq_or e
                let P23 : List (PG Try.prog M B0 S) := P22 ++ [.q (ixM_ok (kd := .i64) (T := 64) (x := ((fun k => if k = 0 then gb0_0 else gb0_1) 1)) (N := n0) (sz := 1) rfl (fun w => by kernel_rfl) hq3)]
                rcases e with ⟨hq4, e⟩ | ⟨hq4, e⟩
                · replace e := cond_eq_or e
                  let P24 : List (PG Try.prog M B0 S) := P23 ++ [.l (accG (i := 0) (f := cB) (A := rb2) (k := (((fun k => if k = 0 then gb0_0 else gb0_1) 1)).toNat) 0 [.bool true] cB_len (inR_nat hq3) (congrArg (fun b => [Value.bool b]) hq4)), .o, .o, .o, .o, .q (ixM_ok (kd := .i64) (T := 36) (x := 2) (N := 3) (sz := 1) rfl (fun w => by kernel_rfl) (show inR 2 3 = true from by decide)), .l (accG (i := 6) (f := cZ) (A := updF (fun k => if k = 0 then gb0_0 else gb0_1) 2 rb1.1) (k := 2) 0 [.int .i64 (rb1.1)] cZ_len (inR_nat (show inR 2 3 = true from by decide)) rfl), .o, .o, .o]
                  rcases e with ⟨hq5, e⟩ | ⟨hq5, e⟩
                  · replace e := cond_eq_or e
                    let P25 : List (PG Try.prog M B0 S) := P24 ++ [.q (ixM_ok (kd := .i64) (T := 64) (x := rb1.1) (N := n0) (sz := 1) rfl (fun w => by kernel_rfl) hq5)]
                    rcases e with ⟨hq6, e⟩ | ⟨hq6, e⟩
                    · cases e; exact goes_runM hU (P25 ++ [.l (accG (i := 0) (f := cB) (A := rb2) (k := (rb1.1).toNat) 0 [.bool true] cB_len (inR_nat hq5) (congrArg (fun b => [Value.bool b]) hq6)), .o, .o, .o, .o]) [0, 8] (fun b => rfl) (by decide) rfl rfl (fun b => by kernel_rfl)
                    · replace e := bindT_eq e
                      obtain ⟨rb3, e_rb3, e⟩ := e
                      try dsimp only at e
                      cases e; exact goes_runM hU (P25 ++ [.l (accG (i := 0) (f := cB) (A := rb2) (k := (rb1.1).toNat) 0 [.bool false] cB_len (inR_nat hq5) (congrArg (fun b => [Value.bool b]) hq6)), .o, .o, .o, .q (ixM_ok (kd := .i64) (T := 64) (x := rb1.1) (N := n0) (sz := 1) rfl (fun w => by kernel_rfl) hq5), .x (sqStG_ok (T := 4) (e := 4) (f := cB) (A := rb2) (v := true) 0 (.bool true) cB_len cB_one rfl rfl (fun w => by kernel_rfl) (inR_nat hq5)) [0], .o, .o, .o, .x (sqAppLr_ok (ty := 36) rt36 #[false, false] (f := cZ) (N := 1) (A := updF (fun _ => 0) 0 ((fun k => if k = 0 then gb0_0 else gb0_1) 0)) (c := 1) [rb1.1] (T' := 3) .row cZ_len cZ_one (by decide) rfl (by decide) e_rb3) [8, 9], .o, .o, .o, .o]) [0, 10] (fun b => rfl) (by decide) rfl rfl (fun b => by kernel_rfl)
                  · exact none_some e
                · replace e := bindT_eq e
                  obtain ⟨rb3, e_rb3, e⟩ := e
                  try dsimp only at e
                  replace e := cond_eq_or e
                  let P26 : List (PG Try.prog M B0 S) := P23 ++ [.l (accG (i := 0) (f := cB) (A := rb2) (k := (((fun k => if k = 0 then gb0_0 else gb0_1) 1)).toNat) 0 [.bool false] cB_len (inR_nat hq3) (congrArg (fun b => [Value.bool b]) hq4)), .o, .o, .o, .q (ixM_ok (kd := .i64) (T := 64) (x := ((fun k => if k = 0 then gb0_0 else gb0_1) 1)) (N := n0) (sz := 1) rfl (fun w => by kernel_rfl) hq3), .x (sqStG_ok (T := 4) (e := 4) (f := cB) (A := rb2) (v := true) 0 (.bool true) cB_len cB_one rfl rfl (fun w => by kernel_rfl) (inR_nat hq3)) [0], .o, .o, .o, .x (sqAppLr_ok (ty := 36) rt36 #[false, false] (f := cZ) (N := 1) (A := updF (fun _ => 0) 0 ((fun k => if k = 0 then gb0_0 else gb0_1) 0)) (c := 1) [((fun k => if k = 0 then gb0_0 else gb0_1) 1)] (T' := 3) .row cZ_len cZ_one (by decide) rfl (by decide) e_rb3) [8, 9], .o, .o, .o, .o, .q (ixM_ok (kd := .i64) (T := 36) (x := 2) (N := 3) (sz := 1) rfl (fun w => by kernel_rfl) (show inR 2 3 = true from by decide)), .l (accG (i := 6) (f := cZ) (A := updF (fun k => if k = 0 then gb0_0 else gb0_1) 2 rb1.1) (k := 2) 0 [.int .i64 (rb1.1)] cZ_len (inR_nat (show inR 2 3 = true from by decide)) rfl), .o, .o, .o]
                  rcases e with ⟨hq5, e⟩ | ⟨hq5, e⟩
                  · replace e := cond_eq_or e
                    let P27 : List (PG Try.prog M B0 S) := P26 ++ [.q (ixM_ok (kd := .i64) (T := 64) (x := rb1.1) (N := n0) (sz := 1) rfl (fun w => by kernel_rfl) hq5)]
                    rcases e with ⟨hq6, e⟩ | ⟨hq6, e⟩
                    · cases e; exact goes_runM hU (P27 ++ [.l (accG (i := 0) (f := cB) (A := updF rb2 (((fun k => if k = 0 then gb0_0 else gb0_1) 1)).toNat true) (k := (rb1.1).toNat) 0 [.bool true] cB_len (inR_nat hq5) (congrArg (fun b => [Value.bool b]) hq6)), .o, .o, .o, .o]) [0, 10] (fun b => rfl) (by decide) rfl rfl (fun b => by kernel_rfl)
                    · replace e := bindT_eq e
                      obtain ⟨rb4, e_rb4, e⟩ := e
                      try dsimp only at e
                      cases e; exact goes_runM hU (P27 ++ [.l (accG (i := 0) (f := cB) (A := updF rb2 (((fun k => if k = 0 then gb0_0 else gb0_1) 1)).toNat true) (k := (rb1.1).toNat) 0 [.bool false] cB_len (inR_nat hq5) (congrArg (fun b => [Value.bool b]) hq6)), .o, .o, .o, .q (ixM_ok (kd := .i64) (T := 64) (x := rb1.1) (N := n0) (sz := 1) rfl (fun w => by kernel_rfl) hq5), .x (sqStGr_ok (T := 4) (e := 4) (f := cB) (A := updF rb2 (((fun k => if k = 0 then gb0_0 else gb0_1) 1)).toNat true) (v := true) 0 (.bool true) cB_len cB_one rfl rfl (fun w => by kernel_rfl) (inR_nat hq5) e_rb4) [0], .o, .o, .o, .x (sqAppL_ok (ty := 36) rt36 #[false, false] (f := cZ) (N := 2) (A := rb3) (c := 1) [rb1.1] (T' := 3) .row cZ_len cZ_one (by decide) rfl (by decide)) [10, 11], .o, .o, .o, .o]) [0, 12] (fun b => rfl) (by decide) rfl rfl (fun b => by kernel_rfl)
                  · exact none_some e
              · exact none_some e
          · exact none_some e
        · replace e := cond_eq_or e
          let P28 : List (PG Try.prog M B0 S) := P13 ++ [.b hq0, .o, .o, .o, .o, .o, .o, .o, .o, .a 4, .o, .o, .o]
          rcases e with ⟨hq1, e⟩ | ⟨hq1, e⟩
          · replace e := cond_eq_or e
            let P29 : List (PG Try.prog M B0 S) := P28 ++ [.q (ixM_ok (kd := .i64) (T := 64) (x := gb0_0) (N := n0) (sz := 1) rfl (fun w => by kernel_rfl) hq1)]
            rcases e with ⟨hq2, e⟩ | ⟨hq2, e⟩
            · replace e := cond_eq_or e
              let P30 : List (PG Try.prog M B0 S) := P29 ++ [.l (accG (i := 0) (f := cB) (A := updF (fun _ => false) 0 true) (k := (gb0_0).toNat) 0 [.bool true] cB_len (inR_nat hq1) (congrArg (fun b => [Value.bool b]) hq2)), .o, .o, .o, .o, .o, .a 4, .o, .o, .o]
              rcases e with ⟨hq3, e⟩ | ⟨hq3, e⟩
              · replace e := cond_eq_or e
                let P31 : List (PG Try.prog M B0 S) := P30 ++ [.q (ixM_ok (kd := .i64) (T := 64) (x := gb0_1) (N := n0) (sz := 1) rfl (fun w => by kernel_rfl) hq3)]
                rcases e with ⟨hq4, e⟩ | ⟨hq4, e⟩
                · cases e; exact goes_runM hU (P31 ++ [.l (accG (i := 0) (f := cB) (A := updF (fun _ => false) 0 true) (k := (gb0_1).toNat) 0 [.bool true] cB_len (inR_nat hq3) (congrArg (fun b => [Value.bool b]) hq4)), .o, .o, .o, .o]) [0, 3] (fun b => rfl) (by decide) rfl rfl (fun b => by kernel_rfl)
                · cases e; exact goes_runM hU (P31 ++ [.l (accG (i := 0) (f := cB) (A := updF (fun _ => false) 0 true) (k := (gb0_1).toNat) 0 [.bool false] cB_len (inR_nat hq3) (congrArg (fun b => [Value.bool b]) hq4)), .o, .o, .o, .q (ixM_ok (kd := .i64) (T := 64) (x := gb0_1) (N := n0) (sz := 1) rfl (fun w => by kernel_rfl) hq3), .x (sqStG_ok (T := 4) (e := 4) (f := cB) (A := updF (fun _ => false) 0 true) (v := true) 0 (.bool true) cB_len cB_one rfl rfl (fun w => by kernel_rfl) (inR_nat hq3)) [0], .o, .o, .o, .x (sqAppL_ok (ty := 36) rt36 #[false, false] (f := cZ) (N := 0) (A := (fun _ => 0)) (c := 1) [gb0_1] (T' := 3) .row cZ_len cZ_one (by decide) rfl (by decide)) [3, 5], .o, .o, .o, .o]) [0, 6] (fun b => rfl) (by decide) rfl rfl (fun b => by kernel_rfl)
              · exact none_some e
            · replace e := cond_eq_or e
              let P32 : List (PG Try.prog M B0 S) := P29 ++ [.l (accG (i := 0) (f := cB) (A := updF (fun _ => false) 0 true) (k := (gb0_0).toNat) 0 [.bool false] cB_len (inR_nat hq1) (congrArg (fun b => [Value.bool b]) hq2)), .o, .o, .o, .q (ixM_ok (kd := .i64) (T := 64) (x := gb0_0) (N := n0) (sz := 1) rfl (fun w => by kernel_rfl) hq1), .x (sqStG_ok (T := 4) (e := 4) (f := cB) (A := updF (fun _ => false) 0 true) (v := true) 0 (.bool true) cB_len cB_one rfl rfl (fun w => by kernel_rfl) (inR_nat hq1)) [0], .o, .o, .o, .x (sqAppL_ok (ty := 36) rt36 #[false, false] (f := cZ) (N := 0) (A := (fun _ => 0)) (c := 1) [gb0_0] (T' := 3) .row cZ_len cZ_one (by decide) rfl (by decide)) [3, 5], .o, .o, .o, .o, .o, .a 4, .o, .o, .o]
              rcases e with ⟨hq3, e⟩ | ⟨hq3, e⟩
              · replace e := cond_eq_or e
                let P33 : List (PG Try.prog M B0 S) := P32 ++ [.q (ixM_ok (kd := .i64) (T := 64) (x := gb0_1) (N := n0) (sz := 1) rfl (fun w => by kernel_rfl) hq3)]
                rcases e with ⟨hq4, e⟩ | ⟨hq4, e⟩
                · cases e; exact goes_runM hU (P33 ++ [.l (accG (i := 0) (f := cB) (A := updF (updF (fun _ => false) 0 true) (gb0_0).toNat true) (k := (gb0_1).toNat) 0 [.bool true] cB_len (inR_nat hq3) (congrArg (fun b => [Value.bool b]) hq4)), .o, .o, .o, .o]) [0, 6] (fun b => rfl) (by decide) rfl rfl (fun b => by kernel_rfl)
                · replace e := bindT_eq e
                  obtain ⟨rb2, e_rb2, e⟩ := e
                  try dsimp only at e
                  cases e; exact goes_runM hU (P33 ++ [.l (accG (i := 0) (f := cB) (A := updF (updF (fun _ => false) 0 true) (gb0_0).toNat true) (k := (gb0_1).toNat) 0 [.bool false] cB_len (inR_nat hq3) (congrArg (fun b => [Value.bool b]) hq4)), .o, .o, .o, .q (ixM_ok (kd := .i64) (T := 64) (x := gb0_1) (N := n0) (sz := 1) rfl (fun w => by kernel_rfl) hq3), .x (sqStGr_ok (T := 4) (e := 4) (f := cB) (A := updF (updF (fun _ => false) 0 true) (gb0_0).toNat true) (v := true) 0 (.bool true) cB_len cB_one rfl rfl (fun w => by kernel_rfl) (inR_nat hq3) e_rb2) [0], .o, .o, .o, .x (sqAppL_ok (ty := 36) rt36 #[false, false] (f := cZ) (N := 1) (A := updF (fun _ => 0) 0 gb0_0) (c := 1) [gb0_1] (T' := 3) .row cZ_len cZ_one (by decide) rfl (by decide)) [6, 7], .o, .o, .o, .o]) [0, 8] (fun b => rfl) (by decide) rfl rfl (fun b => by kernel_rfl)
              · exact none_some e
          · exact none_some e
    | c1 s0_0 s0_1 s0_2 =>
      unfold st_flow_program_reached_v1_L0 at e
      dsimp only at e
      replace e := cond_eq_or e
      let P34 : List (PG Try.prog M B0 S) := [.o, .o]
      rcases e with ⟨hq0, e⟩ | ⟨hq0, e⟩
      · replace e := cond_eq_or e
        let P35 : List (PG Try.prog M B0 S) := P34 ++ [.b (z_gtrT hq0), .o, .o, .o, .o]
        rcases e with ⟨hq1, e⟩ | ⟨hq1, e⟩
        · replace e := cond_eq_or e
          let P36 : List (PG Try.prog M B0 S) := P35 ++ [.q (ixM_ok (kd := .i64) (T := 36) (x := (IntKind.i64.wrap ((s0_1 : Int) - 1))) (N := s0_1) (sz := 1) rfl (fun w => by kernel_rfl) hq1), .l (accG (i := 1) (f := cZ) (A := s0_2) (k := ((IntKind.i64.wrap ((s0_1 : Int) - 1))).toNat) 0 [.int .i64 ((s0_2 ((IntKind.i64.wrap ((s0_1 : Int) - 1))).toNat))] cZ_len (inR_nat hq1) rfl), .o, .o, .o, .o, .o]
          rcases e with ⟨hq2, e⟩ | ⟨hq2, e⟩
          · replace e := cond_eq_or e
            rcases e with ⟨hq3, e⟩ | ⟨hq3, e⟩
            · replace e := bindO_eq e
              obtain ⟨gb0, e_gb0, e⟩ := e
              let P37 : List (PG Try.prog M B0 S) := P36 ++ [.x (sqShr_ok rt36 (f := cZ) (N := s0_1) (A := s0_2) (x := (IntKind.i64.wrap ((s0_1 : Int) - 1))) cZ_len (fun w => by kernel_rfl) hq2 hq3) [1], .o, .o, .o]
              rcases gb0 with _ | ⟨gb0_0⟩ | ⟨gb0_0, gb0_1⟩
              · try dsimp only at e
                replace e := bindO_eq e
                obtain ⟨rb1, e_rb1, e⟩ := e
                try dsimp only at e
                replace e := cond_eq_or e
                let P38 : List (PG Try.prog M B0 S) := P37 ++ [.xg (ok0_flow_program_next_v3 hU a0 p0 q0 n0 k0 A0 hR0 (s0_2 ((IntKind.i64.wrap ((s0_1 : Int) - 1))).toNat)  e_gb0) [], .o, .o, .o, .cg (ok_flow_program_named_v3 hU a0 p0 q0 n0 k0 A0 hR0 (s0_2 ((IntKind.i64.wrap ((s0_1 : Int) - 1))).toNat) rb1 e_rb1), .o, .o]
                rcases e with ⟨hq4, e⟩ | ⟨hq4, e⟩
                · replace e := cond_eq_or e
                  let P39 : List (PG Try.prog M B0 S) := P38 ++ [.b hq4, .o, .o, .o, .o, .o, .o, .x (sqAppL1_ok (ty := 36) rt36 #[false, false] (f := cZ) (c := 1) rb1.1 (T' := 3) cZ_len cZ_one (by decide)) [4], .o, .o, .o, .o, .o, .q (ixM_ok (kd := .i64) (T := 36) (x := 0) (N := 1) (sz := 1) rfl (fun w => by kernel_rfl) (show inR 0 1 = true from by decide)), .l (accG (i := 5) (f := cZ) (A := (fun _ => rb1.1)) (k := 0) 0 [.int .i64 (((fun _ => rb1.1) 0))] cZ_len (inR_nat (show inR 0 1 = true from by decide)) rfl), .o, .o, .o]
                  rcases e with ⟨hq5, e⟩ | ⟨hq5, e⟩
                  · replace e := cond_eq_or e
                    let P40 : List (PG Try.prog M B0 S) := P39 ++ [.q (ixM_ok (kd := .i64) (T := 64) (x := ((fun _ => rb1.1) 0)) (N := n0) (sz := 1) rfl (fun w => by kernel_rfl) hq5)]
                    rcases e with ⟨hq6, e⟩ | ⟨hq6, e⟩
                    · cases e; exact goes_runM hU (P40 ++ [.l (accG (i := 0) (f := cB) (A := s0_0) (k := (((fun _ => rb1.1) 0)).toNat) 0 [.bool true] cB_len (inR_nat hq5) (congrArg (fun b => [Value.bool b]) hq6)), .o, .o, .o, .o]) [0, 3] (fun b => rfl) (by decide) rfl rfl (fun b => by kernel_rfl)
                    · replace e := cond_eq_or e
                      rcases e with ⟨hq7, e⟩ | ⟨hq7, e⟩
                      · replace e := bindT_eq e
                        obtain ⟨rb2, e_rb2, e⟩ := e
                        try dsimp only at e
                        cases e; exact goes_runM hU (P40 ++ [.l (accG (i := 0) (f := cB) (A := s0_0) (k := (((fun _ => rb1.1) 0)).toNat) 0 [.bool false] cB_len (inR_nat hq5) (congrArg (fun b => [Value.bool b]) hq6)), .o, .o, .o, .q (ixM_ok (kd := .i64) (T := 64) (x := ((fun _ => rb1.1) 0)) (N := n0) (sz := 1) rfl (fun w => by kernel_rfl) hq5), .x (sqStG_ok (T := 4) (e := 4) (f := cB) (A := s0_0) (v := true) 0 (.bool true) cB_len cB_one rfl rfl (fun w => by kernel_rfl) (inR_nat hq5)) [0], .o, .o, .o, .x (sqAppLr_ok (ty := 36) rt36 #[false, false] (f := cZ) (N := ((IntKind.i64.wrap ((s0_1 : Int) - 1))).toNat) (A := s0_2) (c := 1) [((fun _ => rb1.1) 0)] (T' := 3) .row cZ_len cZ_one hq7 rfl (by decide) e_rb2) [3, 6], .o, .o, .o, .o]) [0, 7] (fun b => rfl) (by decide) rfl rfl (fun b => by kernel_rfl)
                      · exact none_some e
                  · exact none_some e
                · cases e; exact goes_runM hU (P38 ++ [.b hq4, .o, .o, .o, .o, .o, .o, .o]) [0, 3] (fun b => rfl) (by decide) rfl rfl (fun b => by kernel_rfl)
              · try dsimp only at e
                replace e := bindO_eq e
                obtain ⟨rb1, e_rb1, e⟩ := e
                try dsimp only at e
                replace e := cond_eq_or e
                let P41 : List (PG Try.prog M B0 S) := P37 ++ [.xg (ok1_flow_program_next_v3 hU a0 p0 q0 n0 k0 A0 hR0 (s0_2 ((IntKind.i64.wrap ((s0_1 : Int) - 1))).toNat) gb0_0 e_gb0) [], .o, .o, .o, .cg (ok_flow_program_named_v3 hU a0 p0 q0 n0 k0 A0 hR0 (s0_2 ((IntKind.i64.wrap ((s0_1 : Int) - 1))).toNat) rb1 e_rb1), .o, .o]
                rcases e with ⟨hq4, e⟩ | ⟨hq4, e⟩
                · replace e := cond_eq_or e
                  let P42 : List (PG Try.prog M B0 S) := P41 ++ [.b hq4, .o, .o, .o, .o, .o, .o, .x (sqAppL_ok (ty := 36) rt36 #[false, false] (f := cZ) (N := 1) (A := (fun _ => gb0_0)) (c := 1) [rb1.1] (T' := 3) .plain cZ_len cZ_one (by decide) rfl (by decide)) [4, 5], .o, .o, .o, .o, .o, .q (ixM_ok (kd := .i64) (T := 36) (x := 0) (N := 2) (sz := 1) rfl (fun w => by kernel_rfl) (show inR 0 2 = true from by decide)), .l (accG (i := 6) (f := cZ) (A := updF (fun _ => gb0_0) 1 rb1.1) (k := 0) 0 [.int .i64 (((fun _ => gb0_0) 0))] cZ_len (inR_nat (show inR 0 2 = true from by decide)) rfl), .o, .o, .o]
                  rcases e with ⟨hq5, e⟩ | ⟨hq5, e⟩
                  · replace e := cond_eq_or e
                    let P43 : List (PG Try.prog M B0 S) := P42 ++ [.q (ixM_ok (kd := .i64) (T := 64) (x := ((fun _ => gb0_0) 0)) (N := n0) (sz := 1) rfl (fun w => by kernel_rfl) hq5)]
                    rcases e with ⟨hq6, e⟩ | ⟨hq6, e⟩
                    · replace e := cond_eq_or e
                      let P44 : List (PG Try.prog M B0 S) := P43 ++ [.l (accG (i := 0) (f := cB) (A := s0_0) (k := (((fun _ => gb0_0) 0)).toNat) 0 [.bool true] cB_len (inR_nat hq5) (congrArg (fun b => [Value.bool b]) hq6)), .o, .o, .o, .o, .q (ixM_ok (kd := .i64) (T := 36) (x := 1) (N := 2) (sz := 1) rfl (fun w => by kernel_rfl) (show inR 1 2 = true from by decide)), .l (accG (i := 6) (f := cZ) (A := updF (fun _ => gb0_0) 1 rb1.1) (k := 1) 0 [.int .i64 (rb1.1)] cZ_len (inR_nat (show inR 1 2 = true from by decide)) rfl), .o, .o, .o]
                      rcases e with ⟨hq7, e⟩ | ⟨hq7, e⟩
                      · replace e := cond_eq_or e
                        let P45 : List (PG Try.prog M B0 S) := P44 ++ [.q (ixM_ok (kd := .i64) (T := 64) (x := rb1.1) (N := n0) (sz := 1) rfl (fun w => by kernel_rfl) hq7)]
                        rcases e with ⟨hq8, e⟩ | ⟨hq8, e⟩
                        · cases e; exact goes_runM hU (P45 ++ [.l (accG (i := 0) (f := cB) (A := s0_0) (k := (rb1.1).toNat) 0 [.bool true] cB_len (inR_nat hq7) (congrArg (fun b => [Value.bool b]) hq8)), .o, .o, .o, .o]) [0, 3] (fun b => rfl) (by decide) rfl rfl (fun b => by kernel_rfl)
                        · replace e := cond_eq_or e
                          rcases e with ⟨hq9, e⟩ | ⟨hq9, e⟩
                          · cases e; exact goes_runM hU (P45 ++ [.l (accG (i := 0) (f := cB) (A := s0_0) (k := (rb1.1).toNat) 0 [.bool false] cB_len (inR_nat hq7) (congrArg (fun b => [Value.bool b]) hq8)), .o, .o, .o, .q (ixM_ok (kd := .i64) (T := 64) (x := rb1.1) (N := n0) (sz := 1) rfl (fun w => by kernel_rfl) hq7), .x (sqStG_ok (T := 4) (e := 4) (f := cB) (A := s0_0) (v := true) 0 (.bool true) cB_len cB_one rfl rfl (fun w => by kernel_rfl) (inR_nat hq7)) [0], .o, .o, .o, .x (sqAppL_ok (ty := 36) rt36 #[false, false] (f := cZ) (N := ((IntKind.i64.wrap ((s0_1 : Int) - 1))).toNat) (A := s0_2) (c := 1) [rb1.1] (T' := 3) .row cZ_len cZ_one hq9 rfl (by decide)) [3, 7], .o, .o, .o, .o]) [0, 8] (fun b => rfl) (by decide) rfl rfl (fun b => by kernel_rfl)
                          · exact none_some e
                      · exact none_some e
                    · replace e := cond_eq_or e
                      let P46 : List (PG Try.prog M B0 S) := P43 ++ [.l (accG (i := 0) (f := cB) (A := s0_0) (k := (((fun _ => gb0_0) 0)).toNat) 0 [.bool false] cB_len (inR_nat hq5) (congrArg (fun b => [Value.bool b]) hq6)), .o, .o, .o, .q (ixM_ok (kd := .i64) (T := 64) (x := ((fun _ => gb0_0) 0)) (N := n0) (sz := 1) rfl (fun w => by kernel_rfl) hq5), .x (sqStG_ok (T := 4) (e := 4) (f := cB) (A := s0_0) (v := true) 0 (.bool true) cB_len cB_one rfl rfl (fun w => by kernel_rfl) (inR_nat hq5)) [0], .o, .o, .o]
                      rcases e with ⟨hq7, e⟩ | ⟨hq7, e⟩
                      · replace e := bindT_eq e
                        obtain ⟨rb2, e_rb2, e⟩ := e
                        try dsimp only at e
                        replace e := cond_eq_or e
                        let P47 : List (PG Try.prog M B0 S) := P46 ++ [.x (sqAppLr_ok (ty := 36) rt36 #[false, false] (f := cZ) (N := ((IntKind.i64.wrap ((s0_1 : Int) - 1))).toNat) (A := s0_2) (c := 1) [((fun _ => gb0_0) 0)] (T' := 3) .row cZ_len cZ_one hq7 rfl (by decide) e_rb2) [3, 7], .o, .o, .o, .o, .q (ixM_ok (kd := .i64) (T := 36) (x := 1) (N := 2) (sz := 1) rfl (fun w => by kernel_rfl) (show inR 1 2 = true from by decide)), .l (accG (i := 6) (f := cZ) (A := updF (fun _ => gb0_0) 1 rb1.1) (k := 1) 0 [.int .i64 (rb1.1)] cZ_len (inR_nat (show inR 1 2 = true from by decide)) rfl), .o, .o, .o]
                        rcases e with ⟨hq8, e⟩ | ⟨hq8, e⟩
                        · replace e := cond_eq_or e
                          let P48 : List (PG Try.prog M B0 S) := P47 ++ [.q (ixM_ok (kd := .i64) (T := 64) (x := rb1.1) (N := n0) (sz := 1) rfl (fun w => by kernel_rfl) hq8)]
                          rcases e with ⟨hq9, e⟩ | ⟨hq9, e⟩
                          · cases e; exact goes_runM hU (P48 ++ [.l (accG (i := 0) (f := cB) (A := updF s0_0 (((fun _ => gb0_0) 0)).toNat true) (k := (rb1.1).toNat) 0 [.bool true] cB_len (inR_nat hq8) (congrArg (fun b => [Value.bool b]) hq9)), .o, .o, .o, .o]) [0, 8] (fun b => rfl) (by decide) rfl rfl (fun b => by kernel_rfl)
                          · replace e := cond_eq_or e
                            rcases e with ⟨hq10, e⟩ | ⟨hq10, e⟩
                            · cases e; exact goes_runM hU (P48 ++ [.l (accG (i := 0) (f := cB) (A := updF s0_0 (((fun _ => gb0_0) 0)).toNat true) (k := (rb1.1).toNat) 0 [.bool false] cB_len (inR_nat hq8) (congrArg (fun b => [Value.bool b]) hq9)), .o, .o, .o, .q (ixM_ok (kd := .i64) (T := 64) (x := rb1.1) (N := n0) (sz := 1) rfl (fun w => by kernel_rfl) hq8), .x (sqStG_ok (T := 4) (e := 4) (f := cB) (A := updF s0_0 (((fun _ => gb0_0) 0)).toNat true) (v := true) 0 (.bool true) cB_len cB_one rfl rfl (fun w => by kernel_rfl) (inR_nat hq8)) [0], .o, .o, .o, .x (sqAppL_ok (ty := 36) rt36 #[false, false] (f := cZ) (N := (((IntKind.i64.wrap ((s0_1 : Int) - 1))).toNat + 1)) (A := rb2) (c := 1) [rb1.1] (T' := 3) .row cZ_len cZ_one hq10 rfl (by decide)) [8, 9], .o, .o, .o, .o]) [0, 10] (fun b => rfl) (by decide) rfl rfl (fun b => by kernel_rfl)
                            · exact none_some e
                        · exact none_some e
                      · exact none_some e
                  · exact none_some e
                · replace e := cond_eq_or e
                  rcases e with ⟨hq5, e⟩ | ⟨hq5, e⟩
                  · replace e := cond_eq_or e
                    let P49 : List (PG Try.prog M B0 S) := P41 ++ [.b hq4, .o, .o, .o, .o, .o, .o, .o, .o, .a 4, .o, .o, .o, .q (ixM_ok (kd := .i64) (T := 64) (x := gb0_0) (N := n0) (sz := 1) rfl (fun w => by kernel_rfl) hq5)]
                    rcases e with ⟨hq6, e⟩ | ⟨hq6, e⟩
                    · cases e; exact goes_runM hU (P49 ++ [.l (accG (i := 0) (f := cB) (A := s0_0) (k := (gb0_0).toNat) 0 [.bool true] cB_len (inR_nat hq5) (congrArg (fun b => [Value.bool b]) hq6)), .o, .o, .o, .o]) [0, 3] (fun b => rfl) (by decide) rfl rfl (fun b => by kernel_rfl)
                    · replace e := cond_eq_or e
                      rcases e with ⟨hq7, e⟩ | ⟨hq7, e⟩
                      · cases e; exact goes_runM hU (P49 ++ [.l (accG (i := 0) (f := cB) (A := s0_0) (k := (gb0_0).toNat) 0 [.bool false] cB_len (inR_nat hq5) (congrArg (fun b => [Value.bool b]) hq6)), .o, .o, .o, .q (ixM_ok (kd := .i64) (T := 64) (x := gb0_0) (N := n0) (sz := 1) rfl (fun w => by kernel_rfl) hq5), .x (sqStG_ok (T := 4) (e := 4) (f := cB) (A := s0_0) (v := true) 0 (.bool true) cB_len cB_one rfl rfl (fun w => by kernel_rfl) (inR_nat hq5)) [0], .o, .o, .o, .x (sqAppL_ok (ty := 36) rt36 #[false, false] (f := cZ) (N := ((IntKind.i64.wrap ((s0_1 : Int) - 1))).toNat) (A := s0_2) (c := 1) [gb0_0] (T' := 3) .row cZ_len cZ_one hq7 rfl (by decide)) [3, 5], .o, .o, .o, .o]) [0, 6] (fun b => rfl) (by decide) rfl rfl (fun b => by kernel_rfl)
                      · exact none_some e
                  · exact none_some e
              · try dsimp only at e
                replace e := bindO_eq e
                obtain ⟨rb1, e_rb1, e⟩ := e
                try dsimp only at e
                replace e := cond_eq_or e
                let P50 : List (PG Try.prog M B0 S) := P37 ++ [.xg (ok2_flow_program_next_v3 hU a0 p0 q0 n0 k0 A0 hR0 (s0_2 ((IntKind.i64.wrap ((s0_1 : Int) - 1))).toNat) gb0_0 gb0_1 e_gb0) [], .o, .o, .o, .cg (ok_flow_program_named_v3 hU a0 p0 q0 n0 k0 A0 hR0 (s0_2 ((IntKind.i64.wrap ((s0_1 : Int) - 1))).toNat) rb1 e_rb1), .o, .o]
                rcases e with ⟨hq4, e⟩ | ⟨hq4, e⟩
                · replace e := cond_eq_or e
                  let P51 : List (PG Try.prog M B0 S) := P50 ++ [.b hq4, .o, .o, .o, .o, .o, .o, .x (sqAppL_ok (ty := 36) rt36 #[false, false] (f := cZ) (N := 2) (A := (fun k => if k = 0 then gb0_0 else gb0_1)) (c := 1) [rb1.1] (T' := 3) .plain cZ_len cZ_one (by decide) rfl (by decide)) [4, 5], .o, .o, .o, .o, .o, .q (ixM_ok (kd := .i64) (T := 36) (x := 0) (N := 3) (sz := 1) rfl (fun w => by kernel_rfl) (show inR 0 3 = true from by decide)), .l (accG (i := 6) (f := cZ) (A := updF (fun k => if k = 0 then gb0_0 else gb0_1) 2 rb1.1) (k := 0) 0 [.int .i64 (((fun k => if k = 0 then gb0_0 else gb0_1) 0))] cZ_len (inR_nat (show inR 0 3 = true from by decide)) rfl), .o, .o, .o]
                  rcases e with ⟨hq5, e⟩ | ⟨hq5, e⟩
                  · replace e := cond_eq_or e
                    let P52 : List (PG Try.prog M B0 S) := P51 ++ [.q (ixM_ok (kd := .i64) (T := 64) (x := ((fun k => if k = 0 then gb0_0 else gb0_1) 0)) (N := n0) (sz := 1) rfl (fun w => by kernel_rfl) hq5)]
                    rcases e with ⟨hq6, e⟩ | ⟨hq6, e⟩
                    · replace e := cond_eq_or e
                      let P53 : List (PG Try.prog M B0 S) := P52 ++ [.l (accG (i := 0) (f := cB) (A := s0_0) (k := (((fun k => if k = 0 then gb0_0 else gb0_1) 0)).toNat) 0 [.bool true] cB_len (inR_nat hq5) (congrArg (fun b => [Value.bool b]) hq6)), .o, .o, .o, .o, .q (ixM_ok (kd := .i64) (T := 36) (x := 1) (N := 3) (sz := 1) rfl (fun w => by kernel_rfl) (show inR 1 3 = true from by decide)), .l (accG (i := 6) (f := cZ) (A := updF (fun k => if k = 0 then gb0_0 else gb0_1) 2 rb1.1) (k := 1) 0 [.int .i64 (((fun k => if k = 0 then gb0_0 else gb0_1) 1))] cZ_len (inR_nat (show inR 1 3 = true from by decide)) rfl), .o, .o, .o]
                      rcases e with ⟨hq7, e⟩ | ⟨hq7, e⟩
                      · replace e := cond_eq_or e
                        let P54 : List (PG Try.prog M B0 S) := P53 ++ [.q (ixM_ok (kd := .i64) (T := 64) (x := ((fun k => if k = 0 then gb0_0 else gb0_1) 1)) (N := n0) (sz := 1) rfl (fun w => by kernel_rfl) hq7)]
                        rcases e with ⟨hq8, e⟩ | ⟨hq8, e⟩
                        · replace e := cond_eq_or e
                          let P55 : List (PG Try.prog M B0 S) := P54 ++ [.l (accG (i := 0) (f := cB) (A := s0_0) (k := (((fun k => if k = 0 then gb0_0 else gb0_1) 1)).toNat) 0 [.bool true] cB_len (inR_nat hq7) (congrArg (fun b => [Value.bool b]) hq8)), .o, .o, .o, .o, .q (ixM_ok (kd := .i64) (T := 36) (x := 2) (N := 3) (sz := 1) rfl (fun w => by kernel_rfl) (show inR 2 3 = true from by decide)), .l (accG (i := 6) (f := cZ) (A := updF (fun k => if k = 0 then gb0_0 else gb0_1) 2 rb1.1) (k := 2) 0 [.int .i64 (rb1.1)] cZ_len (inR_nat (show inR 2 3 = true from by decide)) rfl), .o, .o, .o]
                          rcases e with ⟨hq9, e⟩ | ⟨hq9, e⟩
                          · replace e := cond_eq_or e
                            let P56 : List (PG Try.prog M B0 S) := P55 ++ [.q (ixM_ok (kd := .i64) (T := 64) (x := rb1.1) (N := n0) (sz := 1) rfl (fun w => by kernel_rfl) hq9)]
                            rcases e with ⟨hq10, e⟩ | ⟨hq10, e⟩
                            · cases e; exact goes_runM hU (P56 ++ [.l (accG (i := 0) (f := cB) (A := s0_0) (k := (rb1.1).toNat) 0 [.bool true] cB_len (inR_nat hq9) (congrArg (fun b => [Value.bool b]) hq10)), .o, .o, .o, .o]) [0, 3] (fun b => rfl) (by decide) rfl rfl (fun b => by kernel_rfl)
                            · replace e := cond_eq_or e
                              rcases e with ⟨hq11, e⟩ | ⟨hq11, e⟩
                              · cases e; exact goes_runM hU (P56 ++ [.l (accG (i := 0) (f := cB) (A := s0_0) (k := (rb1.1).toNat) 0 [.bool false] cB_len (inR_nat hq9) (congrArg (fun b => [Value.bool b]) hq10)), .o, .o, .o, .q (ixM_ok (kd := .i64) (T := 64) (x := rb1.1) (N := n0) (sz := 1) rfl (fun w => by kernel_rfl) hq9), .x (sqStG_ok (T := 4) (e := 4) (f := cB) (A := s0_0) (v := true) 0 (.bool true) cB_len cB_one rfl rfl (fun w => by kernel_rfl) (inR_nat hq9)) [0], .o, .o, .o, .x (sqAppL_ok (ty := 36) rt36 #[false, false] (f := cZ) (N := ((IntKind.i64.wrap ((s0_1 : Int) - 1))).toNat) (A := s0_2) (c := 1) [rb1.1] (T' := 3) .row cZ_len cZ_one hq11 rfl (by decide)) [3, 7], .o, .o, .o, .o]) [0, 8] (fun b => rfl) (by decide) rfl rfl (fun b => by kernel_rfl)
                              · exact none_some e
                          · exact none_some e
                        · replace e := cond_eq_or e
                          let P57 : List (PG Try.prog M B0 S) := P54 ++ [.l (accG (i := 0) (f := cB) (A := s0_0) (k := (((fun k => if k = 0 then gb0_0 else gb0_1) 1)).toNat) 0 [.bool false] cB_len (inR_nat hq7) (congrArg (fun b => [Value.bool b]) hq8)), .o, .o, .o, .q (ixM_ok (kd := .i64) (T := 64) (x := ((fun k => if k = 0 then gb0_0 else gb0_1) 1)) (N := n0) (sz := 1) rfl (fun w => by kernel_rfl) hq7), .x (sqStG_ok (T := 4) (e := 4) (f := cB) (A := s0_0) (v := true) 0 (.bool true) cB_len cB_one rfl rfl (fun w => by kernel_rfl) (inR_nat hq7)) [0], .o, .o, .o]
                          rcases e with ⟨hq9, e⟩ | ⟨hq9, e⟩
                          · replace e := bindT_eq e
                            obtain ⟨rb2, e_rb2, e⟩ := e
                            try dsimp only at e
                            replace e := cond_eq_or e
                            let P58 : List (PG Try.prog M B0 S) := P57 ++ [.x (sqAppLr_ok (ty := 36) rt36 #[false, false] (f := cZ) (N := ((IntKind.i64.wrap ((s0_1 : Int) - 1))).toNat) (A := s0_2) (c := 1) [((fun k => if k = 0 then gb0_0 else gb0_1) 1)] (T' := 3) .row cZ_len cZ_one hq9 rfl (by decide) e_rb2) [3, 7], .o, .o, .o, .o, .q (ixM_ok (kd := .i64) (T := 36) (x := 2) (N := 3) (sz := 1) rfl (fun w => by kernel_rfl) (show inR 2 3 = true from by decide)), .l (accG (i := 6) (f := cZ) (A := updF (fun k => if k = 0 then gb0_0 else gb0_1) 2 rb1.1) (k := 2) 0 [.int .i64 (rb1.1)] cZ_len (inR_nat (show inR 2 3 = true from by decide)) rfl), .o, .o, .o]
                            rcases e with ⟨hq10, e⟩ | ⟨hq10, e⟩
                            · replace e := cond_eq_or e
                              let P59 : List (PG Try.prog M B0 S) := P58 ++ [.q (ixM_ok (kd := .i64) (T := 64) (x := rb1.1) (N := n0) (sz := 1) rfl (fun w => by kernel_rfl) hq10)]
                              rcases e with ⟨hq11, e⟩ | ⟨hq11, e⟩
                              · cases e; exact goes_runM hU (P59 ++ [.l (accG (i := 0) (f := cB) (A := updF s0_0 (((fun k => if k = 0 then gb0_0 else gb0_1) 1)).toNat true) (k := (rb1.1).toNat) 0 [.bool true] cB_len (inR_nat hq10) (congrArg (fun b => [Value.bool b]) hq11)), .o, .o, .o, .o]) [0, 8] (fun b => rfl) (by decide) rfl rfl (fun b => by kernel_rfl)
                              · replace e := bindT_eq e
                                obtain ⟨rb3, e_rb3, e⟩ := e
                                try dsimp only at e
                                replace e := cond_eq_or e
                                rcases e with ⟨hq12, e⟩ | ⟨hq12, e⟩
                                · cases e; exact goes_runM hU (P59 ++ [.l (accG (i := 0) (f := cB) (A := updF s0_0 (((fun k => if k = 0 then gb0_0 else gb0_1) 1)).toNat true) (k := (rb1.1).toNat) 0 [.bool false] cB_len (inR_nat hq10) (congrArg (fun b => [Value.bool b]) hq11)), .o, .o, .o, .q (ixM_ok (kd := .i64) (T := 64) (x := rb1.1) (N := n0) (sz := 1) rfl (fun w => by kernel_rfl) hq10), .x (sqStGr_ok (T := 4) (e := 4) (f := cB) (A := updF s0_0 (((fun k => if k = 0 then gb0_0 else gb0_1) 1)).toNat true) (v := true) 0 (.bool true) cB_len cB_one rfl rfl (fun w => by kernel_rfl) (inR_nat hq10) e_rb3) [0], .o, .o, .o, .x (sqAppL_ok (ty := 36) rt36 #[false, false] (f := cZ) (N := (((IntKind.i64.wrap ((s0_1 : Int) - 1))).toNat + 1)) (A := rb2) (c := 1) [rb1.1] (T' := 3) .row cZ_len cZ_one hq12 rfl (by decide)) [8, 9], .o, .o, .o, .o]) [0, 10] (fun b => rfl) (by decide) rfl rfl (fun b => by kernel_rfl)
                                · exact none_some e
                            · exact none_some e
                          · exact none_some e
                      · exact none_some e
                    · replace e := cond_eq_or e
                      let P60 : List (PG Try.prog M B0 S) := P52 ++ [.l (accG (i := 0) (f := cB) (A := s0_0) (k := (((fun k => if k = 0 then gb0_0 else gb0_1) 0)).toNat) 0 [.bool false] cB_len (inR_nat hq5) (congrArg (fun b => [Value.bool b]) hq6)), .o, .o, .o, .q (ixM_ok (kd := .i64) (T := 64) (x := ((fun k => if k = 0 then gb0_0 else gb0_1) 0)) (N := n0) (sz := 1) rfl (fun w => by kernel_rfl) hq5), .x (sqStG_ok (T := 4) (e := 4) (f := cB) (A := s0_0) (v := true) 0 (.bool true) cB_len cB_one rfl rfl (fun w => by kernel_rfl) (inR_nat hq5)) [0], .o, .o, .o]
                      rcases e with ⟨hq7, e⟩ | ⟨hq7, e⟩
                      · replace e := bindT_eq e
                        obtain ⟨rb2, e_rb2, e⟩ := e
                        try dsimp only at e
                        replace e := cond_eq_or e
                        let P61 : List (PG Try.prog M B0 S) := P60 ++ [.x (sqAppLr_ok (ty := 36) rt36 #[false, false] (f := cZ) (N := ((IntKind.i64.wrap ((s0_1 : Int) - 1))).toNat) (A := s0_2) (c := 1) [((fun k => if k = 0 then gb0_0 else gb0_1) 0)] (T' := 3) .row cZ_len cZ_one hq7 rfl (by decide) e_rb2) [3, 7], .o, .o, .o, .o, .q (ixM_ok (kd := .i64) (T := 36) (x := 1) (N := 3) (sz := 1) rfl (fun w => by kernel_rfl) (show inR 1 3 = true from by decide)), .l (accG (i := 6) (f := cZ) (A := updF (fun k => if k = 0 then gb0_0 else gb0_1) 2 rb1.1) (k := 1) 0 [.int .i64 (((fun k => if k = 0 then gb0_0 else gb0_1) 1))] cZ_len (inR_nat (show inR 1 3 = true from by decide)) rfl), .o, .o, .o]
                        rcases e with ⟨hq8, e⟩ | ⟨hq8, e⟩
                        · replace e := cond_eq_or e
                          let P62 : List (PG Try.prog M B0 S) := P61 ++ [.q (ixM_ok (kd := .i64) (T := 64) (x := ((fun k => if k = 0 then gb0_0 else gb0_1) 1)) (N := n0) (sz := 1) rfl (fun w => by kernel_rfl) hq8)]
                          rcases e with ⟨hq9, e⟩ | ⟨hq9, e⟩
                          · replace e := cond_eq_or e
                            let P63 : List (PG Try.prog M B0 S) := P62 ++ [.l (accG (i := 0) (f := cB) (A := updF s0_0 (((fun k => if k = 0 then gb0_0 else gb0_1) 0)).toNat true) (k := (((fun k => if k = 0 then gb0_0 else gb0_1) 1)).toNat) 0 [.bool true] cB_len (inR_nat hq8) (congrArg (fun b => [Value.bool b]) hq9)), .o, .o, .o, .o, .q (ixM_ok (kd := .i64) (T := 36) (x := 2) (N := 3) (sz := 1) rfl (fun w => by kernel_rfl) (show inR 2 3 = true from by decide)), .l (accG (i := 6) (f := cZ) (A := updF (fun k => if k = 0 then gb0_0 else gb0_1) 2 rb1.1) (k := 2) 0 [.int .i64 (rb1.1)] cZ_len (inR_nat (show inR 2 3 = true from by decide)) rfl), .o, .o, .o]
                            rcases e with ⟨hq10, e⟩ | ⟨hq10, e⟩
                            · replace e := cond_eq_or e
                              let P64 : List (PG Try.prog M B0 S) := P63 ++ [.q (ixM_ok (kd := .i64) (T := 64) (x := rb1.1) (N := n0) (sz := 1) rfl (fun w => by kernel_rfl) hq10)]
                              rcases e with ⟨hq11, e⟩ | ⟨hq11, e⟩
                              · cases e; exact goes_runM hU (P64 ++ [.l (accG (i := 0) (f := cB) (A := updF s0_0 (((fun k => if k = 0 then gb0_0 else gb0_1) 0)).toNat true) (k := (rb1.1).toNat) 0 [.bool true] cB_len (inR_nat hq10) (congrArg (fun b => [Value.bool b]) hq11)), .o, .o, .o, .o]) [0, 8] (fun b => rfl) (by decide) rfl rfl (fun b => by kernel_rfl)
                              · replace e := bindT_eq e
                                obtain ⟨rb3, e_rb3, e⟩ := e
                                try dsimp only at e
                                replace e := cond_eq_or e
                                rcases e with ⟨hq12, e⟩ | ⟨hq12, e⟩
                                · cases e; exact goes_runM hU (P64 ++ [.l (accG (i := 0) (f := cB) (A := updF s0_0 (((fun k => if k = 0 then gb0_0 else gb0_1) 0)).toNat true) (k := (rb1.1).toNat) 0 [.bool false] cB_len (inR_nat hq10) (congrArg (fun b => [Value.bool b]) hq11)), .o, .o, .o, .q (ixM_ok (kd := .i64) (T := 64) (x := rb1.1) (N := n0) (sz := 1) rfl (fun w => by kernel_rfl) hq10), .x (sqStGr_ok (T := 4) (e := 4) (f := cB) (A := updF s0_0 (((fun k => if k = 0 then gb0_0 else gb0_1) 0)).toNat true) (v := true) 0 (.bool true) cB_len cB_one rfl rfl (fun w => by kernel_rfl) (inR_nat hq10) e_rb3) [0], .o, .o, .o, .x (sqAppL_ok (ty := 36) rt36 #[false, false] (f := cZ) (N := (((IntKind.i64.wrap ((s0_1 : Int) - 1))).toNat + 1)) (A := rb2) (c := 1) [rb1.1] (T' := 3) .row cZ_len cZ_one hq12 rfl (by decide)) [8, 9], .o, .o, .o, .o]) [0, 10] (fun b => rfl) (by decide) rfl rfl (fun b => by kernel_rfl)
                                · exact none_some e
                            · exact none_some e
                          · replace e := bindT_eq e
                            obtain ⟨rb3, e_rb3, e⟩ := e
                            try dsimp only at e
                            replace e := cond_eq_or e
                            let P65 : List (PG Try.prog M B0 S) := P62 ++ [.l (accG (i := 0) (f := cB) (A := updF s0_0 (((fun k => if k = 0 then gb0_0 else gb0_1) 0)).toNat true) (k := (((fun k => if k = 0 then gb0_0 else gb0_1) 1)).toNat) 0 [.bool false] cB_len (inR_nat hq8) (congrArg (fun b => [Value.bool b]) hq9)), .o, .o, .o, .q (ixM_ok (kd := .i64) (T := 64) (x := ((fun k => if k = 0 then gb0_0 else gb0_1) 1)) (N := n0) (sz := 1) rfl (fun w => by kernel_rfl) hq8), .x (sqStGr_ok (T := 4) (e := 4) (f := cB) (A := updF s0_0 (((fun k => if k = 0 then gb0_0 else gb0_1) 0)).toNat true) (v := true) 0 (.bool true) cB_len cB_one rfl rfl (fun w => by kernel_rfl) (inR_nat hq8) e_rb3) [0], .o, .o, .o]
                            rcases e with ⟨hq10, e⟩ | ⟨hq10, e⟩
                            · replace e := bindT_eq e
                              obtain ⟨rb4, e_rb4, e⟩ := e
                              try dsimp only at e
                              replace e := cond_eq_or e
                              let P66 : List (PG Try.prog M B0 S) := P65 ++ [.x (sqAppLr_ok (ty := 36) rt36 #[false, false] (f := cZ) (N := (((IntKind.i64.wrap ((s0_1 : Int) - 1))).toNat + 1)) (A := rb2) (c := 1) [((fun k => if k = 0 then gb0_0 else gb0_1) 1)] (T' := 3) .row cZ_len cZ_one hq10 rfl (by decide) e_rb4) [8, 9], .o, .o, .o, .o, .q (ixM_ok (kd := .i64) (T := 36) (x := 2) (N := 3) (sz := 1) rfl (fun w => by kernel_rfl) (show inR 2 3 = true from by decide)), .l (accG (i := 6) (f := cZ) (A := updF (fun k => if k = 0 then gb0_0 else gb0_1) 2 rb1.1) (k := 2) 0 [.int .i64 (rb1.1)] cZ_len (inR_nat (show inR 2 3 = true from by decide)) rfl), .o, .o, .o]
                              rcases e with ⟨hq11, e⟩ | ⟨hq11, e⟩
                              · replace e := cond_eq_or e
                                let P67 : List (PG Try.prog M B0 S) := P66 ++ [.q (ixM_ok (kd := .i64) (T := 64) (x := rb1.1) (N := n0) (sz := 1) rfl (fun w => by kernel_rfl) hq11)]
                                rcases e with ⟨hq12, e⟩ | ⟨hq12, e⟩
                                · cases e; exact goes_runM hU (P67 ++ [.l (accG (i := 0) (f := cB) (A := rb3) (k := (rb1.1).toNat) 0 [.bool true] cB_len (inR_nat hq11) (congrArg (fun b => [Value.bool b]) hq12)), .o, .o, .o, .o]) [0, 10] (fun b => rfl) (by decide) rfl rfl (fun b => by kernel_rfl)
                                · replace e := cond_eq_or e
                                  rcases e with ⟨hq13, e⟩ | ⟨hq13, e⟩
                                  · replace e := bindT_eq e
                                    obtain ⟨rb5, e_rb5, e⟩ := e
                                    try dsimp only at e
                                    cases e; exact goes_runM hU (P67 ++ [.l (accG (i := 0) (f := cB) (A := rb3) (k := (rb1.1).toNat) 0 [.bool false] cB_len (inR_nat hq11) (congrArg (fun b => [Value.bool b]) hq12)), .o, .o, .o, .q (ixM_ok (kd := .i64) (T := 64) (x := rb1.1) (N := n0) (sz := 1) rfl (fun w => by kernel_rfl) hq11), .x (sqStG_ok (T := 4) (e := 4) (f := cB) (A := rb3) (v := true) 0 (.bool true) cB_len cB_one rfl rfl (fun w => by kernel_rfl) (inR_nat hq11)) [0], .o, .o, .o, .x (sqAppLr_ok (ty := 36) rt36 #[false, false] (f := cZ) (N := ((((IntKind.i64.wrap ((s0_1 : Int) - 1))).toNat + 1) + 1)) (A := rb4) (c := 1) [rb1.1] (T' := 3) .row cZ_len cZ_one hq13 rfl (by decide) e_rb5) [10, 11], .o, .o, .o, .o]) [0, 12] (fun b => rfl) (by decide) rfl rfl (fun b => by kernel_rfl)
                                  · exact none_some e
                              · exact none_some e
                            · exact none_some e
                        · exact none_some e
                      · exact none_some e
                  · exact none_some e
                · replace e := cond_eq_or e
                  let P68 : List (PG Try.prog M B0 S) := P50 ++ [.b hq4, .o, .o, .o, .o, .o, .o, .o, .o, .a 4, .o, .o, .o]
                  rcases e with ⟨hq5, e⟩ | ⟨hq5, e⟩
                  · replace e := cond_eq_or e
                    let P69 : List (PG Try.prog M B0 S) := P68 ++ [.q (ixM_ok (kd := .i64) (T := 64) (x := gb0_0) (N := n0) (sz := 1) rfl (fun w => by kernel_rfl) hq5)]
                    rcases e with ⟨hq6, e⟩ | ⟨hq6, e⟩
                    · replace e := cond_eq_or e
                      let P70 : List (PG Try.prog M B0 S) := P69 ++ [.l (accG (i := 0) (f := cB) (A := s0_0) (k := (gb0_0).toNat) 0 [.bool true] cB_len (inR_nat hq5) (congrArg (fun b => [Value.bool b]) hq6)), .o, .o, .o, .o, .o, .a 4, .o, .o, .o]
                      rcases e with ⟨hq7, e⟩ | ⟨hq7, e⟩
                      · replace e := cond_eq_or e
                        let P71 : List (PG Try.prog M B0 S) := P70 ++ [.q (ixM_ok (kd := .i64) (T := 64) (x := gb0_1) (N := n0) (sz := 1) rfl (fun w => by kernel_rfl) hq7)]
                        rcases e with ⟨hq8, e⟩ | ⟨hq8, e⟩
                        · cases e; exact goes_runM hU (P71 ++ [.l (accG (i := 0) (f := cB) (A := s0_0) (k := (gb0_1).toNat) 0 [.bool true] cB_len (inR_nat hq7) (congrArg (fun b => [Value.bool b]) hq8)), .o, .o, .o, .o]) [0, 3] (fun b => rfl) (by decide) rfl rfl (fun b => by kernel_rfl)
                        · replace e := cond_eq_or e
                          rcases e with ⟨hq9, e⟩ | ⟨hq9, e⟩
                          · cases e; exact goes_runM hU (P71 ++ [.l (accG (i := 0) (f := cB) (A := s0_0) (k := (gb0_1).toNat) 0 [.bool false] cB_len (inR_nat hq7) (congrArg (fun b => [Value.bool b]) hq8)), .o, .o, .o, .q (ixM_ok (kd := .i64) (T := 64) (x := gb0_1) (N := n0) (sz := 1) rfl (fun w => by kernel_rfl) hq7), .x (sqStG_ok (T := 4) (e := 4) (f := cB) (A := s0_0) (v := true) 0 (.bool true) cB_len cB_one rfl rfl (fun w => by kernel_rfl) (inR_nat hq7)) [0], .o, .o, .o, .x (sqAppL_ok (ty := 36) rt36 #[false, false] (f := cZ) (N := ((IntKind.i64.wrap ((s0_1 : Int) - 1))).toNat) (A := s0_2) (c := 1) [gb0_1] (T' := 3) .row cZ_len cZ_one hq9 rfl (by decide)) [3, 5], .o, .o, .o, .o]) [0, 6] (fun b => rfl) (by decide) rfl rfl (fun b => by kernel_rfl)
                          · exact none_some e
                      · exact none_some e
                    · replace e := cond_eq_or e
                      let P72 : List (PG Try.prog M B0 S) := P69 ++ [.l (accG (i := 0) (f := cB) (A := s0_0) (k := (gb0_0).toNat) 0 [.bool false] cB_len (inR_nat hq5) (congrArg (fun b => [Value.bool b]) hq6)), .o, .o, .o, .q (ixM_ok (kd := .i64) (T := 64) (x := gb0_0) (N := n0) (sz := 1) rfl (fun w => by kernel_rfl) hq5), .x (sqStG_ok (T := 4) (e := 4) (f := cB) (A := s0_0) (v := true) 0 (.bool true) cB_len cB_one rfl rfl (fun w => by kernel_rfl) (inR_nat hq5)) [0], .o, .o, .o]
                      rcases e with ⟨hq7, e⟩ | ⟨hq7, e⟩
                      · replace e := cond_eq_or e
                        let P73 : List (PG Try.prog M B0 S) := P72 ++ [.x (sqAppL_ok (ty := 36) rt36 #[false, false] (f := cZ) (N := ((IntKind.i64.wrap ((s0_1 : Int) - 1))).toNat) (A := s0_2) (c := 1) [gb0_0] (T' := 3) .row cZ_len cZ_one hq7 rfl (by decide)) [3, 5], .o, .o, .o, .o, .o, .a 4, .o, .o, .o]
                        rcases e with ⟨hq8, e⟩ | ⟨hq8, e⟩
                        · replace e := cond_eq_or e
                          let P74 : List (PG Try.prog M B0 S) := P73 ++ [.q (ixM_ok (kd := .i64) (T := 64) (x := gb0_1) (N := n0) (sz := 1) rfl (fun w => by kernel_rfl) hq8)]
                          rcases e with ⟨hq9, e⟩ | ⟨hq9, e⟩
                          · cases e; exact goes_runM hU (P74 ++ [.l (accG (i := 0) (f := cB) (A := updF s0_0 (gb0_0).toNat true) (k := (gb0_1).toNat) 0 [.bool true] cB_len (inR_nat hq8) (congrArg (fun b => [Value.bool b]) hq9)), .o, .o, .o, .o]) [0, 6] (fun b => rfl) (by decide) rfl rfl (fun b => by kernel_rfl)
                          · replace e := cond_eq_or e
                            rcases e with ⟨hq10, e⟩ | ⟨hq10, e⟩
                            · replace e := bindT_eq e
                              obtain ⟨rb2, e_rb2, e⟩ := e
                              try dsimp only at e
                              cases e; exact goes_runM hU (P74 ++ [.l (accG (i := 0) (f := cB) (A := updF s0_0 (gb0_0).toNat true) (k := (gb0_1).toNat) 0 [.bool false] cB_len (inR_nat hq8) (congrArg (fun b => [Value.bool b]) hq9)), .o, .o, .o, .q (ixM_ok (kd := .i64) (T := 64) (x := gb0_1) (N := n0) (sz := 1) rfl (fun w => by kernel_rfl) hq8), .x (sqStG_ok (T := 4) (e := 4) (f := cB) (A := updF s0_0 (gb0_0).toNat true) (v := true) 0 (.bool true) cB_len cB_one rfl rfl (fun w => by kernel_rfl) (inR_nat hq8)) [0], .o, .o, .o, .x (sqAppLr_ok (ty := 36) rt36 #[false, false] (f := cZ) (N := (((IntKind.i64.wrap ((s0_1 : Int) - 1))).toNat + 1)) (A := updF s0_2 ((IntKind.i64.wrap ((s0_1 : Int) - 1))).toNat gb0_0) (c := 1) [gb0_1] (T' := 3) .row cZ_len cZ_one hq10 rfl (by decide) e_rb2) [6, 7], .o, .o, .o, .o]) [0, 8] (fun b => rfl) (by decide) rfl rfl (fun b => by kernel_rfl)
                            · exact none_some e
                        · exact none_some e
                      · exact none_some e
                  · exact none_some e
            · exact none_some e
          · exact none_some e
        · exact none_some e
      · cases e; exact ⟨ne_exit 0, goes_runM hU (P34 ++ [.b (z_gtrF hq0)]) [0, 2] (fun b => rfl) (by decide) rfl rfl (fun b => by kernel_rfl)⟩) s r h
noncomputable def t0_flow_program_reached_v1_L0_0 (a0 : Option Addr) (p0 : Nat) (q0 : Nat) (n0 : Nat) (k0 : Nat) (A0 : Nat → Insn)  (ls : List L1) : List Value := List.append [.slice a0 n0 (n0 + k0), undef, .slice none 0 0, (rowV (lget ls 0) n0 1), .slice (some ⟨(lget ls 1).n, 0, none⟩) 1 1] (List.append (und 6) (List.append [.slice a0 n0 (n0 + k0), .int .i64 ((n0 : Int)), (rowV (lget ls 0) n0 1), (rowV (lget ls 0) n0 1), .pointer (some ⟨(lget ls 0).n, 0 + 0 * 1, none⟩), .slice (some ⟨(lget ls 1).n, 0, none⟩) 1 1] (und 48)))
def pre_flow_program_reached_v1_L0_0 (a0 : Option Addr) (p0 : Nat) (q0 : Nat) (n0 : Nat) (k0 : Nat) (A0 : Nat → Insn)  (ls : List L1) : List Obj := [rowO (lget ls 0) (esG cB n0 (updF (fun _ => false) 0 true)) 4 n0 1, .cells #[.int .i64 (0)] 3]
theorem sp0_flow_program_reached_v1_L0_0_ok (c0_0 : Nat → Bool) (h : lpO (st_flow_program_reached_v1_L0 n0 A0) (.c0) = some (.e0 c0_0)) : SpcG Try.prog M B0 S ⟨fun ls => .code (.loop bd_flow_program_reached_v1_L0) (t0_flow_program_reached_v1_L0_0 a0 p0 q0 n0 k0 A0  ls), pre_flow_program_reached_v1_L0_0 a0 p0 q0 n0 k0 A0 , 2, (.exit 0), fun ls => vf_flow_program_reached_v1_L0 a0 p0 q0 n0 k0 A0 (.e0 c0_0) (ls.take 1 ++ ls.drop 2), fun ls => (Hf_flow_program_reached_v1_L0 a0 p0 q0 n0 k0 A0 (.e0 c0_0) (ls.take 1 ++ ls.drop 2)).take 1 ++ List.replicate 1 unb, fun ls => (Hf_flow_program_reached_v1_L0 a0 p0 q0 n0 k0 A0 (.e0 c0_0) (ls.take 1 ++ ls.drop 2)).drop 1⟩ :=
  spc_of_goesM hU 0 (k0 := 2) (go_flow_program_reached_v1_L0 hU a0 p0 q0 n0 k0 A0 hR0 _ _ h) (t0_flow_program_reached_v1_L0_0 a0 p0 q0 n0 k0 A0 ) (pre_flow_program_reached_v1_L0_0 a0 p0 q0 n0 k0 A0 ) (fun _ => rfl) (fun ls h => by match ls, h with | [l0, l1], _ => exact ⟨by kernel_rfl, by kernel_rfl⟩) (fun ls h => by match ls, h with | [l0, l1], _ => rfl) (by decide) (by decide) (fun ls => rfl)
inductive R_flow_program_reached_v1 where
  | e0 (c0_0 : Nat → Bool)
noncomputable def m_flow_program_reached_v1 (n0 : Nat) (A0 : Nat → Insn) : Option R_flow_program_reached_v1 :=
  bif decide (n0 ≤ 1000000) then
    (bif inR 0 n0 then
      ((lpO (st_flow_program_reached_v1_L0 n0 A0) (.c0)).bind fun g0 => match g0 with
      | .e0 g0_0 =>
      some (.e0 g0_0))
    else (none))
  else (none)
def sq0_flow_program_reached_v1 (a0 : Option Addr) (p0 : Nat) (q0 : Nat) (n0 : Nat) (k0 : Nat) (A0 : Nat → Insn) (c0_0 : Nat → Bool) : Spc := ⟨fun ls => .call 40 #[.slice a0 n0 (n0 + k0)], fun ls => [], 1, .normal, fun ls => [(rowV (lget ls 0) n0 1)], fun ls => [], fun ls => [rowO (lget ls 0) (esG cB n0 c0_0) 4 n0 1]⟩
theorem ok0_flow_program_reached_v1 (c0_0 : Nat → Bool) (e : m_flow_program_reached_v1 n0 A0 = some (.e0 c0_0)) : SpcG Try.prog M B0 S (sq0_flow_program_reached_v1 a0 p0 q0 n0 k0 A0 c0_0) := by
  unfold m_flow_program_reached_v1 at e
  replace e := cond_eq_or e
  rcases e with ⟨hq0, e⟩ | ⟨hq0, e⟩
  · replace e := cond_eq_or e
    rcases e with ⟨hq1, e⟩ | ⟨hq1, e⟩
    · replace e := bindO_eq e
      obtain ⟨g0, e_g0, e⟩ := e
      obtain ⟨g0_0⟩ := g0
      try dsimp only at e
      injection e with e; injection e with i0; subst i0; exact fn_specG hU (P := Try.prog) Try.func40 (fun xs w => by kernel_rfl) 0 _ _ (fun _ => rfl) _ _ _ [0] [.o, .o, .o, .x (sqMkN_ok rt64 (f := cB) (a0 := false) cB_len (by kernel_rfl) hq0 (by decide)) [], .o, .o, .q (ixM_ok (kd := .i64) (T := 64) (x := 0) (N := n0) (sz := 1) rfl (fun w => by kernel_rfl) hq1), .x (sqStG_ok (T := 4) (e := 4) (f := cB) (A := (fun _ => false)) (v := true) 0 (.bool true) cB_len cB_one rfl rfl (fun w => by kernel_rfl) (inR_nat hq1)) [0], .o, .o, .cp, .cx (sp0_flow_program_reached_v1_L0_0_ok hU a0 p0 q0 n0 k0 A0 hR0  g0_0 e_g0) [0, 1], .o, .o] [] (fun b => by kernel_rfl)
    · exact none_some e
  · exact none_some e
inductive R_flow_Reached_v1 where
  | e0 (c0_0 : Nat → Bool)
  | e1 (c1_0 : Int)
noncomputable def m_flow_Reached_v1 (n0 : Nat) (A0 : Nat → Insn) : Option R_flow_Reached_v1 :=
  (m_insn_Check n0 A0).bind fun r0 =>
  bif r0.2 == 0 then
    ((m_flow_program_reached_v1 n0 A0).bind fun g1 => match g1 with
    | .e0 g1_0 =>
    some (.e0 g1_0))
  else (some (.e1 r0.2))
def sq0_flow_Reached_v1 (a0 : Option Addr) (p0 : Nat) (q0 : Nat) (n0 : Nat) (k0 : Nat) (A0 : Nat → Insn) (c0_0 : Nat → Bool) : Spc := ⟨fun ls => .call 21 #[.slice a0 n0 (n0 + k0)], fun ls => [], 1, .normal, fun ls => [.tuple #[(rowV (lget ls 0) n0 1), .int .i64 (0)]], fun ls => [], fun ls => [rowO (lget ls 0) (esG cB n0 c0_0) 4 n0 1]⟩
def sq1_flow_Reached_v1 (a0 : Option Addr) (p0 : Nat) (q0 : Nat) (n0 : Nat) (k0 : Nat) (A0 : Nat → Insn) (c1_0 : Int) : Spc := ⟨fun ls => .call 21 #[.slice a0 n0 (n0 + k0)], fun ls => [], 0, .normal, fun ls => [.tuple #[.slice none 0 0, .int .i64 (c1_0)]], fun ls => [], fun ls => []⟩
theorem ok0_flow_Reached_v1 (c0_0 : Nat → Bool) (e : m_flow_Reached_v1 n0 A0 = some (.e0 c0_0)) : SpcG Try.prog M B0 S (sq0_flow_Reached_v1 a0 p0 q0 n0 k0 A0 c0_0) := by
  unfold m_flow_Reached_v1 at e
  replace e := bindO_eq e
  obtain ⟨r0, e_r0, e⟩ := e
  try dsimp only at e
  replace e := cond_eq_or e
  rcases e with ⟨hq0, e⟩ | ⟨hq0, e⟩
  · replace e := bindO_eq e
    obtain ⟨g1, e_g1, e⟩ := e
    obtain ⟨g1_0⟩ := g1
    try dsimp only at e
    injection e with e; injection e with i0; subst i0; exact fn_specG hU (P := Try.prog) Try.func21 (fun xs w => by kernel_rfl) 0 _ _ (fun _ => rfl) _ _ _ [0] [.o, .o, .o, .cg (ok_insn_Check hU a0 p0 q0 n0 k0 A0 hR0 r0 e_r0), .o, .o, .o, .o, .o, .o, .b (z_neqT hq0), .o, .xg (ok0_flow_program_reached_v1 hU a0 p0 q0 n0 k0 A0 hR0 g1_0 e_g1) [], .o, .o] [] (fun b => by kernel_rfl)
  · cases e
theorem ok1_flow_Reached_v1 (c1_0 : Int) (e : m_flow_Reached_v1 n0 A0 = some (.e1 c1_0)) : SpcG Try.prog M B0 S (sq1_flow_Reached_v1 a0 p0 q0 n0 k0 A0 c1_0) := by
  unfold m_flow_Reached_v1 at e
  replace e := bindO_eq e
  obtain ⟨r0, e_r0, e⟩ := e
  try dsimp only at e
  replace e := cond_eq_or e
  rcases e with ⟨hq0, e⟩ | ⟨hq0, e⟩
  · replace e := bindO_eq e
    obtain ⟨g1, e_g1, e⟩ := e
    obtain ⟨g1_0⟩ := g1
    try dsimp only at e
    cases e
  · injection e with e; injection e with i0; subst i0; exact fn_specG hU (P := Try.prog) Try.func21 (fun xs w => by kernel_rfl) 0 _ _ (fun _ => rfl) _ _ _ [] [.o, .o, .o, .cg (ok_insn_Check hU a0 p0 q0 n0 k0 A0 hR0 r0 e_r0), .o, .o, .o, .o, .o, .o, .b (z_neqF hq0), .o, .o, .o] [] (fun b => by kernel_rfl)
noncomputable def m_live_sets_v3 (y0 : Insn) : Bool :=
  bif (y0.fOp &&& 7#8) == 0#8 then
    (true)
  else (bif (y0.fOp &&& 7#8) == 4#8 then
    (true)
  else (bif (y0.fOp &&& 7#8) == 7#8 then
    (true)
  else (false)))
end
section
variable {M : Nat → Prop} {B0 : Nat} {S : World → Prop} (hU : Up M B0 S)
include hU
theorem ok_live_sets_v3 (y0 : Insn) (r : Bool) (e : m_live_sets_v3 y0 = r) : ConG Try.prog S 22 #[(v_Insn y0)] (.bool (r)) := by
  unfold m_live_sets_v3 at e
  replace e := cond_eq_or e
  let P1 : List (PG Try.prog M B0 S) := [.o, .o, .o, .a 0, .v .u8 (u8_and y0.fOp (7#8))]
  rcases e with ⟨hq0, e⟩ | ⟨hq0, e⟩
  · subst e; exact fn_conG hU (P := Try.prog) Try.func22 (fun xs w => by kernel_rfl) _ _ (P1 ++ [.t (u_eq (y0.fOp &&& 7#8) (0#8)) hq0, .o, .o]) [] (fun b => by kernel_rfl)
  · replace e := cond_eq_or e
    rcases e with ⟨hq1, e⟩ | ⟨hq1, e⟩
    · subst e; exact fn_conG hU (P := Try.prog) Try.func22 (fun xs w => by kernel_rfl) _ _ (P1 ++ [.t (u_eq (y0.fOp &&& 7#8) (0#8)) hq0, .o, .t (u_eq (y0.fOp &&& 7#8) (4#8)) hq1, .o, .o]) [] (fun b => by kernel_rfl)
    · replace e := cond_eq_or e
      rcases e with ⟨hq2, e⟩ | ⟨hq2, e⟩
      · subst e; exact fn_conG hU (P := Try.prog) Try.func22 (fun xs w => by kernel_rfl) _ _ (P1 ++ [.t (u_eq (y0.fOp &&& 7#8) (0#8)) hq0, .o, .t (u_eq (y0.fOp &&& 7#8) (4#8)) hq1, .o, .t (u_eq (y0.fOp &&& 7#8) (7#8)) hq2, .o, .o]) [] (fun b => by kernel_rfl)
      · subst e; exact fn_conG hU (P := Try.prog) Try.func22 (fun xs w => by kernel_rfl) _ _ (P1 ++ [.t (u_eq (y0.fOp &&& 7#8) (0#8)) hq0, .o, .t (u_eq (y0.fOp &&& 7#8) (4#8)) hq1, .o, .t (u_eq (y0.fOp &&& 7#8) (7#8)) hq2, .o, .o]) [] (fun b => by kernel_rfl)
inductive Sh_live_Dead_v1_L0 where
  | c0 (s0_0 : Int)
  | c1 (s0_0 : Nat) (s0_1 : Nat → Int) (s0_2 : Int)
inductive Ex_live_Dead_v1_L0 where
  | e0 
  | e1 (c1_0 : Nat) (c1_1 : Nat → Int)
noncomputable def st_live_Dead_v1_L0 (n0 : Nat) (A0 : Nat → Insn) (g1_0 : Nat → Bool) (g2_0 : Nat → BitVec 16) (g2_1 : Nat → BitVec 16) (g2_2 : Nat → BitVec 16) (g2_3 : Nat → (Nat × (Nat → Int))) : Sh_live_Dead_v1_L0 → Option (Sh_live_Dead_v1_L0 ⊕ Ex_live_Dead_v1_L0)
  | .c0 s0_0 =>
    bif decide (s0_0 < (n0 : Int)) then
      (bif inR s0_0 n0 then
        (bif (g1_0 (s0_0).toNat) then
          (bif m_live_sets_v3 ((A0 (s0_0).toNat)) then
            ((m_live_rows_behind_v4 s0_0 n0 g2_0 g2_1 g2_2 g2_3).bind fun gb0 => match gb0 with
            | .e0 gb0_0 =>
            bindT (m_live_bit_v2 ((A0 (s0_0).toNat)).fDst) fun rb1 =>
            bif (gb0_0 &&& rb1) == 0#16 then
              (some (.inl (.c1 1 (fun _ => s0_0) (IntKind.i64.wrap (s0_0 + 1)))))
            else (some (.inl (.c0 (IntKind.i64.wrap (s0_0 + 1))))))
          else (some (.inl (.c0 (IntKind.i64.wrap (s0_0 + 1))))))
        else (some (.inl (.c0 (IntKind.i64.wrap (s0_0 + 1))))))
      else (none))
    else (some (.inr (.e0 )))
  | .c1 s0_0 s0_1 s0_2 =>
    bif decide (s0_2 < (n0 : Int)) then
      (bif inR s0_2 n0 then
        (bif (g1_0 (s0_2).toNat) then
          (bif m_live_sets_v3 ((A0 (s0_2).toNat)) then
            ((m_live_rows_behind_v4 s0_2 n0 g2_0 g2_1 g2_2 g2_3).bind fun gb0 => match gb0 with
            | .e0 gb0_0 =>
            bindT (m_live_bit_v2 ((A0 (s0_2).toNat)).fDst) fun rb1 =>
            bif (gb0_0 &&& rb1) == 0#16 then
              (bif decide (s0_0 ≤ 1000000) then
                (some (.inl (.c1 (s0_0 + 1) (updF s0_1 s0_0 s0_2) (IntKind.i64.wrap (s0_2 + 1)))))
              else (none))
            else (some (.inl (.c1 s0_0 s0_1 (IntKind.i64.wrap (s0_2 + 1))))))
          else (some (.inl (.c1 s0_0 s0_1 (IntKind.i64.wrap (s0_2 + 1))))))
        else (some (.inl (.c1 s0_0 s0_1 (IntKind.i64.wrap (s0_2 + 1))))))
      else (none))
    else (some (.inr (.e1 s0_0 s0_1)))
noncomputable def bd_live_Dead_v1_L0 : Code := codeOf Try.f11 [1, 1, 1, 1, 1, 0, 1, 0, 0]
def fl_live_Dead_v1_L0 (a0 : Option Addr) (p0 : Nat) (q0 : Nat) (n0 : Nat) (k0 : Nat) (A0 : Nat → Insn) (r0 : (Int) × (Int)) (g1_0 : Nat → Bool) (g2_0 : Nat → BitVec 16) (g2_1 : Nat → BitVec 16) (g2_2 : Nat → BitVec 16) (g2_3 : Nat → (Nat × (Nat → Int))) : Sh_live_Dead_v1_L0 → List L1 → List Value
  | .c0 s0_0, ls => [.slice none 0 0, .int .i64 (0), (rowV (lget ls 0) n0 1), .pointer (some ⟨(lget ls 1).n, 0, none⟩), .slice none 0 0, .slice a0 n0 (n0 + k0), .int .i64 ((n0 : Int)), .int .i64 (s0_0)]
  | .c1 s0_0 s0_1 s0_2, ls => [.slice none 0 0, .int .i64 (0), (rowV (lget ls 0) n0 1), .pointer (some ⟨(lget ls 1).n, 0, none⟩), (rowV (lget ls 7) s0_0 1), .slice a0 n0 (n0 + k0), .int .i64 ((n0 : Int)), .int .i64 (s0_2)]
def mf_live_Dead_v1_L0 : Sh_live_Dead_v1_L0 → List (Nat × Nat)
  | .c0 _ => [(0, 2), (2, 2), (1, 1), (2, 17), (3, 28)]
  | .c1 _ _ _ => [(0, 2), (2, 2), (1, 1), (2, 17), (3, 28)]
noncomputable def fr_live_Dead_v1_L0 (a0 : Option Addr) (p0 : Nat) (q0 : Nat) (n0 : Nat) (k0 : Nat) (A0 : Nat → Insn) (r0 : (Int) × (Int)) (g1_0 : Nat → Bool) (g2_0 : Nat → BitVec 16) (g2_1 : Nat → BitVec 16) (g2_2 : Nat → BitVec 16) (g2_3 : Nat → (Nat × (Nat → Int))) (s : Sh_live_Dead_v1_L0) : List L1 → List Value := mrgF (mf_live_Dead_v1_L0 s) (fl_live_Dead_v1_L0 a0 p0 q0 n0 k0 A0 r0 g1_0 g2_0 g2_1 g2_2 g2_3 s) 8
def Hs_live_Dead_v1_L0 (a0 : Option Addr) (p0 : Nat) (q0 : Nat) (n0 : Nat) (k0 : Nat) (A0 : Nat → Insn) (r0 : (Int) × (Int)) (g1_0 : Nat → Bool) (g2_0 : Nat → BitVec 16) (g2_1 : Nat → BitVec 16) (g2_2 : Nat → BitVec 16) (g2_3 : Nat → (Nat × (Nat → Int))) : Sh_live_Dead_v1_L0 → List L1 → List Obj
  | .c0 s0_0, ls => [rowO (lget ls 0) (esG cB n0 g1_0) 4 n0 1, .cells #[(rowV (lget ls 2) n0 1), (rowV (lget ls 3) n0 1), (rowV (lget ls 4) n0 1), (rowV (lget ls 5) n0 1)] 57, rowO (lget ls 2) (esG cu16 n0 g2_0) 31 n0 1, rowO (lget ls 3) (esG cu16 n0 g2_1) 31 n0 1, rowO (lget ls 4) (esG cu16 n0 g2_2) 31 n0 1, rfR (lget ls 5) (lget ls 6) 36 1 n0 g2_3, rfO 3 cZ 1 n0 g2_3, unb, unb]
  | .c1 s0_0 s0_1 s0_2, ls => [rowO (lget ls 0) (esG cB n0 g1_0) 4 n0 1, .cells #[(rowV (lget ls 2) n0 1), (rowV (lget ls 3) n0 1), (rowV (lget ls 4) n0 1), (rowV (lget ls 5) n0 1)] 57, rowO (lget ls 2) (esG cu16 n0 g2_0) 31 n0 1, rowO (lget ls 3) (esG cu16 n0 g2_1) 31 n0 1, rowO (lget ls 4) (esG cu16 n0 g2_2) 31 n0 1, rfR (lget ls 5) (lget ls 6) 36 1 n0 g2_3, rfO 3 cZ 1 n0 g2_3, rowO (lget ls 7) (esG cZ s0_0 s0_1) 3 s0_0 1, unb]
def vl_live_Dead_v1_L0 (a0 : Option Addr) (p0 : Nat) (q0 : Nat) (n0 : Nat) (k0 : Nat) (A0 : Nat → Insn) (r0 : (Int) × (Int)) (g1_0 : Nat → Bool) (g2_0 : Nat → BitVec 16) (g2_1 : Nat → BitVec 16) (g2_2 : Nat → BitVec 16) (g2_3 : Nat → (Nat × (Nat → Int))) : Ex_live_Dead_v1_L0 → List L1 → List Value
  | .e0 , ls => [.slice none 0 0, .int .i64 (0), (rowV (lget ls 0) n0 1), .pointer (some ⟨(lget ls 1).n, 0, none⟩), .slice none 0 0, .slice a0 n0 (n0 + k0), .int .i64 ((n0 : Int))]
  | .e1 c1_0 c1_1, ls => [.slice none 0 0, .int .i64 (0), (rowV (lget ls 0) n0 1), .pointer (some ⟨(lget ls 1).n, 0, none⟩), (rowV (lget ls 7) c1_0 1), .slice a0 n0 (n0 + k0), .int .i64 ((n0 : Int))]
def mk_live_Dead_v1_L0 : Ex_live_Dead_v1_L0 → List (Nat × Nat)
  | .e0  => [(0, 2), (2, 2), (1, 1), (2, 17), (2, 29)]
  | .e1 _ _ => [(0, 2), (2, 2), (1, 1), (2, 17), (2, 29)]
noncomputable def vf_live_Dead_v1_L0 (a0 : Option Addr) (p0 : Nat) (q0 : Nat) (n0 : Nat) (k0 : Nat) (A0 : Nat → Insn) (r0 : (Int) × (Int)) (g1_0 : Nat → Bool) (g2_0 : Nat → BitVec 16) (g2_1 : Nat → BitVec 16) (g2_2 : Nat → BitVec 16) (g2_3 : Nat → (Nat × (Nat → Int))) (r : Ex_live_Dead_v1_L0) : List L1 → List Value := mrgF (mk_live_Dead_v1_L0 r) (vl_live_Dead_v1_L0 a0 p0 q0 n0 k0 A0 r0 g1_0 g2_0 g2_1 g2_2 g2_3 r) 8
def Hf_live_Dead_v1_L0 (a0 : Option Addr) (p0 : Nat) (q0 : Nat) (n0 : Nat) (k0 : Nat) (A0 : Nat → Insn) (r0 : (Int) × (Int)) (g1_0 : Nat → Bool) (g2_0 : Nat → BitVec 16) (g2_1 : Nat → BitVec 16) (g2_2 : Nat → BitVec 16) (g2_3 : Nat → (Nat × (Nat → Int))) : Ex_live_Dead_v1_L0 → List L1 → List Obj
  | .e0 , ls => [rowO (lget ls 0) (esG cB n0 g1_0) 4 n0 1, .cells #[(rowV (lget ls 2) n0 1), (rowV (lget ls 3) n0 1), (rowV (lget ls 4) n0 1), (rowV (lget ls 5) n0 1)] 57, rowO (lget ls 2) (esG cu16 n0 g2_0) 31 n0 1, rowO (lget ls 3) (esG cu16 n0 g2_1) 31 n0 1, rowO (lget ls 4) (esG cu16 n0 g2_2) 31 n0 1, rfR (lget ls 5) (lget ls 6) 36 1 n0 g2_3, rfO 3 cZ 1 n0 g2_3, unb, unb]
  | .e1 c1_0 c1_1, ls => [rowO (lget ls 0) (esG cB n0 g1_0) 4 n0 1, .cells #[(rowV (lget ls 2) n0 1), (rowV (lget ls 3) n0 1), (rowV (lget ls 4) n0 1), (rowV (lget ls 5) n0 1)] 57, rowO (lget ls 2) (esG cu16 n0 g2_0) 31 n0 1, rowO (lget ls 3) (esG cu16 n0 g2_1) 31 n0 1, rowO (lget ls 4) (esG cu16 n0 g2_2) 31 n0 1, rfR (lget ls 5) (lget ls 6) 36 1 n0 g2_3, rfO 3 cZ 1 n0 g2_3, rowO (lget ls 7) (esG cZ c1_0 c1_1) 3 c1_0 1, unb]
def ex_live_Dead_v1_L0 : Ex_live_Dead_v1_L0 → Ex
  | .e0  => (.exit 0)
  | .e1 _ _ => (.exit 0)
end
section
variable {M : Nat → Prop} {B0 : Nat} {S : World → Prop} (hU : Up M B0 S) (a0 : Option Addr) (p0 : Nat) (q0 : Nat) (n0 : Nat) (k0 : Nat) (A0 : Nat → Insn) (hR0 : Ro S c_Insn 5 a0 p0 q0 n0 A0) (r0 : (Int) × (Int)) (g1_0 : Nat → Bool) (g2_0 : Nat → BitVec 16) (g2_1 : Nat → BitVec 16) (g2_2 : Nat → BitVec 16) (g2_3 : Nat → (Nat × (Nat → Int)))
include hU a0 p0 q0 n0 k0 A0 hR0 r0 g1_0 g2_0 g2_1 g2_2 g2_3
theorem go_live_Dead_v1_L0 (s : Sh_live_Dead_v1_L0) (r : Ex_live_Dead_v1_L0) (h : lpO (st_live_Dead_v1_L0 n0 A0 g1_0 g2_0 g2_1 g2_2 g2_3) s = some r) : GoesG Try.prog M B0 S (.loop bd_live_Dead_v1_L0) 9 (fr_live_Dead_v1_L0 a0 p0 q0 n0 k0 A0 r0 g1_0 g2_0 g2_1 g2_2 g2_3 s) (Hs_live_Dead_v1_L0 a0 p0 q0 n0 k0 A0 r0 g1_0 g2_0 g2_1 g2_2 g2_3 s) (ex_live_Dead_v1_L0 r) 7 (vf_live_Dead_v1_L0 a0 p0 q0 n0 k0 A0 r0 g1_0 g2_0 g2_1 g2_2 g2_3 r) (Hf_live_Dead_v1_L0 a0 p0 q0 n0 k0 A0 r0 g1_0 g2_0 g2_1 g2_2 g2_3 r) 9 :=
  goes_lpO (fun s q e => by
    cases s with
    | c0 s0_0 =>
      unfold st_live_Dead_v1_L0 at e
      dsimp only at e
      replace e := cond_eq_or e
      rcases e with ⟨hq0, e⟩ | ⟨hq0, e⟩
      · replace e := cond_eq_or e
        rcases e with ⟨hq1, e⟩ | ⟨hq1, e⟩
        · replace e := cond_eq_or e
          let P1 : List (PG Try.prog M B0 S) := [.b (z_lssT hq0), .o, .q (ixRo_ok (kd := .i64) (T := 22) (x := s0_0) (sz := 5) rfl (fun w => by kernel_rfl) hR0 hq1), .l (accRo hR0 c_Insn_len (inR_nat hq1) 0 [.int .u8 (nn ((A0 (s0_0).toNat)).fOp), .int .u8 (nn ((A0 (s0_0).toNat)).fDst), .int .u8 (nn ((A0 (s0_0).toNat)).fSrc), .int .i16 (ii ((A0 (s0_0).toNat)).fOff), .int .i32 (ii ((A0 (s0_0).toNat)).fImm)] rfl), .o, .o, .a 9, .r [0, 1, 2, 3, 4, 5, 6, 7, 8, 9, 10, 12, 13] [] [11, 14, 15, 16, 17], .o, .o, .q (ixM_ok (kd := .i64) (T := 64) (x := s0_0) (N := n0) (sz := 1) rfl (fun w => by kernel_rfl) hq1)]
          rcases e with ⟨hq2, e⟩ | ⟨hq2, e⟩
          · replace e := cond_eq_or e
            let P2 : List (PG Try.prog M B0 S) := P1 ++ [.l (accG (i := 0) (f := cB) (A := g1_0) (k := (s0_0).toNat) 0 [.bool true] cB_len (inR_nat hq1) (congrArg (fun b => [Value.bool b]) hq2)), .o, .a 9]
            rcases e with ⟨hq3, e⟩ | ⟨hq3, e⟩
            · replace e := bindO_eq e
              obtain ⟨gb0, e_gb0, e⟩ := e
              obtain ⟨gb0_0⟩ := gb0
              try dsimp only at e
              replace e := bindT_eq e
              obtain ⟨rb1, e_rb1, e⟩ := e
              try dsimp only at e
              replace e := cond_eq_or e
              let P3 : List (PG Try.prog M B0 S) := P2 ++ [.cg (ok_live_sets_v3 hU ((A0 (s0_0).toNat)) true hq3), .o, .o, .o, .o, .o, .a 9, .xr (ok0_live_rows_behind_v4 hU s0_0 n0 g2_0 g2_1 g2_2 g2_3 gb0_0 e_gb0) (fun _ => rfl) rfl (fun _ => rfl) [1, 2, 3, 4, 5, 6], .cg (ok_live_bit_v2 hU ((A0 (s0_0).toNat)).fDst rb1 e_rb1), .v .u16 (u16_and gb0_0 rb1)]
              rcases e with ⟨hq4, e⟩ | ⟨hq4, e⟩
              · cases e; exact goes_runM hU (P3 ++ [.t (u_eq (gb0_0 &&& rb1) (0#16)) hq4, .o, .o, .o, .o, .x (sqAppL1_ok (ty := 36) rt36 #[false, false] (f := cZ) (c := 1) s0_0 (T' := 3) cZ_len cZ_one (by decide)) [10], .o, .o, .o]) [0, 1, 2, 3, 4, 5, 6, 11] (fun b => rfl) (by decide) rfl rfl (fun b => by kernel_rfl)
              · cases e; exact goes_runM hU (P3 ++ [.t (u_eq (gb0_0 &&& rb1) (0#16)) hq4, .o, .o, .o]) [0, 1, 2, 3, 4, 5, 6, 7] (fun b => rfl) (by decide) rfl rfl (fun b => by kernel_rfl)
            · cases e; exact goes_runM hU (P2 ++ [.cg (ok_live_sets_v3 hU ((A0 (s0_0).toNat)) false hq3), .o, .o, .o, .o, .o]) [0, 1, 2, 3, 4, 5, 6, 7] (fun b => rfl) (by decide) rfl rfl (fun b => by kernel_rfl)
          · cases e; exact goes_runM hU (P1 ++ [.l (accG (i := 0) (f := cB) (A := g1_0) (k := (s0_0).toNat) 0 [.bool false] cB_len (inR_nat hq1) (congrArg (fun b => [Value.bool b]) hq2)), .o, .o, .o, .o, .o, .o]) [0, 1, 2, 3, 4, 5, 6, 7] (fun b => rfl) (by decide) rfl rfl (fun b => by kernel_rfl)
        · exact none_some e
      · cases e; exact ⟨ne_exit 0, goes_runM hU [.b (z_lssF hq0)] [0, 1, 2, 3, 4, 5, 6, 7] (fun b => rfl) (by decide) rfl rfl (fun b => by kernel_rfl)⟩
    | c1 s0_0 s0_1 s0_2 =>
      unfold st_live_Dead_v1_L0 at e
      dsimp only at e
      replace e := cond_eq_or e
      rcases e with ⟨hq0, e⟩ | ⟨hq0, e⟩
      · replace e := cond_eq_or e
        rcases e with ⟨hq1, e⟩ | ⟨hq1, e⟩
        · replace e := cond_eq_or e
          let P4 : List (PG Try.prog M B0 S) := [.b (z_lssT hq0), .o, .q (ixRo_ok (kd := .i64) (T := 22) (x := s0_2) (sz := 5) rfl (fun w => by kernel_rfl) hR0 hq1), .l (accRo hR0 c_Insn_len (inR_nat hq1) 0 [.int .u8 (nn ((A0 (s0_2).toNat)).fOp), .int .u8 (nn ((A0 (s0_2).toNat)).fDst), .int .u8 (nn ((A0 (s0_2).toNat)).fSrc), .int .i16 (ii ((A0 (s0_2).toNat)).fOff), .int .i32 (ii ((A0 (s0_2).toNat)).fImm)] rfl), .o, .o, .a 9, .r [0, 1, 2, 3, 4, 5, 6, 7, 8, 9, 10, 12, 13] [] [11, 14, 15, 16, 17], .o, .o, .q (ixM_ok (kd := .i64) (T := 64) (x := s0_2) (N := n0) (sz := 1) rfl (fun w => by kernel_rfl) hq1)]
          rcases e with ⟨hq2, e⟩ | ⟨hq2, e⟩
          · replace e := cond_eq_or e
            let P5 : List (PG Try.prog M B0 S) := P4 ++ [.l (accG (i := 0) (f := cB) (A := g1_0) (k := (s0_2).toNat) 0 [.bool true] cB_len (inR_nat hq1) (congrArg (fun b => [Value.bool b]) hq2)), .o, .a 9]
            rcases e with ⟨hq3, e⟩ | ⟨hq3, e⟩
            · replace e := bindO_eq e
              obtain ⟨gb0, e_gb0, e⟩ := e
              obtain ⟨gb0_0⟩ := gb0
              try dsimp only at e
              replace e := bindT_eq e
              obtain ⟨rb1, e_rb1, e⟩ := e
              try dsimp only at e
              replace e := cond_eq_or e
              let P6 : List (PG Try.prog M B0 S) := P5 ++ [.cg (ok_live_sets_v3 hU ((A0 (s0_2).toNat)) true hq3), .o, .o, .o, .o, .o, .a 9, .xr (ok0_live_rows_behind_v4 hU s0_2 n0 g2_0 g2_1 g2_2 g2_3 gb0_0 e_gb0) (fun _ => rfl) rfl (fun _ => rfl) [1, 2, 3, 4, 5, 6], .cg (ok_live_bit_v2 hU ((A0 (s0_2).toNat)).fDst rb1 e_rb1), .v .u16 (u16_and gb0_0 rb1)]
              rcases e with ⟨hq4, e⟩ | ⟨hq4, e⟩
              · replace e := cond_eq_or e
                rcases e with ⟨hq5, e⟩ | ⟨hq5, e⟩
                · cases e; exact goes_runM hU (P6 ++ [.t (u_eq (gb0_0 &&& rb1) (0#16)) hq4, .o, .o, .o, .o, .x (sqAppL_ok (ty := 36) rt36 #[false, false] (f := cZ) (N := s0_0) (A := s0_1) (c := 1) [s0_2] (T' := 3) .row cZ_len cZ_one hq5 rfl (by decide)) [7, 10], .o, .o, .o]) [0, 1, 2, 3, 4, 5, 6, 11] (fun b => rfl) (by decide) rfl rfl (fun b => by kernel_rfl)
                · exact none_some e
              · cases e; exact goes_runM hU (P6 ++ [.t (u_eq (gb0_0 &&& rb1) (0#16)) hq4, .o, .o, .o]) [0, 1, 2, 3, 4, 5, 6, 7] (fun b => rfl) (by decide) rfl rfl (fun b => by kernel_rfl)
            · cases e; exact goes_runM hU (P5 ++ [.cg (ok_live_sets_v3 hU ((A0 (s0_2).toNat)) false hq3), .o, .o, .o, .o, .o]) [0, 1, 2, 3, 4, 5, 6, 7] (fun b => rfl) (by decide) rfl rfl (fun b => by kernel_rfl)
          · cases e; exact goes_runM hU (P4 ++ [.l (accG (i := 0) (f := cB) (A := g1_0) (k := (s0_2).toNat) 0 [.bool false] cB_len (inR_nat hq1) (congrArg (fun b => [Value.bool b]) hq2)), .o, .o, .o, .o, .o, .o]) [0, 1, 2, 3, 4, 5, 6, 7] (fun b => rfl) (by decide) rfl rfl (fun b => by kernel_rfl)
        · exact none_some e
      · cases e; exact ⟨ne_exit 0, goes_runM hU [.b (z_lssF hq0)] [0, 1, 2, 3, 4, 5, 6, 7] (fun b => rfl) (by decide) rfl rfl (fun b => by kernel_rfl)⟩) s r h
noncomputable def t0_live_Dead_v1_L0_0 (a0 : Option Addr) (p0 : Nat) (q0 : Nat) (n0 : Nat) (k0 : Nat) (A0 : Nat → Insn) (r0 : (Int) × (Int)) (g1_0 : Nat → Bool) (g2_0 : Nat → BitVec 16) (g2_1 : Nat → BitVec 16) (g2_2 : Nat → BitVec 16) (g2_3 : Nat → (Nat × (Nat → Int))) (s0_0 : Int) (ls : List L1) : List Value := List.append [.slice a0 n0 (n0 + k0), undef, .slice none 0 0, .int .i64 (0), .int .i64 (r0.1), .int .i64 (r0.2), (rowV (lget ls 0) n0 1), .int .i64 (0), .pointer (some ⟨(lget ls 1).n, 0, none⟩), .slice none 0 0, undef, undef, .tuple #[.int .i64 (r0.1), .int .i64 (r0.2)], .slice a0 n0 (n0 + k0), .tuple #[.int .i64 (r0.1), .int .i64 (r0.2)], .int .i64 (r0.1), .int .i64 (r0.2), .int .i64 (r0.2), .bool false, undef, .tuple #[(rowV (lget ls 0) n0 1), .int .i64 (0)], .slice a0 n0 (n0 + k0), .tuple #[(rowV (lget ls 0) n0 1), .int .i64 (0)], (rowV (lget ls 0) n0 1), .int .i64 (0), .slice a0 n0 (n0 + k0), .pointer (some ⟨(lget ls 1).n, 0, none⟩), .slice a0 n0 (n0 + k0), .int .i64 ((n0 : Int)), .int .i64 (s0_0)] (und 28)
def pre_live_Dead_v1_L0_0 (a0 : Option Addr) (p0 : Nat) (q0 : Nat) (n0 : Nat) (k0 : Nat) (A0 : Nat → Insn) (r0 : (Int) × (Int)) (g1_0 : Nat → Bool) (g2_0 : Nat → BitVec 16) (g2_1 : Nat → BitVec 16) (g2_2 : Nat → BitVec 16) (g2_3 : Nat → (Nat × (Nat → Int))) (s0_0 : Int) (ls : List L1) : List Obj := [rowO (lget ls 0) (esG cB n0 g1_0) 4 n0 1, .cells #[(rowV (lget ls 2) n0 1), (rowV (lget ls 3) n0 1), (rowV (lget ls 4) n0 1), (rowV (lget ls 5) n0 1)] 57, rowO (lget ls 2) (esG cu16 n0 g2_0) 31 n0 1, rowO (lget ls 3) (esG cu16 n0 g2_1) 31 n0 1, rowO (lget ls 4) (esG cu16 n0 g2_2) 31 n0 1, rfR (lget ls 5) (lget ls 6) 36 1 n0 g2_3, rfO 3 cZ 1 n0 g2_3]
theorem sp0_live_Dead_v1_L0_0_ok (s0_0 : Int) (h : lpO (st_live_Dead_v1_L0 n0 A0 g1_0 g2_0 g2_1 g2_2 g2_3) (.c0 s0_0) = some (.e0 )) : SpcG Try.prog M B0 S ⟨fun ls => .code (.loop bd_live_Dead_v1_L0) (t0_live_Dead_v1_L0_0 a0 p0 q0 n0 k0 A0 r0 g1_0 g2_0 g2_1 g2_2 g2_3 s0_0 ls), pre_live_Dead_v1_L0_0 a0 p0 q0 n0 k0 A0 r0 g1_0 g2_0 g2_1 g2_2 g2_3 s0_0, 2, (.exit 0), fun ls => vf_live_Dead_v1_L0 a0 p0 q0 n0 k0 A0 r0 g1_0 g2_0 g2_1 g2_2 g2_3 (.e0 ) (ls.take 7 ++ ls.drop 7), fun ls => (Hf_live_Dead_v1_L0 a0 p0 q0 n0 k0 A0 r0 g1_0 g2_0 g2_1 g2_2 g2_3 (.e0 ) (ls.take 7 ++ ls.drop 7)).take 7 ++ List.replicate 0 unb, fun ls => (Hf_live_Dead_v1_L0 a0 p0 q0 n0 k0 A0 r0 g1_0 g2_0 g2_1 g2_2 g2_3 (.e0 ) (ls.take 7 ++ ls.drop 7)).drop 7⟩ :=
  spc_of_goesM hU 1 (k0 := 7) (go_live_Dead_v1_L0 hU a0 p0 q0 n0 k0 A0 hR0 r0 g1_0 g2_0 g2_1 g2_2 g2_3 _ _ h) (t0_live_Dead_v1_L0_0 a0 p0 q0 n0 k0 A0 r0 g1_0 g2_0 g2_1 g2_2 g2_3 s0_0) (pre_live_Dead_v1_L0_0 a0 p0 q0 n0 k0 A0 r0 g1_0 g2_0 g2_1 g2_2 g2_3 s0_0) (fun _ => rfl) (fun ls h => by match ls, h with | [l0, l1, l2, l3, l4, l5, l6], _ => exact ⟨by kernel_rfl, by kernel_rfl⟩) (fun ls h => by match ls, h with | [l0, l1, l2, l3, l4, l5, l6], _ => rfl) (by decide) (by decide) (fun ls => rfl)
theorem sp1_live_Dead_v1_L0_0_ok (s0_0 : Int) (c1_0 : Nat) (c1_1 : Nat → Int) (h : lpO (st_live_Dead_v1_L0 n0 A0 g1_0 g2_0 g2_1 g2_2 g2_3) (.c0 s0_0) = some (.e1 c1_0 c1_1)) : SpcG Try.prog M B0 S ⟨fun ls => .code (.loop bd_live_Dead_v1_L0) (t0_live_Dead_v1_L0_0 a0 p0 q0 n0 k0 A0 r0 g1_0 g2_0 g2_1 g2_2 g2_3 s0_0 ls), pre_live_Dead_v1_L0_0 a0 p0 q0 n0 k0 A0 r0 g1_0 g2_0 g2_1 g2_2 g2_3 s0_0, 2, (.exit 0), fun ls => vf_live_Dead_v1_L0 a0 p0 q0 n0 k0 A0 r0 g1_0 g2_0 g2_1 g2_2 g2_3 (.e1 c1_0 c1_1) (ls.take 7 ++ ls.drop 7), fun ls => (Hf_live_Dead_v1_L0 a0 p0 q0 n0 k0 A0 r0 g1_0 g2_0 g2_1 g2_2 g2_3 (.e1 c1_0 c1_1) (ls.take 7 ++ ls.drop 7)).take 7 ++ List.replicate 0 unb, fun ls => (Hf_live_Dead_v1_L0 a0 p0 q0 n0 k0 A0 r0 g1_0 g2_0 g2_1 g2_2 g2_3 (.e1 c1_0 c1_1) (ls.take 7 ++ ls.drop 7)).drop 7⟩ :=
  spc_of_goesM hU 1 (k0 := 7) (go_live_Dead_v1_L0 hU a0 p0 q0 n0 k0 A0 hR0 r0 g1_0 g2_0 g2_1 g2_2 g2_3 _ _ h) (t0_live_Dead_v1_L0_0 a0 p0 q0 n0 k0 A0 r0 g1_0 g2_0 g2_1 g2_2 g2_3 s0_0) (pre_live_Dead_v1_L0_0 a0 p0 q0 n0 k0 A0 r0 g1_0 g2_0 g2_1 g2_2 g2_3 s0_0) (fun _ => rfl) (fun ls h => by match ls, h with | [l0, l1, l2, l3, l4, l5, l6], _ => exact ⟨by kernel_rfl, by kernel_rfl⟩) (fun ls h => by match ls, h with | [l0, l1, l2, l3, l4, l5, l6], _ => rfl) (by decide) (by decide) (fun ls => rfl)
inductive Sh_live_Dead_v1_L0v1 where
  | c0 
inductive Ex_live_Dead_v1_L0v1 where
  | e0 
noncomputable def st_live_Dead_v1_L0v1 (n0 : Nat) : Sh_live_Dead_v1_L0v1 → Option (Sh_live_Dead_v1_L0v1 ⊕ Ex_live_Dead_v1_L0v1)
  | .c0  =>
    bif decide (0 < (n0 : Int)) then
      (bif inR 0 n0 then
        (none)
      else (none))
    else (some (.inr (.e0 )))
noncomputable def bd_live_Dead_v1_L0v1 : Code := codeOf Try.f11 [1, 1, 1, 1, 1, 0, 1, 0, 0]
def fl_live_Dead_v1_L0v1 (a0 : Option Addr) (p0 : Nat) (q0 : Nat) (n0 : Nat) (k0 : Nat) (A0 : Nat → Insn) (r0 : (Int) × (Int)) (g1_0 : Int) (g2_0 : Nat → BitVec 16) (g2_1 : Nat → BitVec 16) (g2_2 : Nat → BitVec 16) (g2_3 : Nat → (Nat × (Nat → Int))) : Sh_live_Dead_v1_L0v1 → List L1 → List Value
  | .c0 , ls => [.slice none 0 0, .int .i64 (0), .slice none 0 0, .pointer (some ⟨(lget ls 0).n, 0, none⟩), .slice none 0 0, .slice a0 n0 (n0 + k0), .int .i64 ((n0 : Int)), .int .i64 (0)]
def mf_live_Dead_v1_L0v1 : Sh_live_Dead_v1_L0v1 → List (Nat × Nat)
  | .c0  => [(0, 2), (2, 2), (1, 1), (2, 17), (3, 28)]
noncomputable def fr_live_Dead_v1_L0v1 (a0 : Option Addr) (p0 : Nat) (q0 : Nat) (n0 : Nat) (k0 : Nat) (A0 : Nat → Insn) (r0 : (Int) × (Int)) (g1_0 : Int) (g2_0 : Nat → BitVec 16) (g2_1 : Nat → BitVec 16) (g2_2 : Nat → BitVec 16) (g2_3 : Nat → (Nat × (Nat → Int))) (s : Sh_live_Dead_v1_L0v1) : List L1 → List Value := mrgF (mf_live_Dead_v1_L0v1 s) (fl_live_Dead_v1_L0v1 a0 p0 q0 n0 k0 A0 r0 g1_0 g2_0 g2_1 g2_2 g2_3 s) 6
def Hs_live_Dead_v1_L0v1 (a0 : Option Addr) (p0 : Nat) (q0 : Nat) (n0 : Nat) (k0 : Nat) (A0 : Nat → Insn) (r0 : (Int) × (Int)) (g1_0 : Int) (g2_0 : Nat → BitVec 16) (g2_1 : Nat → BitVec 16) (g2_2 : Nat → BitVec 16) (g2_3 : Nat → (Nat × (Nat → Int))) : Sh_live_Dead_v1_L0v1 → List L1 → List Obj
  | .c0 , ls => [.cells #[(rowV (lget ls 1) n0 1), (rowV (lget ls 2) n0 1), (rowV (lget ls 3) n0 1), (rowV (lget ls 4) n0 1)] 57, rowO (lget ls 1) (esG cu16 n0 g2_0) 31 n0 1, rowO (lget ls 2) (esG cu16 n0 g2_1) 31 n0 1, rowO (lget ls 3) (esG cu16 n0 g2_2) 31 n0 1, rfR (lget ls 4) (lget ls 5) 36 1 n0 g2_3, rfO 3 cZ 1 n0 g2_3, unb]
def vl_live_Dead_v1_L0v1 (a0 : Option Addr) (p0 : Nat) (q0 : Nat) (n0 : Nat) (k0 : Nat) (A0 : Nat → Insn) (r0 : (Int) × (Int)) (g1_0 : Int) (g2_0 : Nat → BitVec 16) (g2_1 : Nat → BitVec 16) (g2_2 : Nat → BitVec 16) (g2_3 : Nat → (Nat × (Nat → Int))) : Ex_live_Dead_v1_L0v1 → List L1 → List Value
  | .e0 , ls => [.slice none 0 0, .int .i64 (0), .slice none 0 0, .pointer (some ⟨(lget ls 0).n, 0, none⟩), .slice none 0 0, .slice a0 n0 (n0 + k0), .int .i64 ((n0 : Int))]
def mk_live_Dead_v1_L0v1 : Ex_live_Dead_v1_L0v1 → List (Nat × Nat)
  | .e0  => [(0, 2), (2, 2), (1, 1), (2, 17), (2, 29)]
noncomputable def vf_live_Dead_v1_L0v1 (a0 : Option Addr) (p0 : Nat) (q0 : Nat) (n0 : Nat) (k0 : Nat) (A0 : Nat → Insn) (r0 : (Int) × (Int)) (g1_0 : Int) (g2_0 : Nat → BitVec 16) (g2_1 : Nat → BitVec 16) (g2_2 : Nat → BitVec 16) (g2_3 : Nat → (Nat × (Nat → Int))) (r : Ex_live_Dead_v1_L0v1) : List L1 → List Value := mrgF (mk_live_Dead_v1_L0v1 r) (vl_live_Dead_v1_L0v1 a0 p0 q0 n0 k0 A0 r0 g1_0 g2_0 g2_1 g2_2 g2_3 r) 6
def Hf_live_Dead_v1_L0v1 (a0 : Option Addr) (p0 : Nat) (q0 : Nat) (n0 : Nat) (k0 : Nat) (A0 : Nat → Insn) (r0 : (Int) × (Int)) (g1_0 : Int) (g2_0 : Nat → BitVec 16) (g2_1 : Nat → BitVec 16) (g2_2 : Nat → BitVec 16) (g2_3 : Nat → (Nat × (Nat → Int))) : Ex_live_Dead_v1_L0v1 → List L1 → List Obj
  | .e0 , ls => [.cells #[(rowV (lget ls 1) n0 1), (rowV (lget ls 2) n0 1), (rowV (lget ls 3) n0 1), (rowV (lget ls 4) n0 1)] 57, rowO (lget ls 1) (esG cu16 n0 g2_0) 31 n0 1, rowO (lget ls 2) (esG cu16 n0 g2_1) 31 n0 1, rowO (lget ls 3) (esG cu16 n0 g2_2) 31 n0 1, rfR (lget ls 4) (lget ls 5) 36 1 n0 g2_3, rfO 3 cZ 1 n0 g2_3, unb]
def ex_live_Dead_v1_L0v1 : Ex_live_Dead_v1_L0v1 → Ex
  | .e0  => (.exit 0)
end
section
variable {M : Nat → Prop} {B0 : Nat} {S : World → Prop} (hU : Up M B0 S) (a0 : Option Addr) (p0 : Nat) (q0 : Nat) (n0 : Nat) (k0 : Nat) (A0 : Nat → Insn) (hR0 : Ro S c_Insn 5 a0 p0 q0 n0 A0) (r0 : (Int) × (Int)) (g1_0 : Int) (g2_0 : Nat → BitVec 16) (g2_1 : Nat → BitVec 16) (g2_2 : Nat → BitVec 16) (g2_3 : Nat → (Nat × (Nat → Int)))
include hU a0 p0 q0 n0 k0 A0 hR0 r0 g1_0 g2_0 g2_1 g2_2 g2_3
theorem go_live_Dead_v1_L0v1 (s : Sh_live_Dead_v1_L0v1) (r : Ex_live_Dead_v1_L0v1) (h : lpO (st_live_Dead_v1_L0v1 n0) s = some r) : GoesG Try.prog M B0 S (.loop bd_live_Dead_v1_L0v1) 7 (fr_live_Dead_v1_L0v1 a0 p0 q0 n0 k0 A0 r0 g1_0 g2_0 g2_1 g2_2 g2_3 s) (Hs_live_Dead_v1_L0v1 a0 p0 q0 n0 k0 A0 r0 g1_0 g2_0 g2_1 g2_2 g2_3 s) (ex_live_Dead_v1_L0v1 r) 6 (vf_live_Dead_v1_L0v1 a0 p0 q0 n0 k0 A0 r0 g1_0 g2_0 g2_1 g2_2 g2_3 r) (Hf_live_Dead_v1_L0v1 a0 p0 q0 n0 k0 A0 r0 g1_0 g2_0 g2_1 g2_2 g2_3 r) 7 :=
  goes_lpO (fun s q e => by
    cases s with
    | c0  =>
      unfold st_live_Dead_v1_L0v1 at e
      dsimp only at e
      replace e := cond_eq_or e
      rcases e with ⟨hq0, e⟩ | ⟨hq0, e⟩
      · replace e := cond_eq_or e
        rcases e with ⟨hq1, e⟩ | ⟨hq1, e⟩
        · exact none_some e
        · exact none_some e
      · cases e; exact ⟨ne_exit 0, goes_runM hU [.b (z_lssF hq0)] [0, 1, 2, 3, 4, 5] (fun b => rfl) (by decide) rfl rfl (fun b => by kernel_rfl)⟩) s r h
noncomputable def t0_live_Dead_v1_L0v1_0 (a0 : Option Addr) (p0 : Nat) (q0 : Nat) (n0 : Nat) (k0 : Nat) (A0 : Nat → Insn) (r0 : (Int) × (Int)) (g1_0 : Int) (g2_0 : Nat → BitVec 16) (g2_1 : Nat → BitVec 16) (g2_2 : Nat → BitVec 16) (g2_3 : Nat → (Nat × (Nat → Int)))  (ls : List L1) : List Value := List.append [.slice a0 n0 (n0 + k0), undef, .slice none 0 0, .int .i64 (0), .int .i64 (r0.1), .int .i64 (r0.2), .slice none 0 0, .int .i64 (g1_0), .pointer (some ⟨(lget ls 0).n, 0, none⟩), .slice none 0 0, undef, undef, .tuple #[.int .i64 (r0.1), .int .i64 (r0.2)], .slice a0 n0 (n0 + k0), .tuple #[.int .i64 (r0.1), .int .i64 (r0.2)], .int .i64 (r0.1), .int .i64 (r0.2), .int .i64 (r0.2), .bool false, undef, .tuple #[.slice none 0 0, .int .i64 (g1_0)], .slice a0 n0 (n0 + k0), .tuple #[.slice none 0 0, .int .i64 (g1_0)], .slice none 0 0, .int .i64 (g1_0), .slice a0 n0 (n0 + k0), .pointer (some ⟨(lget ls 0).n, 0, none⟩), .slice a0 n0 (n0 + k0), .int .i64 ((n0 : Int)), .int .i64 (0)] (und 28)
def pre_live_Dead_v1_L0v1_0 (a0 : Option Addr) (p0 : Nat) (q0 : Nat) (n0 : Nat) (k0 : Nat) (A0 : Nat → Insn) (r0 : (Int) × (Int)) (g1_0 : Int) (g2_0 : Nat → BitVec 16) (g2_1 : Nat → BitVec 16) (g2_2 : Nat → BitVec 16) (g2_3 : Nat → (Nat × (Nat → Int)))  (ls : List L1) : List Obj := [.cells #[(rowV (lget ls 1) n0 1), (rowV (lget ls 2) n0 1), (rowV (lget ls 3) n0 1), (rowV (lget ls 4) n0 1)] 57, rowO (lget ls 1) (esG cu16 n0 g2_0) 31 n0 1, rowO (lget ls 2) (esG cu16 n0 g2_1) 31 n0 1, rowO (lget ls 3) (esG cu16 n0 g2_2) 31 n0 1, rfR (lget ls 4) (lget ls 5) 36 1 n0 g2_3, rfO 3 cZ 1 n0 g2_3]
theorem sp0_live_Dead_v1_L0v1_0_ok (h : lpO (st_live_Dead_v1_L0v1 n0) (.c0) = some (.e0 )) : SpcG Try.prog M B0 S ⟨fun ls => .code (.loop bd_live_Dead_v1_L0v1) (t0_live_Dead_v1_L0v1_0 a0 p0 q0 n0 k0 A0 r0 g1_0 g2_0 g2_1 g2_2 g2_3  ls), pre_live_Dead_v1_L0v1_0 a0 p0 q0 n0 k0 A0 r0 g1_0 g2_0 g2_1 g2_2 g2_3 , 1, (.exit 0), fun ls => vf_live_Dead_v1_L0v1 a0 p0 q0 n0 k0 A0 r0 g1_0 g2_0 g2_1 g2_2 g2_3 (.e0 ) (ls.take 6 ++ ls.drop 6), fun ls => (Hf_live_Dead_v1_L0v1 a0 p0 q0 n0 k0 A0 r0 g1_0 g2_0 g2_1 g2_2 g2_3 (.e0 ) (ls.take 6 ++ ls.drop 6)).take 6 ++ List.replicate 0 unb, fun ls => (Hf_live_Dead_v1_L0v1 a0 p0 q0 n0 k0 A0 r0 g1_0 g2_0 g2_1 g2_2 g2_3 (.e0 ) (ls.take 6 ++ ls.drop 6)).drop 6⟩ :=
  spc_of_goesM hU 0 (k0 := 6) (go_live_Dead_v1_L0v1 hU a0 p0 q0 n0 k0 A0 hR0 r0 g1_0 g2_0 g2_1 g2_2 g2_3 _ _ h) (t0_live_Dead_v1_L0v1_0 a0 p0 q0 n0 k0 A0 r0 g1_0 g2_0 g2_1 g2_2 g2_3 ) (pre_live_Dead_v1_L0v1_0 a0 p0 q0 n0 k0 A0 r0 g1_0 g2_0 g2_1 g2_2 g2_3 ) (fun _ => rfl) (fun ls h => by match ls, h with | [l0, l1, l2, l3, l4, l5], _ => exact ⟨by kernel_rfl, by kernel_rfl⟩) (fun ls h => by match ls, h with | [l0, l1, l2, l3, l4, l5], _ => rfl) (by decide) (by decide) (fun ls => rfl)
inductive R_live_Dead_v1 where
  | e0 (c0_0 : Int)
  | e1 (c1_0 : Nat) (c1_1 : Nat → Int)
noncomputable def m_live_Dead_v1 (n0 : Nat) (A0 : Nat → Insn) : Option R_live_Dead_v1 :=
  (m_insn_Check n0 A0).bind fun r0 =>
  bif r0.2 == 0 then
    ((m_flow_Reached_v1 n0 A0).bind fun g1 => match g1 with
    | .e0 g1_0 => ((m_live_look_v1 n0 A0).bind fun g2 => match g2 with
      | .e0 g2_0 g2_1 g2_2 g2_3 =>
      (lpO (st_live_Dead_v1_L0 n0 A0 g1_0 g2_0 g2_1 g2_2 g2_3) (.c0 0)).bind fun g3 => match g3 with
      | .e0  => (some (.e0 0))
      | .e1 g3_0 g3_1 => (some (.e1 g3_0 g3_1)))
    | .e1 g1_0 => ((m_live_look_v1 n0 A0).bind fun g2 => match g2 with
      | .e0 g2_0 g2_1 g2_2 g2_3 =>
      (lpO (st_live_Dead_v1_L0v1 n0) (.c0)).bind fun g3 => match g3 with
      | .e0 =>
      some (.e0 0)))
  else (some (.e0 r0.2))
def sq0_live_Dead_v1 (a0 : Option Addr) (p0 : Nat) (q0 : Nat) (n0 : Nat) (k0 : Nat) (A0 : Nat → Insn) (c0_0 : Int) : Spc := ⟨fun ls => .call 11 #[.slice a0 n0 (n0 + k0)], fun ls => [], 0, .normal, fun ls => [.tuple #[.slice none 0 0, .int .i64 (c0_0)]], fun ls => [], fun ls => []⟩
def sq1_live_Dead_v1 (a0 : Option Addr) (p0 : Nat) (q0 : Nat) (n0 : Nat) (k0 : Nat) (A0 : Nat → Insn) (c1_0 : Nat) (c1_1 : Nat → Int) : Spc := ⟨fun ls => .call 11 #[.slice a0 n0 (n0 + k0)], fun ls => [], 1, .normal, fun ls => [.tuple #[(rowV (lget ls 0) c1_0 1), .int .i64 (0)]], fun ls => [], fun ls => [rowO (lget ls 0) (esG cZ c1_0 c1_1) 3 c1_0 1]⟩
end
section
variable {M : Nat → Prop} {B0 : Nat} {S : World → Prop} (hU : Up M B0 S) (a0 : Option Addr) (p0 : Nat) (q0 : Nat) (n0 : Nat) (k0 : Nat) (A0 : Nat → Insn) (hR0 : Ro S c_Insn 5 a0 p0 q0 n0 A0)
include hU a0 p0 q0 n0 k0 A0 hR0
theorem ok0_live_Dead_v1 (c0_0 : Int) (e : m_live_Dead_v1 n0 A0 = some (.e0 c0_0)) : SpcG Try.prog M B0 S (sq0_live_Dead_v1 a0 p0 q0 n0 k0 A0 c0_0) := by
  unfold m_live_Dead_v1 at e
  replace e := bindO_eq e
  obtain ⟨r0, e_r0, e⟩ := e
  try dsimp only at e
  replace e := cond_eq_or e
  let P1 : List (PG Try.prog M B0 S) := [.o, .o, .o, .cg (ok_insn_Check hU a0 p0 q0 n0 k0 A0 hR0 r0 e_r0), .o, .o, .o, .o, .o, .o]
  rcases e with ⟨hq0, e⟩ | ⟨hq0, e⟩
  · replace e := bindO_eq e
    obtain ⟨g1, e_g1, e⟩ := e
    rcases g1 with ⟨g1_0⟩ | ⟨g1_0⟩
    · try dsimp only at e
      replace e := bindO_eq e
      obtain ⟨g2, e_g2, e⟩ := e
      obtain ⟨g2_0, g2_1, g2_2, g2_3⟩ := g2
      try dsimp only at e
      replace e := bindO_eq e
      obtain ⟨g3, e_g3, e⟩ := e
      rcases g3 with _ | ⟨g3_0, g3_1⟩
      · try dsimp only at e
        injection e with e; injection e with i0; subst i0; exact fn_specG hU (P := Try.prog) Try.func11 (fun xs w => by kernel_rfl) 0 _ _ (fun _ => rfl) _ _ _ [] (P1 ++ [.b (z_neqT hq0), .o, .xg (ok0_flow_Reached_v1 hU a0 p0 q0 n0 k0 A0 hR0 g1_0 e_g1) [], .o, .o, .o, .o, .o, .o, .xg (ok0_live_look_v1 hU a0 p0 q0 n0 k0 A0 hR0 g2_0 g2_1 g2_2 g2_3 e_g2) [], .o, .o, .o, .o, .o, .cp, .cx (sp0_live_Dead_v1_L0_0_ok hU a0 p0 q0 n0 k0 A0 hR0 r0 g1_0 g2_0 g2_1 g2_2 g2_3 0  e_g3) [0, 1, 2, 3, 4, 5, 6], .o, .o, .o]) [] (fun b => by kernel_rfl)
      · try dsimp only at e
        cases e
    · try dsimp only at e
      replace e := bindO_eq e
      obtain ⟨g2, e_g2, e⟩ := e
      obtain ⟨g2_0, g2_1, g2_2, g2_3⟩ := g2
      try dsimp only at e
      replace e := bindO_eq e
      obtain ⟨g3, e_g3, e⟩ := e
      cases g3
      try dsimp only at e
      injection e with e; injection e with i0; subst i0; exact fn_specG hU (P := Try.prog) Try.func11 (fun xs w => by kernel_rfl) 0 _ _ (fun _ => rfl) _ _ _ [] (P1 ++ [.b (z_neqT hq0), .o, .xg (ok1_flow_Reached_v1 hU a0 p0 q0 n0 k0 A0 hR0 g1_0 e_g1) [], .o, .o, .o, .o, .o, .o, .xg (ok0_live_look_v1 hU a0 p0 q0 n0 k0 A0 hR0 g2_0 g2_1 g2_2 g2_3 e_g2) [], .o, .o, .o, .o, .o, .cp, .cx (sp0_live_Dead_v1_L0v1_0_ok hU a0 p0 q0 n0 k0 A0 hR0 r0 g1_0 g2_0 g2_1 g2_2 g2_3   e_g3) [0, 1, 2, 3, 4, 5], .o, .o, .o]) [] (fun b => by kernel_rfl)
  · injection e with e; injection e with i0; subst i0; exact fn_specG hU (P := Try.prog) Try.func11 (fun xs w => by kernel_rfl) 0 _ _ (fun _ => rfl) _ _ _ [] (P1 ++ [.b (z_neqF hq0), .o, .o, .o]) [] (fun b => by kernel_rfl)
theorem ok1_live_Dead_v1 (c1_0 : Nat) (c1_1 : Nat → Int) (e : m_live_Dead_v1 n0 A0 = some (.e1 c1_0 c1_1)) : SpcG Try.prog M B0 S (sq1_live_Dead_v1 a0 p0 q0 n0 k0 A0 c1_0 c1_1) := by
  unfold m_live_Dead_v1 at e
  replace e := bindO_eq e
  obtain ⟨r0, e_r0, e⟩ := e
  try dsimp only at e
  replace e := cond_eq_or e
  rcases e with ⟨hq0, e⟩ | ⟨hq0, e⟩
  · replace e := bindO_eq e
    obtain ⟨g1, e_g1, e⟩ := e
    rcases g1 with ⟨g1_0⟩ | ⟨g1_0⟩
    · try dsimp only at e
      replace e := bindO_eq e
      obtain ⟨g2, e_g2, e⟩ := e
      obtain ⟨g2_0, g2_1, g2_2, g2_3⟩ := g2
      try dsimp only at e
      replace e := bindO_eq e
      obtain ⟨g3, e_g3, e⟩ := e
      rcases g3 with _ | ⟨g3_0, g3_1⟩
      · try dsimp only at e
        cases e
      · try dsimp only at e
        injection e with e; injection e with i0 i1; subst i0 i1; exact fn_specG hU (P := Try.prog) Try.func11 (fun xs w => by kernel_rfl) 0 _ _ (fun _ => rfl) _ _ _ [7] [.o, .o, .o, .cg (ok_insn_Check hU a0 p0 q0 n0 k0 A0 hR0 r0 e_r0), .o, .o, .o, .o, .o, .o, .b (z_neqT hq0), .o, .xg (ok0_flow_Reached_v1 hU a0 p0 q0 n0 k0 A0 hR0 g1_0 e_g1) [], .o, .o, .o, .o, .o, .o, .xg (ok0_live_look_v1 hU a0 p0 q0 n0 k0 A0 hR0 g2_0 g2_1 g2_2 g2_3 e_g2) [], .o, .o, .o, .o, .o, .cp, .cx (sp1_live_Dead_v1_L0_0_ok hU a0 p0 q0 n0 k0 A0 hR0 r0 g1_0 g2_0 g2_1 g2_2 g2_3 0 g3_0 g3_1 e_g3) [0, 1, 2, 3, 4, 5, 6], .o, .o, .o] [] (fun b => by kernel_rfl)
    · try dsimp only at e
      replace e := bindO_eq e
      obtain ⟨g2, e_g2, e⟩ := e
      obtain ⟨g2_0, g2_1, g2_2, g2_3⟩ := g2
      try dsimp only at e
      replace e := bindO_eq e
      obtain ⟨g3, e_g3, e⟩ := e
      cases g3
      try dsimp only at e
      cases e
  · cases e
inductive Sh_barbicanlaw16_LiveChain_L0 where
  | c0 
  | c1 (s0_0 : Nat) (s0_1 : Nat → Insn) (s0_2 : BitVec 8) (s0_3 : Int)
inductive Ex_barbicanlaw16_LiveChain_L0 where
  | e0 
  | e1 (c1_0 : Nat) (c1_1 : Nat → Insn) (c1_2 : BitVec 8)
noncomputable def st_barbicanlaw16_LiveChain_L0 (n0 : Nat) (A0 : Nat → BitVec 8) : Sh_barbicanlaw16_LiveChain_L0 → Option (Sh_barbicanlaw16_LiveChain_L0 ⊕ Ex_barbicanlaw16_LiveChain_L0)
  | .c0  =>
    bif decide (0 < (n0 : Int)) then
      (bif inR 0 n0 then
        (bindT (updF (fun _ => (⟨183#8, 1#8, 0#8, 0#16, 7#32⟩ : Insn)) 1 (⟨191#8, ((A0 0) % 10#8), 1#8, 0#16, 0#32⟩ : Insn)) fun rb0 =>
        some (.inl (.c1 2 rb0 ((A0 0) % 10#8) 1)))
      else (none))
    else (some (.inr (.e0 )))
  | .c1 s0_0 s0_1 s0_2 s0_3 =>
    bif decide (s0_3 < (n0 : Int)) then
      (bif inR s0_3 n0 then
        (bif decide (s0_0 ≤ 1000000) then
          (bindT (updF s0_1 s0_0 (⟨191#8, ((A0 (s0_3).toNat) % 10#8), s0_2, 0#16, 0#32⟩ : Insn)) fun rb0 =>
          some (.inl (.c1 (s0_0 + 1) rb0 ((A0 (s0_3).toNat) % 10#8) (IntKind.i64.wrap (s0_3 + 1)))))
        else (none))
      else (none))
    else (some (.inr (.e1 s0_0 s0_1 s0_2)))
noncomputable def bd_barbicanlaw16_LiveChain_L0 : Code := codeOf Try.f4 [1, 1, 1, 1, 1, 0, 1, 0, 0]
def fl_barbicanlaw16_LiveChain_L0 (a0 : Option Addr) (p0 : Nat) (q0 : Nat) (n0 : Nat) (k0 : Nat) (A0 : Nat → BitVec 8) : Sh_barbicanlaw16_LiveChain_L0 → List L1 → List Value
  | .c0 , ls => [.slice a0 n0 (n0 + k0), .bool false, .slice (some ⟨(lget ls 0).n, 0, none⟩) 1 1, .int .u8 (1), .int .i64 (0)]
  | .c1 s0_0 s0_1 s0_2 s0_3, ls => [.slice a0 n0 (n0 + k0), .bool false, (rowV (lget ls 0) s0_0 5), .int .u8 (nn s0_2), .int .i64 (s0_3)]
def mf_barbicanlaw16_LiveChain_L0 : Sh_barbicanlaw16_LiveChain_L0 → List (Nat × Nat)
  | .c0  => [(1, 1), (4, 96)]
  | .c1 _ _ _ _ => [(1, 1), (4, 96)]
noncomputable def fr_barbicanlaw16_LiveChain_L0 (a0 : Option Addr) (p0 : Nat) (q0 : Nat) (n0 : Nat) (k0 : Nat) (A0 : Nat → BitVec 8) (s : Sh_barbicanlaw16_LiveChain_L0) : List L1 → List Value := mrgF (mf_barbicanlaw16_LiveChain_L0 s) (fl_barbicanlaw16_LiveChain_L0 a0 p0 q0 n0 k0 A0 s) 1
def Hs_barbicanlaw16_LiveChain_L0 (a0 : Option Addr) (p0 : Nat) (q0 : Nat) (n0 : Nat) (k0 : Nat) (A0 : Nat → BitVec 8) : Sh_barbicanlaw16_LiveChain_L0 → List L1 → List Obj
  | .c0 , ls => [.cells #[.int .u8 (183), .int .u8 (1), .int .u8 (0), .int .i16 (0), .int .i32 (7)] 26, unb]
  | .c1 s0_0 s0_1 s0_2 s0_3, ls => [rowO (lget ls 0) (esG c_Insn s0_0 s0_1) 26 s0_0 5, unb]
def vl_barbicanlaw16_LiveChain_L0 (a0 : Option Addr) (p0 : Nat) (q0 : Nat) (n0 : Nat) (k0 : Nat) (A0 : Nat → BitVec 8) : Ex_barbicanlaw16_LiveChain_L0 → List L1 → List Value
  | .e0 , ls => [.slice a0 n0 (n0 + k0), .bool false, .slice (some ⟨(lget ls 0).n, 0, none⟩) 1 1, .int .u8 (1)]
  | .e1 c1_0 c1_1 c1_2, ls => [.slice a0 n0 (n0 + k0), .bool false, (rowV (lget ls 0) c1_0 5), .int .u8 (nn c1_2)]
def mk_barbicanlaw16_LiveChain_L0 : Ex_barbicanlaw16_LiveChain_L0 → List (Nat × Nat)
  | .e0  => [(1, 1), (3, 97)]
  | .e1 _ _ _ => [(1, 1), (3, 97)]
noncomputable def vf_barbicanlaw16_LiveChain_L0 (a0 : Option Addr) (p0 : Nat) (q0 : Nat) (n0 : Nat) (k0 : Nat) (A0 : Nat → BitVec 8) (r : Ex_barbicanlaw16_LiveChain_L0) : List L1 → List Value := mrgF (mk_barbicanlaw16_LiveChain_L0 r) (vl_barbicanlaw16_LiveChain_L0 a0 p0 q0 n0 k0 A0 r) 1
def Hf_barbicanlaw16_LiveChain_L0 (a0 : Option Addr) (p0 : Nat) (q0 : Nat) (n0 : Nat) (k0 : Nat) (A0 : Nat → BitVec 8) : Ex_barbicanlaw16_LiveChain_L0 → List L1 → List Obj
  | .e0 , ls => [.cells #[.int .u8 (183), .int .u8 (1), .int .u8 (0), .int .i16 (0), .int .i32 (7)] 26, unb]
  | .e1 c1_0 c1_1 c1_2, ls => [rowO (lget ls 0) (esG c_Insn c1_0 c1_1) 26 c1_0 5, unb]
def ex_barbicanlaw16_LiveChain_L0 : Ex_barbicanlaw16_LiveChain_L0 → Ex
  | .e0  => (.exit 0)
  | .e1 _ _ _ => (.exit 0)
end
section
variable {M : Nat → Prop} {B0 : Nat} {S : World → Prop} (hU : Up M B0 S) (a0 : Option Addr) (p0 : Nat) (q0 : Nat) (n0 : Nat) (k0 : Nat) (A0 : Nat → BitVec 8) (hR0 : Ro S cu8 1 a0 p0 q0 n0 A0)
include hU a0 p0 q0 n0 k0 A0 hR0
theorem go_barbicanlaw16_LiveChain_L0 (s : Sh_barbicanlaw16_LiveChain_L0) (r : Ex_barbicanlaw16_LiveChain_L0) (h : lpO (st_barbicanlaw16_LiveChain_L0 n0 A0) s = some r) : GoesG Try.prog M B0 S (.loop bd_barbicanlaw16_LiveChain_L0) 2 (fr_barbicanlaw16_LiveChain_L0 a0 p0 q0 n0 k0 A0 s) (Hs_barbicanlaw16_LiveChain_L0 a0 p0 q0 n0 k0 A0 s) (ex_barbicanlaw16_LiveChain_L0 r) 0 (vf_barbicanlaw16_LiveChain_L0 a0 p0 q0 n0 k0 A0 r) (Hf_barbicanlaw16_LiveChain_L0 a0 p0 q0 n0 k0 A0 r) 2 :=
  goes_lpO (fun s q e => by
    cases s with
    | c0  =>
      unfold st_barbicanlaw16_LiveChain_L0 at e
      dsimp only at e
      replace e := cond_eq_or e
      rcases e with ⟨hq0, e⟩ | ⟨hq0, e⟩
      · replace e := cond_eq_or e
        rcases e with ⟨hq1, e⟩ | ⟨hq1, e⟩
        · replace e := bindT_eq e
          obtain ⟨rb0, e_rb0, e⟩ := e
          try dsimp only at e
          cases e; exact goes_runM hU [.o, .o, .o, .b (z_lssT hq0), .o, .o, .q (ixRo_ok (kd := .i64) (T := 35) (x := 0) (sz := 1) rfl (fun w => by kernel_rfl) hR0 hq1), .l (accRo hR0 cu8_len (inR_nat hq1) 0 [.int .u8 (nn (A0 0))] rfl), .ov (u8_rem Try.prog 5 (.tmp 28) (.const (.int .u8 (10))) (A0 0) (10#8) (by decide)), .o, .o, .o, .o, .o, .o, .x (sqAppLr_ok (ty := 22) rt22 #[false, false] (f := c_Insn) (N := 1) (A := (fun _ => (⟨183#8, 1#8, 0#8, 0#16, 7#32⟩ : Insn))) (c := 1) [(⟨191#8, ((A0 0) % 10#8), 1#8, 0#16, 0#32⟩ : Insn)] (T' := 26) .plain c_Insn_len c_Insn_one (by decide) rfl (by decide) e_rb0) [0, 2], .o, .o, .o, .o, .o, .o] [3] (fun b => rfl) (by decide) rfl rfl (fun b => by kernel_rfl)
        · exact none_some e
      · cases e; exact ⟨ne_exit 0, goes_runM hU [.o, .o, .o, .b (z_lssF hq0)] [0] (fun b => rfl) (by decide) rfl rfl (fun b => by kernel_rfl)⟩
    | c1 s0_0 s0_1 s0_2 s0_3 =>
      unfold st_barbicanlaw16_LiveChain_L0 at e
      dsimp only at e
      replace e := cond_eq_or e
      rcases e with ⟨hq0, e⟩ | ⟨hq0, e⟩
      · replace e := cond_eq_or e
        rcases e with ⟨hq1, e⟩ | ⟨hq1, e⟩
        · replace e := cond_eq_or e
          rcases e with ⟨hq2, e⟩ | ⟨hq2, e⟩
          · replace e := bindT_eq e
            obtain ⟨rb0, e_rb0, e⟩ := e
            try dsimp only at e
            cases e; exact goes_runM hU [.o, .o, .o, .b (z_lssT hq0), .o, .o, .q (ixRo_ok (kd := .i64) (T := 35) (x := s0_3) (sz := 1) rfl (fun w => by kernel_rfl) hR0 hq1), .l (accRo hR0 cu8_len (inR_nat hq1) 0 [.int .u8 (nn (A0 (s0_3).toNat))] rfl), .ov (u8_rem Try.prog 5 (.tmp 28) (.const (.int .u8 (10))) (A0 (s0_3).toNat) (10#8) (by decide)), .o, .o, .o, .o, .o, .o, .x (sqAppLr_ok (ty := 22) rt22 #[false, false] (f := c_Insn) (N := s0_0) (A := s0_1) (c := 1) [(⟨191#8, ((A0 (s0_3).toNat) % 10#8), s0_2, 0#16, 0#32⟩ : Insn)] (T' := 26) .row c_Insn_len c_Insn_one hq2 rfl (by decide) e_rb0) [0, 2], .o, .o, .o, .o, .o, .o] [3] (fun b => rfl) (by decide) rfl rfl (fun b => by kernel_rfl)
          · exact none_some e
        · exact none_some e
      · cases e; exact ⟨ne_exit 0, goes_runM hU [.o, .o, .o, .b (z_lssF hq0)] [0] (fun b => rfl) (by decide) rfl rfl (fun b => by kernel_rfl)⟩) s r h
noncomputable def t0_barbicanlaw16_LiveChain_L0_0 (a0 : Option Addr) (p0 : Nat) (q0 : Nat) (n0 : Nat) (k0 : Nat) (A0 : Nat → BitVec 8)  (ls : List L1) : List Value := List.append [.slice a0 n0 (n0 + k0), undef, .bool false, .slice (some ⟨(lget ls 0).n, 0, none⟩) 1 1, .int .u8 (1), .int .i64 (0)] (List.append (und 6) (List.append [.bool true, .bool false, .slice a0 n0 (n0 + k0), .int .i64 ((n0 : Int)), .bool false, .agg #[.int .u8 (183), .int .u8 (1), .int .u8 (0), .int .i16 (0), .int .i32 (7)], .slice (some ⟨(lget ls 0).n, 0, none⟩) 1 1] (und 83)))
def pre_barbicanlaw16_LiveChain_L0_0 (a0 : Option Addr) (p0 : Nat) (q0 : Nat) (n0 : Nat) (k0 : Nat) (A0 : Nat → BitVec 8)  (ls : List L1) : List Obj := [.cells #[.int .u8 (183), .int .u8 (1), .int .u8 (0), .int .i16 (0), .int .i32 (7)] 26]
theorem sp0_barbicanlaw16_LiveChain_L0_0_ok (h : lpO (st_barbicanlaw16_LiveChain_L0 n0 A0) (.c0) = some (.e0 )) : SpcG Try.prog M B0 S ⟨fun ls => .code (.loop bd_barbicanlaw16_LiveChain_L0) (t0_barbicanlaw16_LiveChain_L0_0 a0 p0 q0 n0 k0 A0  ls), pre_barbicanlaw16_LiveChain_L0_0 a0 p0 q0 n0 k0 A0 , 2, (.exit 0), fun ls => vf_barbicanlaw16_LiveChain_L0 a0 p0 q0 n0 k0 A0 (.e0 ) (ls.take 0 ++ ls.drop 1), fun ls => (Hf_barbicanlaw16_LiveChain_L0 a0 p0 q0 n0 k0 A0 (.e0 ) (ls.take 0 ++ ls.drop 1)).take 0 ++ List.replicate 1 unb, fun ls => (Hf_barbicanlaw16_LiveChain_L0 a0 p0 q0 n0 k0 A0 (.e0 ) (ls.take 0 ++ ls.drop 1)).drop 0⟩ :=
  spc_of_goesM hU 0 (k0 := 1) (go_barbicanlaw16_LiveChain_L0 hU a0 p0 q0 n0 k0 A0 hR0 _ _ h) (t0_barbicanlaw16_LiveChain_L0_0 a0 p0 q0 n0 k0 A0 ) (pre_barbicanlaw16_LiveChain_L0_0 a0 p0 q0 n0 k0 A0 ) (fun _ => rfl) (fun ls h => by match ls, h with | [l0], _ => exact ⟨by kernel_rfl, by kernel_rfl⟩) (fun ls h => by match ls, h with | [l0], _ => rfl) (by decide) (by decide) (fun ls => rfl)
theorem sp1_barbicanlaw16_LiveChain_L0_0_ok (c1_0 : Nat) (c1_1 : Nat → Insn) (c1_2 : BitVec 8) (h : lpO (st_barbicanlaw16_LiveChain_L0 n0 A0) (.c0) = some (.e1 c1_0 c1_1 c1_2)) : SpcG Try.prog M B0 S ⟨fun ls => .code (.loop bd_barbicanlaw16_LiveChain_L0) (t0_barbicanlaw16_LiveChain_L0_0 a0 p0 q0 n0 k0 A0  ls), pre_barbicanlaw16_LiveChain_L0_0 a0 p0 q0 n0 k0 A0 , 2, (.exit 0), fun ls => vf_barbicanlaw16_LiveChain_L0 a0 p0 q0 n0 k0 A0 (.e1 c1_0 c1_1 c1_2) (ls.take 0 ++ ls.drop 1), fun ls => (Hf_barbicanlaw16_LiveChain_L0 a0 p0 q0 n0 k0 A0 (.e1 c1_0 c1_1 c1_2) (ls.take 0 ++ ls.drop 1)).take 0 ++ List.replicate 1 unb, fun ls => (Hf_barbicanlaw16_LiveChain_L0 a0 p0 q0 n0 k0 A0 (.e1 c1_0 c1_1 c1_2) (ls.take 0 ++ ls.drop 1)).drop 0⟩ :=
  spc_of_goesM hU 0 (k0 := 1) (go_barbicanlaw16_LiveChain_L0 hU a0 p0 q0 n0 k0 A0 hR0 _ _ h) (t0_barbicanlaw16_LiveChain_L0_0 a0 p0 q0 n0 k0 A0 ) (pre_barbicanlaw16_LiveChain_L0_0 a0 p0 q0 n0 k0 A0 ) (fun _ => rfl) (fun ls h => by match ls, h with | [l0], _ => exact ⟨by kernel_rfl, by kernel_rfl⟩) (fun ls h => by match ls, h with | [l0], _ => rfl) (by decide) (by decide) (fun ls => rfl)
inductive Sh_barbicanlaw16_LiveChain_L1 where
  | c0 (s0_0 : Int)
inductive Ex_barbicanlaw16_LiveChain_L1 where
  | e0 
  | e1 
noncomputable def st_barbicanlaw16_LiveChain_L1 (r1 : Nat → Insn) (g2_0 : Nat → BitVec 16) : Sh_barbicanlaw16_LiveChain_L1 → Option (Sh_barbicanlaw16_LiveChain_L1 ⊕ Ex_barbicanlaw16_LiveChain_L1)
  | .c0 s0_0 =>
    bif decide ((IntKind.i64.wrap (s0_0 + 1)) < 3) then
      (bif inR s0_0 3 then
        (bif (g2_0 (s0_0).toNat) == (1#16 <<< (((r1 (s0_0).toNat)).fSrc).toNat) then
          (some (.inl (.c0 (IntKind.i64.wrap (s0_0 + 1)))))
        else (some (.inr (.e1 ))))
      else (none))
    else (some (.inr (.e0 )))
noncomputable def bd_barbicanlaw16_LiveChain_L1 : Code := codeOf Try.f4 [1, 1, 1, 1, 1, 1, 1, 1, 1, 1, 0, 1, 0, 0]
def fl_barbicanlaw16_LiveChain_L1 (a0 : Option Addr) (p0 : Nat) (q0 : Nat) (n0 : Nat) (k0 : Nat) (A0 : Nat → BitVec 8) (r1 : Nat → Insn) (g2_0 : Nat → BitVec 16) (g3_0 : Int) : Sh_barbicanlaw16_LiveChain_L1 → List L1 → List Value
  | .c0 s0_0, ls => [.bool false, (rowV (lget ls 4) 3 5), (rowV (lget ls 5) 3 1), .int .i64 (s0_0), ((lget ls 2).u 95), ((lget ls 2).u 96), ((lget ls 2).u 97), ((lget ls 2).u 98), ((lget ls 2).u 99), ((lget ls 2).u 100), ((lget ls 2).u 101)]
def mf_barbicanlaw16_LiveChain_L1 : Sh_barbicanlaw16_LiveChain_L1 → List (Nat × Nat)
  | .c0 _ => [(0, 2), (2, 3), (1, 3), (1, 83), (7, 0)]
noncomputable def fr_barbicanlaw16_LiveChain_L1 (a0 : Option Addr) (p0 : Nat) (q0 : Nat) (n0 : Nat) (k0 : Nat) (A0 : Nat → BitVec 8) (r1 : Nat → Insn) (g2_0 : Nat → BitVec 16) (g3_0 : Int) (s : Sh_barbicanlaw16_LiveChain_L1) : List L1 → List Value := mrgF (mf_barbicanlaw16_LiveChain_L1 s) (fl_barbicanlaw16_LiveChain_L1 a0 p0 q0 n0 k0 A0 r1 g2_0 g3_0 s) 6
def Hs_barbicanlaw16_LiveChain_L1 (a0 : Option Addr) (p0 : Nat) (q0 : Nat) (n0 : Nat) (k0 : Nat) (A0 : Nat → BitVec 8) (r1 : Nat → Insn) (g2_0 : Nat → BitVec 16) (g3_0 : Int) : Sh_barbicanlaw16_LiveChain_L1 → List L1 → List Obj
  | .c0 s0_0, ls => [unb, unb, unb, .cells #[.int .u8 (191), .int .u8 (0), .int .u8 (1), .int .i16 (0), .int .i32 (0), .int .u8 (149), .int .u8 (0), .int .u8 (0), .int .i16 (0), .int .i32 (0)] 26, rowO (lget ls 4) (esG c_Insn 3 r1) 26 3 5, rowO (lget ls 5) (esG cu16 3 g2_0) 31 3 1, unb]
def vl_barbicanlaw16_LiveChain_L1 (a0 : Option Addr) (p0 : Nat) (q0 : Nat) (n0 : Nat) (k0 : Nat) (A0 : Nat → BitVec 8) (r1 : Nat → Insn) (g2_0 : Nat → BitVec 16) (g3_0 : Int) : Ex_barbicanlaw16_LiveChain_L1 → List L1 → List Value
  | .e0 , ls => [.bool false, (rowV (lget ls 4) 3 5), (rowV (lget ls 5) 3 1), ((lget ls 2).u 95), ((lget ls 2).u 96), ((lget ls 2).u 97), ((lget ls 2).u 98), ((lget ls 2).u 99), ((lget ls 2).u 100), ((lget ls 2).u 101)]
  | .e1 , ls => [.bool false, (rowV (lget ls 4) 3 5), (rowV (lget ls 5) 3 1), ((lget ls 2).u 95), ((lget ls 2).u 96), ((lget ls 2).u 97), ((lget ls 2).u 98), ((lget ls 2).u 99), ((lget ls 2).u 100), ((lget ls 2).u 101)]
def mk_barbicanlaw16_LiveChain_L1 : Ex_barbicanlaw16_LiveChain_L1 → List (Nat × Nat)
  | .e0  => [(0, 2), (2, 3), (1, 87), (7, 0)]
  | .e1  => [(0, 2), (2, 3), (1, 87), (7, 0)]
noncomputable def vf_barbicanlaw16_LiveChain_L1 (a0 : Option Addr) (p0 : Nat) (q0 : Nat) (n0 : Nat) (k0 : Nat) (A0 : Nat → BitVec 8) (r1 : Nat → Insn) (g2_0 : Nat → BitVec 16) (g3_0 : Int) (r : Ex_barbicanlaw16_LiveChain_L1) : List L1 → List Value := mrgF (mk_barbicanlaw16_LiveChain_L1 r) (vl_barbicanlaw16_LiveChain_L1 a0 p0 q0 n0 k0 A0 r1 g2_0 g3_0 r) 6
def Hf_barbicanlaw16_LiveChain_L1 (a0 : Option Addr) (p0 : Nat) (q0 : Nat) (n0 : Nat) (k0 : Nat) (A0 : Nat → BitVec 8) (r1 : Nat → Insn) (g2_0 : Nat → BitVec 16) (g3_0 : Int) : Ex_barbicanlaw16_LiveChain_L1 → List L1 → List Obj
  | .e0 , ls => [unb, unb, unb, .cells #[.int .u8 (191), .int .u8 (0), .int .u8 (1), .int .i16 (0), .int .i32 (0), .int .u8 (149), .int .u8 (0), .int .u8 (0), .int .i16 (0), .int .i32 (0)] 26, rowO (lget ls 4) (esG c_Insn 3 r1) 26 3 5, rowO (lget ls 5) (esG cu16 3 g2_0) 31 3 1, unb]
  | .e1 , ls => [unb, unb, unb, .cells #[.int .u8 (191), .int .u8 (0), .int .u8 (1), .int .i16 (0), .int .i32 (0), .int .u8 (149), .int .u8 (0), .int .u8 (0), .int .i16 (0), .int .i32 (0)] 26, rowO (lget ls 4) (esG c_Insn 3 r1) 26 3 5, rowO (lget ls 5) (esG cu16 3 g2_0) 31 3 1, unb]
def ex_barbicanlaw16_LiveChain_L1 : Ex_barbicanlaw16_LiveChain_L1 → Ex
  | .e0  => (.exit 2)
  | .e1  => .ret
theorem go_barbicanlaw16_LiveChain_L1 (r1 : Nat → Insn) (g2_0 : Nat → BitVec 16) (g3_0 : Int) (s : Sh_barbicanlaw16_LiveChain_L1) (r : Ex_barbicanlaw16_LiveChain_L1) (h : lpO (st_barbicanlaw16_LiveChain_L1 r1 g2_0) s = some r) : GoesG Try.prog M B0 S (.loop bd_barbicanlaw16_LiveChain_L1) 7 (fr_barbicanlaw16_LiveChain_L1 a0 p0 q0 n0 k0 A0 r1 g2_0 g3_0 s) (Hs_barbicanlaw16_LiveChain_L1 a0 p0 q0 n0 k0 A0 r1 g2_0 g3_0 s) (ex_barbicanlaw16_LiveChain_L1 r) 6 (vf_barbicanlaw16_LiveChain_L1 a0 p0 q0 n0 k0 A0 r1 g2_0 g3_0 r) (Hf_barbicanlaw16_LiveChain_L1 a0 p0 q0 n0 k0 A0 r1 g2_0 g3_0 r) 7 :=
  goes_lpO (fun s q e => by
    cases s with
    | c0 s0_0 =>
      unfold st_barbicanlaw16_LiveChain_L1 at e
      dsimp only at e
      replace e := cond_eq_or e
      rcases e with ⟨hq0, e⟩ | ⟨hq0, e⟩
      · replace e := cond_eq_or e
        rcases e with ⟨hq1, e⟩ | ⟨hq1, e⟩
        · replace e := cond_eq_or e
          let P1 : List (PG Try.prog M B0 S) := [.o, .o, .o, .o, .b (z_lssT hq0), .r [0, 1, 2, 3, 4, 5, 6, 7, 8, 9, 10] [] [], .o, .o, .q (ixM_ok (kd := .i64) (T := 27) (x := s0_0) (N := 3) (sz := 1) rfl (fun w => by kernel_rfl) hq1), .l (accG (i := 5) (f := cu16) (A := g2_0) (k := (s0_0).toNat) 0 [.int .u16 (nn (g2_0 (s0_0).toNat))] cu16_len (inR_nat hq1) rfl), .o, .o, .q (ixM_ok (kd := .i64) (T := 22) (x := s0_0) (N := 3) (sz := 5) rfl (fun w => by kernel_rfl) hq1), .o, .l (accG (i := 4) (f := c_Insn) (A := r1) (k := (s0_0).toNat) 2 [.int .u8 (nn ((r1 (s0_0).toNat)).fSrc)] c_Insn_len (inR_nat hq1) rfl), .ov (u16_shl Try.prog 31 (.const (.int .u16 (1))) (.tmp 92) (1#16) (((r1 (s0_0).toNat)).fSrc).toNat .u8 rfl)]
          rcases e with ⟨hq2, e⟩ | ⟨hq2, e⟩
          · cases e; exact goes_runM hU (P1 ++ [.tn (u_ne (g2_0 (s0_0).toNat) (1#16 <<< (((r1 (s0_0).toNat)).fSrc).toNat)) hq2, .o, .o, .o]) [0, 1, 2, 3, 4, 5] (fun b => rfl) (by decide) rfl rfl (fun b => by kernel_rfl)
          · cases e; exact ⟨ne_ret, goes_runM hU (P1 ++ [.tn (u_ne (g2_0 (s0_0).toNat) (1#16 <<< (((r1 (s0_0).toNat)).fSrc).toNat)) hq2, .o]) [0, 1, 2, 3, 4, 5] (fun b => rfl) (by decide) rfl rfl (fun b => by kernel_rfl)⟩
        · exact none_some e
      · cases e; exact ⟨ne_exit 2, goes_runM hU [.o, .o, .o, .o, .b (z_lssF hq0)] [0, 1, 2, 3, 4, 5] (fun b => rfl) (by decide) rfl rfl (fun b => by kernel_rfl)⟩) s r h
noncomputable def t0_barbicanlaw16_LiveChain_L1_0 (a0 : Option Addr) (p0 : Nat) (q0 : Nat) (n0 : Nat) (k0 : Nat) (A0 : Nat → BitVec 8) (r1 : Nat → Insn) (g2_0 : Nat → BitVec 16) (g3_0 : Int) (s0_0 : Int) (ls : List L1) : List Value := List.append [.slice a0 n0 (n0 + k0), ((lget ls 2).u 1), .bool false, (rowV (lget ls 4) 3 5), .int .u8 (1), ((lget ls 2).u 5), ((lget ls 2).u 6), (rowV (lget ls 5) 3 1), .int .i64 (0), .slice none 0 0, .int .i64 (g3_0), .int .i64 (s0_0)] (List.append (jks (lget ls 2).u 12 25) (List.append [.slice (some ⟨(lget ls 1).n, 0, none⟩) 1 1, .int .u8 (1), .agg #[.int .u8 (191), .int .u8 (0), .int .u8 (1), .int .i16 (0), .int .i32 (0)], .agg #[.int .u8 (149), .int .u8 (0), .int .u8 (0), .int .i16 (0), .int .i32 (0)], .slice (some ⟨(lget ls 3).n, 0, none⟩) 2 2, (rowV (lget ls 4) 3 5), .tuple #[(rowV (lget ls 5) 3 1), .int .i64 (0)], (rowV (lget ls 4) 3 5), .tuple #[(rowV (lget ls 5) 3 1), .int .i64 (0)], (rowV (lget ls 5) 3 1), .int .i64 (0), .tuple #[.slice none 0 0, .int .i64 (g3_0)], (rowV (lget ls 4) 3 5), .tuple #[.slice none 0 0, .int .i64 (g3_0)], .slice none 0 0, .int .i64 (g3_0), .int .i64 (0), .bool false, .bool false, .int .i64 (g3_0), .bool false, .bool false, .bool false, (rowV (lget ls 5) 3 1), .int .i64 (3), (rowV (lget ls 4) 3 5), .int .i64 (3), .bool false, .bool false, .bool false, (rowV (lget ls 5) 3 1), .pointer (some ⟨(lget ls 5).n, 0 + 0 * 1, none⟩), .int .u16 (nn (g2_0 0)), .bool false, .bool false, .bool false, .slice none 0 0, .int .i64 (0), .bool false, .bool false] (jks (lget ls 2).u 77 25)))
def pre_barbicanlaw16_LiveChain_L1_0 (a0 : Option Addr) (p0 : Nat) (q0 : Nat) (n0 : Nat) (k0 : Nat) (A0 : Nat → BitVec 8) (r1 : Nat → Insn) (g2_0 : Nat → BitVec 16) (g3_0 : Int) (s0_0 : Int) (ls : List L1) : List Obj := [unb, unb, unb, .cells #[.int .u8 (191), .int .u8 (0), .int .u8 (1), .int .i16 (0), .int .i32 (0), .int .u8 (149), .int .u8 (0), .int .u8 (0), .int .i16 (0), .int .i32 (0)] 26, rowO (lget ls 4) (esG c_Insn 3 r1) 26 3 5, rowO (lget ls 5) (esG cu16 3 g2_0) 31 3 1]
theorem sp0_barbicanlaw16_LiveChain_L1_0_ok (r1 : Nat → Insn) (g2_0 : Nat → BitVec 16) (g3_0 : Int) (s0_0 : Int) (h : lpO (st_barbicanlaw16_LiveChain_L1 r1 g2_0) (.c0 s0_0) = some (.e0 )) : SpcG Try.prog M B0 S ⟨fun ls => .code (.loop bd_barbicanlaw16_LiveChain_L1) (t0_barbicanlaw16_LiveChain_L1_0 a0 p0 q0 n0 k0 A0 r1 g2_0 g3_0 s0_0 ls), pre_barbicanlaw16_LiveChain_L1_0 a0 p0 q0 n0 k0 A0 r1 g2_0 g3_0 s0_0, 1, (.exit 2), fun ls => vf_barbicanlaw16_LiveChain_L1 a0 p0 q0 n0 k0 A0 r1 g2_0 g3_0 (.e0 ) (ls.take 6 ++ ls.drop 6), fun ls => (Hf_barbicanlaw16_LiveChain_L1 a0 p0 q0 n0 k0 A0 r1 g2_0 g3_0 (.e0 ) (ls.take 6 ++ ls.drop 6)).take 6 ++ List.replicate 0 unb, fun ls => (Hf_barbicanlaw16_LiveChain_L1 a0 p0 q0 n0 k0 A0 r1 g2_0 g3_0 (.e0 ) (ls.take 6 ++ ls.drop 6)).drop 6⟩ :=
  spc_of_goesM hU 0 (k0 := 6) (go_barbicanlaw16_LiveChain_L1 hU a0 p0 q0 n0 k0 A0 hR0 r1 g2_0 g3_0 _ _ h) (t0_barbicanlaw16_LiveChain_L1_0 a0 p0 q0 n0 k0 A0 r1 g2_0 g3_0 s0_0) (pre_barbicanlaw16_LiveChain_L1_0 a0 p0 q0 n0 k0 A0 r1 g2_0 g3_0 s0_0) (fun _ => rfl) (fun ls h => by match ls, h with | [l0, l1, l2, l3, l4, l5], _ => exact ⟨by kernel_rfl, by kernel_rfl⟩) (fun ls h => by match ls, h with | [l0, l1, l2, l3, l4, l5], _ => rfl) (by decide) (by decide) (fun ls => rfl)
theorem sp1_barbicanlaw16_LiveChain_L1_0_ok (r1 : Nat → Insn) (g2_0 : Nat → BitVec 16) (g3_0 : Int) (s0_0 : Int) (h : lpO (st_barbicanlaw16_LiveChain_L1 r1 g2_0) (.c0 s0_0) = some (.e1 )) : SpcG Try.prog M B0 S ⟨fun ls => .code (.loop bd_barbicanlaw16_LiveChain_L1) (t0_barbicanlaw16_LiveChain_L1_0 a0 p0 q0 n0 k0 A0 r1 g2_0 g3_0 s0_0 ls), pre_barbicanlaw16_LiveChain_L1_0 a0 p0 q0 n0 k0 A0 r1 g2_0 g3_0 s0_0, 1, .ret, fun ls => vf_barbicanlaw16_LiveChain_L1 a0 p0 q0 n0 k0 A0 r1 g2_0 g3_0 (.e1 ) (ls.take 6 ++ ls.drop 6), fun ls => (Hf_barbicanlaw16_LiveChain_L1 a0 p0 q0 n0 k0 A0 r1 g2_0 g3_0 (.e1 ) (ls.take 6 ++ ls.drop 6)).take 6 ++ List.replicate 0 unb, fun ls => (Hf_barbicanlaw16_LiveChain_L1 a0 p0 q0 n0 k0 A0 r1 g2_0 g3_0 (.e1 ) (ls.take 6 ++ ls.drop 6)).drop 6⟩ :=
  spc_of_goesM hU 0 (k0 := 6) (go_barbicanlaw16_LiveChain_L1 hU a0 p0 q0 n0 k0 A0 hR0 r1 g2_0 g3_0 _ _ h) (t0_barbicanlaw16_LiveChain_L1_0 a0 p0 q0 n0 k0 A0 r1 g2_0 g3_0 s0_0) (pre_barbicanlaw16_LiveChain_L1_0 a0 p0 q0 n0 k0 A0 r1 g2_0 g3_0 s0_0) (fun _ => rfl) (fun ls h => by match ls, h with | [l0, l1, l2, l3, l4, l5], _ => exact ⟨by kernel_rfl, by kernel_rfl⟩) (fun ls h => by match ls, h with | [l0, l1, l2, l3, l4, l5], _ => rfl) (by decide) (by decide) (fun ls => rfl)
inductive Sh_barbicanlaw16_LiveChain_L1v1 where
  | c0 (s0_0 : Int)
inductive Ex_barbicanlaw16_LiveChain_L1v1 where
  | e0 
  | e1 
noncomputable def st_barbicanlaw16_LiveChain_L1v1 (r1 : Nat → Insn) (g2_0 : Nat → BitVec 16) : Sh_barbicanlaw16_LiveChain_L1v1 → Option (Sh_barbicanlaw16_LiveChain_L1v1 ⊕ Ex_barbicanlaw16_LiveChain_L1v1)
  | .c0 s0_0 =>
    bif decide ((IntKind.i64.wrap (s0_0 + 1)) < 3) then
      (bif inR s0_0 3 then
        (bif (g2_0 (s0_0).toNat) == (1#16 <<< (((r1 (s0_0).toNat)).fSrc).toNat) then
          (some (.inl (.c0 (IntKind.i64.wrap (s0_0 + 1)))))
        else (some (.inr (.e1 ))))
      else (none))
    else (some (.inr (.e0 )))
noncomputable def bd_barbicanlaw16_LiveChain_L1v1 : Code := codeOf Try.f4 [1, 1, 1, 1, 1, 1, 1, 1, 1, 1, 0, 1, 0, 0]
def fl_barbicanlaw16_LiveChain_L1v1 (a0 : Option Addr) (p0 : Nat) (q0 : Nat) (n0 : Nat) (k0 : Nat) (A0 : Nat → BitVec 8) (r1 : Nat → Insn) (g2_0 : Nat → BitVec 16) (g3_0 : Nat) (g3_1 : Nat → Int) : Sh_barbicanlaw16_LiveChain_L1v1 → List L1 → List Value
  | .c0 s0_0, ls => [.bool false, (rowV (lget ls 4) 3 5), (rowV (lget ls 5) 3 1), .int .i64 (s0_0), ((lget ls 2).u 95), ((lget ls 2).u 96), ((lget ls 2).u 97), ((lget ls 2).u 98), ((lget ls 2).u 99), ((lget ls 2).u 100), ((lget ls 2).u 101)]
def mf_barbicanlaw16_LiveChain_L1v1 : Sh_barbicanlaw16_LiveChain_L1v1 → List (Nat × Nat)
  | .c0 _ => [(0, 2), (2, 3), (1, 3), (1, 83), (7, 0)]
noncomputable def fr_barbicanlaw16_LiveChain_L1v1 (a0 : Option Addr) (p0 : Nat) (q0 : Nat) (n0 : Nat) (k0 : Nat) (A0 : Nat → BitVec 8) (r1 : Nat → Insn) (g2_0 : Nat → BitVec 16) (g3_0 : Nat) (g3_1 : Nat → Int) (s : Sh_barbicanlaw16_LiveChain_L1v1) : List L1 → List Value := mrgF (mf_barbicanlaw16_LiveChain_L1v1 s) (fl_barbicanlaw16_LiveChain_L1v1 a0 p0 q0 n0 k0 A0 r1 g2_0 g3_0 g3_1 s) 7
def Hs_barbicanlaw16_LiveChain_L1v1 (a0 : Option Addr) (p0 : Nat) (q0 : Nat) (n0 : Nat) (k0 : Nat) (A0 : Nat → BitVec 8) (r1 : Nat → Insn) (g2_0 : Nat → BitVec 16) (g3_0 : Nat) (g3_1 : Nat → Int) : Sh_barbicanlaw16_LiveChain_L1v1 → List L1 → List Obj
  | .c0 s0_0, ls => [unb, unb, unb, .cells #[.int .u8 (191), .int .u8 (0), .int .u8 (1), .int .i16 (0), .int .i32 (0), .int .u8 (149), .int .u8 (0), .int .u8 (0), .int .i16 (0), .int .i32 (0)] 26, rowO (lget ls 4) (esG c_Insn 3 r1) 26 3 5, rowO (lget ls 5) (esG cu16 3 g2_0) 31 3 1, rowO (lget ls 6) (esG cZ g3_0 g3_1) 3 g3_0 1, unb]
def vl_barbicanlaw16_LiveChain_L1v1 (a0 : Option Addr) (p0 : Nat) (q0 : Nat) (n0 : Nat) (k0 : Nat) (A0 : Nat → BitVec 8) (r1 : Nat → Insn) (g2_0 : Nat → BitVec 16) (g3_0 : Nat) (g3_1 : Nat → Int) : Ex_barbicanlaw16_LiveChain_L1v1 → List L1 → List Value
  | .e0 , ls => [.bool false, (rowV (lget ls 4) 3 5), (rowV (lget ls 5) 3 1), ((lget ls 2).u 95), ((lget ls 2).u 96), ((lget ls 2).u 97), ((lget ls 2).u 98), ((lget ls 2).u 99), ((lget ls 2).u 100), ((lget ls 2).u 101)]
  | .e1 , ls => [.bool false, (rowV (lget ls 4) 3 5), (rowV (lget ls 5) 3 1), ((lget ls 2).u 95), ((lget ls 2).u 96), ((lget ls 2).u 97), ((lget ls 2).u 98), ((lget ls 2).u 99), ((lget ls 2).u 100), ((lget ls 2).u 101)]
def mk_barbicanlaw16_LiveChain_L1v1 : Ex_barbicanlaw16_LiveChain_L1v1 → List (Nat × Nat)
  | .e0  => [(0, 2), (2, 3), (1, 87), (7, 0)]
  | .e1  => [(0, 2), (2, 3), (1, 87), (7, 0)]
noncomputable def vf_barbicanlaw16_LiveChain_L1v1 (a0 : Option Addr) (p0 : Nat) (q0 : Nat) (n0 : Nat) (k0 : Nat) (A0 : Nat → BitVec 8) (r1 : Nat → Insn) (g2_0 : Nat → BitVec 16) (g3_0 : Nat) (g3_1 : Nat → Int) (r : Ex_barbicanlaw16_LiveChain_L1v1) : List L1 → List Value := mrgF (mk_barbicanlaw16_LiveChain_L1v1 r) (vl_barbicanlaw16_LiveChain_L1v1 a0 p0 q0 n0 k0 A0 r1 g2_0 g3_0 g3_1 r) 7
def Hf_barbicanlaw16_LiveChain_L1v1 (a0 : Option Addr) (p0 : Nat) (q0 : Nat) (n0 : Nat) (k0 : Nat) (A0 : Nat → BitVec 8) (r1 : Nat → Insn) (g2_0 : Nat → BitVec 16) (g3_0 : Nat) (g3_1 : Nat → Int) : Ex_barbicanlaw16_LiveChain_L1v1 → List L1 → List Obj
  | .e0 , ls => [unb, unb, unb, .cells #[.int .u8 (191), .int .u8 (0), .int .u8 (1), .int .i16 (0), .int .i32 (0), .int .u8 (149), .int .u8 (0), .int .u8 (0), .int .i16 (0), .int .i32 (0)] 26, rowO (lget ls 4) (esG c_Insn 3 r1) 26 3 5, rowO (lget ls 5) (esG cu16 3 g2_0) 31 3 1, rowO (lget ls 6) (esG cZ g3_0 g3_1) 3 g3_0 1, unb]
  | .e1 , ls => [unb, unb, unb, .cells #[.int .u8 (191), .int .u8 (0), .int .u8 (1), .int .i16 (0), .int .i32 (0), .int .u8 (149), .int .u8 (0), .int .u8 (0), .int .i16 (0), .int .i32 (0)] 26, rowO (lget ls 4) (esG c_Insn 3 r1) 26 3 5, rowO (lget ls 5) (esG cu16 3 g2_0) 31 3 1, rowO (lget ls 6) (esG cZ g3_0 g3_1) 3 g3_0 1, unb]
def ex_barbicanlaw16_LiveChain_L1v1 : Ex_barbicanlaw16_LiveChain_L1v1 → Ex
  | .e0  => (.exit 2)
  | .e1  => .ret
theorem go_barbicanlaw16_LiveChain_L1v1 (r1 : Nat → Insn) (g2_0 : Nat → BitVec 16) (g3_0 : Nat) (g3_1 : Nat → Int) (s : Sh_barbicanlaw16_LiveChain_L1v1) (r : Ex_barbicanlaw16_LiveChain_L1v1) (h : lpO (st_barbicanlaw16_LiveChain_L1v1 r1 g2_0) s = some r) : GoesG Try.prog M B0 S (.loop bd_barbicanlaw16_LiveChain_L1v1) 8 (fr_barbicanlaw16_LiveChain_L1v1 a0 p0 q0 n0 k0 A0 r1 g2_0 g3_0 g3_1 s) (Hs_barbicanlaw16_LiveChain_L1v1 a0 p0 q0 n0 k0 A0 r1 g2_0 g3_0 g3_1 s) (ex_barbicanlaw16_LiveChain_L1v1 r) 7 (vf_barbicanlaw16_LiveChain_L1v1 a0 p0 q0 n0 k0 A0 r1 g2_0 g3_0 g3_1 r) (Hf_barbicanlaw16_LiveChain_L1v1 a0 p0 q0 n0 k0 A0 r1 g2_0 g3_0 g3_1 r) 8 :=
  goes_lpO (fun s q e => by
    cases s with
    | c0 s0_0 =>
      unfold st_barbicanlaw16_LiveChain_L1v1 at e
      dsimp only at e
      replace e := cond_eq_or e
      rcases e with ⟨hq0, e⟩ | ⟨hq0, e⟩
      · replace e := cond_eq_or e
        rcases e with ⟨hq1, e⟩ | ⟨hq1, e⟩
        · replace e := cond_eq_or e
          let P1 : List (PG Try.prog M B0 S) := [.o, .o, .o, .o, .b (z_lssT hq0), .r [0, 1, 2, 3, 4, 5, 6, 7, 8, 9, 10] [] [], .o, .o, .q (ixM_ok (kd := .i64) (T := 27) (x := s0_0) (N := 3) (sz := 1) rfl (fun w => by kernel_rfl) hq1), .l (accG (i := 5) (f := cu16) (A := g2_0) (k := (s0_0).toNat) 0 [.int .u16 (nn (g2_0 (s0_0).toNat))] cu16_len (inR_nat hq1) rfl), .o, .o, .q (ixM_ok (kd := .i64) (T := 22) (x := s0_0) (N := 3) (sz := 5) rfl (fun w => by kernel_rfl) hq1), .o, .l (accG (i := 4) (f := c_Insn) (A := r1) (k := (s0_0).toNat) 2 [.int .u8 (nn ((r1 (s0_0).toNat)).fSrc)] c_Insn_len (inR_nat hq1) rfl), .ov (u16_shl Try.prog 31 (.const (.int .u16 (1))) (.tmp 92) (1#16) (((r1 (s0_0).toNat)).fSrc).toNat .u8 rfl)]
          rcases e with ⟨hq2, e⟩ | ⟨hq2, e⟩
          · cases e; exact goes_runM hU (P1 ++ [.tn (u_ne (g2_0 (s0_0).toNat) (1#16 <<< (((r1 (s0_0).toNat)).fSrc).toNat)) hq2, .o, .o, .o]) [0, 1, 2, 3, 4, 5, 6] (fun b => rfl) (by decide) rfl rfl (fun b => by kernel_rfl)
          · cases e; exact ⟨ne_ret, goes_runM hU (P1 ++ [.tn (u_ne (g2_0 (s0_0).toNat) (1#16 <<< (((r1 (s0_0).toNat)).fSrc).toNat)) hq2, .o]) [0, 1, 2, 3, 4, 5, 6] (fun b => rfl) (by decide) rfl rfl (fun b => by kernel_rfl)⟩
        · exact none_some e
      · cases e; exact ⟨ne_exit 2, goes_runM hU [.o, .o, .o, .o, .b (z_lssF hq0)] [0, 1, 2, 3, 4, 5, 6] (fun b => rfl) (by decide) rfl rfl (fun b => by kernel_rfl)⟩) s r h
noncomputable def t0_barbicanlaw16_LiveChain_L1v1_0 (a0 : Option Addr) (p0 : Nat) (q0 : Nat) (n0 : Nat) (k0 : Nat) (A0 : Nat → BitVec 8) (r1 : Nat → Insn) (g2_0 : Nat → BitVec 16) (g3_0 : Nat) (g3_1 : Nat → Int) (s0_0 : Int) (ls : List L1) : List Value := List.append [.slice a0 n0 (n0 + k0), ((lget ls 2).u 1), .bool false, (rowV (lget ls 4) 3 5), .int .u8 (1), ((lget ls 2).u 5), ((lget ls 2).u 6), (rowV (lget ls 5) 3 1), .int .i64 (0), (rowV (lget ls 6) g3_0 1), .int .i64 (0), .int .i64 (s0_0)] (List.append (jks (lget ls 2).u 12 25) (List.append [.slice (some ⟨(lget ls 1).n, 0, none⟩) 1 1, .int .u8 (1), .agg #[.int .u8 (191), .int .u8 (0), .int .u8 (1), .int .i16 (0), .int .i32 (0)], .agg #[.int .u8 (149), .int .u8 (0), .int .u8 (0), .int .i16 (0), .int .i32 (0)], .slice (some ⟨(lget ls 3).n, 0, none⟩) 2 2, (rowV (lget ls 4) 3 5), .tuple #[(rowV (lget ls 5) 3 1), .int .i64 (0)], (rowV (lget ls 4) 3 5), .tuple #[(rowV (lget ls 5) 3 1), .int .i64 (0)], (rowV (lget ls 5) 3 1), .int .i64 (0), .tuple #[(rowV (lget ls 6) g3_0 1), .int .i64 (0)], (rowV (lget ls 4) 3 5), .tuple #[(rowV (lget ls 6) g3_0 1), .int .i64 (0)], (rowV (lget ls 6) g3_0 1), .int .i64 (0), .int .i64 (0), .bool false, .bool false, .int .i64 (0), .bool false, .bool false, .bool false, (rowV (lget ls 5) 3 1), .int .i64 (3), (rowV (lget ls 4) 3 5), .int .i64 (3), .bool false, .bool false, .bool false, (rowV (lget ls 5) 3 1), .pointer (some ⟨(lget ls 5).n, 0 + 0 * 1, none⟩), .int .u16 (nn (g2_0 0)), .bool false, .bool false, .bool false, (rowV (lget ls 6) g3_0 1), .int .i64 ((g3_0 : Int)), .bool false, .bool false] (jks (lget ls 2).u 77 25)))
def pre_barbicanlaw16_LiveChain_L1v1_0 (a0 : Option Addr) (p0 : Nat) (q0 : Nat) (n0 : Nat) (k0 : Nat) (A0 : Nat → BitVec 8) (r1 : Nat → Insn) (g2_0 : Nat → BitVec 16) (g3_0 : Nat) (g3_1 : Nat → Int) (s0_0 : Int) (ls : List L1) : List Obj := [unb, unb, unb, .cells #[.int .u8 (191), .int .u8 (0), .int .u8 (1), .int .i16 (0), .int .i32 (0), .int .u8 (149), .int .u8 (0), .int .u8 (0), .int .i16 (0), .int .i32 (0)] 26, rowO (lget ls 4) (esG c_Insn 3 r1) 26 3 5, rowO (lget ls 5) (esG cu16 3 g2_0) 31 3 1, rowO (lget ls 6) (esG cZ g3_0 g3_1) 3 g3_0 1]
theorem sp0_barbicanlaw16_LiveChain_L1v1_0_ok (r1 : Nat → Insn) (g2_0 : Nat → BitVec 16) (g3_0 : Nat) (g3_1 : Nat → Int) (s0_0 : Int) (h : lpO (st_barbicanlaw16_LiveChain_L1v1 r1 g2_0) (.c0 s0_0) = some (.e0 )) : SpcG Try.prog M B0 S ⟨fun ls => .code (.loop bd_barbicanlaw16_LiveChain_L1v1) (t0_barbicanlaw16_LiveChain_L1v1_0 a0 p0 q0 n0 k0 A0 r1 g2_0 g3_0 g3_1 s0_0 ls), pre_barbicanlaw16_LiveChain_L1v1_0 a0 p0 q0 n0 k0 A0 r1 g2_0 g3_0 g3_1 s0_0, 1, (.exit 2), fun ls => vf_barbicanlaw16_LiveChain_L1v1 a0 p0 q0 n0 k0 A0 r1 g2_0 g3_0 g3_1 (.e0 ) (ls.take 7 ++ ls.drop 7), fun ls => (Hf_barbicanlaw16_LiveChain_L1v1 a0 p0 q0 n0 k0 A0 r1 g2_0 g3_0 g3_1 (.e0 ) (ls.take 7 ++ ls.drop 7)).take 7 ++ List.replicate 0 unb, fun ls => (Hf_barbicanlaw16_LiveChain_L1v1 a0 p0 q0 n0 k0 A0 r1 g2_0 g3_0 g3_1 (.e0 ) (ls.take 7 ++ ls.drop 7)).drop 7⟩ :=
  spc_of_goesM hU 0 (k0 := 7) (go_barbicanlaw16_LiveChain_L1v1 hU a0 p0 q0 n0 k0 A0 hR0 r1 g2_0 g3_0 g3_1 _ _ h) (t0_barbicanlaw16_LiveChain_L1v1_0 a0 p0 q0 n0 k0 A0 r1 g2_0 g3_0 g3_1 s0_0) (pre_barbicanlaw16_LiveChain_L1v1_0 a0 p0 q0 n0 k0 A0 r1 g2_0 g3_0 g3_1 s0_0) (fun _ => rfl) (fun ls h => by match ls, h with | [l0, l1, l2, l3, l4, l5, l6], _ => exact ⟨by kernel_rfl, by kernel_rfl⟩) (fun ls h => by match ls, h with | [l0, l1, l2, l3, l4, l5, l6], _ => rfl) (by decide) (by decide) (fun ls => rfl)
theorem sp1_barbicanlaw16_LiveChain_L1v1_0_ok (r1 : Nat → Insn) (g2_0 : Nat → BitVec 16) (g3_0 : Nat) (g3_1 : Nat → Int) (s0_0 : Int) (h : lpO (st_barbicanlaw16_LiveChain_L1v1 r1 g2_0) (.c0 s0_0) = some (.e1 )) : SpcG Try.prog M B0 S ⟨fun ls => .code (.loop bd_barbicanlaw16_LiveChain_L1v1) (t0_barbicanlaw16_LiveChain_L1v1_0 a0 p0 q0 n0 k0 A0 r1 g2_0 g3_0 g3_1 s0_0 ls), pre_barbicanlaw16_LiveChain_L1v1_0 a0 p0 q0 n0 k0 A0 r1 g2_0 g3_0 g3_1 s0_0, 1, .ret, fun ls => vf_barbicanlaw16_LiveChain_L1v1 a0 p0 q0 n0 k0 A0 r1 g2_0 g3_0 g3_1 (.e1 ) (ls.take 7 ++ ls.drop 7), fun ls => (Hf_barbicanlaw16_LiveChain_L1v1 a0 p0 q0 n0 k0 A0 r1 g2_0 g3_0 g3_1 (.e1 ) (ls.take 7 ++ ls.drop 7)).take 7 ++ List.replicate 0 unb, fun ls => (Hf_barbicanlaw16_LiveChain_L1v1 a0 p0 q0 n0 k0 A0 r1 g2_0 g3_0 g3_1 (.e1 ) (ls.take 7 ++ ls.drop 7)).drop 7⟩ :=
  spc_of_goesM hU 0 (k0 := 7) (go_barbicanlaw16_LiveChain_L1v1 hU a0 p0 q0 n0 k0 A0 hR0 r1 g2_0 g3_0 g3_1 _ _ h) (t0_barbicanlaw16_LiveChain_L1v1_0 a0 p0 q0 n0 k0 A0 r1 g2_0 g3_0 g3_1 s0_0) (pre_barbicanlaw16_LiveChain_L1v1_0 a0 p0 q0 n0 k0 A0 r1 g2_0 g3_0 g3_1 s0_0) (fun _ => rfl) (fun ls h => by match ls, h with | [l0, l1, l2, l3, l4, l5, l6], _ => exact ⟨by kernel_rfl, by kernel_rfl⟩) (fun ls h => by match ls, h with | [l0, l1, l2, l3, l4, l5, l6], _ => rfl) (by decide) (by decide) (fun ls => rfl)
inductive Sh_barbicanlaw16_LiveChain_L1v2 where
  | c0 (s0_0 : Int)
inductive Ex_barbicanlaw16_LiveChain_L1v2 where
  | e0 
  | e1 
noncomputable def st_barbicanlaw16_LiveChain_L1v2 (g0_0 : Nat) (r1 : Nat → Insn) (g2_0 : Nat → BitVec 16) : Sh_barbicanlaw16_LiveChain_L1v2 → Option (Sh_barbicanlaw16_LiveChain_L1v2 ⊕ Ex_barbicanlaw16_LiveChain_L1v2)
  | .c0 s0_0 =>
    bif decide ((IntKind.i64.wrap (s0_0 + 1)) < ((g0_0 + 2) : Int)) then
      (bif inR s0_0 (g0_0 + 2) then
        (bif (g2_0 (s0_0).toNat) == (1#16 <<< (((r1 (s0_0).toNat)).fSrc).toNat) then
          (some (.inl (.c0 (IntKind.i64.wrap (s0_0 + 1)))))
        else (some (.inr (.e1 ))))
      else (none))
    else (some (.inr (.e0 )))
noncomputable def bd_barbicanlaw16_LiveChain_L1v2 : Code := codeOf Try.f4 [1, 1, 1, 1, 1, 1, 1, 1, 1, 1, 0, 1, 0, 0]
def fl_barbicanlaw16_LiveChain_L1v2 (a0 : Option Addr) (p0 : Nat) (q0 : Nat) (n0 : Nat) (k0 : Nat) (A0 : Nat → BitVec 8) (g0_0 : Nat) (g0_1 : Nat → Insn) (g0_2 : BitVec 8) (r1 : Nat → Insn) (g2_0 : Nat → BitVec 16) (g3_0 : Int) : Sh_barbicanlaw16_LiveChain_L1v2 → List L1 → List Value
  | .c0 s0_0, ls => [.bool false, (rowV (lget ls 4) (g0_0 + 2) 5), (rowV (lget ls 5) (g0_0 + 2) 1), .int .i64 (s0_0), ((lget ls 2).u 95), ((lget ls 2).u 96), ((lget ls 2).u 97), ((lget ls 2).u 98), ((lget ls 2).u 99), ((lget ls 2).u 100), ((lget ls 2).u 101)]
def mf_barbicanlaw16_LiveChain_L1v2 : Sh_barbicanlaw16_LiveChain_L1v2 → List (Nat × Nat)
  | .c0 _ => [(0, 2), (2, 3), (1, 3), (1, 83), (7, 0)]
noncomputable def fr_barbicanlaw16_LiveChain_L1v2 (a0 : Option Addr) (p0 : Nat) (q0 : Nat) (n0 : Nat) (k0 : Nat) (A0 : Nat → BitVec 8) (g0_0 : Nat) (g0_1 : Nat → Insn) (g0_2 : BitVec 8) (r1 : Nat → Insn) (g2_0 : Nat → BitVec 16) (g3_0 : Int) (s : Sh_barbicanlaw16_LiveChain_L1v2) : List L1 → List Value := mrgF (mf_barbicanlaw16_LiveChain_L1v2 s) (fl_barbicanlaw16_LiveChain_L1v2 a0 p0 q0 n0 k0 A0 g0_0 g0_1 g0_2 r1 g2_0 g3_0 s) 6
def Hs_barbicanlaw16_LiveChain_L1v2 (a0 : Option Addr) (p0 : Nat) (q0 : Nat) (n0 : Nat) (k0 : Nat) (A0 : Nat → BitVec 8) (g0_0 : Nat) (g0_1 : Nat → Insn) (g0_2 : BitVec 8) (r1 : Nat → Insn) (g2_0 : Nat → BitVec 16) (g3_0 : Int) : Sh_barbicanlaw16_LiveChain_L1v2 → List L1 → List Obj
  | .c0 s0_0, ls => [unb, unb, unb, .cells #[.int .u8 (191), .int .u8 (0), .int .u8 (nn g0_2), .int .i16 (0), .int .i32 (0), .int .u8 (149), .int .u8 (0), .int .u8 (0), .int .i16 (0), .int .i32 (0)] 26, rowO (lget ls 4) (esG c_Insn (g0_0 + 2) r1) 26 (g0_0 + 2) 5, rowO (lget ls 5) (esG cu16 (g0_0 + 2) g2_0) 31 (g0_0 + 2) 1, unb]
def vl_barbicanlaw16_LiveChain_L1v2 (a0 : Option Addr) (p0 : Nat) (q0 : Nat) (n0 : Nat) (k0 : Nat) (A0 : Nat → BitVec 8) (g0_0 : Nat) (g0_1 : Nat → Insn) (g0_2 : BitVec 8) (r1 : Nat → Insn) (g2_0 : Nat → BitVec 16) (g3_0 : Int) : Ex_barbicanlaw16_LiveChain_L1v2 → List L1 → List Value
  | .e0 , ls => [.bool false, (rowV (lget ls 4) (g0_0 + 2) 5), (rowV (lget ls 5) (g0_0 + 2) 1), ((lget ls 2).u 95), ((lget ls 2).u 96), ((lget ls 2).u 97), ((lget ls 2).u 98), ((lget ls 2).u 99), ((lget ls 2).u 100), ((lget ls 2).u 101)]
  | .e1 , ls => [.bool false, (rowV (lget ls 4) (g0_0 + 2) 5), (rowV (lget ls 5) (g0_0 + 2) 1), ((lget ls 2).u 95), ((lget ls 2).u 96), ((lget ls 2).u 97), ((lget ls 2).u 98), ((lget ls 2).u 99), ((lget ls 2).u 100), ((lget ls 2).u 101)]
def mk_barbicanlaw16_LiveChain_L1v2 : Ex_barbicanlaw16_LiveChain_L1v2 → List (Nat × Nat)
  | .e0  => [(0, 2), (2, 3), (1, 87), (7, 0)]
  | .e1  => [(0, 2), (2, 3), (1, 87), (7, 0)]
noncomputable def vf_barbicanlaw16_LiveChain_L1v2 (a0 : Option Addr) (p0 : Nat) (q0 : Nat) (n0 : Nat) (k0 : Nat) (A0 : Nat → BitVec 8) (g0_0 : Nat) (g0_1 : Nat → Insn) (g0_2 : BitVec 8) (r1 : Nat → Insn) (g2_0 : Nat → BitVec 16) (g3_0 : Int) (r : Ex_barbicanlaw16_LiveChain_L1v2) : List L1 → List Value := mrgF (mk_barbicanlaw16_LiveChain_L1v2 r) (vl_barbicanlaw16_LiveChain_L1v2 a0 p0 q0 n0 k0 A0 g0_0 g0_1 g0_2 r1 g2_0 g3_0 r) 6
def Hf_barbicanlaw16_LiveChain_L1v2 (a0 : Option Addr) (p0 : Nat) (q0 : Nat) (n0 : Nat) (k0 : Nat) (A0 : Nat → BitVec 8) (g0_0 : Nat) (g0_1 : Nat → Insn) (g0_2 : BitVec 8) (r1 : Nat → Insn) (g2_0 : Nat → BitVec 16) (g3_0 : Int) : Ex_barbicanlaw16_LiveChain_L1v2 → List L1 → List Obj
  | .e0 , ls => [unb, unb, unb, .cells #[.int .u8 (191), .int .u8 (0), .int .u8 (nn g0_2), .int .i16 (0), .int .i32 (0), .int .u8 (149), .int .u8 (0), .int .u8 (0), .int .i16 (0), .int .i32 (0)] 26, rowO (lget ls 4) (esG c_Insn (g0_0 + 2) r1) 26 (g0_0 + 2) 5, rowO (lget ls 5) (esG cu16 (g0_0 + 2) g2_0) 31 (g0_0 + 2) 1, unb]
  | .e1 , ls => [unb, unb, unb, .cells #[.int .u8 (191), .int .u8 (0), .int .u8 (nn g0_2), .int .i16 (0), .int .i32 (0), .int .u8 (149), .int .u8 (0), .int .u8 (0), .int .i16 (0), .int .i32 (0)] 26, rowO (lget ls 4) (esG c_Insn (g0_0 + 2) r1) 26 (g0_0 + 2) 5, rowO (lget ls 5) (esG cu16 (g0_0 + 2) g2_0) 31 (g0_0 + 2) 1, unb]
def ex_barbicanlaw16_LiveChain_L1v2 : Ex_barbicanlaw16_LiveChain_L1v2 → Ex
  | .e0  => (.exit 2)
  | .e1  => .ret
theorem go_barbicanlaw16_LiveChain_L1v2 (g0_0 : Nat) (g0_1 : Nat → Insn) (g0_2 : BitVec 8) (r1 : Nat → Insn) (g2_0 : Nat → BitVec 16) (g3_0 : Int) (s : Sh_barbicanlaw16_LiveChain_L1v2) (r : Ex_barbicanlaw16_LiveChain_L1v2) (h : lpO (st_barbicanlaw16_LiveChain_L1v2 g0_0 r1 g2_0) s = some r) : GoesG Try.prog M B0 S (.loop bd_barbicanlaw16_LiveChain_L1v2) 7 (fr_barbicanlaw16_LiveChain_L1v2 a0 p0 q0 n0 k0 A0 g0_0 g0_1 g0_2 r1 g2_0 g3_0 s) (Hs_barbicanlaw16_LiveChain_L1v2 a0 p0 q0 n0 k0 A0 g0_0 g0_1 g0_2 r1 g2_0 g3_0 s) (ex_barbicanlaw16_LiveChain_L1v2 r) 6 (vf_barbicanlaw16_LiveChain_L1v2 a0 p0 q0 n0 k0 A0 g0_0 g0_1 g0_2 r1 g2_0 g3_0 r) (Hf_barbicanlaw16_LiveChain_L1v2 a0 p0 q0 n0 k0 A0 g0_0 g0_1 g0_2 r1 g2_0 g3_0 r) 7 :=
  goes_lpO (fun s q e => by
    cases s with
    | c0 s0_0 =>
      unfold st_barbicanlaw16_LiveChain_L1v2 at e
      dsimp only at e
      replace e := cond_eq_or e
      rcases e with ⟨hq0, e⟩ | ⟨hq0, e⟩
      · replace e := cond_eq_or e
        rcases e with ⟨hq1, e⟩ | ⟨hq1, e⟩
        · replace e := cond_eq_or e
          let P1 : List (PG Try.prog M B0 S) := [.o, .o, .o, .o, .b (z_lssT hq0), .r [0, 1, 2, 3, 4, 5, 6, 7, 8, 9, 10] [] [], .o, .o, .q (ixM_ok (kd := .i64) (T := 27) (x := s0_0) (N := (g0_0 + 2)) (sz := 1) rfl (fun w => by kernel_rfl) hq1), .l (accG (i := 5) (f := cu16) (A := g2_0) (k := (s0_0).toNat) 0 [.int .u16 (nn (g2_0 (s0_0).toNat))] cu16_len (inR_nat hq1) rfl), .o, .o, .q (ixM_ok (kd := .i64) (T := 22) (x := s0_0) (N := (g0_0 + 2)) (sz := 5) rfl (fun w => by kernel_rfl) hq1), .o, .l (accG (i := 4) (f := c_Insn) (A := r1) (k := (s0_0).toNat) 2 [.int .u8 (nn ((r1 (s0_0).toNat)).fSrc)] c_Insn_len (inR_nat hq1) rfl), .ov (u16_shl Try.prog 31 (.const (.int .u16 (1))) (.tmp 92) (1#16) (((r1 (s0_0).toNat)).fSrc).toNat .u8 rfl)]
          rcases e with ⟨hq2, e⟩ | ⟨hq2, e⟩
          · cases e; exact goes_runM hU (P1 ++ [.tn (u_ne (g2_0 (s0_0).toNat) (1#16 <<< (((r1 (s0_0).toNat)).fSrc).toNat)) hq2, .o, .o, .o]) [0, 1, 2, 3, 4, 5] (fun b => rfl) (by decide) rfl rfl (fun b => by kernel_rfl)
          · cases e; exact ⟨ne_ret, goes_runM hU (P1 ++ [.tn (u_ne (g2_0 (s0_0).toNat) (1#16 <<< (((r1 (s0_0).toNat)).fSrc).toNat)) hq2, .o]) [0, 1, 2, 3, 4, 5] (fun b => rfl) (by decide) rfl rfl (fun b => by kernel_rfl)⟩
        · exact none_some e
      · cases e; exact ⟨ne_exit 2, goes_runM hU [.o, .o, .o, .o, .b (z_lssF hq0)] [0, 1, 2, 3, 4, 5] (fun b => rfl) (by decide) rfl rfl (fun b => by kernel_rfl)⟩) s r h
noncomputable def t0_barbicanlaw16_LiveChain_L1v2_0 (a0 : Option Addr) (p0 : Nat) (q0 : Nat) (n0 : Nat) (k0 : Nat) (A0 : Nat → BitVec 8) (g0_0 : Nat) (g0_1 : Nat → Insn) (g0_2 : BitVec 8) (r1 : Nat → Insn) (g2_0 : Nat → BitVec 16) (g3_0 : Int) (s0_0 : Int) (ls : List L1) : List Value := List.append [.slice a0 n0 (n0 + k0), ((lget ls 2).u 1), .bool false, (rowV (lget ls 4) (g0_0 + 2) 5), .int .u8 (nn g0_2), ((lget ls 2).u 5), ((lget ls 2).u 6), (rowV (lget ls 5) (g0_0 + 2) 1), .int .i64 (0), .slice none 0 0, .int .i64 (g3_0), .int .i64 (s0_0)] (List.append (jks (lget ls 2).u 12 25) (List.append [(rowV (lget ls 1) g0_0 5), .int .u8 (nn g0_2), .agg #[.int .u8 (191), .int .u8 (0), .int .u8 (nn g0_2), .int .i16 (0), .int .i32 (0)], .agg #[.int .u8 (149), .int .u8 (0), .int .u8 (0), .int .i16 (0), .int .i32 (0)], .slice (some ⟨(lget ls 3).n, 0, none⟩) 2 2, (rowV (lget ls 4) (g0_0 + 2) 5), .tuple #[(rowV (lget ls 5) (g0_0 + 2) 1), .int .i64 (0)], (rowV (lget ls 4) (g0_0 + 2) 5), .tuple #[(rowV (lget ls 5) (g0_0 + 2) 1), .int .i64 (0)], (rowV (lget ls 5) (g0_0 + 2) 1), .int .i64 (0), .tuple #[.slice none 0 0, .int .i64 (g3_0)], (rowV (lget ls 4) (g0_0 + 2) 5), .tuple #[.slice none 0 0, .int .i64 (g3_0)], .slice none 0 0, .int .i64 (g3_0), .int .i64 (0), .bool false, .bool false, .int .i64 (g3_0), .bool false, .bool false, .bool false, (rowV (lget ls 5) (g0_0 + 2) 1), .int .i64 (((g0_0 + 2) : Int)), (rowV (lget ls 4) (g0_0 + 2) 5), .int .i64 (((g0_0 + 2) : Int)), .bool false, .bool false, .bool false, (rowV (lget ls 5) (g0_0 + 2) 1), .pointer (some ⟨(lget ls 5).n, 0 + 0 * 1, none⟩), .int .u16 (nn (g2_0 0)), .bool false, .bool false, .bool false, .slice none 0 0, .int .i64 (0), .bool false, .bool false] (jks (lget ls 2).u 77 25)))
def pre_barbicanlaw16_LiveChain_L1v2_0 (a0 : Option Addr) (p0 : Nat) (q0 : Nat) (n0 : Nat) (k0 : Nat) (A0 : Nat → BitVec 8) (g0_0 : Nat) (g0_1 : Nat → Insn) (g0_2 : BitVec 8) (r1 : Nat → Insn) (g2_0 : Nat → BitVec 16) (g3_0 : Int) (s0_0 : Int) (ls : List L1) : List Obj := [unb, unb, unb, .cells #[.int .u8 (191), .int .u8 (0), .int .u8 (nn g0_2), .int .i16 (0), .int .i32 (0), .int .u8 (149), .int .u8 (0), .int .u8 (0), .int .i16 (0), .int .i32 (0)] 26, rowO (lget ls 4) (esG c_Insn (g0_0 + 2) r1) 26 (g0_0 + 2) 5, rowO (lget ls 5) (esG cu16 (g0_0 + 2) g2_0) 31 (g0_0 + 2) 1]
theorem sp0_barbicanlaw16_LiveChain_L1v2_0_ok (g0_0 : Nat) (g0_1 : Nat → Insn) (g0_2 : BitVec 8) (r1 : Nat → Insn) (g2_0 : Nat → BitVec 16) (g3_0 : Int) (s0_0 : Int) (h : lpO (st_barbicanlaw16_LiveChain_L1v2 g0_0 r1 g2_0) (.c0 s0_0) = some (.e0 )) : SpcG Try.prog M B0 S ⟨fun ls => .code (.loop bd_barbicanlaw16_LiveChain_L1v2) (t0_barbicanlaw16_LiveChain_L1v2_0 a0 p0 q0 n0 k0 A0 g0_0 g0_1 g0_2 r1 g2_0 g3_0 s0_0 ls), pre_barbicanlaw16_LiveChain_L1v2_0 a0 p0 q0 n0 k0 A0 g0_0 g0_1 g0_2 r1 g2_0 g3_0 s0_0, 1, (.exit 2), fun ls => vf_barbicanlaw16_LiveChain_L1v2 a0 p0 q0 n0 k0 A0 g0_0 g0_1 g0_2 r1 g2_0 g3_0 (.e0 ) (ls.take 6 ++ ls.drop 6), fun ls => (Hf_barbicanlaw16_LiveChain_L1v2 a0 p0 q0 n0 k0 A0 g0_0 g0_1 g0_2 r1 g2_0 g3_0 (.e0 ) (ls.take 6 ++ ls.drop 6)).take 6 ++ List.replicate 0 unb, fun ls => (Hf_barbicanlaw16_LiveChain_L1v2 a0 p0 q0 n0 k0 A0 g0_0 g0_1 g0_2 r1 g2_0 g3_0 (.e0 ) (ls.take 6 ++ ls.drop 6)).drop 6⟩ :=
  spc_of_goesM hU 0 (k0 := 6) (go_barbicanlaw16_LiveChain_L1v2 hU a0 p0 q0 n0 k0 A0 hR0 g0_0 g0_1 g0_2 r1 g2_0 g3_0 _ _ h) (t0_barbicanlaw16_LiveChain_L1v2_0 a0 p0 q0 n0 k0 A0 g0_0 g0_1 g0_2 r1 g2_0 g3_0 s0_0) (pre_barbicanlaw16_LiveChain_L1v2_0 a0 p0 q0 n0 k0 A0 g0_0 g0_1 g0_2 r1 g2_0 g3_0 s0_0) (fun _ => rfl) (fun ls h => by match ls, h with | [l0, l1, l2, l3, l4, l5], _ => exact ⟨by kernel_rfl, by kernel_rfl⟩) (fun ls h => by match ls, h with | [l0, l1, l2, l3, l4, l5], _ => rfl) (by decide) (by decide) (fun ls => rfl)
theorem sp1_barbicanlaw16_LiveChain_L1v2_0_ok (g0_0 : Nat) (g0_1 : Nat → Insn) (g0_2 : BitVec 8) (r1 : Nat → Insn) (g2_0 : Nat → BitVec 16) (g3_0 : Int) (s0_0 : Int) (h : lpO (st_barbicanlaw16_LiveChain_L1v2 g0_0 r1 g2_0) (.c0 s0_0) = some (.e1 )) : SpcG Try.prog M B0 S ⟨fun ls => .code (.loop bd_barbicanlaw16_LiveChain_L1v2) (t0_barbicanlaw16_LiveChain_L1v2_0 a0 p0 q0 n0 k0 A0 g0_0 g0_1 g0_2 r1 g2_0 g3_0 s0_0 ls), pre_barbicanlaw16_LiveChain_L1v2_0 a0 p0 q0 n0 k0 A0 g0_0 g0_1 g0_2 r1 g2_0 g3_0 s0_0, 1, .ret, fun ls => vf_barbicanlaw16_LiveChain_L1v2 a0 p0 q0 n0 k0 A0 g0_0 g0_1 g0_2 r1 g2_0 g3_0 (.e1 ) (ls.take 6 ++ ls.drop 6), fun ls => (Hf_barbicanlaw16_LiveChain_L1v2 a0 p0 q0 n0 k0 A0 g0_0 g0_1 g0_2 r1 g2_0 g3_0 (.e1 ) (ls.take 6 ++ ls.drop 6)).take 6 ++ List.replicate 0 unb, fun ls => (Hf_barbicanlaw16_LiveChain_L1v2 a0 p0 q0 n0 k0 A0 g0_0 g0_1 g0_2 r1 g2_0 g3_0 (.e1 ) (ls.take 6 ++ ls.drop 6)).drop 6⟩ :=
  spc_of_goesM hU 0 (k0 := 6) (go_barbicanlaw16_LiveChain_L1v2 hU a0 p0 q0 n0 k0 A0 hR0 g0_0 g0_1 g0_2 r1 g2_0 g3_0 _ _ h) (t0_barbicanlaw16_LiveChain_L1v2_0 a0 p0 q0 n0 k0 A0 g0_0 g0_1 g0_2 r1 g2_0 g3_0 s0_0) (pre_barbicanlaw16_LiveChain_L1v2_0 a0 p0 q0 n0 k0 A0 g0_0 g0_1 g0_2 r1 g2_0 g3_0 s0_0) (fun _ => rfl) (fun ls h => by match ls, h with | [l0, l1, l2, l3, l4, l5], _ => exact ⟨by kernel_rfl, by kernel_rfl⟩) (fun ls h => by match ls, h with | [l0, l1, l2, l3, l4, l5], _ => rfl) (by decide) (by decide) (fun ls => rfl)
inductive Sh_barbicanlaw16_LiveChain_L1v3 where
  | c0 (s0_0 : Int)
inductive Ex_barbicanlaw16_LiveChain_L1v3 where
  | e0 
  | e1 
noncomputable def st_barbicanlaw16_LiveChain_L1v3 (g0_0 : Nat) (r1 : Nat → Insn) (g2_0 : Nat → BitVec 16) : Sh_barbicanlaw16_LiveChain_L1v3 → Option (Sh_barbicanlaw16_LiveChain_L1v3 ⊕ Ex_barbicanlaw16_LiveChain_L1v3)
  | .c0 s0_0 =>
    bif decide ((IntKind.i64.wrap (s0_0 + 1)) < ((g0_0 + 2) : Int)) then
      (bif inR s0_0 (g0_0 + 2) then
        (bif (g2_0 (s0_0).toNat) == (1#16 <<< (((r1 (s0_0).toNat)).fSrc).toNat) then
          (some (.inl (.c0 (IntKind.i64.wrap (s0_0 + 1)))))
        else (some (.inr (.e1 ))))
      else (none))
    else (some (.inr (.e0 )))
noncomputable def bd_barbicanlaw16_LiveChain_L1v3 : Code := codeOf Try.f4 [1, 1, 1, 1, 1, 1, 1, 1, 1, 1, 0, 1, 0, 0]
def fl_barbicanlaw16_LiveChain_L1v3 (a0 : Option Addr) (p0 : Nat) (q0 : Nat) (n0 : Nat) (k0 : Nat) (A0 : Nat → BitVec 8) (g0_0 : Nat) (g0_1 : Nat → Insn) (g0_2 : BitVec 8) (r1 : Nat → Insn) (g2_0 : Nat → BitVec 16) (g3_0 : Nat) (g3_1 : Nat → Int) : Sh_barbicanlaw16_LiveChain_L1v3 → List L1 → List Value
  | .c0 s0_0, ls => [.bool false, (rowV (lget ls 4) (g0_0 + 2) 5), (rowV (lget ls 5) (g0_0 + 2) 1), .int .i64 (s0_0), ((lget ls 2).u 95), ((lget ls 2).u 96), ((lget ls 2).u 97), ((lget ls 2).u 98), ((lget ls 2).u 99), ((lget ls 2).u 100), ((lget ls 2).u 101)]
def mf_barbicanlaw16_LiveChain_L1v3 : Sh_barbicanlaw16_LiveChain_L1v3 → List (Nat × Nat)
  | .c0 _ => [(0, 2), (2, 3), (1, 3), (1, 83), (7, 0)]
noncomputable def fr_barbicanlaw16_LiveChain_L1v3 (a0 : Option Addr) (p0 : Nat) (q0 : Nat) (n0 : Nat) (k0 : Nat) (A0 : Nat → BitVec 8) (g0_0 : Nat) (g0_1 : Nat → Insn) (g0_2 : BitVec 8) (r1 : Nat → Insn) (g2_0 : Nat → BitVec 16) (g3_0 : Nat) (g3_1 : Nat → Int) (s : Sh_barbicanlaw16_LiveChain_L1v3) : List L1 → List Value := mrgF (mf_barbicanlaw16_LiveChain_L1v3 s) (fl_barbicanlaw16_LiveChain_L1v3 a0 p0 q0 n0 k0 A0 g0_0 g0_1 g0_2 r1 g2_0 g3_0 g3_1 s) 7
def Hs_barbicanlaw16_LiveChain_L1v3 (a0 : Option Addr) (p0 : Nat) (q0 : Nat) (n0 : Nat) (k0 : Nat) (A0 : Nat → BitVec 8) (g0_0 : Nat) (g0_1 : Nat → Insn) (g0_2 : BitVec 8) (r1 : Nat → Insn) (g2_0 : Nat → BitVec 16) (g3_0 : Nat) (g3_1 : Nat → Int) : Sh_barbicanlaw16_LiveChain_L1v3 → List L1 → List Obj
  | .c0 s0_0, ls => [unb, unb, unb, .cells #[.int .u8 (191), .int .u8 (0), .int .u8 (nn g0_2), .int .i16 (0), .int .i32 (0), .int .u8 (149), .int .u8 (0), .int .u8 (0), .int .i16 (0), .int .i32 (0)] 26, rowO (lget ls 4) (esG c_Insn (g0_0 + 2) r1) 26 (g0_0 + 2) 5, rowO (lget ls 5) (esG cu16 (g0_0 + 2) g2_0) 31 (g0_0 + 2) 1, rowO (lget ls 6) (esG cZ g3_0 g3_1) 3 g3_0 1, unb]
def vl_barbicanlaw16_LiveChain_L1v3 (a0 : Option Addr) (p0 : Nat) (q0 : Nat) (n0 : Nat) (k0 : Nat) (A0 : Nat → BitVec 8) (g0_0 : Nat) (g0_1 : Nat → Insn) (g0_2 : BitVec 8) (r1 : Nat → Insn) (g2_0 : Nat → BitVec 16) (g3_0 : Nat) (g3_1 : Nat → Int) : Ex_barbicanlaw16_LiveChain_L1v3 → List L1 → List Value
  | .e0 , ls => [.bool false, (rowV (lget ls 4) (g0_0 + 2) 5), (rowV (lget ls 5) (g0_0 + 2) 1), ((lget ls 2).u 95), ((lget ls 2).u 96), ((lget ls 2).u 97), ((lget ls 2).u 98), ((lget ls 2).u 99), ((lget ls 2).u 100), ((lget ls 2).u 101)]
  | .e1 , ls => [.bool false, (rowV (lget ls 4) (g0_0 + 2) 5), (rowV (lget ls 5) (g0_0 + 2) 1), ((lget ls 2).u 95), ((lget ls 2).u 96), ((lget ls 2).u 97), ((lget ls 2).u 98), ((lget ls 2).u 99), ((lget ls 2).u 100), ((lget ls 2).u 101)]
def mk_barbicanlaw16_LiveChain_L1v3 : Ex_barbicanlaw16_LiveChain_L1v3 → List (Nat × Nat)
  | .e0  => [(0, 2), (2, 3), (1, 87), (7, 0)]
  | .e1  => [(0, 2), (2, 3), (1, 87), (7, 0)]
noncomputable def vf_barbicanlaw16_LiveChain_L1v3 (a0 : Option Addr) (p0 : Nat) (q0 : Nat) (n0 : Nat) (k0 : Nat) (A0 : Nat → BitVec 8) (g0_0 : Nat) (g0_1 : Nat → Insn) (g0_2 : BitVec 8) (r1 : Nat → Insn) (g2_0 : Nat → BitVec 16) (g3_0 : Nat) (g3_1 : Nat → Int) (r : Ex_barbicanlaw16_LiveChain_L1v3) : List L1 → List Value := mrgF (mk_barbicanlaw16_LiveChain_L1v3 r) (vl_barbicanlaw16_LiveChain_L1v3 a0 p0 q0 n0 k0 A0 g0_0 g0_1 g0_2 r1 g2_0 g3_0 g3_1 r) 7
def Hf_barbicanlaw16_LiveChain_L1v3 (a0 : Option Addr) (p0 : Nat) (q0 : Nat) (n0 : Nat) (k0 : Nat) (A0 : Nat → BitVec 8) (g0_0 : Nat) (g0_1 : Nat → Insn) (g0_2 : BitVec 8) (r1 : Nat → Insn) (g2_0 : Nat → BitVec 16) (g3_0 : Nat) (g3_1 : Nat → Int) : Ex_barbicanlaw16_LiveChain_L1v3 → List L1 → List Obj
  | .e0 , ls => [unb, unb, unb, .cells #[.int .u8 (191), .int .u8 (0), .int .u8 (nn g0_2), .int .i16 (0), .int .i32 (0), .int .u8 (149), .int .u8 (0), .int .u8 (0), .int .i16 (0), .int .i32 (0)] 26, rowO (lget ls 4) (esG c_Insn (g0_0 + 2) r1) 26 (g0_0 + 2) 5, rowO (lget ls 5) (esG cu16 (g0_0 + 2) g2_0) 31 (g0_0 + 2) 1, rowO (lget ls 6) (esG cZ g3_0 g3_1) 3 g3_0 1, unb]
  | .e1 , ls => [unb, unb, unb, .cells #[.int .u8 (191), .int .u8 (0), .int .u8 (nn g0_2), .int .i16 (0), .int .i32 (0), .int .u8 (149), .int .u8 (0), .int .u8 (0), .int .i16 (0), .int .i32 (0)] 26, rowO (lget ls 4) (esG c_Insn (g0_0 + 2) r1) 26 (g0_0 + 2) 5, rowO (lget ls 5) (esG cu16 (g0_0 + 2) g2_0) 31 (g0_0 + 2) 1, rowO (lget ls 6) (esG cZ g3_0 g3_1) 3 g3_0 1, unb]
def ex_barbicanlaw16_LiveChain_L1v3 : Ex_barbicanlaw16_LiveChain_L1v3 → Ex
  | .e0  => (.exit 2)
  | .e1  => .ret
end

end Go.Proofs.Ytjfiakgkeniocaa

