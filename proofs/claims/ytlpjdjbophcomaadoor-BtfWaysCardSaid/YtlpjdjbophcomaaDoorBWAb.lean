/-
  What the law knows of the program.
-/
import Derived.Test.YtlpjdjbophcomaaDoorBWA
import Derived.Test.YtlpjdjbophcomaaDoorRyY
import Derived.Test.YtlpjdjbophcomaaDoorRxO
import Derived.Test.YtlpjdjbophcomaaDoorRyK
import Derived.Test.YtlpjdjbophcomaaDoorRyM
import Derived.Test.YtlpjdjbophcomaaDoorProg
namespace Go.Proofs.YtlpjdjbophcomaaDoor
open Go.RowKit
set_option linter.unusedVariables false
set_option linter.unusedSimpArgs false
set_option linter.unusedSectionVars false
set_option maxRecDepth 100000
set_option maxHeartbeats 4000000
section
variable {M : Nat → Prop} {B0 : Nat} {S : World → Prop} (hU : Up M B0 S) (y0 : Xs35) (a0 : Option Addr) (p0 : Nat) (q0 : Nat) (n0 : Nat) (k0 : Nat) (A0 : Nat → Member) (hR0 : Ro S c_Member 3 a0 p0 q0 n0 A0)
include hU y0 a0 p0 q0 n0 k0 A0 hR0
theorem go_btf_rightMemberNames_v2_L0 (s : Sh_btf_rightMemberNames_v2_L0) (r : Ex_btf_rightMemberNames_v2_L0) (h : lpO (st_btf_rightMemberNames_v2_L0 y0 n0 A0) s = some r) : GoesG Tryd.prog M B0 S (.loop bd_btf_rightMemberNames_v2_L0) 3 (fr_btf_rightMemberNames_v2_L0 y0 a0 p0 q0 n0 k0 A0 s) (Hs_btf_rightMemberNames_v2_L0 y0 a0 p0 q0 n0 k0 A0 s) (ex_btf_rightMemberNames_v2_L0 r) 2 (vf_btf_rightMemberNames_v2_L0 y0 a0 p0 q0 n0 k0 A0 r) (Hf_btf_rightMemberNames_v2_L0 y0 a0 p0 q0 n0 k0 A0 r) 3 :=
  goes_lpO (fun s q e => by
    cases s with
    | c0 s0_0 s0_1 s0_2 =>
      unfold st_btf_rightMemberNames_v2_L0 at e
      dsimp only at e
      replace e := cond_eq_or e
      rcases e with ⟨hq0, e⟩ | ⟨hq0, e⟩
      · replace e := cond_eq_or e
        rcases e with ⟨hq1, e⟩ | ⟨hq1, e⟩
        · replace e := cond_eq_or e
          rcases e with ⟨hq2, e⟩ | ⟨hq2, e⟩
          · replace e := cond_eq_or e
            rcases e with ⟨hq3, e⟩ | ⟨hq3, e⟩
            · replace e := cond_eq_or e
              rcases e with ⟨hq4, e⟩ | ⟨hq4, e⟩
              · replace e := bindO_eq e
                obtain ⟨rb0, e_rb0, e⟩ := e
                try dsimp only at e
                replace e := cond_eq_or e
                rcases e with ⟨hq5, e⟩ | ⟨hq5, e⟩
                · subst hq5
                  replace e := cond_eq_or e
                  rcases e with ⟨hq6, e⟩ | ⟨hq6, e⟩
                  · replace e := cond_eq_or e
                    rcases e with ⟨hq7, e⟩ | ⟨hq7, e⟩
                    · cases e; exact ⟨ne_ret, goes_runM hU [.b (z_lssT hq0), .q (ixRo_ok (kd := .i64) (T := 33) (x := s0_2) (sz := 3) rfl (fun w => by kernel_rfl) hR0 hq1), .l (accRo hR0 c_Member_len (inR_nat hq1) 0 [.string ((A0 (s0_2).toNat)).fName, .int .i64 (((A0 (s0_2).toNat)).fType), .int .i64 (((A0 (s0_2).toNat)).fBits)] rfl), .o, .a 3, .o, .a 0, .b (z_eqlT hq2), .o, .o, .a 3, .ov (fun w => (str_eql 9 ((A0 (s0_2).toNat)).fName (⟨#[]⟩ : ByteArray) (by kernel_rfl) (.tmp 20) (.const (.string (⟨#[]⟩ : ByteArray))) w).trans (congrArg (fun b => Result.ok (Next.value (Value.bool b)) w) hq3)), .o, .o, .o, .o, .a 3, .xg (lkE_has (T := 61) (kf := kv_Me61) (vf := vv_Me61) (N := s0_0) (A := s0_1) (e := (fun j => (((A0 (s0_2).toNat)).fName == (s0_1 j).fk))) (kt := 9) (el := 3) (x := .string ((A0 (s0_2).toNat)).fName) false (by kernel_rfl) (FG.plain (d := .string) (by kernel_rfl) trivial (fun _ => rfl)) (of_decide_eq_true hq4)) [1], .o, .xg (upG_has (T := 61) (kf := kv_Me61) (vf := vv_Me61) (N := s0_0) (A := s0_1) (e := (fun j => (((A0 (s0_2).toNat)).fName == (s0_1 j).fk))) (kt := 9) (el := 3) (d := .string) (⟨((A0 (s0_2).toNat)).fName, (IntKind.i64.wrap ((s0_1 (fdx (fun j => (((A0 (s0_2).toNat)).fName == (s0_1 j).fk)) s0_0)).fv + 1))⟩ : Me61) (by kernel_rfl) (by kernel_rfl) (fun _ => trivial) (fun _ => rfl) (of_decide_eq_true hq4)) [1], .o, .a 3, .cg (ok_btf_isName_v4 hU ((A0 (s0_2).toNat)).fName true e_rb0), .o, .o, .o, .o, .o, .o, .a 3, .xg (lkE_has (T := 61) (kf := kv_Me61) (vf := vv_Me61) (N := s0_0) (A := (updF s0_1 (fdx (fun j => (((A0 (s0_2).toNat)).fName == (s0_1 j).fk)) s0_0) (⟨((A0 (s0_2).toNat)).fName, (IntKind.i64.wrap ((s0_1 (fdx (fun j => (((A0 (s0_2).toNat)).fName == (s0_1 j).fk)) s0_0)).fv + 1))⟩ : Me61))) (e := (fun j => (((A0 (s0_2).toNat)).fName == ((updF s0_1 (fdx (fun j => (((A0 (s0_2).toNat)).fName == (s0_1 j).fk)) s0_0) (⟨((A0 (s0_2).toNat)).fName, (IntKind.i64.wrap ((s0_1 (fdx (fun j => (((A0 (s0_2).toNat)).fName == (s0_1 j).fk)) s0_0)).fv + 1))⟩ : Me61)) j).fk))) (kt := 9) (el := 3) (x := .string ((A0 (s0_2).toNat)).fName) false (by kernel_rfl) (FG.plain (d := .string) (by kernel_rfl) trivial (fun _ => rfl)) (of_decide_eq_true hq6)) [1], .b (z_gtrT hq7), .o, .o] [0, 1] (fun b => rfl) (by decide) rfl rfl (fun b => by kernel_rfl)⟩
                    · cases e; exact goes_runM hU [.b (z_lssT hq0), .q (ixRo_ok (kd := .i64) (T := 33) (x := s0_2) (sz := 3) rfl (fun w => by kernel_rfl) hR0 hq1), .l (accRo hR0 c_Member_len (inR_nat hq1) 0 [.string ((A0 (s0_2).toNat)).fName, .int .i64 (((A0 (s0_2).toNat)).fType), .int .i64 (((A0 (s0_2).toNat)).fBits)] rfl), .o, .a 3, .o, .a 0, .b (z_eqlT hq2), .o, .o, .a 3, .ov (fun w => (str_eql 9 ((A0 (s0_2).toNat)).fName (⟨#[]⟩ : ByteArray) (by kernel_rfl) (.tmp 20) (.const (.string (⟨#[]⟩ : ByteArray))) w).trans (congrArg (fun b => Result.ok (Next.value (Value.bool b)) w) hq3)), .o, .o, .o, .o, .a 3, .xg (lkE_has (T := 61) (kf := kv_Me61) (vf := vv_Me61) (N := s0_0) (A := s0_1) (e := (fun j => (((A0 (s0_2).toNat)).fName == (s0_1 j).fk))) (kt := 9) (el := 3) (x := .string ((A0 (s0_2).toNat)).fName) false (by kernel_rfl) (FG.plain (d := .string) (by kernel_rfl) trivial (fun _ => rfl)) (of_decide_eq_true hq4)) [1], .o, .xg (upG_has (T := 61) (kf := kv_Me61) (vf := vv_Me61) (N := s0_0) (A := s0_1) (e := (fun j => (((A0 (s0_2).toNat)).fName == (s0_1 j).fk))) (kt := 9) (el := 3) (d := .string) (⟨((A0 (s0_2).toNat)).fName, (IntKind.i64.wrap ((s0_1 (fdx (fun j => (((A0 (s0_2).toNat)).fName == (s0_1 j).fk)) s0_0)).fv + 1))⟩ : Me61) (by kernel_rfl) (by kernel_rfl) (fun _ => trivial) (fun _ => rfl) (of_decide_eq_true hq4)) [1], .o, .a 3, .cg (ok_btf_isName_v4 hU ((A0 (s0_2).toNat)).fName true e_rb0), .o, .o, .o, .o, .o, .o, .a 3, .xg (lkE_has (T := 61) (kf := kv_Me61) (vf := vv_Me61) (N := s0_0) (A := (updF s0_1 (fdx (fun j => (((A0 (s0_2).toNat)).fName == (s0_1 j).fk)) s0_0) (⟨((A0 (s0_2).toNat)).fName, (IntKind.i64.wrap ((s0_1 (fdx (fun j => (((A0 (s0_2).toNat)).fName == (s0_1 j).fk)) s0_0)).fv + 1))⟩ : Me61))) (e := (fun j => (((A0 (s0_2).toNat)).fName == ((updF s0_1 (fdx (fun j => (((A0 (s0_2).toNat)).fName == (s0_1 j).fk)) s0_0) (⟨((A0 (s0_2).toNat)).fName, (IntKind.i64.wrap ((s0_1 (fdx (fun j => (((A0 (s0_2).toNat)).fName == (s0_1 j).fk)) s0_0)).fv + 1))⟩ : Me61)) j).fk))) (kt := 9) (el := 3) (x := .string ((A0 (s0_2).toNat)).fName) false (by kernel_rfl) (FG.plain (d := .string) (by kernel_rfl) trivial (fun _ => rfl)) (of_decide_eq_true hq6)) [1], .b (z_gtrF hq7), .o, .o, .o] [0, 1] (fun b => rfl) (by decide) rfl rfl (fun b => by kernel_rfl)
                  · cases e; exact goes_runM hU [.b (z_lssT hq0), .q (ixRo_ok (kd := .i64) (T := 33) (x := s0_2) (sz := 3) rfl (fun w => by kernel_rfl) hR0 hq1), .l (accRo hR0 c_Member_len (inR_nat hq1) 0 [.string ((A0 (s0_2).toNat)).fName, .int .i64 (((A0 (s0_2).toNat)).fType), .int .i64 (((A0 (s0_2).toNat)).fBits)] rfl), .o, .a 3, .o, .a 0, .b (z_eqlT hq2), .o, .o, .a 3, .ov (fun w => (str_eql 9 ((A0 (s0_2).toNat)).fName (⟨#[]⟩ : ByteArray) (by kernel_rfl) (.tmp 20) (.const (.string (⟨#[]⟩ : ByteArray))) w).trans (congrArg (fun b => Result.ok (Next.value (Value.bool b)) w) hq3)), .o, .o, .o, .o, .a 3, .xg (lkE_has (T := 61) (kf := kv_Me61) (vf := vv_Me61) (N := s0_0) (A := s0_1) (e := (fun j => (((A0 (s0_2).toNat)).fName == (s0_1 j).fk))) (kt := 9) (el := 3) (x := .string ((A0 (s0_2).toNat)).fName) false (by kernel_rfl) (FG.plain (d := .string) (by kernel_rfl) trivial (fun _ => rfl)) (of_decide_eq_true hq4)) [1], .o, .xg (upG_has (T := 61) (kf := kv_Me61) (vf := vv_Me61) (N := s0_0) (A := s0_1) (e := (fun j => (((A0 (s0_2).toNat)).fName == (s0_1 j).fk))) (kt := 9) (el := 3) (d := .string) (⟨((A0 (s0_2).toNat)).fName, (IntKind.i64.wrap ((s0_1 (fdx (fun j => (((A0 (s0_2).toNat)).fName == (s0_1 j).fk)) s0_0)).fv + 1))⟩ : Me61) (by kernel_rfl) (by kernel_rfl) (fun _ => trivial) (fun _ => rfl) (of_decide_eq_true hq4)) [1], .o, .a 3, .cg (ok_btf_isName_v4 hU ((A0 (s0_2).toNat)).fName true e_rb0), .o, .o, .o, .o, .o, .o, .a 3, .xg (lkE_none (T := 61) (kf := kv_Me61) (vf := vv_Me61) (N := s0_0) (A := (updF s0_1 (fdx (fun j => (((A0 (s0_2).toNat)).fName == (s0_1 j).fk)) s0_0) (⟨((A0 (s0_2).toNat)).fName, (IntKind.i64.wrap ((s0_1 (fdx (fun j => (((A0 (s0_2).toNat)).fName == (s0_1 j).fk)) s0_0)).fv + 1))⟩ : Me61))) (e := (fun j => (((A0 (s0_2).toNat)).fName == ((updF s0_1 (fdx (fun j => (((A0 (s0_2).toNat)).fName == (s0_1 j).fk)) s0_0) (⟨((A0 (s0_2).toNat)).fName, (IntKind.i64.wrap ((s0_1 (fdx (fun j => (((A0 (s0_2).toNat)).fName == (s0_1 j).fk)) s0_0)).fv + 1))⟩ : Me61)) j).fk))) (kt := 9) (el := 3) (x := .string ((A0 (s0_2).toNat)).fName) false (.int .i64 (0)) (by kernel_rfl) (FG.plain (d := .string) (by kernel_rfl) trivial (fun _ => rfl)) (fun w => by kernel_rfl) (of_decide_eq_false hq6)) [1], .o, .o, .o, .o] [0, 1] (fun b => rfl) (by decide) rfl rfl (fun b => by kernel_rfl)
                · subst hq5
                  replace e := cond_eq_or e
                  rcases e with ⟨hq6, e⟩ | ⟨hq6, e⟩
                  · replace e := cond_eq_or e
                    rcases e with ⟨hq7, e⟩ | ⟨hq7, e⟩
                    · cases e; exact ⟨ne_ret, goes_runM hU [.b (z_lssT hq0), .q (ixRo_ok (kd := .i64) (T := 33) (x := s0_2) (sz := 3) rfl (fun w => by kernel_rfl) hR0 hq1), .l (accRo hR0 c_Member_len (inR_nat hq1) 0 [.string ((A0 (s0_2).toNat)).fName, .int .i64 (((A0 (s0_2).toNat)).fType), .int .i64 (((A0 (s0_2).toNat)).fBits)] rfl), .o, .a 3, .o, .a 0, .b (z_eqlT hq2), .o, .o, .a 3, .ov (fun w => (str_eql 9 ((A0 (s0_2).toNat)).fName (⟨#[]⟩ : ByteArray) (by kernel_rfl) (.tmp 20) (.const (.string (⟨#[]⟩ : ByteArray))) w).trans (congrArg (fun b => Result.ok (Next.value (Value.bool b)) w) hq3)), .o, .o, .o, .o, .a 3, .xg (lkE_has (T := 61) (kf := kv_Me61) (vf := vv_Me61) (N := s0_0) (A := s0_1) (e := (fun j => (((A0 (s0_2).toNat)).fName == (s0_1 j).fk))) (kt := 9) (el := 3) (x := .string ((A0 (s0_2).toNat)).fName) false (by kernel_rfl) (FG.plain (d := .string) (by kernel_rfl) trivial (fun _ => rfl)) (of_decide_eq_true hq4)) [1], .o, .xg (upG_has (T := 61) (kf := kv_Me61) (vf := vv_Me61) (N := s0_0) (A := s0_1) (e := (fun j => (((A0 (s0_2).toNat)).fName == (s0_1 j).fk))) (kt := 9) (el := 3) (d := .string) (⟨((A0 (s0_2).toNat)).fName, (IntKind.i64.wrap ((s0_1 (fdx (fun j => (((A0 (s0_2).toNat)).fName == (s0_1 j).fk)) s0_0)).fv + 1))⟩ : Me61) (by kernel_rfl) (by kernel_rfl) (fun _ => trivial) (fun _ => rfl) (of_decide_eq_true hq4)) [1], .o, .a 3, .cg (ok_btf_isName_v4 hU ((A0 (s0_2).toNat)).fName false e_rb0), .o, .o, .o, .o, .o, .o, .o, .o, .a 3, .xg (lkE_has (T := 61) (kf := kv_Me61) (vf := vv_Me61) (N := s0_0) (A := (updF s0_1 (fdx (fun j => (((A0 (s0_2).toNat)).fName == (s0_1 j).fk)) s0_0) (⟨((A0 (s0_2).toNat)).fName, (IntKind.i64.wrap ((s0_1 (fdx (fun j => (((A0 (s0_2).toNat)).fName == (s0_1 j).fk)) s0_0)).fv + 1))⟩ : Me61))) (e := (fun j => (((A0 (s0_2).toNat)).fName == ((updF s0_1 (fdx (fun j => (((A0 (s0_2).toNat)).fName == (s0_1 j).fk)) s0_0) (⟨((A0 (s0_2).toNat)).fName, (IntKind.i64.wrap ((s0_1 (fdx (fun j => (((A0 (s0_2).toNat)).fName == (s0_1 j).fk)) s0_0)).fv + 1))⟩ : Me61)) j).fk))) (kt := 9) (el := 3) (x := .string ((A0 (s0_2).toNat)).fName) false (by kernel_rfl) (FG.plain (d := .string) (by kernel_rfl) trivial (fun _ => rfl)) (of_decide_eq_true hq6)) [1], .b (z_gtrT hq7), .o, .o] [0, 1] (fun b => rfl) (by decide) rfl rfl (fun b => by kernel_rfl)⟩
                    · cases e; exact goes_runM hU [.b (z_lssT hq0), .q (ixRo_ok (kd := .i64) (T := 33) (x := s0_2) (sz := 3) rfl (fun w => by kernel_rfl) hR0 hq1), .l (accRo hR0 c_Member_len (inR_nat hq1) 0 [.string ((A0 (s0_2).toNat)).fName, .int .i64 (((A0 (s0_2).toNat)).fType), .int .i64 (((A0 (s0_2).toNat)).fBits)] rfl), .o, .a 3, .o, .a 0, .b (z_eqlT hq2), .o, .o, .a 3, .ov (fun w => (str_eql 9 ((A0 (s0_2).toNat)).fName (⟨#[]⟩ : ByteArray) (by kernel_rfl) (.tmp 20) (.const (.string (⟨#[]⟩ : ByteArray))) w).trans (congrArg (fun b => Result.ok (Next.value (Value.bool b)) w) hq3)), .o, .o, .o, .o, .a 3, .xg (lkE_has (T := 61) (kf := kv_Me61) (vf := vv_Me61) (N := s0_0) (A := s0_1) (e := (fun j => (((A0 (s0_2).toNat)).fName == (s0_1 j).fk))) (kt := 9) (el := 3) (x := .string ((A0 (s0_2).toNat)).fName) false (by kernel_rfl) (FG.plain (d := .string) (by kernel_rfl) trivial (fun _ => rfl)) (of_decide_eq_true hq4)) [1], .o, .xg (upG_has (T := 61) (kf := kv_Me61) (vf := vv_Me61) (N := s0_0) (A := s0_1) (e := (fun j => (((A0 (s0_2).toNat)).fName == (s0_1 j).fk))) (kt := 9) (el := 3) (d := .string) (⟨((A0 (s0_2).toNat)).fName, (IntKind.i64.wrap ((s0_1 (fdx (fun j => (((A0 (s0_2).toNat)).fName == (s0_1 j).fk)) s0_0)).fv + 1))⟩ : Me61) (by kernel_rfl) (by kernel_rfl) (fun _ => trivial) (fun _ => rfl) (of_decide_eq_true hq4)) [1], .o, .a 3, .cg (ok_btf_isName_v4 hU ((A0 (s0_2).toNat)).fName false e_rb0), .o, .o, .o, .o, .o, .o, .o, .o, .a 3, .xg (lkE_has (T := 61) (kf := kv_Me61) (vf := vv_Me61) (N := s0_0) (A := (updF s0_1 (fdx (fun j => (((A0 (s0_2).toNat)).fName == (s0_1 j).fk)) s0_0) (⟨((A0 (s0_2).toNat)).fName, (IntKind.i64.wrap ((s0_1 (fdx (fun j => (((A0 (s0_2).toNat)).fName == (s0_1 j).fk)) s0_0)).fv + 1))⟩ : Me61))) (e := (fun j => (((A0 (s0_2).toNat)).fName == ((updF s0_1 (fdx (fun j => (((A0 (s0_2).toNat)).fName == (s0_1 j).fk)) s0_0) (⟨((A0 (s0_2).toNat)).fName, (IntKind.i64.wrap ((s0_1 (fdx (fun j => (((A0 (s0_2).toNat)).fName == (s0_1 j).fk)) s0_0)).fv + 1))⟩ : Me61)) j).fk))) (kt := 9) (el := 3) (x := .string ((A0 (s0_2).toNat)).fName) false (by kernel_rfl) (FG.plain (d := .string) (by kernel_rfl) trivial (fun _ => rfl)) (of_decide_eq_true hq6)) [1], .b (z_gtrF hq7), .o, .o, .o] [0, 1] (fun b => rfl) (by decide) rfl rfl (fun b => by kernel_rfl)
                  · cases e; exact goes_runM hU [.b (z_lssT hq0), .q (ixRo_ok (kd := .i64) (T := 33) (x := s0_2) (sz := 3) rfl (fun w => by kernel_rfl) hR0 hq1), .l (accRo hR0 c_Member_len (inR_nat hq1) 0 [.string ((A0 (s0_2).toNat)).fName, .int .i64 (((A0 (s0_2).toNat)).fType), .int .i64 (((A0 (s0_2).toNat)).fBits)] rfl), .o, .a 3, .o, .a 0, .b (z_eqlT hq2), .o, .o, .a 3, .ov (fun w => (str_eql 9 ((A0 (s0_2).toNat)).fName (⟨#[]⟩ : ByteArray) (by kernel_rfl) (.tmp 20) (.const (.string (⟨#[]⟩ : ByteArray))) w).trans (congrArg (fun b => Result.ok (Next.value (Value.bool b)) w) hq3)), .o, .o, .o, .o, .a 3, .xg (lkE_has (T := 61) (kf := kv_Me61) (vf := vv_Me61) (N := s0_0) (A := s0_1) (e := (fun j => (((A0 (s0_2).toNat)).fName == (s0_1 j).fk))) (kt := 9) (el := 3) (x := .string ((A0 (s0_2).toNat)).fName) false (by kernel_rfl) (FG.plain (d := .string) (by kernel_rfl) trivial (fun _ => rfl)) (of_decide_eq_true hq4)) [1], .o, .xg (upG_has (T := 61) (kf := kv_Me61) (vf := vv_Me61) (N := s0_0) (A := s0_1) (e := (fun j => (((A0 (s0_2).toNat)).fName == (s0_1 j).fk))) (kt := 9) (el := 3) (d := .string) (⟨((A0 (s0_2).toNat)).fName, (IntKind.i64.wrap ((s0_1 (fdx (fun j => (((A0 (s0_2).toNat)).fName == (s0_1 j).fk)) s0_0)).fv + 1))⟩ : Me61) (by kernel_rfl) (by kernel_rfl) (fun _ => trivial) (fun _ => rfl) (of_decide_eq_true hq4)) [1], .o, .a 3, .cg (ok_btf_isName_v4 hU ((A0 (s0_2).toNat)).fName false e_rb0), .o, .o, .o, .o, .o, .o, .o, .o, .a 3, .xg (lkE_none (T := 61) (kf := kv_Me61) (vf := vv_Me61) (N := s0_0) (A := (updF s0_1 (fdx (fun j => (((A0 (s0_2).toNat)).fName == (s0_1 j).fk)) s0_0) (⟨((A0 (s0_2).toNat)).fName, (IntKind.i64.wrap ((s0_1 (fdx (fun j => (((A0 (s0_2).toNat)).fName == (s0_1 j).fk)) s0_0)).fv + 1))⟩ : Me61))) (e := (fun j => (((A0 (s0_2).toNat)).fName == ((updF s0_1 (fdx (fun j => (((A0 (s0_2).toNat)).fName == (s0_1 j).fk)) s0_0) (⟨((A0 (s0_2).toNat)).fName, (IntKind.i64.wrap ((s0_1 (fdx (fun j => (((A0 (s0_2).toNat)).fName == (s0_1 j).fk)) s0_0)).fv + 1))⟩ : Me61)) j).fk))) (kt := 9) (el := 3) (x := .string ((A0 (s0_2).toNat)).fName) false (.int .i64 (0)) (by kernel_rfl) (FG.plain (d := .string) (by kernel_rfl) trivial (fun _ => rfl)) (fun w => by kernel_rfl) (of_decide_eq_false hq6)) [1], .o, .o, .o, .o] [0, 1] (fun b => rfl) (by decide) rfl rfl (fun b => by kernel_rfl)
              · replace e := bindO_eq e
                obtain ⟨rb0, e_rb0, e⟩ := e
                try dsimp only at e
                replace e := cond_eq_or e
                rcases e with ⟨hq5, e⟩ | ⟨hq5, e⟩
                · subst hq5
                  replace e := cond_eq_or e
                  rcases e with ⟨hq6, e⟩ | ⟨hq6, e⟩
                  · replace e := cond_eq_or e
                    rcases e with ⟨hq7, e⟩ | ⟨hq7, e⟩
                    · cases e; exact ⟨ne_ret, goes_runM hU [.b (z_lssT hq0), .q (ixRo_ok (kd := .i64) (T := 33) (x := s0_2) (sz := 3) rfl (fun w => by kernel_rfl) hR0 hq1), .l (accRo hR0 c_Member_len (inR_nat hq1) 0 [.string ((A0 (s0_2).toNat)).fName, .int .i64 (((A0 (s0_2).toNat)).fType), .int .i64 (((A0 (s0_2).toNat)).fBits)] rfl), .o, .a 3, .o, .a 0, .b (z_eqlT hq2), .o, .o, .a 3, .ov (fun w => (str_eql 9 ((A0 (s0_2).toNat)).fName (⟨#[]⟩ : ByteArray) (by kernel_rfl) (.tmp 20) (.const (.string (⟨#[]⟩ : ByteArray))) w).trans (congrArg (fun b => Result.ok (Next.value (Value.bool b)) w) hq3)), .o, .o, .o, .o, .a 3, .xg (lkE_none (T := 61) (kf := kv_Me61) (vf := vv_Me61) (N := s0_0) (A := s0_1) (e := (fun j => (((A0 (s0_2).toNat)).fName == (s0_1 j).fk))) (kt := 9) (el := 3) (x := .string ((A0 (s0_2).toNat)).fName) false (.int .i64 (0)) (by kernel_rfl) (FG.plain (d := .string) (by kernel_rfl) trivial (fun _ => rfl)) (fun w => by kernel_rfl) (of_decide_eq_false hq4)) [1], .o, .xg (upG_new (T := 61) (kf := kv_Me61) (vf := vv_Me61) (N := s0_0) (A := s0_1) (e := (fun j => (((A0 (s0_2).toNat)).fName == (s0_1 j).fk))) (kt := 9) (el := 3) (d := .string) (⟨((A0 (s0_2).toNat)).fName, 1⟩ : Me61) (by kernel_rfl) (by kernel_rfl) trivial (fun _ => rfl) (of_decide_eq_false hq4)) [1], .o, .a 3, .cg (ok_btf_isName_v4 hU ((A0 (s0_2).toNat)).fName true e_rb0), .o, .o, .o, .o, .o, .o, .a 3, .xg (lkE_has (T := 61) (kf := kv_Me61) (vf := vv_Me61) (N := (s0_0 + 1)) (A := (updF s0_1 s0_0 (⟨((A0 (s0_2).toNat)).fName, 1⟩ : Me61))) (e := (fun j => (((A0 (s0_2).toNat)).fName == ((updF s0_1 s0_0 (⟨((A0 (s0_2).toNat)).fName, 1⟩ : Me61)) j).fk))) (kt := 9) (el := 3) (x := .string ((A0 (s0_2).toNat)).fName) false (by kernel_rfl) (FG.plain (d := .string) (by kernel_rfl) trivial (fun _ => rfl)) (of_decide_eq_true hq6)) [1], .b (z_gtrT hq7), .o, .o] [0, 1] (fun b => rfl) (by decide) rfl rfl (fun b => by kernel_rfl)⟩
                    · cases e; exact goes_runM hU [.b (z_lssT hq0), .q (ixRo_ok (kd := .i64) (T := 33) (x := s0_2) (sz := 3) rfl (fun w => by kernel_rfl) hR0 hq1), .l (accRo hR0 c_Member_len (inR_nat hq1) 0 [.string ((A0 (s0_2).toNat)).fName, .int .i64 (((A0 (s0_2).toNat)).fType), .int .i64 (((A0 (s0_2).toNat)).fBits)] rfl), .o, .a 3, .o, .a 0, .b (z_eqlT hq2), .o, .o, .a 3, .ov (fun w => (str_eql 9 ((A0 (s0_2).toNat)).fName (⟨#[]⟩ : ByteArray) (by kernel_rfl) (.tmp 20) (.const (.string (⟨#[]⟩ : ByteArray))) w).trans (congrArg (fun b => Result.ok (Next.value (Value.bool b)) w) hq3)), .o, .o, .o, .o, .a 3, .xg (lkE_none (T := 61) (kf := kv_Me61) (vf := vv_Me61) (N := s0_0) (A := s0_1) (e := (fun j => (((A0 (s0_2).toNat)).fName == (s0_1 j).fk))) (kt := 9) (el := 3) (x := .string ((A0 (s0_2).toNat)).fName) false (.int .i64 (0)) (by kernel_rfl) (FG.plain (d := .string) (by kernel_rfl) trivial (fun _ => rfl)) (fun w => by kernel_rfl) (of_decide_eq_false hq4)) [1], .o, .xg (upG_new (T := 61) (kf := kv_Me61) (vf := vv_Me61) (N := s0_0) (A := s0_1) (e := (fun j => (((A0 (s0_2).toNat)).fName == (s0_1 j).fk))) (kt := 9) (el := 3) (d := .string) (⟨((A0 (s0_2).toNat)).fName, 1⟩ : Me61) (by kernel_rfl) (by kernel_rfl) trivial (fun _ => rfl) (of_decide_eq_false hq4)) [1], .o, .a 3, .cg (ok_btf_isName_v4 hU ((A0 (s0_2).toNat)).fName true e_rb0), .o, .o, .o, .o, .o, .o, .a 3, .xg (lkE_has (T := 61) (kf := kv_Me61) (vf := vv_Me61) (N := (s0_0 + 1)) (A := (updF s0_1 s0_0 (⟨((A0 (s0_2).toNat)).fName, 1⟩ : Me61))) (e := (fun j => (((A0 (s0_2).toNat)).fName == ((updF s0_1 s0_0 (⟨((A0 (s0_2).toNat)).fName, 1⟩ : Me61)) j).fk))) (kt := 9) (el := 3) (x := .string ((A0 (s0_2).toNat)).fName) false (by kernel_rfl) (FG.plain (d := .string) (by kernel_rfl) trivial (fun _ => rfl)) (of_decide_eq_true hq6)) [1], .b (z_gtrF hq7), .o, .o, .o] [0, 1] (fun b => rfl) (by decide) rfl rfl (fun b => by kernel_rfl)
                  · cases e; exact goes_runM hU [.b (z_lssT hq0), .q (ixRo_ok (kd := .i64) (T := 33) (x := s0_2) (sz := 3) rfl (fun w => by kernel_rfl) hR0 hq1), .l (accRo hR0 c_Member_len (inR_nat hq1) 0 [.string ((A0 (s0_2).toNat)).fName, .int .i64 (((A0 (s0_2).toNat)).fType), .int .i64 (((A0 (s0_2).toNat)).fBits)] rfl), .o, .a 3, .o, .a 0, .b (z_eqlT hq2), .o, .o, .a 3, .ov (fun w => (str_eql 9 ((A0 (s0_2).toNat)).fName (⟨#[]⟩ : ByteArray) (by kernel_rfl) (.tmp 20) (.const (.string (⟨#[]⟩ : ByteArray))) w).trans (congrArg (fun b => Result.ok (Next.value (Value.bool b)) w) hq3)), .o, .o, .o, .o, .a 3, .xg (lkE_none (T := 61) (kf := kv_Me61) (vf := vv_Me61) (N := s0_0) (A := s0_1) (e := (fun j => (((A0 (s0_2).toNat)).fName == (s0_1 j).fk))) (kt := 9) (el := 3) (x := .string ((A0 (s0_2).toNat)).fName) false (.int .i64 (0)) (by kernel_rfl) (FG.plain (d := .string) (by kernel_rfl) trivial (fun _ => rfl)) (fun w => by kernel_rfl) (of_decide_eq_false hq4)) [1], .o, .xg (upG_new (T := 61) (kf := kv_Me61) (vf := vv_Me61) (N := s0_0) (A := s0_1) (e := (fun j => (((A0 (s0_2).toNat)).fName == (s0_1 j).fk))) (kt := 9) (el := 3) (d := .string) (⟨((A0 (s0_2).toNat)).fName, 1⟩ : Me61) (by kernel_rfl) (by kernel_rfl) trivial (fun _ => rfl) (of_decide_eq_false hq4)) [1], .o, .a 3, .cg (ok_btf_isName_v4 hU ((A0 (s0_2).toNat)).fName true e_rb0), .o, .o, .o, .o, .o, .o, .a 3, .xg (lkE_none (T := 61) (kf := kv_Me61) (vf := vv_Me61) (N := (s0_0 + 1)) (A := (updF s0_1 s0_0 (⟨((A0 (s0_2).toNat)).fName, 1⟩ : Me61))) (e := (fun j => (((A0 (s0_2).toNat)).fName == ((updF s0_1 s0_0 (⟨((A0 (s0_2).toNat)).fName, 1⟩ : Me61)) j).fk))) (kt := 9) (el := 3) (x := .string ((A0 (s0_2).toNat)).fName) false (.int .i64 (0)) (by kernel_rfl) (FG.plain (d := .string) (by kernel_rfl) trivial (fun _ => rfl)) (fun w => by kernel_rfl) (of_decide_eq_false hq6)) [1], .o, .o, .o, .o] [0, 1] (fun b => rfl) (by decide) rfl rfl (fun b => by kernel_rfl)
                · subst hq5
                  replace e := cond_eq_or e
                  rcases e with ⟨hq6, e⟩ | ⟨hq6, e⟩
                  · replace e := cond_eq_or e
                    rcases e with ⟨hq7, e⟩ | ⟨hq7, e⟩
                    · cases e; exact ⟨ne_ret, goes_runM hU [.b (z_lssT hq0), .q (ixRo_ok (kd := .i64) (T := 33) (x := s0_2) (sz := 3) rfl (fun w => by kernel_rfl) hR0 hq1), .l (accRo hR0 c_Member_len (inR_nat hq1) 0 [.string ((A0 (s0_2).toNat)).fName, .int .i64 (((A0 (s0_2).toNat)).fType), .int .i64 (((A0 (s0_2).toNat)).fBits)] rfl), .o, .a 3, .o, .a 0, .b (z_eqlT hq2), .o, .o, .a 3, .ov (fun w => (str_eql 9 ((A0 (s0_2).toNat)).fName (⟨#[]⟩ : ByteArray) (by kernel_rfl) (.tmp 20) (.const (.string (⟨#[]⟩ : ByteArray))) w).trans (congrArg (fun b => Result.ok (Next.value (Value.bool b)) w) hq3)), .o, .o, .o, .o, .a 3, .xg (lkE_none (T := 61) (kf := kv_Me61) (vf := vv_Me61) (N := s0_0) (A := s0_1) (e := (fun j => (((A0 (s0_2).toNat)).fName == (s0_1 j).fk))) (kt := 9) (el := 3) (x := .string ((A0 (s0_2).toNat)).fName) false (.int .i64 (0)) (by kernel_rfl) (FG.plain (d := .string) (by kernel_rfl) trivial (fun _ => rfl)) (fun w => by kernel_rfl) (of_decide_eq_false hq4)) [1], .o, .xg (upG_new (T := 61) (kf := kv_Me61) (vf := vv_Me61) (N := s0_0) (A := s0_1) (e := (fun j => (((A0 (s0_2).toNat)).fName == (s0_1 j).fk))) (kt := 9) (el := 3) (d := .string) (⟨((A0 (s0_2).toNat)).fName, 1⟩ : Me61) (by kernel_rfl) (by kernel_rfl) trivial (fun _ => rfl) (of_decide_eq_false hq4)) [1], .o, .a 3, .cg (ok_btf_isName_v4 hU ((A0 (s0_2).toNat)).fName false e_rb0), .o, .o, .o, .o, .o, .o, .o, .o, .a 3, .xg (lkE_has (T := 61) (kf := kv_Me61) (vf := vv_Me61) (N := (s0_0 + 1)) (A := (updF s0_1 s0_0 (⟨((A0 (s0_2).toNat)).fName, 1⟩ : Me61))) (e := (fun j => (((A0 (s0_2).toNat)).fName == ((updF s0_1 s0_0 (⟨((A0 (s0_2).toNat)).fName, 1⟩ : Me61)) j).fk))) (kt := 9) (el := 3) (x := .string ((A0 (s0_2).toNat)).fName) false (by kernel_rfl) (FG.plain (d := .string) (by kernel_rfl) trivial (fun _ => rfl)) (of_decide_eq_true hq6)) [1], .b (z_gtrT hq7), .o, .o] [0, 1] (fun b => rfl) (by decide) rfl rfl (fun b => by kernel_rfl)⟩
                    · cases e; exact goes_runM hU [.b (z_lssT hq0), .q (ixRo_ok (kd := .i64) (T := 33) (x := s0_2) (sz := 3) rfl (fun w => by kernel_rfl) hR0 hq1), .l (accRo hR0 c_Member_len (inR_nat hq1) 0 [.string ((A0 (s0_2).toNat)).fName, .int .i64 (((A0 (s0_2).toNat)).fType), .int .i64 (((A0 (s0_2).toNat)).fBits)] rfl), .o, .a 3, .o, .a 0, .b (z_eqlT hq2), .o, .o, .a 3, .ov (fun w => (str_eql 9 ((A0 (s0_2).toNat)).fName (⟨#[]⟩ : ByteArray) (by kernel_rfl) (.tmp 20) (.const (.string (⟨#[]⟩ : ByteArray))) w).trans (congrArg (fun b => Result.ok (Next.value (Value.bool b)) w) hq3)), .o, .o, .o, .o, .a 3, .xg (lkE_none (T := 61) (kf := kv_Me61) (vf := vv_Me61) (N := s0_0) (A := s0_1) (e := (fun j => (((A0 (s0_2).toNat)).fName == (s0_1 j).fk))) (kt := 9) (el := 3) (x := .string ((A0 (s0_2).toNat)).fName) false (.int .i64 (0)) (by kernel_rfl) (FG.plain (d := .string) (by kernel_rfl) trivial (fun _ => rfl)) (fun w => by kernel_rfl) (of_decide_eq_false hq4)) [1], .o, .xg (upG_new (T := 61) (kf := kv_Me61) (vf := vv_Me61) (N := s0_0) (A := s0_1) (e := (fun j => (((A0 (s0_2).toNat)).fName == (s0_1 j).fk))) (kt := 9) (el := 3) (d := .string) (⟨((A0 (s0_2).toNat)).fName, 1⟩ : Me61) (by kernel_rfl) (by kernel_rfl) trivial (fun _ => rfl) (of_decide_eq_false hq4)) [1], .o, .a 3, .cg (ok_btf_isName_v4 hU ((A0 (s0_2).toNat)).fName false e_rb0), .o, .o, .o, .o, .o, .o, .o, .o, .a 3, .xg (lkE_has (T := 61) (kf := kv_Me61) (vf := vv_Me61) (N := (s0_0 + 1)) (A := (updF s0_1 s0_0 (⟨((A0 (s0_2).toNat)).fName, 1⟩ : Me61))) (e := (fun j => (((A0 (s0_2).toNat)).fName == ((updF s0_1 s0_0 (⟨((A0 (s0_2).toNat)).fName, 1⟩ : Me61)) j).fk))) (kt := 9) (el := 3) (x := .string ((A0 (s0_2).toNat)).fName) false (by kernel_rfl) (FG.plain (d := .string) (by kernel_rfl) trivial (fun _ => rfl)) (of_decide_eq_true hq6)) [1], .b (z_gtrF hq7), .o, .o, .o] [0, 1] (fun b => rfl) (by decide) rfl rfl (fun b => by kernel_rfl)
                  · cases e; exact goes_runM hU [.b (z_lssT hq0), .q (ixRo_ok (kd := .i64) (T := 33) (x := s0_2) (sz := 3) rfl (fun w => by kernel_rfl) hR0 hq1), .l (accRo hR0 c_Member_len (inR_nat hq1) 0 [.string ((A0 (s0_2).toNat)).fName, .int .i64 (((A0 (s0_2).toNat)).fType), .int .i64 (((A0 (s0_2).toNat)).fBits)] rfl), .o, .a 3, .o, .a 0, .b (z_eqlT hq2), .o, .o, .a 3, .ov (fun w => (str_eql 9 ((A0 (s0_2).toNat)).fName (⟨#[]⟩ : ByteArray) (by kernel_rfl) (.tmp 20) (.const (.string (⟨#[]⟩ : ByteArray))) w).trans (congrArg (fun b => Result.ok (Next.value (Value.bool b)) w) hq3)), .o, .o, .o, .o, .a 3, .xg (lkE_none (T := 61) (kf := kv_Me61) (vf := vv_Me61) (N := s0_0) (A := s0_1) (e := (fun j => (((A0 (s0_2).toNat)).fName == (s0_1 j).fk))) (kt := 9) (el := 3) (x := .string ((A0 (s0_2).toNat)).fName) false (.int .i64 (0)) (by kernel_rfl) (FG.plain (d := .string) (by kernel_rfl) trivial (fun _ => rfl)) (fun w => by kernel_rfl) (of_decide_eq_false hq4)) [1], .o, .xg (upG_new (T := 61) (kf := kv_Me61) (vf := vv_Me61) (N := s0_0) (A := s0_1) (e := (fun j => (((A0 (s0_2).toNat)).fName == (s0_1 j).fk))) (kt := 9) (el := 3) (d := .string) (⟨((A0 (s0_2).toNat)).fName, 1⟩ : Me61) (by kernel_rfl) (by kernel_rfl) trivial (fun _ => rfl) (of_decide_eq_false hq4)) [1], .o, .a 3, .cg (ok_btf_isName_v4 hU ((A0 (s0_2).toNat)).fName false e_rb0), .o, .o, .o, .o, .o, .o, .o, .o, .a 3, .xg (lkE_none (T := 61) (kf := kv_Me61) (vf := vv_Me61) (N := (s0_0 + 1)) (A := (updF s0_1 s0_0 (⟨((A0 (s0_2).toNat)).fName, 1⟩ : Me61))) (e := (fun j => (((A0 (s0_2).toNat)).fName == ((updF s0_1 s0_0 (⟨((A0 (s0_2).toNat)).fName, 1⟩ : Me61)) j).fk))) (kt := 9) (el := 3) (x := .string ((A0 (s0_2).toNat)).fName) false (.int .i64 (0)) (by kernel_rfl) (FG.plain (d := .string) (by kernel_rfl) trivial (fun _ => rfl)) (fun w => by kernel_rfl) (of_decide_eq_false hq6)) [1], .o, .o, .o, .o] [0, 1] (fun b => rfl) (by decide) rfl rfl (fun b => by kernel_rfl)
            · replace e := cond_eq_or e
              rcases e with ⟨hq4, e⟩ | ⟨hq4, e⟩
              · replace e := bindO_eq e
                obtain ⟨rb0, e_rb0, e⟩ := e
                try dsimp only at e
                replace e := cond_eq_or e
                rcases e with ⟨hq5, e⟩ | ⟨hq5, e⟩
                · subst hq5
                  replace e := cond_eq_or e
                  rcases e with ⟨hq6, e⟩ | ⟨hq6, e⟩
                  · replace e := cond_eq_or e
                    rcases e with ⟨hq7, e⟩ | ⟨hq7, e⟩
                    · cases e; exact ⟨ne_ret, goes_runM hU [.b (z_lssT hq0), .q (ixRo_ok (kd := .i64) (T := 33) (x := s0_2) (sz := 3) rfl (fun w => by kernel_rfl) hR0 hq1), .l (accRo hR0 c_Member_len (inR_nat hq1) 0 [.string ((A0 (s0_2).toNat)).fName, .int .i64 (((A0 (s0_2).toNat)).fType), .int .i64 (((A0 (s0_2).toNat)).fBits)] rfl), .o, .a 3, .o, .a 0, .b (z_eqlT hq2), .o, .o, .a 3, .ov (fun w => (str_eql 9 ((A0 (s0_2).toNat)).fName (⟨#[]⟩ : ByteArray) (by kernel_rfl) (.tmp 20) (.const (.string (⟨#[]⟩ : ByteArray))) w).trans (congrArg (fun b => Result.ok (Next.value (Value.bool b)) w) hq3)), .o, .o, .o, .o, .a 3, .xg (lkE_has (T := 61) (kf := kv_Me61) (vf := vv_Me61) (N := s0_0) (A := s0_1) (e := (fun j => (((A0 (s0_2).toNat)).fName == (s0_1 j).fk))) (kt := 9) (el := 3) (x := .string ((A0 (s0_2).toNat)).fName) false (by kernel_rfl) (FG.plain (d := .string) (by kernel_rfl) trivial (fun _ => rfl)) (of_decide_eq_true hq4)) [1], .o, .xg (upG_has (T := 61) (kf := kv_Me61) (vf := vv_Me61) (N := s0_0) (A := s0_1) (e := (fun j => (((A0 (s0_2).toNat)).fName == (s0_1 j).fk))) (kt := 9) (el := 3) (d := .string) (⟨((A0 (s0_2).toNat)).fName, (IntKind.i64.wrap ((s0_1 (fdx (fun j => (((A0 (s0_2).toNat)).fName == (s0_1 j).fk)) s0_0)).fv + 1))⟩ : Me61) (by kernel_rfl) (by kernel_rfl) (fun _ => trivial) (fun _ => rfl) (of_decide_eq_true hq4)) [1], .o, .a 3, .cg (ok_btf_isName_v4 hU ((A0 (s0_2).toNat)).fName true e_rb0), .o, .o, .o, .o, .o, .o, .a 3, .xg (lkE_has (T := 61) (kf := kv_Me61) (vf := vv_Me61) (N := s0_0) (A := (updF s0_1 (fdx (fun j => (((A0 (s0_2).toNat)).fName == (s0_1 j).fk)) s0_0) (⟨((A0 (s0_2).toNat)).fName, (IntKind.i64.wrap ((s0_1 (fdx (fun j => (((A0 (s0_2).toNat)).fName == (s0_1 j).fk)) s0_0)).fv + 1))⟩ : Me61))) (e := (fun j => (((A0 (s0_2).toNat)).fName == ((updF s0_1 (fdx (fun j => (((A0 (s0_2).toNat)).fName == (s0_1 j).fk)) s0_0) (⟨((A0 (s0_2).toNat)).fName, (IntKind.i64.wrap ((s0_1 (fdx (fun j => (((A0 (s0_2).toNat)).fName == (s0_1 j).fk)) s0_0)).fv + 1))⟩ : Me61)) j).fk))) (kt := 9) (el := 3) (x := .string ((A0 (s0_2).toNat)).fName) false (by kernel_rfl) (FG.plain (d := .string) (by kernel_rfl) trivial (fun _ => rfl)) (of_decide_eq_true hq6)) [1], .b (z_gtrT hq7), .o, .o] [0, 1] (fun b => rfl) (by decide) rfl rfl (fun b => by kernel_rfl)⟩
                    · cases e; exact goes_runM hU [.b (z_lssT hq0), .q (ixRo_ok (kd := .i64) (T := 33) (x := s0_2) (sz := 3) rfl (fun w => by kernel_rfl) hR0 hq1), .l (accRo hR0 c_Member_len (inR_nat hq1) 0 [.string ((A0 (s0_2).toNat)).fName, .int .i64 (((A0 (s0_2).toNat)).fType), .int .i64 (((A0 (s0_2).toNat)).fBits)] rfl), .o, .a 3, .o, .a 0, .b (z_eqlT hq2), .o, .o, .a 3, .ov (fun w => (str_eql 9 ((A0 (s0_2).toNat)).fName (⟨#[]⟩ : ByteArray) (by kernel_rfl) (.tmp 20) (.const (.string (⟨#[]⟩ : ByteArray))) w).trans (congrArg (fun b => Result.ok (Next.value (Value.bool b)) w) hq3)), .o, .o, .o, .o, .a 3, .xg (lkE_has (T := 61) (kf := kv_Me61) (vf := vv_Me61) (N := s0_0) (A := s0_1) (e := (fun j => (((A0 (s0_2).toNat)).fName == (s0_1 j).fk))) (kt := 9) (el := 3) (x := .string ((A0 (s0_2).toNat)).fName) false (by kernel_rfl) (FG.plain (d := .string) (by kernel_rfl) trivial (fun _ => rfl)) (of_decide_eq_true hq4)) [1], .o, .xg (upG_has (T := 61) (kf := kv_Me61) (vf := vv_Me61) (N := s0_0) (A := s0_1) (e := (fun j => (((A0 (s0_2).toNat)).fName == (s0_1 j).fk))) (kt := 9) (el := 3) (d := .string) (⟨((A0 (s0_2).toNat)).fName, (IntKind.i64.wrap ((s0_1 (fdx (fun j => (((A0 (s0_2).toNat)).fName == (s0_1 j).fk)) s0_0)).fv + 1))⟩ : Me61) (by kernel_rfl) (by kernel_rfl) (fun _ => trivial) (fun _ => rfl) (of_decide_eq_true hq4)) [1], .o, .a 3, .cg (ok_btf_isName_v4 hU ((A0 (s0_2).toNat)).fName true e_rb0), .o, .o, .o, .o, .o, .o, .a 3, .xg (lkE_has (T := 61) (kf := kv_Me61) (vf := vv_Me61) (N := s0_0) (A := (updF s0_1 (fdx (fun j => (((A0 (s0_2).toNat)).fName == (s0_1 j).fk)) s0_0) (⟨((A0 (s0_2).toNat)).fName, (IntKind.i64.wrap ((s0_1 (fdx (fun j => (((A0 (s0_2).toNat)).fName == (s0_1 j).fk)) s0_0)).fv + 1))⟩ : Me61))) (e := (fun j => (((A0 (s0_2).toNat)).fName == ((updF s0_1 (fdx (fun j => (((A0 (s0_2).toNat)).fName == (s0_1 j).fk)) s0_0) (⟨((A0 (s0_2).toNat)).fName, (IntKind.i64.wrap ((s0_1 (fdx (fun j => (((A0 (s0_2).toNat)).fName == (s0_1 j).fk)) s0_0)).fv + 1))⟩ : Me61)) j).fk))) (kt := 9) (el := 3) (x := .string ((A0 (s0_2).toNat)).fName) false (by kernel_rfl) (FG.plain (d := .string) (by kernel_rfl) trivial (fun _ => rfl)) (of_decide_eq_true hq6)) [1], .b (z_gtrF hq7), .o, .o, .o] [0, 1] (fun b => rfl) (by decide) rfl rfl (fun b => by kernel_rfl)
                  · cases e; exact goes_runM hU [.b (z_lssT hq0), .q (ixRo_ok (kd := .i64) (T := 33) (x := s0_2) (sz := 3) rfl (fun w => by kernel_rfl) hR0 hq1), .l (accRo hR0 c_Member_len (inR_nat hq1) 0 [.string ((A0 (s0_2).toNat)).fName, .int .i64 (((A0 (s0_2).toNat)).fType), .int .i64 (((A0 (s0_2).toNat)).fBits)] rfl), .o, .a 3, .o, .a 0, .b (z_eqlT hq2), .o, .o, .a 3, .ov (fun w => (str_eql 9 ((A0 (s0_2).toNat)).fName (⟨#[]⟩ : ByteArray) (by kernel_rfl) (.tmp 20) (.const (.string (⟨#[]⟩ : ByteArray))) w).trans (congrArg (fun b => Result.ok (Next.value (Value.bool b)) w) hq3)), .o, .o, .o, .o, .a 3, .xg (lkE_has (T := 61) (kf := kv_Me61) (vf := vv_Me61) (N := s0_0) (A := s0_1) (e := (fun j => (((A0 (s0_2).toNat)).fName == (s0_1 j).fk))) (kt := 9) (el := 3) (x := .string ((A0 (s0_2).toNat)).fName) false (by kernel_rfl) (FG.plain (d := .string) (by kernel_rfl) trivial (fun _ => rfl)) (of_decide_eq_true hq4)) [1], .o, .xg (upG_has (T := 61) (kf := kv_Me61) (vf := vv_Me61) (N := s0_0) (A := s0_1) (e := (fun j => (((A0 (s0_2).toNat)).fName == (s0_1 j).fk))) (kt := 9) (el := 3) (d := .string) (⟨((A0 (s0_2).toNat)).fName, (IntKind.i64.wrap ((s0_1 (fdx (fun j => (((A0 (s0_2).toNat)).fName == (s0_1 j).fk)) s0_0)).fv + 1))⟩ : Me61) (by kernel_rfl) (by kernel_rfl) (fun _ => trivial) (fun _ => rfl) (of_decide_eq_true hq4)) [1], .o, .a 3, .cg (ok_btf_isName_v4 hU ((A0 (s0_2).toNat)).fName true e_rb0), .o, .o, .o, .o, .o, .o, .a 3, .xg (lkE_none (T := 61) (kf := kv_Me61) (vf := vv_Me61) (N := s0_0) (A := (updF s0_1 (fdx (fun j => (((A0 (s0_2).toNat)).fName == (s0_1 j).fk)) s0_0) (⟨((A0 (s0_2).toNat)).fName, (IntKind.i64.wrap ((s0_1 (fdx (fun j => (((A0 (s0_2).toNat)).fName == (s0_1 j).fk)) s0_0)).fv + 1))⟩ : Me61))) (e := (fun j => (((A0 (s0_2).toNat)).fName == ((updF s0_1 (fdx (fun j => (((A0 (s0_2).toNat)).fName == (s0_1 j).fk)) s0_0) (⟨((A0 (s0_2).toNat)).fName, (IntKind.i64.wrap ((s0_1 (fdx (fun j => (((A0 (s0_2).toNat)).fName == (s0_1 j).fk)) s0_0)).fv + 1))⟩ : Me61)) j).fk))) (kt := 9) (el := 3) (x := .string ((A0 (s0_2).toNat)).fName) false (.int .i64 (0)) (by kernel_rfl) (FG.plain (d := .string) (by kernel_rfl) trivial (fun _ => rfl)) (fun w => by kernel_rfl) (of_decide_eq_false hq6)) [1], .o, .o, .o, .o] [0, 1] (fun b => rfl) (by decide) rfl rfl (fun b => by kernel_rfl)
                · subst hq5
                  cases e; exact ⟨ne_ret, goes_runM hU [.b (z_lssT hq0), .q (ixRo_ok (kd := .i64) (T := 33) (x := s0_2) (sz := 3) rfl (fun w => by kernel_rfl) hR0 hq1), .l (accRo hR0 c_Member_len (inR_nat hq1) 0 [.string ((A0 (s0_2).toNat)).fName, .int .i64 (((A0 (s0_2).toNat)).fType), .int .i64 (((A0 (s0_2).toNat)).fBits)] rfl), .o, .a 3, .o, .a 0, .b (z_eqlT hq2), .o, .o, .a 3, .ov (fun w => (str_eql 9 ((A0 (s0_2).toNat)).fName (⟨#[]⟩ : ByteArray) (by kernel_rfl) (.tmp 20) (.const (.string (⟨#[]⟩ : ByteArray))) w).trans (congrArg (fun b => Result.ok (Next.value (Value.bool b)) w) hq3)), .o, .o, .o, .o, .a 3, .xg (lkE_has (T := 61) (kf := kv_Me61) (vf := vv_Me61) (N := s0_0) (A := s0_1) (e := (fun j => (((A0 (s0_2).toNat)).fName == (s0_1 j).fk))) (kt := 9) (el := 3) (x := .string ((A0 (s0_2).toNat)).fName) false (by kernel_rfl) (FG.plain (d := .string) (by kernel_rfl) trivial (fun _ => rfl)) (of_decide_eq_true hq4)) [1], .o, .xg (upG_has (T := 61) (kf := kv_Me61) (vf := vv_Me61) (N := s0_0) (A := s0_1) (e := (fun j => (((A0 (s0_2).toNat)).fName == (s0_1 j).fk))) (kt := 9) (el := 3) (d := .string) (⟨((A0 (s0_2).toNat)).fName, (IntKind.i64.wrap ((s0_1 (fdx (fun j => (((A0 (s0_2).toNat)).fName == (s0_1 j).fk)) s0_0)).fv + 1))⟩ : Me61) (by kernel_rfl) (by kernel_rfl) (fun _ => trivial) (fun _ => rfl) (of_decide_eq_true hq4)) [1], .o, .a 3, .cg (ok_btf_isName_v4 hU ((A0 (s0_2).toNat)).fName false e_rb0), .o, .o, .o, .o, .o, .o, .o, .o] [0, 1] (fun b => rfl) (by decide) rfl rfl (fun b => by kernel_rfl)⟩
              · replace e := bindO_eq e
                obtain ⟨rb0, e_rb0, e⟩ := e
                try dsimp only at e
                replace e := cond_eq_or e
                rcases e with ⟨hq5, e⟩ | ⟨hq5, e⟩
                · subst hq5
                  replace e := cond_eq_or e
                  rcases e with ⟨hq6, e⟩ | ⟨hq6, e⟩
                  · replace e := cond_eq_or e
                    rcases e with ⟨hq7, e⟩ | ⟨hq7, e⟩
                    · cases e; exact ⟨ne_ret, goes_runM hU [.b (z_lssT hq0), .q (ixRo_ok (kd := .i64) (T := 33) (x := s0_2) (sz := 3) rfl (fun w => by kernel_rfl) hR0 hq1), .l (accRo hR0 c_Member_len (inR_nat hq1) 0 [.string ((A0 (s0_2).toNat)).fName, .int .i64 (((A0 (s0_2).toNat)).fType), .int .i64 (((A0 (s0_2).toNat)).fBits)] rfl), .o, .a 3, .o, .a 0, .b (z_eqlT hq2), .o, .o, .a 3, .ov (fun w => (str_eql 9 ((A0 (s0_2).toNat)).fName (⟨#[]⟩ : ByteArray) (by kernel_rfl) (.tmp 20) (.const (.string (⟨#[]⟩ : ByteArray))) w).trans (congrArg (fun b => Result.ok (Next.value (Value.bool b)) w) hq3)), .o, .o, .o, .o, .a 3, .xg (lkE_none (T := 61) (kf := kv_Me61) (vf := vv_Me61) (N := s0_0) (A := s0_1) (e := (fun j => (((A0 (s0_2).toNat)).fName == (s0_1 j).fk))) (kt := 9) (el := 3) (x := .string ((A0 (s0_2).toNat)).fName) false (.int .i64 (0)) (by kernel_rfl) (FG.plain (d := .string) (by kernel_rfl) trivial (fun _ => rfl)) (fun w => by kernel_rfl) (of_decide_eq_false hq4)) [1], .o, .xg (upG_new (T := 61) (kf := kv_Me61) (vf := vv_Me61) (N := s0_0) (A := s0_1) (e := (fun j => (((A0 (s0_2).toNat)).fName == (s0_1 j).fk))) (kt := 9) (el := 3) (d := .string) (⟨((A0 (s0_2).toNat)).fName, 1⟩ : Me61) (by kernel_rfl) (by kernel_rfl) trivial (fun _ => rfl) (of_decide_eq_false hq4)) [1], .o, .a 3, .cg (ok_btf_isName_v4 hU ((A0 (s0_2).toNat)).fName true e_rb0), .o, .o, .o, .o, .o, .o, .a 3, .xg (lkE_has (T := 61) (kf := kv_Me61) (vf := vv_Me61) (N := (s0_0 + 1)) (A := (updF s0_1 s0_0 (⟨((A0 (s0_2).toNat)).fName, 1⟩ : Me61))) (e := (fun j => (((A0 (s0_2).toNat)).fName == ((updF s0_1 s0_0 (⟨((A0 (s0_2).toNat)).fName, 1⟩ : Me61)) j).fk))) (kt := 9) (el := 3) (x := .string ((A0 (s0_2).toNat)).fName) false (by kernel_rfl) (FG.plain (d := .string) (by kernel_rfl) trivial (fun _ => rfl)) (of_decide_eq_true hq6)) [1], .b (z_gtrT hq7), .o, .o] [0, 1] (fun b => rfl) (by decide) rfl rfl (fun b => by kernel_rfl)⟩
                    · cases e; exact goes_runM hU [.b (z_lssT hq0), .q (ixRo_ok (kd := .i64) (T := 33) (x := s0_2) (sz := 3) rfl (fun w => by kernel_rfl) hR0 hq1), .l (accRo hR0 c_Member_len (inR_nat hq1) 0 [.string ((A0 (s0_2).toNat)).fName, .int .i64 (((A0 (s0_2).toNat)).fType), .int .i64 (((A0 (s0_2).toNat)).fBits)] rfl), .o, .a 3, .o, .a 0, .b (z_eqlT hq2), .o, .o, .a 3, .ov (fun w => (str_eql 9 ((A0 (s0_2).toNat)).fName (⟨#[]⟩ : ByteArray) (by kernel_rfl) (.tmp 20) (.const (.string (⟨#[]⟩ : ByteArray))) w).trans (congrArg (fun b => Result.ok (Next.value (Value.bool b)) w) hq3)), .o, .o, .o, .o, .a 3, .xg (lkE_none (T := 61) (kf := kv_Me61) (vf := vv_Me61) (N := s0_0) (A := s0_1) (e := (fun j => (((A0 (s0_2).toNat)).fName == (s0_1 j).fk))) (kt := 9) (el := 3) (x := .string ((A0 (s0_2).toNat)).fName) false (.int .i64 (0)) (by kernel_rfl) (FG.plain (d := .string) (by kernel_rfl) trivial (fun _ => rfl)) (fun w => by kernel_rfl) (of_decide_eq_false hq4)) [1], .o, .xg (upG_new (T := 61) (kf := kv_Me61) (vf := vv_Me61) (N := s0_0) (A := s0_1) (e := (fun j => (((A0 (s0_2).toNat)).fName == (s0_1 j).fk))) (kt := 9) (el := 3) (d := .string) (⟨((A0 (s0_2).toNat)).fName, 1⟩ : Me61) (by kernel_rfl) (by kernel_rfl) trivial (fun _ => rfl) (of_decide_eq_false hq4)) [1], .o, .a 3, .cg (ok_btf_isName_v4 hU ((A0 (s0_2).toNat)).fName true e_rb0), .o, .o, .o, .o, .o, .o, .a 3, .xg (lkE_has (T := 61) (kf := kv_Me61) (vf := vv_Me61) (N := (s0_0 + 1)) (A := (updF s0_1 s0_0 (⟨((A0 (s0_2).toNat)).fName, 1⟩ : Me61))) (e := (fun j => (((A0 (s0_2).toNat)).fName == ((updF s0_1 s0_0 (⟨((A0 (s0_2).toNat)).fName, 1⟩ : Me61)) j).fk))) (kt := 9) (el := 3) (x := .string ((A0 (s0_2).toNat)).fName) false (by kernel_rfl) (FG.plain (d := .string) (by kernel_rfl) trivial (fun _ => rfl)) (of_decide_eq_true hq6)) [1], .b (z_gtrF hq7), .o, .o, .o] [0, 1] (fun b => rfl) (by decide) rfl rfl (fun b => by kernel_rfl)
                  · cases e; exact goes_runM hU [.b (z_lssT hq0), .q (ixRo_ok (kd := .i64) (T := 33) (x := s0_2) (sz := 3) rfl (fun w => by kernel_rfl) hR0 hq1), .l (accRo hR0 c_Member_len (inR_nat hq1) 0 [.string ((A0 (s0_2).toNat)).fName, .int .i64 (((A0 (s0_2).toNat)).fType), .int .i64 (((A0 (s0_2).toNat)).fBits)] rfl), .o, .a 3, .o, .a 0, .b (z_eqlT hq2), .o, .o, .a 3, .ov (fun w => (str_eql 9 ((A0 (s0_2).toNat)).fName (⟨#[]⟩ : ByteArray) (by kernel_rfl) (.tmp 20) (.const (.string (⟨#[]⟩ : ByteArray))) w).trans (congrArg (fun b => Result.ok (Next.value (Value.bool b)) w) hq3)), .o, .o, .o, .o, .a 3, .xg (lkE_none (T := 61) (kf := kv_Me61) (vf := vv_Me61) (N := s0_0) (A := s0_1) (e := (fun j => (((A0 (s0_2).toNat)).fName == (s0_1 j).fk))) (kt := 9) (el := 3) (x := .string ((A0 (s0_2).toNat)).fName) false (.int .i64 (0)) (by kernel_rfl) (FG.plain (d := .string) (by kernel_rfl) trivial (fun _ => rfl)) (fun w => by kernel_rfl) (of_decide_eq_false hq4)) [1], .o, .xg (upG_new (T := 61) (kf := kv_Me61) (vf := vv_Me61) (N := s0_0) (A := s0_1) (e := (fun j => (((A0 (s0_2).toNat)).fName == (s0_1 j).fk))) (kt := 9) (el := 3) (d := .string) (⟨((A0 (s0_2).toNat)).fName, 1⟩ : Me61) (by kernel_rfl) (by kernel_rfl) trivial (fun _ => rfl) (of_decide_eq_false hq4)) [1], .o, .a 3, .cg (ok_btf_isName_v4 hU ((A0 (s0_2).toNat)).fName true e_rb0), .o, .o, .o, .o, .o, .o, .a 3, .xg (lkE_none (T := 61) (kf := kv_Me61) (vf := vv_Me61) (N := (s0_0 + 1)) (A := (updF s0_1 s0_0 (⟨((A0 (s0_2).toNat)).fName, 1⟩ : Me61))) (e := (fun j => (((A0 (s0_2).toNat)).fName == ((updF s0_1 s0_0 (⟨((A0 (s0_2).toNat)).fName, 1⟩ : Me61)) j).fk))) (kt := 9) (el := 3) (x := .string ((A0 (s0_2).toNat)).fName) false (.int .i64 (0)) (by kernel_rfl) (FG.plain (d := .string) (by kernel_rfl) trivial (fun _ => rfl)) (fun w => by kernel_rfl) (of_decide_eq_false hq6)) [1], .o, .o, .o, .o] [0, 1] (fun b => rfl) (by decide) rfl rfl (fun b => by kernel_rfl)
                · subst hq5
                  cases e; exact ⟨ne_ret, goes_runM hU [.b (z_lssT hq0), .q (ixRo_ok (kd := .i64) (T := 33) (x := s0_2) (sz := 3) rfl (fun w => by kernel_rfl) hR0 hq1), .l (accRo hR0 c_Member_len (inR_nat hq1) 0 [.string ((A0 (s0_2).toNat)).fName, .int .i64 (((A0 (s0_2).toNat)).fType), .int .i64 (((A0 (s0_2).toNat)).fBits)] rfl), .o, .a 3, .o, .a 0, .b (z_eqlT hq2), .o, .o, .a 3, .ov (fun w => (str_eql 9 ((A0 (s0_2).toNat)).fName (⟨#[]⟩ : ByteArray) (by kernel_rfl) (.tmp 20) (.const (.string (⟨#[]⟩ : ByteArray))) w).trans (congrArg (fun b => Result.ok (Next.value (Value.bool b)) w) hq3)), .o, .o, .o, .o, .a 3, .xg (lkE_none (T := 61) (kf := kv_Me61) (vf := vv_Me61) (N := s0_0) (A := s0_1) (e := (fun j => (((A0 (s0_2).toNat)).fName == (s0_1 j).fk))) (kt := 9) (el := 3) (x := .string ((A0 (s0_2).toNat)).fName) false (.int .i64 (0)) (by kernel_rfl) (FG.plain (d := .string) (by kernel_rfl) trivial (fun _ => rfl)) (fun w => by kernel_rfl) (of_decide_eq_false hq4)) [1], .o, .xg (upG_new (T := 61) (kf := kv_Me61) (vf := vv_Me61) (N := s0_0) (A := s0_1) (e := (fun j => (((A0 (s0_2).toNat)).fName == (s0_1 j).fk))) (kt := 9) (el := 3) (d := .string) (⟨((A0 (s0_2).toNat)).fName, 1⟩ : Me61) (by kernel_rfl) (by kernel_rfl) trivial (fun _ => rfl) (of_decide_eq_false hq4)) [1], .o, .a 3, .cg (ok_btf_isName_v4 hU ((A0 (s0_2).toNat)).fName false e_rb0), .o, .o, .o, .o, .o, .o, .o, .o] [0, 1] (fun b => rfl) (by decide) rfl rfl (fun b => by kernel_rfl)⟩
          · replace e := cond_eq_or e
            rcases e with ⟨hq3, e⟩ | ⟨hq3, e⟩
            · replace e := bindO_eq e
              obtain ⟨rb0, e_rb0, e⟩ := e
              try dsimp only at e
              replace e := cond_eq_or e
              rcases e with ⟨hq4, e⟩ | ⟨hq4, e⟩
              · subst hq4
                replace e := cond_eq_or e
                rcases e with ⟨hq5, e⟩ | ⟨hq5, e⟩
                · replace e := cond_eq_or e
                  rcases e with ⟨hq6, e⟩ | ⟨hq6, e⟩
                  · cases e; exact ⟨ne_ret, goes_runM hU [.b (z_lssT hq0), .q (ixRo_ok (kd := .i64) (T := 33) (x := s0_2) (sz := 3) rfl (fun w => by kernel_rfl) hR0 hq1), .l (accRo hR0 c_Member_len (inR_nat hq1) 0 [.string ((A0 (s0_2).toNat)).fName, .int .i64 (((A0 (s0_2).toNat)).fType), .int .i64 (((A0 (s0_2).toNat)).fBits)] rfl), .o, .a 3, .o, .a 0, .b (z_eqlF hq2), .o, .o, .o, .o, .o, .a 3, .xg (lkE_has (T := 61) (kf := kv_Me61) (vf := vv_Me61) (N := s0_0) (A := s0_1) (e := (fun j => (((A0 (s0_2).toNat)).fName == (s0_1 j).fk))) (kt := 9) (el := 3) (x := .string ((A0 (s0_2).toNat)).fName) false (by kernel_rfl) (FG.plain (d := .string) (by kernel_rfl) trivial (fun _ => rfl)) (of_decide_eq_true hq3)) [1], .o, .xg (upG_has (T := 61) (kf := kv_Me61) (vf := vv_Me61) (N := s0_0) (A := s0_1) (e := (fun j => (((A0 (s0_2).toNat)).fName == (s0_1 j).fk))) (kt := 9) (el := 3) (d := .string) (⟨((A0 (s0_2).toNat)).fName, (IntKind.i64.wrap ((s0_1 (fdx (fun j => (((A0 (s0_2).toNat)).fName == (s0_1 j).fk)) s0_0)).fv + 1))⟩ : Me61) (by kernel_rfl) (by kernel_rfl) (fun _ => trivial) (fun _ => rfl) (of_decide_eq_true hq3)) [1], .o, .a 3, .cg (ok_btf_isName_v4 hU ((A0 (s0_2).toNat)).fName true e_rb0), .o, .o, .o, .o, .o, .o, .a 3, .xg (lkE_has (T := 61) (kf := kv_Me61) (vf := vv_Me61) (N := s0_0) (A := (updF s0_1 (fdx (fun j => (((A0 (s0_2).toNat)).fName == (s0_1 j).fk)) s0_0) (⟨((A0 (s0_2).toNat)).fName, (IntKind.i64.wrap ((s0_1 (fdx (fun j => (((A0 (s0_2).toNat)).fName == (s0_1 j).fk)) s0_0)).fv + 1))⟩ : Me61))) (e := (fun j => (((A0 (s0_2).toNat)).fName == ((updF s0_1 (fdx (fun j => (((A0 (s0_2).toNat)).fName == (s0_1 j).fk)) s0_0) (⟨((A0 (s0_2).toNat)).fName, (IntKind.i64.wrap ((s0_1 (fdx (fun j => (((A0 (s0_2).toNat)).fName == (s0_1 j).fk)) s0_0)).fv + 1))⟩ : Me61)) j).fk))) (kt := 9) (el := 3) (x := .string ((A0 (s0_2).toNat)).fName) false (by kernel_rfl) (FG.plain (d := .string) (by kernel_rfl) trivial (fun _ => rfl)) (of_decide_eq_true hq5)) [1], .b (z_gtrT hq6), .o, .o] [0, 1] (fun b => rfl) (by decide) rfl rfl (fun b => by kernel_rfl)⟩
                  · cases e; exact goes_runM hU [.b (z_lssT hq0), .q (ixRo_ok (kd := .i64) (T := 33) (x := s0_2) (sz := 3) rfl (fun w => by kernel_rfl) hR0 hq1), .l (accRo hR0 c_Member_len (inR_nat hq1) 0 [.string ((A0 (s0_2).toNat)).fName, .int .i64 (((A0 (s0_2).toNat)).fType), .int .i64 (((A0 (s0_2).toNat)).fBits)] rfl), .o, .a 3, .o, .a 0, .b (z_eqlF hq2), .o, .o, .o, .o, .o, .a 3, .xg (lkE_has (T := 61) (kf := kv_Me61) (vf := vv_Me61) (N := s0_0) (A := s0_1) (e := (fun j => (((A0 (s0_2).toNat)).fName == (s0_1 j).fk))) (kt := 9) (el := 3) (x := .string ((A0 (s0_2).toNat)).fName) false (by kernel_rfl) (FG.plain (d := .string) (by kernel_rfl) trivial (fun _ => rfl)) (of_decide_eq_true hq3)) [1], .o, .xg (upG_has (T := 61) (kf := kv_Me61) (vf := vv_Me61) (N := s0_0) (A := s0_1) (e := (fun j => (((A0 (s0_2).toNat)).fName == (s0_1 j).fk))) (kt := 9) (el := 3) (d := .string) (⟨((A0 (s0_2).toNat)).fName, (IntKind.i64.wrap ((s0_1 (fdx (fun j => (((A0 (s0_2).toNat)).fName == (s0_1 j).fk)) s0_0)).fv + 1))⟩ : Me61) (by kernel_rfl) (by kernel_rfl) (fun _ => trivial) (fun _ => rfl) (of_decide_eq_true hq3)) [1], .o, .a 3, .cg (ok_btf_isName_v4 hU ((A0 (s0_2).toNat)).fName true e_rb0), .o, .o, .o, .o, .o, .o, .a 3, .xg (lkE_has (T := 61) (kf := kv_Me61) (vf := vv_Me61) (N := s0_0) (A := (updF s0_1 (fdx (fun j => (((A0 (s0_2).toNat)).fName == (s0_1 j).fk)) s0_0) (⟨((A0 (s0_2).toNat)).fName, (IntKind.i64.wrap ((s0_1 (fdx (fun j => (((A0 (s0_2).toNat)).fName == (s0_1 j).fk)) s0_0)).fv + 1))⟩ : Me61))) (e := (fun j => (((A0 (s0_2).toNat)).fName == ((updF s0_1 (fdx (fun j => (((A0 (s0_2).toNat)).fName == (s0_1 j).fk)) s0_0) (⟨((A0 (s0_2).toNat)).fName, (IntKind.i64.wrap ((s0_1 (fdx (fun j => (((A0 (s0_2).toNat)).fName == (s0_1 j).fk)) s0_0)).fv + 1))⟩ : Me61)) j).fk))) (kt := 9) (el := 3) (x := .string ((A0 (s0_2).toNat)).fName) false (by kernel_rfl) (FG.plain (d := .string) (by kernel_rfl) trivial (fun _ => rfl)) (of_decide_eq_true hq5)) [1], .b (z_gtrF hq6), .o, .o, .o] [0, 1] (fun b => rfl) (by decide) rfl rfl (fun b => by kernel_rfl)
                · cases e; exact goes_runM hU [.b (z_lssT hq0), .q (ixRo_ok (kd := .i64) (T := 33) (x := s0_2) (sz := 3) rfl (fun w => by kernel_rfl) hR0 hq1), .l (accRo hR0 c_Member_len (inR_nat hq1) 0 [.string ((A0 (s0_2).toNat)).fName, .int .i64 (((A0 (s0_2).toNat)).fType), .int .i64 (((A0 (s0_2).toNat)).fBits)] rfl), .o, .a 3, .o, .a 0, .b (z_eqlF hq2), .o, .o, .o, .o, .o, .a 3, .xg (lkE_has (T := 61) (kf := kv_Me61) (vf := vv_Me61) (N := s0_0) (A := s0_1) (e := (fun j => (((A0 (s0_2).toNat)).fName == (s0_1 j).fk))) (kt := 9) (el := 3) (x := .string ((A0 (s0_2).toNat)).fName) false (by kernel_rfl) (FG.plain (d := .string) (by kernel_rfl) trivial (fun _ => rfl)) (of_decide_eq_true hq3)) [1], .o, .xg (upG_has (T := 61) (kf := kv_Me61) (vf := vv_Me61) (N := s0_0) (A := s0_1) (e := (fun j => (((A0 (s0_2).toNat)).fName == (s0_1 j).fk))) (kt := 9) (el := 3) (d := .string) (⟨((A0 (s0_2).toNat)).fName, (IntKind.i64.wrap ((s0_1 (fdx (fun j => (((A0 (s0_2).toNat)).fName == (s0_1 j).fk)) s0_0)).fv + 1))⟩ : Me61) (by kernel_rfl) (by kernel_rfl) (fun _ => trivial) (fun _ => rfl) (of_decide_eq_true hq3)) [1], .o, .a 3, .cg (ok_btf_isName_v4 hU ((A0 (s0_2).toNat)).fName true e_rb0), .o, .o, .o, .o, .o, .o, .a 3, .xg (lkE_none (T := 61) (kf := kv_Me61) (vf := vv_Me61) (N := s0_0) (A := (updF s0_1 (fdx (fun j => (((A0 (s0_2).toNat)).fName == (s0_1 j).fk)) s0_0) (⟨((A0 (s0_2).toNat)).fName, (IntKind.i64.wrap ((s0_1 (fdx (fun j => (((A0 (s0_2).toNat)).fName == (s0_1 j).fk)) s0_0)).fv + 1))⟩ : Me61))) (e := (fun j => (((A0 (s0_2).toNat)).fName == ((updF s0_1 (fdx (fun j => (((A0 (s0_2).toNat)).fName == (s0_1 j).fk)) s0_0) (⟨((A0 (s0_2).toNat)).fName, (IntKind.i64.wrap ((s0_1 (fdx (fun j => (((A0 (s0_2).toNat)).fName == (s0_1 j).fk)) s0_0)).fv + 1))⟩ : Me61)) j).fk))) (kt := 9) (el := 3) (x := .string ((A0 (s0_2).toNat)).fName) false (.int .i64 (0)) (by kernel_rfl) (FG.plain (d := .string) (by kernel_rfl) trivial (fun _ => rfl)) (fun w => by kernel_rfl) (of_decide_eq_false hq5)) [1], .o, .o, .o, .o] [0, 1] (fun b => rfl) (by decide) rfl rfl (fun b => by kernel_rfl)
              · subst hq4
                cases e; exact ⟨ne_ret, goes_runM hU [.b (z_lssT hq0), .q (ixRo_ok (kd := .i64) (T := 33) (x := s0_2) (sz := 3) rfl (fun w => by kernel_rfl) hR0 hq1), .l (accRo hR0 c_Member_len (inR_nat hq1) 0 [.string ((A0 (s0_2).toNat)).fName, .int .i64 (((A0 (s0_2).toNat)).fType), .int .i64 (((A0 (s0_2).toNat)).fBits)] rfl), .o, .a 3, .o, .a 0, .b (z_eqlF hq2), .o, .o, .o, .o, .o, .a 3, .xg (lkE_has (T := 61) (kf := kv_Me61) (vf := vv_Me61) (N := s0_0) (A := s0_1) (e := (fun j => (((A0 (s0_2).toNat)).fName == (s0_1 j).fk))) (kt := 9) (el := 3) (x := .string ((A0 (s0_2).toNat)).fName) false (by kernel_rfl) (FG.plain (d := .string) (by kernel_rfl) trivial (fun _ => rfl)) (of_decide_eq_true hq3)) [1], .o, .xg (upG_has (T := 61) (kf := kv_Me61) (vf := vv_Me61) (N := s0_0) (A := s0_1) (e := (fun j => (((A0 (s0_2).toNat)).fName == (s0_1 j).fk))) (kt := 9) (el := 3) (d := .string) (⟨((A0 (s0_2).toNat)).fName, (IntKind.i64.wrap ((s0_1 (fdx (fun j => (((A0 (s0_2).toNat)).fName == (s0_1 j).fk)) s0_0)).fv + 1))⟩ : Me61) (by kernel_rfl) (by kernel_rfl) (fun _ => trivial) (fun _ => rfl) (of_decide_eq_true hq3)) [1], .o, .a 3, .cg (ok_btf_isName_v4 hU ((A0 (s0_2).toNat)).fName false e_rb0), .o, .o, .o, .o, .o, .o, .o, .o] [0, 1] (fun b => rfl) (by decide) rfl rfl (fun b => by kernel_rfl)⟩
            · replace e := bindO_eq e
              obtain ⟨rb0, e_rb0, e⟩ := e
              try dsimp only at e
              replace e := cond_eq_or e
              rcases e with ⟨hq4, e⟩ | ⟨hq4, e⟩
              · subst hq4
                replace e := cond_eq_or e
                rcases e with ⟨hq5, e⟩ | ⟨hq5, e⟩
                · replace e := cond_eq_or e
                  rcases e with ⟨hq6, e⟩ | ⟨hq6, e⟩
                  · cases e; exact ⟨ne_ret, goes_runM hU [.b (z_lssT hq0), .q (ixRo_ok (kd := .i64) (T := 33) (x := s0_2) (sz := 3) rfl (fun w => by kernel_rfl) hR0 hq1), .l (accRo hR0 c_Member_len (inR_nat hq1) 0 [.string ((A0 (s0_2).toNat)).fName, .int .i64 (((A0 (s0_2).toNat)).fType), .int .i64 (((A0 (s0_2).toNat)).fBits)] rfl), .o, .a 3, .o, .a 0, .b (z_eqlF hq2), .o, .o, .o, .o, .o, .a 3, .xg (lkE_none (T := 61) (kf := kv_Me61) (vf := vv_Me61) (N := s0_0) (A := s0_1) (e := (fun j => (((A0 (s0_2).toNat)).fName == (s0_1 j).fk))) (kt := 9) (el := 3) (x := .string ((A0 (s0_2).toNat)).fName) false (.int .i64 (0)) (by kernel_rfl) (FG.plain (d := .string) (by kernel_rfl) trivial (fun _ => rfl)) (fun w => by kernel_rfl) (of_decide_eq_false hq3)) [1], .o, .xg (upG_new (T := 61) (kf := kv_Me61) (vf := vv_Me61) (N := s0_0) (A := s0_1) (e := (fun j => (((A0 (s0_2).toNat)).fName == (s0_1 j).fk))) (kt := 9) (el := 3) (d := .string) (⟨((A0 (s0_2).toNat)).fName, 1⟩ : Me61) (by kernel_rfl) (by kernel_rfl) trivial (fun _ => rfl) (of_decide_eq_false hq3)) [1], .o, .a 3, .cg (ok_btf_isName_v4 hU ((A0 (s0_2).toNat)).fName true e_rb0), .o, .o, .o, .o, .o, .o, .a 3, .xg (lkE_has (T := 61) (kf := kv_Me61) (vf := vv_Me61) (N := (s0_0 + 1)) (A := (updF s0_1 s0_0 (⟨((A0 (s0_2).toNat)).fName, 1⟩ : Me61))) (e := (fun j => (((A0 (s0_2).toNat)).fName == ((updF s0_1 s0_0 (⟨((A0 (s0_2).toNat)).fName, 1⟩ : Me61)) j).fk))) (kt := 9) (el := 3) (x := .string ((A0 (s0_2).toNat)).fName) false (by kernel_rfl) (FG.plain (d := .string) (by kernel_rfl) trivial (fun _ => rfl)) (of_decide_eq_true hq5)) [1], .b (z_gtrT hq6), .o, .o] [0, 1] (fun b => rfl) (by decide) rfl rfl (fun b => by kernel_rfl)⟩
                  · cases e; exact goes_runM hU [.b (z_lssT hq0), .q (ixRo_ok (kd := .i64) (T := 33) (x := s0_2) (sz := 3) rfl (fun w => by kernel_rfl) hR0 hq1), .l (accRo hR0 c_Member_len (inR_nat hq1) 0 [.string ((A0 (s0_2).toNat)).fName, .int .i64 (((A0 (s0_2).toNat)).fType), .int .i64 (((A0 (s0_2).toNat)).fBits)] rfl), .o, .a 3, .o, .a 0, .b (z_eqlF hq2), .o, .o, .o, .o, .o, .a 3, .xg (lkE_none (T := 61) (kf := kv_Me61) (vf := vv_Me61) (N := s0_0) (A := s0_1) (e := (fun j => (((A0 (s0_2).toNat)).fName == (s0_1 j).fk))) (kt := 9) (el := 3) (x := .string ((A0 (s0_2).toNat)).fName) false (.int .i64 (0)) (by kernel_rfl) (FG.plain (d := .string) (by kernel_rfl) trivial (fun _ => rfl)) (fun w => by kernel_rfl) (of_decide_eq_false hq3)) [1], .o, .xg (upG_new (T := 61) (kf := kv_Me61) (vf := vv_Me61) (N := s0_0) (A := s0_1) (e := (fun j => (((A0 (s0_2).toNat)).fName == (s0_1 j).fk))) (kt := 9) (el := 3) (d := .string) (⟨((A0 (s0_2).toNat)).fName, 1⟩ : Me61) (by kernel_rfl) (by kernel_rfl) trivial (fun _ => rfl) (of_decide_eq_false hq3)) [1], .o, .a 3, .cg (ok_btf_isName_v4 hU ((A0 (s0_2).toNat)).fName true e_rb0), .o, .o, .o, .o, .o, .o, .a 3, .xg (lkE_has (T := 61) (kf := kv_Me61) (vf := vv_Me61) (N := (s0_0 + 1)) (A := (updF s0_1 s0_0 (⟨((A0 (s0_2).toNat)).fName, 1⟩ : Me61))) (e := (fun j => (((A0 (s0_2).toNat)).fName == ((updF s0_1 s0_0 (⟨((A0 (s0_2).toNat)).fName, 1⟩ : Me61)) j).fk))) (kt := 9) (el := 3) (x := .string ((A0 (s0_2).toNat)).fName) false (by kernel_rfl) (FG.plain (d := .string) (by kernel_rfl) trivial (fun _ => rfl)) (of_decide_eq_true hq5)) [1], .b (z_gtrF hq6), .o, .o, .o] [0, 1] (fun b => rfl) (by decide) rfl rfl (fun b => by kernel_rfl)
                · cases e; exact goes_runM hU [.b (z_lssT hq0), .q (ixRo_ok (kd := .i64) (T := 33) (x := s0_2) (sz := 3) rfl (fun w => by kernel_rfl) hR0 hq1), .l (accRo hR0 c_Member_len (inR_nat hq1) 0 [.string ((A0 (s0_2).toNat)).fName, .int .i64 (((A0 (s0_2).toNat)).fType), .int .i64 (((A0 (s0_2).toNat)).fBits)] rfl), .o, .a 3, .o, .a 0, .b (z_eqlF hq2), .o, .o, .o, .o, .o, .a 3, .xg (lkE_none (T := 61) (kf := kv_Me61) (vf := vv_Me61) (N := s0_0) (A := s0_1) (e := (fun j => (((A0 (s0_2).toNat)).fName == (s0_1 j).fk))) (kt := 9) (el := 3) (x := .string ((A0 (s0_2).toNat)).fName) false (.int .i64 (0)) (by kernel_rfl) (FG.plain (d := .string) (by kernel_rfl) trivial (fun _ => rfl)) (fun w => by kernel_rfl) (of_decide_eq_false hq3)) [1], .o, .xg (upG_new (T := 61) (kf := kv_Me61) (vf := vv_Me61) (N := s0_0) (A := s0_1) (e := (fun j => (((A0 (s0_2).toNat)).fName == (s0_1 j).fk))) (kt := 9) (el := 3) (d := .string) (⟨((A0 (s0_2).toNat)).fName, 1⟩ : Me61) (by kernel_rfl) (by kernel_rfl) trivial (fun _ => rfl) (of_decide_eq_false hq3)) [1], .o, .a 3, .cg (ok_btf_isName_v4 hU ((A0 (s0_2).toNat)).fName true e_rb0), .o, .o, .o, .o, .o, .o, .a 3, .xg (lkE_none (T := 61) (kf := kv_Me61) (vf := vv_Me61) (N := (s0_0 + 1)) (A := (updF s0_1 s0_0 (⟨((A0 (s0_2).toNat)).fName, 1⟩ : Me61))) (e := (fun j => (((A0 (s0_2).toNat)).fName == ((updF s0_1 s0_0 (⟨((A0 (s0_2).toNat)).fName, 1⟩ : Me61)) j).fk))) (kt := 9) (el := 3) (x := .string ((A0 (s0_2).toNat)).fName) false (.int .i64 (0)) (by kernel_rfl) (FG.plain (d := .string) (by kernel_rfl) trivial (fun _ => rfl)) (fun w => by kernel_rfl) (of_decide_eq_false hq5)) [1], .o, .o, .o, .o] [0, 1] (fun b => rfl) (by decide) rfl rfl (fun b => by kernel_rfl)
              · subst hq4
                cases e; exact ⟨ne_ret, goes_runM hU [.b (z_lssT hq0), .q (ixRo_ok (kd := .i64) (T := 33) (x := s0_2) (sz := 3) rfl (fun w => by kernel_rfl) hR0 hq1), .l (accRo hR0 c_Member_len (inR_nat hq1) 0 [.string ((A0 (s0_2).toNat)).fName, .int .i64 (((A0 (s0_2).toNat)).fType), .int .i64 (((A0 (s0_2).toNat)).fBits)] rfl), .o, .a 3, .o, .a 0, .b (z_eqlF hq2), .o, .o, .o, .o, .o, .a 3, .xg (lkE_none (T := 61) (kf := kv_Me61) (vf := vv_Me61) (N := s0_0) (A := s0_1) (e := (fun j => (((A0 (s0_2).toNat)).fName == (s0_1 j).fk))) (kt := 9) (el := 3) (x := .string ((A0 (s0_2).toNat)).fName) false (.int .i64 (0)) (by kernel_rfl) (FG.plain (d := .string) (by kernel_rfl) trivial (fun _ => rfl)) (fun w => by kernel_rfl) (of_decide_eq_false hq3)) [1], .o, .xg (upG_new (T := 61) (kf := kv_Me61) (vf := vv_Me61) (N := s0_0) (A := s0_1) (e := (fun j => (((A0 (s0_2).toNat)).fName == (s0_1 j).fk))) (kt := 9) (el := 3) (d := .string) (⟨((A0 (s0_2).toNat)).fName, 1⟩ : Me61) (by kernel_rfl) (by kernel_rfl) trivial (fun _ => rfl) (of_decide_eq_false hq3)) [1], .o, .a 3, .cg (ok_btf_isName_v4 hU ((A0 (s0_2).toNat)).fName false e_rb0), .o, .o, .o, .o, .o, .o, .o, .o] [0, 1] (fun b => rfl) (by decide) rfl rfl (fun b => by kernel_rfl)⟩
        · exact none_some e
      · cases e; exact ⟨ne_exit 0, goes_runM hU [.b (z_lssF hq0)] [0, 1] (fun b => rfl) (by decide) rfl rfl (fun b => by kernel_rfl)⟩) s r h
noncomputable def t0_btf_rightMemberNames_v2_L0_0 (y0 : Xs35) (a0 : Option Addr) (p0 : Nat) (q0 : Nat) (n0 : Nat) (k0 : Nat) (A0 : Nat → Member) (s0_0 : Nat) (s0_1 : Nat → Me61) (s0_2 : Int) (ls : List L1) : List Value := List.append [.agg #[.int .i64 (y0.fKind), .string y0.fName, .int .i64 (y0.fSize), .bool (y0.fSigned), .int .i64 (y0.fTo), .int .i64 (y0.fCount), .slice a0 n0 (n0 + k0)], .pointer (some ⟨(lget ls 0).n, 0, none⟩), .bool false, .map (some (lget ls 1).n), undef, undef, undef, .map (some (lget ls 1).n), .pointer (some ⟨(lget ls 0).n, 6, none⟩), .slice a0 n0 (n0 + k0), .int .i64 ((n0 : Int)), .int .i64 (s0_2)] (und 32)
def pre_btf_rightMemberNames_v2_L0_0 (y0 : Xs35) (a0 : Option Addr) (p0 : Nat) (q0 : Nat) (n0 : Nat) (k0 : Nat) (A0 : Nat → Member) (s0_0 : Nat) (s0_1 : Nat → Me61) (s0_2 : Int) (ls : List L1) : List Obj := [.cells #[.int .i64 (y0.fKind), .string y0.fName, .int .i64 (y0.fSize), .bool (y0.fSigned), .int .i64 (y0.fTo), .int .i64 (y0.fCount), .slice a0 n0 (n0 + k0)] 35, mapG kv_Me61 vv_Me61 s0_0 s0_1]
theorem sp0_btf_rightMemberNames_v2_L0_0_ok (s0_0 : Nat) (s0_1 : Nat → Me61) (s0_2 : Int) (c0_0 : Nat) (c0_1 : Nat → Me61) (h : lpO (st_btf_rightMemberNames_v2_L0 y0 n0 A0) (.c0 s0_0 s0_1 s0_2) = some (.e0 c0_0 c0_1)) : SpcG Tryd.prog M B0 S ⟨fun ls => .code (.loop bd_btf_rightMemberNames_v2_L0) (t0_btf_rightMemberNames_v2_L0_0 y0 a0 p0 q0 n0 k0 A0 s0_0 s0_1 s0_2 ls), pre_btf_rightMemberNames_v2_L0_0 y0 a0 p0 q0 n0 k0 A0 s0_0 s0_1 s0_2, 1, (.exit 0), fun ls => vf_btf_rightMemberNames_v2_L0 y0 a0 p0 q0 n0 k0 A0 (.e0 c0_0 c0_1) (ls.take 2 ++ ls.drop 2), fun ls => (Hf_btf_rightMemberNames_v2_L0 y0 a0 p0 q0 n0 k0 A0 (.e0 c0_0 c0_1) (ls.take 2 ++ ls.drop 2)).take 2 ++ List.replicate 0 unb, fun ls => (Hf_btf_rightMemberNames_v2_L0 y0 a0 p0 q0 n0 k0 A0 (.e0 c0_0 c0_1) (ls.take 2 ++ ls.drop 2)).drop 2⟩ :=
  spc_of_goesM hU 0 (k0 := 2) (go_btf_rightMemberNames_v2_L0 hU y0 a0 p0 q0 n0 k0 A0 hR0 _ _ h) (t0_btf_rightMemberNames_v2_L0_0 y0 a0 p0 q0 n0 k0 A0 s0_0 s0_1 s0_2) (pre_btf_rightMemberNames_v2_L0_0 y0 a0 p0 q0 n0 k0 A0 s0_0 s0_1 s0_2) (fun _ => rfl) (fun ls h => by match ls, h with | [l0, l1], _ => exact ⟨by kernel_rfl, by kernel_rfl⟩) (fun ls h => by match ls, h with | [l0, l1], _ => rfl) (by decide) (by decide) (fun ls => rfl)
theorem sp1_btf_rightMemberNames_v2_L0_0_ok (s0_0 : Nat) (s0_1 : Nat → Me61) (s0_2 : Int) (c1_0 : Nat) (c1_1 : Nat → Me61) (h : lpO (st_btf_rightMemberNames_v2_L0 y0 n0 A0) (.c0 s0_0 s0_1 s0_2) = some (.e1 c1_0 c1_1)) : SpcG Tryd.prog M B0 S ⟨fun ls => .code (.loop bd_btf_rightMemberNames_v2_L0) (t0_btf_rightMemberNames_v2_L0_0 y0 a0 p0 q0 n0 k0 A0 s0_0 s0_1 s0_2 ls), pre_btf_rightMemberNames_v2_L0_0 y0 a0 p0 q0 n0 k0 A0 s0_0 s0_1 s0_2, 1, .ret, fun ls => vf_btf_rightMemberNames_v2_L0 y0 a0 p0 q0 n0 k0 A0 (.e1 c1_0 c1_1) (ls.take 2 ++ ls.drop 2), fun ls => (Hf_btf_rightMemberNames_v2_L0 y0 a0 p0 q0 n0 k0 A0 (.e1 c1_0 c1_1) (ls.take 2 ++ ls.drop 2)).take 2 ++ List.replicate 0 unb, fun ls => (Hf_btf_rightMemberNames_v2_L0 y0 a0 p0 q0 n0 k0 A0 (.e1 c1_0 c1_1) (ls.take 2 ++ ls.drop 2)).drop 2⟩ :=
  spc_of_goesM hU 0 (k0 := 2) (go_btf_rightMemberNames_v2_L0 hU y0 a0 p0 q0 n0 k0 A0 hR0 _ _ h) (t0_btf_rightMemberNames_v2_L0_0 y0 a0 p0 q0 n0 k0 A0 s0_0 s0_1 s0_2) (pre_btf_rightMemberNames_v2_L0_0 y0 a0 p0 q0 n0 k0 A0 s0_0 s0_1 s0_2) (fun _ => rfl) (fun ls h => by match ls, h with | [l0, l1], _ => exact ⟨by kernel_rfl, by kernel_rfl⟩) (fun ls h => by match ls, h with | [l0, l1], _ => rfl) (by decide) (by decide) (fun ls => rfl)
noncomputable def m_btf_rightMemberNames_v2 (y0 : Xs35) (n0 : Nat) (A0 : Nat → Member) : Option (Bool) :=
  (lpO (st_btf_rightMemberNames_v2_L0 y0 n0 A0) (.c0 0 (fun _ => (⟨ByteArray.empty, 0⟩ : Me61)) 0)).bind fun g0 => match g0 with
  | .e0 g0_0 g0_1 => (some true)
  | .e1 g0_0 g0_1 => (some false)
theorem ok_btf_rightMemberNames_v2 (r : Bool) (e : m_btf_rightMemberNames_v2 y0 n0 A0 = some r) : ConG Tryd.prog S 24 #[.agg #[.int .i64 (y0.fKind), .string y0.fName, .int .i64 (y0.fSize), .bool (y0.fSigned), .int .i64 (y0.fTo), .int .i64 (y0.fCount), .slice a0 n0 (n0 + k0)]] (.bool (r)) := by
  unfold m_btf_rightMemberNames_v2 at e
  replace e := bindO_eq e
  obtain ⟨g0, e_g0, e⟩ := e
  rcases g0 with ⟨g0_0, g0_1⟩ | ⟨g0_0, g0_1⟩
  · try dsimp only at e
    injection e with e; subst e; exact fn_conG hU (P := Tryd.prog) Tryd.func24 (fun xs w => by kernel_rfl) _ _ [.o, .o, .o, .o, .o, .a 0, .o, .o, .cp, .cx (sp0_btf_rightMemberNames_v2_L0_0_ok hU y0 a0 p0 q0 n0 k0 A0 hR0 0 (fun _ => (⟨ByteArray.empty, 0⟩ : Me61)) 0 g0_0 g0_1 e_g0) [0, 1], .o] [] (fun b => by kernel_rfl)
  · try dsimp only at e
    injection e with e; subst e; exact fn_conG hU (P := Tryd.prog) Tryd.func24 (fun xs w => by kernel_rfl) _ _ [.o, .o, .o, .o, .o, .a 0, .o, .o, .cp, .cx (sp1_btf_rightMemberNames_v2_L0_0_ok hU y0 a0 p0 q0 n0 k0 A0 hR0 0 (fun _ => (⟨ByteArray.empty, 0⟩ : Me61)) 0 g0_0 g0_1 e_g0) [0, 1]] [] (fun b => by kernel_rfl)
inductive Sh_btf_rightReferences_v2_L0 where
  | c0 (s0_0 : Int)
inductive Ex_btf_rightReferences_v2_L0 where
  | e0 
  | e1 
noncomputable def st_btf_rightReferences_v2_L0 (n0 : Nat) (A0 : Nat → Member) (y1 : Int) : Sh_btf_rightReferences_v2_L0 → Option (Sh_btf_rightReferences_v2_L0 ⊕ Ex_btf_rightReferences_v2_L0)
  | .c0 s0_0 =>
    bif decide (s0_0 < (n0 : Int)) then
      (bif inR s0_0 n0 then
        (bif decide (((A0 (s0_0).toNat)).fType < 1) then
          (some (.inr (.e1 )))
        else (bif decide (y1 < ((A0 (s0_0).toNat)).fType) then
          (some (.inr (.e1 )))
        else (some (.inl (.c0 (IntKind.i64.wrap (s0_0 + 1)))))))
      else (none))
    else (some (.inr (.e0 )))
noncomputable def bd_btf_rightReferences_v2_L0 : Code := codeOf Tryd.f25 [1, 1, 1, 1, 0, 1, 0, 0]
def fl_btf_rightReferences_v2_L0 (y0 : Xs35) (a0 : Option Addr) (p0 : Nat) (q0 : Nat) (n0 : Nat) (k0 : Nat) (A0 : Nat → Member) (y1 : Int) : Sh_btf_rightReferences_v2_L0 → List L1 → List Value
  | .c0 s0_0, ls => [.int .i64 (y1), .bool false, .slice a0 n0 (n0 + k0), .int .i64 ((n0 : Int)), .int .i64 (s0_0)]
def mf_btf_rightReferences_v2_L0 : Sh_btf_rightReferences_v2_L0 → List (Nat × Nat)
  | .c0 _ => [(0, 1), (1, 2), (1, 24), (3, 13)]
noncomputable def fr_btf_rightReferences_v2_L0 (y0 : Xs35) (a0 : Option Addr) (p0 : Nat) (q0 : Nat) (n0 : Nat) (k0 : Nat) (A0 : Nat → Member) (y1 : Int) (s : Sh_btf_rightReferences_v2_L0) : List L1 → List Value := mrgF (mf_btf_rightReferences_v2_L0 s) (fl_btf_rightReferences_v2_L0 y0 a0 p0 q0 n0 k0 A0 y1 s) 1
def Hs_btf_rightReferences_v2_L0 (y0 : Xs35) (a0 : Option Addr) (p0 : Nat) (q0 : Nat) (n0 : Nat) (k0 : Nat) (A0 : Nat → Member) (y1 : Int) : Sh_btf_rightReferences_v2_L0 → List L1 → List Obj
  | .c0 s0_0, ls => [.cells #[.int .i64 (y0.fKind), .string y0.fName, .int .i64 (y0.fSize), .bool (y0.fSigned), .int .i64 (y0.fTo), .int .i64 (y0.fCount), .slice a0 n0 (n0 + k0)] 35, unb]
def vl_btf_rightReferences_v2_L0 (y0 : Xs35) (a0 : Option Addr) (p0 : Nat) (q0 : Nat) (n0 : Nat) (k0 : Nat) (A0 : Nat → Member) (y1 : Int) : Ex_btf_rightReferences_v2_L0 → List L1 → List Value
  | .e0 , ls => [.int .i64 (y1), .bool false, .slice a0 n0 (n0 + k0), .int .i64 ((n0 : Int))]
  | .e1 , ls => [.int .i64 (y1), .bool false, .slice a0 n0 (n0 + k0), .int .i64 ((n0 : Int))]
def mk_btf_rightReferences_v2_L0 : Ex_btf_rightReferences_v2_L0 → List (Nat × Nat)
  | .e0  => [(0, 1), (1, 2), (1, 24), (2, 14)]
  | .e1  => [(0, 1), (1, 2), (1, 24), (2, 14)]
noncomputable def vf_btf_rightReferences_v2_L0 (y0 : Xs35) (a0 : Option Addr) (p0 : Nat) (q0 : Nat) (n0 : Nat) (k0 : Nat) (A0 : Nat → Member) (y1 : Int) (r : Ex_btf_rightReferences_v2_L0) : List L1 → List Value := mrgF (mk_btf_rightReferences_v2_L0 r) (vl_btf_rightReferences_v2_L0 y0 a0 p0 q0 n0 k0 A0 y1 r) 1
def Hf_btf_rightReferences_v2_L0 (y0 : Xs35) (a0 : Option Addr) (p0 : Nat) (q0 : Nat) (n0 : Nat) (k0 : Nat) (A0 : Nat → Member) (y1 : Int) : Ex_btf_rightReferences_v2_L0 → List L1 → List Obj
  | .e0 , ls => [.cells #[.int .i64 (y0.fKind), .string y0.fName, .int .i64 (y0.fSize), .bool (y0.fSigned), .int .i64 (y0.fTo), .int .i64 (y0.fCount), .slice a0 n0 (n0 + k0)] 35, unb]
  | .e1 , ls => [.cells #[.int .i64 (y0.fKind), .string y0.fName, .int .i64 (y0.fSize), .bool (y0.fSigned), .int .i64 (y0.fTo), .int .i64 (y0.fCount), .slice a0 n0 (n0 + k0)] 35, unb]
def ex_btf_rightReferences_v2_L0 : Ex_btf_rightReferences_v2_L0 → Ex
  | .e0  => (.exit 3)
  | .e1  => .ret
theorem go_btf_rightReferences_v2_L0 (y1 : Int) (s : Sh_btf_rightReferences_v2_L0) (r : Ex_btf_rightReferences_v2_L0) (h : lpO (st_btf_rightReferences_v2_L0 n0 A0 y1) s = some r) : GoesG Tryd.prog M B0 S (.loop bd_btf_rightReferences_v2_L0) 2 (fr_btf_rightReferences_v2_L0 y0 a0 p0 q0 n0 k0 A0 y1 s) (Hs_btf_rightReferences_v2_L0 y0 a0 p0 q0 n0 k0 A0 y1 s) (ex_btf_rightReferences_v2_L0 r) 1 (vf_btf_rightReferences_v2_L0 y0 a0 p0 q0 n0 k0 A0 y1 r) (Hf_btf_rightReferences_v2_L0 y0 a0 p0 q0 n0 k0 A0 y1 r) 2 :=
  goes_lpO (fun s q e => by
    cases s with
    | c0 s0_0 =>
      unfold st_btf_rightReferences_v2_L0 at e
      dsimp only at e
      replace e := cond_eq_or e
      rcases e with ⟨hq0, e⟩ | ⟨hq0, e⟩
      · replace e := cond_eq_or e
        rcases e with ⟨hq1, e⟩ | ⟨hq1, e⟩
        · replace e := cond_eq_or e
          rcases e with ⟨hq2, e⟩ | ⟨hq2, e⟩
          · cases e; exact ⟨ne_ret, goes_runM hU [.b (z_lssT hq0), .q (ixRo_ok (kd := .i64) (T := 33) (x := s0_0) (sz := 3) rfl (fun w => by kernel_rfl) hR0 hq1), .l (accRo hR0 c_Member_len (inR_nat hq1) 0 [.string ((A0 (s0_0).toNat)).fName, .int .i64 (((A0 (s0_0).toNat)).fType), .int .i64 (((A0 (s0_0).toNat)).fBits)] rfl), .o, .a 2, .o, .a 2, .b (z_lssT hq2), .o, .o, .o] [0] (fun b => rfl) (by decide) rfl rfl (fun b => by kernel_rfl)⟩
          · replace e := cond_eq_or e
            rcases e with ⟨hq3, e⟩ | ⟨hq3, e⟩
            · cases e; exact ⟨ne_ret, goes_runM hU [.b (z_lssT hq0), .q (ixRo_ok (kd := .i64) (T := 33) (x := s0_0) (sz := 3) rfl (fun w => by kernel_rfl) hR0 hq1), .l (accRo hR0 c_Member_len (inR_nat hq1) 0 [.string ((A0 (s0_0).toNat)).fName, .int .i64 (((A0 (s0_0).toNat)).fType), .int .i64 (((A0 (s0_0).toNat)).fBits)] rfl), .o, .a 2, .o, .a 2, .b (z_lssF hq2), .o, .o, .a 2, .o, .b (z_gtrT hq3), .o, .o] [0] (fun b => rfl) (by decide) rfl rfl (fun b => by kernel_rfl)⟩
            · cases e; exact goes_runM hU [.b (z_lssT hq0), .q (ixRo_ok (kd := .i64) (T := 33) (x := s0_0) (sz := 3) rfl (fun w => by kernel_rfl) hR0 hq1), .l (accRo hR0 c_Member_len (inR_nat hq1) 0 [.string ((A0 (s0_0).toNat)).fName, .int .i64 (((A0 (s0_0).toNat)).fType), .int .i64 (((A0 (s0_0).toNat)).fBits)] rfl), .o, .a 2, .o, .a 2, .b (z_lssF hq2), .o, .o, .a 2, .o, .b (z_gtrF hq3), .o, .o, .o] [0] (fun b => rfl) (by decide) rfl rfl (fun b => by kernel_rfl)
        · exact none_some e
      · cases e; exact ⟨ne_exit 3, goes_runM hU [.b (z_lssF hq0)] [0] (fun b => rfl) (by decide) rfl rfl (fun b => by kernel_rfl)⟩) s r h
noncomputable def t0_btf_rightReferences_v2_L0_0 (y0 : Xs35) (a0 : Option Addr) (p0 : Nat) (q0 : Nat) (n0 : Nat) (k0 : Nat) (A0 : Nat → Member) (y1 : Int) (s0_0 : Int) (ls : List L1) : List Value := List.append [.agg #[.int .i64 (y0.fKind), .string y0.fName, .int .i64 (y0.fSize), .bool (y0.fSigned), .int .i64 (y0.fTo), .int .i64 (y0.fCount), .slice a0 n0 (n0 + k0)], .int .i64 (y1), .pointer (some ⟨(lget ls 0).n, 0, none⟩), undef, .bool false, .int .i64 (0), .int .i64 (0), undef, undef, .int .i64 (y1), .pointer (some ⟨(lget ls 0).n, 0, none⟩), .int .i64 (y0.fKind), .bool true, .bool true] (List.append (und 4) (List.append [.pointer (some ⟨(lget ls 0).n, 4, none⟩), .int .i64 (y0.fTo), .int .i64 (0), .bool false, .bool false, .pointer (some ⟨(lget ls 0).n, 4, none⟩), .int .i64 (y0.fTo), .int .i64 (0), .bool false, .bool false, .pointer (some ⟨(lget ls 0).n, 6, none⟩), .slice a0 n0 (n0 + k0), .int .i64 ((n0 : Int)), .int .i64 (s0_0)] (und 13)))
def pre_btf_rightReferences_v2_L0_0 (y0 : Xs35) (a0 : Option Addr) (p0 : Nat) (q0 : Nat) (n0 : Nat) (k0 : Nat) (A0 : Nat → Member) (y1 : Int) (s0_0 : Int) (ls : List L1) : List Obj := [.cells #[.int .i64 (y0.fKind), .string y0.fName, .int .i64 (y0.fSize), .bool (y0.fSigned), .int .i64 (y0.fTo), .int .i64 (y0.fCount), .slice a0 n0 (n0 + k0)] 35]
theorem sp0_btf_rightReferences_v2_L0_0_ok (y1 : Int) (s0_0 : Int) (h : lpO (st_btf_rightReferences_v2_L0 n0 A0 y1) (.c0 s0_0) = some (.e0 )) : SpcG Tryd.prog M B0 S ⟨fun ls => .code (.loop bd_btf_rightReferences_v2_L0) (t0_btf_rightReferences_v2_L0_0 y0 a0 p0 q0 n0 k0 A0 y1 s0_0 ls), pre_btf_rightReferences_v2_L0_0 y0 a0 p0 q0 n0 k0 A0 y1 s0_0, 1, (.exit 3), fun ls => vf_btf_rightReferences_v2_L0 y0 a0 p0 q0 n0 k0 A0 y1 (.e0 ) (ls.take 1 ++ ls.drop 1), fun ls => (Hf_btf_rightReferences_v2_L0 y0 a0 p0 q0 n0 k0 A0 y1 (.e0 ) (ls.take 1 ++ ls.drop 1)).take 1 ++ List.replicate 0 unb, fun ls => (Hf_btf_rightReferences_v2_L0 y0 a0 p0 q0 n0 k0 A0 y1 (.e0 ) (ls.take 1 ++ ls.drop 1)).drop 1⟩ :=
  spc_of_goesM hU 0 (k0 := 1) (go_btf_rightReferences_v2_L0 hU y0 a0 p0 q0 n0 k0 A0 hR0 y1 _ _ h) (t0_btf_rightReferences_v2_L0_0 y0 a0 p0 q0 n0 k0 A0 y1 s0_0) (pre_btf_rightReferences_v2_L0_0 y0 a0 p0 q0 n0 k0 A0 y1 s0_0) (fun _ => rfl) (fun ls h => by match ls, h with | [l0], _ => exact ⟨by kernel_rfl, by kernel_rfl⟩) (fun ls h => by match ls, h with | [l0], _ => rfl) (by decide) (by decide) (fun ls => rfl)
theorem sp1_btf_rightReferences_v2_L0_0_ok (y1 : Int) (s0_0 : Int) (h : lpO (st_btf_rightReferences_v2_L0 n0 A0 y1) (.c0 s0_0) = some (.e1 )) : SpcG Tryd.prog M B0 S ⟨fun ls => .code (.loop bd_btf_rightReferences_v2_L0) (t0_btf_rightReferences_v2_L0_0 y0 a0 p0 q0 n0 k0 A0 y1 s0_0 ls), pre_btf_rightReferences_v2_L0_0 y0 a0 p0 q0 n0 k0 A0 y1 s0_0, 1, .ret, fun ls => vf_btf_rightReferences_v2_L0 y0 a0 p0 q0 n0 k0 A0 y1 (.e1 ) (ls.take 1 ++ ls.drop 1), fun ls => (Hf_btf_rightReferences_v2_L0 y0 a0 p0 q0 n0 k0 A0 y1 (.e1 ) (ls.take 1 ++ ls.drop 1)).take 1 ++ List.replicate 0 unb, fun ls => (Hf_btf_rightReferences_v2_L0 y0 a0 p0 q0 n0 k0 A0 y1 (.e1 ) (ls.take 1 ++ ls.drop 1)).drop 1⟩ :=
  spc_of_goesM hU 0 (k0 := 1) (go_btf_rightReferences_v2_L0 hU y0 a0 p0 q0 n0 k0 A0 hR0 y1 _ _ h) (t0_btf_rightReferences_v2_L0_0 y0 a0 p0 q0 n0 k0 A0 y1 s0_0) (pre_btf_rightReferences_v2_L0_0 y0 a0 p0 q0 n0 k0 A0 y1 s0_0) (fun _ => rfl) (fun ls h => by match ls, h with | [l0], _ => exact ⟨by kernel_rfl, by kernel_rfl⟩) (fun ls h => by match ls, h with | [l0], _ => rfl) (by decide) (by decide) (fun ls => rfl)
inductive Sh_btf_rightReferences_v2_L0v1 where
  | c0 (s0_0 : Int)
inductive Ex_btf_rightReferences_v2_L0v1 where
  | e0 
  | e1 
noncomputable def st_btf_rightReferences_v2_L0v1 (n0 : Nat) (A0 : Nat → Member) (y1 : Int) : Sh_btf_rightReferences_v2_L0v1 → Option (Sh_btf_rightReferences_v2_L0v1 ⊕ Ex_btf_rightReferences_v2_L0v1)
  | .c0 s0_0 =>
    bif decide (s0_0 < (n0 : Int)) then
      (bif inR s0_0 n0 then
        (bif decide (((A0 (s0_0).toNat)).fType < 1) then
          (some (.inr (.e1 )))
        else (bif decide (y1 < ((A0 (s0_0).toNat)).fType) then
          (some (.inr (.e1 )))
        else (some (.inl (.c0 (IntKind.i64.wrap (s0_0 + 1)))))))
      else (none))
    else (some (.inr (.e0 )))
noncomputable def bd_btf_rightReferences_v2_L0v1 : Code := codeOf Tryd.f25 [1, 1, 1, 1, 0, 1, 0, 0]
def fl_btf_rightReferences_v2_L0v1 (y0 : Xs35) (a0 : Option Addr) (p0 : Nat) (q0 : Nat) (n0 : Nat) (k0 : Nat) (A0 : Nat → Member) (y1 : Int) : Sh_btf_rightReferences_v2_L0v1 → List L1 → List Value
  | .c0 s0_0, ls => [.int .i64 (y1), .bool false, .slice a0 n0 (n0 + k0), .int .i64 ((n0 : Int)), .int .i64 (s0_0)]
def mf_btf_rightReferences_v2_L0v1 : Sh_btf_rightReferences_v2_L0v1 → List (Nat × Nat)
  | .c0 _ => [(0, 1), (1, 2), (1, 24), (3, 13)]
noncomputable def fr_btf_rightReferences_v2_L0v1 (y0 : Xs35) (a0 : Option Addr) (p0 : Nat) (q0 : Nat) (n0 : Nat) (k0 : Nat) (A0 : Nat → Member) (y1 : Int) (s : Sh_btf_rightReferences_v2_L0v1) : List L1 → List Value := mrgF (mf_btf_rightReferences_v2_L0v1 s) (fl_btf_rightReferences_v2_L0v1 y0 a0 p0 q0 n0 k0 A0 y1 s) 1
def Hs_btf_rightReferences_v2_L0v1 (y0 : Xs35) (a0 : Option Addr) (p0 : Nat) (q0 : Nat) (n0 : Nat) (k0 : Nat) (A0 : Nat → Member) (y1 : Int) : Sh_btf_rightReferences_v2_L0v1 → List L1 → List Obj
  | .c0 s0_0, ls => [.cells #[.int .i64 (y0.fKind), .string y0.fName, .int .i64 (y0.fSize), .bool (y0.fSigned), .int .i64 (y0.fTo), .int .i64 (y0.fCount), .slice a0 n0 (n0 + k0)] 35, unb]
def vl_btf_rightReferences_v2_L0v1 (y0 : Xs35) (a0 : Option Addr) (p0 : Nat) (q0 : Nat) (n0 : Nat) (k0 : Nat) (A0 : Nat → Member) (y1 : Int) : Ex_btf_rightReferences_v2_L0v1 → List L1 → List Value
  | .e0 , ls => [.int .i64 (y1), .bool false, .slice a0 n0 (n0 + k0), .int .i64 ((n0 : Int))]
  | .e1 , ls => [.int .i64 (y1), .bool false, .slice a0 n0 (n0 + k0), .int .i64 ((n0 : Int))]
def mk_btf_rightReferences_v2_L0v1 : Ex_btf_rightReferences_v2_L0v1 → List (Nat × Nat)
  | .e0  => [(0, 1), (1, 2), (1, 24), (2, 14)]
  | .e1  => [(0, 1), (1, 2), (1, 24), (2, 14)]
noncomputable def vf_btf_rightReferences_v2_L0v1 (y0 : Xs35) (a0 : Option Addr) (p0 : Nat) (q0 : Nat) (n0 : Nat) (k0 : Nat) (A0 : Nat → Member) (y1 : Int) (r : Ex_btf_rightReferences_v2_L0v1) : List L1 → List Value := mrgF (mk_btf_rightReferences_v2_L0v1 r) (vl_btf_rightReferences_v2_L0v1 y0 a0 p0 q0 n0 k0 A0 y1 r) 1
def Hf_btf_rightReferences_v2_L0v1 (y0 : Xs35) (a0 : Option Addr) (p0 : Nat) (q0 : Nat) (n0 : Nat) (k0 : Nat) (A0 : Nat → Member) (y1 : Int) : Ex_btf_rightReferences_v2_L0v1 → List L1 → List Obj
  | .e0 , ls => [.cells #[.int .i64 (y0.fKind), .string y0.fName, .int .i64 (y0.fSize), .bool (y0.fSigned), .int .i64 (y0.fTo), .int .i64 (y0.fCount), .slice a0 n0 (n0 + k0)] 35, unb]
  | .e1 , ls => [.cells #[.int .i64 (y0.fKind), .string y0.fName, .int .i64 (y0.fSize), .bool (y0.fSigned), .int .i64 (y0.fTo), .int .i64 (y0.fCount), .slice a0 n0 (n0 + k0)] 35, unb]
def ex_btf_rightReferences_v2_L0v1 : Ex_btf_rightReferences_v2_L0v1 → Ex
  | .e0  => (.exit 3)
  | .e1  => .ret
theorem go_btf_rightReferences_v2_L0v1 (y1 : Int) (s : Sh_btf_rightReferences_v2_L0v1) (r : Ex_btf_rightReferences_v2_L0v1) (h : lpO (st_btf_rightReferences_v2_L0v1 n0 A0 y1) s = some r) : GoesG Tryd.prog M B0 S (.loop bd_btf_rightReferences_v2_L0v1) 2 (fr_btf_rightReferences_v2_L0v1 y0 a0 p0 q0 n0 k0 A0 y1 s) (Hs_btf_rightReferences_v2_L0v1 y0 a0 p0 q0 n0 k0 A0 y1 s) (ex_btf_rightReferences_v2_L0v1 r) 1 (vf_btf_rightReferences_v2_L0v1 y0 a0 p0 q0 n0 k0 A0 y1 r) (Hf_btf_rightReferences_v2_L0v1 y0 a0 p0 q0 n0 k0 A0 y1 r) 2 :=
  goes_lpO (fun s q e => by
    cases s with
    | c0 s0_0 =>
      unfold st_btf_rightReferences_v2_L0v1 at e
      dsimp only at e
      replace e := cond_eq_or e
      rcases e with ⟨hq0, e⟩ | ⟨hq0, e⟩
      · replace e := cond_eq_or e
        rcases e with ⟨hq1, e⟩ | ⟨hq1, e⟩
        · replace e := cond_eq_or e
          rcases e with ⟨hq2, e⟩ | ⟨hq2, e⟩
          · cases e; exact ⟨ne_ret, goes_runM hU [.b (z_lssT hq0), .q (ixRo_ok (kd := .i64) (T := 33) (x := s0_0) (sz := 3) rfl (fun w => by kernel_rfl) hR0 hq1), .l (accRo hR0 c_Member_len (inR_nat hq1) 0 [.string ((A0 (s0_0).toNat)).fName, .int .i64 (((A0 (s0_0).toNat)).fType), .int .i64 (((A0 (s0_0).toNat)).fBits)] rfl), .o, .a 2, .o, .a 2, .b (z_lssT hq2), .o, .o, .o] [0] (fun b => rfl) (by decide) rfl rfl (fun b => by kernel_rfl)⟩
          · replace e := cond_eq_or e
            rcases e with ⟨hq3, e⟩ | ⟨hq3, e⟩
            · cases e; exact ⟨ne_ret, goes_runM hU [.b (z_lssT hq0), .q (ixRo_ok (kd := .i64) (T := 33) (x := s0_0) (sz := 3) rfl (fun w => by kernel_rfl) hR0 hq1), .l (accRo hR0 c_Member_len (inR_nat hq1) 0 [.string ((A0 (s0_0).toNat)).fName, .int .i64 (((A0 (s0_0).toNat)).fType), .int .i64 (((A0 (s0_0).toNat)).fBits)] rfl), .o, .a 2, .o, .a 2, .b (z_lssF hq2), .o, .o, .a 2, .o, .b (z_gtrT hq3), .o, .o] [0] (fun b => rfl) (by decide) rfl rfl (fun b => by kernel_rfl)⟩
            · cases e; exact goes_runM hU [.b (z_lssT hq0), .q (ixRo_ok (kd := .i64) (T := 33) (x := s0_0) (sz := 3) rfl (fun w => by kernel_rfl) hR0 hq1), .l (accRo hR0 c_Member_len (inR_nat hq1) 0 [.string ((A0 (s0_0).toNat)).fName, .int .i64 (((A0 (s0_0).toNat)).fType), .int .i64 (((A0 (s0_0).toNat)).fBits)] rfl), .o, .a 2, .o, .a 2, .b (z_lssF hq2), .o, .o, .a 2, .o, .b (z_gtrF hq3), .o, .o, .o] [0] (fun b => rfl) (by decide) rfl rfl (fun b => by kernel_rfl)
        · exact none_some e
      · cases e; exact ⟨ne_exit 3, goes_runM hU [.b (z_lssF hq0)] [0] (fun b => rfl) (by decide) rfl rfl (fun b => by kernel_rfl)⟩) s r h
noncomputable def t0_btf_rightReferences_v2_L0v1_0 (y0 : Xs35) (a0 : Option Addr) (p0 : Nat) (q0 : Nat) (n0 : Nat) (k0 : Nat) (A0 : Nat → Member) (y1 : Int) (s0_0 : Int) (ls : List L1) : List Value := List.append [.agg #[.int .i64 (y0.fKind), .string y0.fName, .int .i64 (y0.fSize), .bool (y0.fSigned), .int .i64 (y0.fTo), .int .i64 (y0.fCount), .slice a0 n0 (n0 + k0)], .int .i64 (y1), .pointer (some ⟨(lget ls 0).n, 0, none⟩), undef, .bool false, .int .i64 (0), .int .i64 (0), undef, undef, .int .i64 (y1), .pointer (some ⟨(lget ls 0).n, 0, none⟩), .int .i64 (y0.fKind), .bool true, .bool false, .bool true, undef, undef, undef, .pointer (some ⟨(lget ls 0).n, 4, none⟩), .int .i64 (y0.fTo), .int .i64 (0), .bool false, .bool false, .pointer (some ⟨(lget ls 0).n, 4, none⟩), .int .i64 (y0.fTo), .int .i64 (0), .bool false, .bool false, .pointer (some ⟨(lget ls 0).n, 6, none⟩), .slice a0 n0 (n0 + k0), .int .i64 ((n0 : Int)), .int .i64 (s0_0)] (und 13)
def pre_btf_rightReferences_v2_L0v1_0 (y0 : Xs35) (a0 : Option Addr) (p0 : Nat) (q0 : Nat) (n0 : Nat) (k0 : Nat) (A0 : Nat → Member) (y1 : Int) (s0_0 : Int) (ls : List L1) : List Obj := [.cells #[.int .i64 (y0.fKind), .string y0.fName, .int .i64 (y0.fSize), .bool (y0.fSigned), .int .i64 (y0.fTo), .int .i64 (y0.fCount), .slice a0 n0 (n0 + k0)] 35]
theorem sp0_btf_rightReferences_v2_L0v1_0_ok (y1 : Int) (s0_0 : Int) (h : lpO (st_btf_rightReferences_v2_L0v1 n0 A0 y1) (.c0 s0_0) = some (.e0 )) : SpcG Tryd.prog M B0 S ⟨fun ls => .code (.loop bd_btf_rightReferences_v2_L0v1) (t0_btf_rightReferences_v2_L0v1_0 y0 a0 p0 q0 n0 k0 A0 y1 s0_0 ls), pre_btf_rightReferences_v2_L0v1_0 y0 a0 p0 q0 n0 k0 A0 y1 s0_0, 1, (.exit 3), fun ls => vf_btf_rightReferences_v2_L0v1 y0 a0 p0 q0 n0 k0 A0 y1 (.e0 ) (ls.take 1 ++ ls.drop 1), fun ls => (Hf_btf_rightReferences_v2_L0v1 y0 a0 p0 q0 n0 k0 A0 y1 (.e0 ) (ls.take 1 ++ ls.drop 1)).take 1 ++ List.replicate 0 unb, fun ls => (Hf_btf_rightReferences_v2_L0v1 y0 a0 p0 q0 n0 k0 A0 y1 (.e0 ) (ls.take 1 ++ ls.drop 1)).drop 1⟩ :=
  spc_of_goesM hU 0 (k0 := 1) (go_btf_rightReferences_v2_L0v1 hU y0 a0 p0 q0 n0 k0 A0 hR0 y1 _ _ h) (t0_btf_rightReferences_v2_L0v1_0 y0 a0 p0 q0 n0 k0 A0 y1 s0_0) (pre_btf_rightReferences_v2_L0v1_0 y0 a0 p0 q0 n0 k0 A0 y1 s0_0) (fun _ => rfl) (fun ls h => by match ls, h with | [l0], _ => exact ⟨by kernel_rfl, by kernel_rfl⟩) (fun ls h => by match ls, h with | [l0], _ => rfl) (by decide) (by decide) (fun ls => rfl)
theorem sp1_btf_rightReferences_v2_L0v1_0_ok (y1 : Int) (s0_0 : Int) (h : lpO (st_btf_rightReferences_v2_L0v1 n0 A0 y1) (.c0 s0_0) = some (.e1 )) : SpcG Tryd.prog M B0 S ⟨fun ls => .code (.loop bd_btf_rightReferences_v2_L0v1) (t0_btf_rightReferences_v2_L0v1_0 y0 a0 p0 q0 n0 k0 A0 y1 s0_0 ls), pre_btf_rightReferences_v2_L0v1_0 y0 a0 p0 q0 n0 k0 A0 y1 s0_0, 1, .ret, fun ls => vf_btf_rightReferences_v2_L0v1 y0 a0 p0 q0 n0 k0 A0 y1 (.e1 ) (ls.take 1 ++ ls.drop 1), fun ls => (Hf_btf_rightReferences_v2_L0v1 y0 a0 p0 q0 n0 k0 A0 y1 (.e1 ) (ls.take 1 ++ ls.drop 1)).take 1 ++ List.replicate 0 unb, fun ls => (Hf_btf_rightReferences_v2_L0v1 y0 a0 p0 q0 n0 k0 A0 y1 (.e1 ) (ls.take 1 ++ ls.drop 1)).drop 1⟩ :=
  spc_of_goesM hU 0 (k0 := 1) (go_btf_rightReferences_v2_L0v1 hU y0 a0 p0 q0 n0 k0 A0 hR0 y1 _ _ h) (t0_btf_rightReferences_v2_L0v1_0 y0 a0 p0 q0 n0 k0 A0 y1 s0_0) (pre_btf_rightReferences_v2_L0v1_0 y0 a0 p0 q0 n0 k0 A0 y1 s0_0) (fun _ => rfl) (fun ls h => by match ls, h with | [l0], _ => exact ⟨by kernel_rfl, by kernel_rfl⟩) (fun ls h => by match ls, h with | [l0], _ => rfl) (by decide) (by decide) (fun ls => rfl)
inductive Sh_btf_rightReferences_v2_L0v2 where
  | c0 (s0_0 : Int)
inductive Ex_btf_rightReferences_v2_L0v2 where
  | e0 
  | e1 
noncomputable def st_btf_rightReferences_v2_L0v2 (n0 : Nat) (A0 : Nat → Member) (y1 : Int) : Sh_btf_rightReferences_v2_L0v2 → Option (Sh_btf_rightReferences_v2_L0v2 ⊕ Ex_btf_rightReferences_v2_L0v2)
  | .c0 s0_0 =>
    bif decide (s0_0 < (n0 : Int)) then
      (bif inR s0_0 n0 then
        (bif decide (((A0 (s0_0).toNat)).fType < 1) then
          (some (.inr (.e1 )))
        else (bif decide (y1 < ((A0 (s0_0).toNat)).fType) then
          (some (.inr (.e1 )))
        else (some (.inl (.c0 (IntKind.i64.wrap (s0_0 + 1)))))))
      else (none))
    else (some (.inr (.e0 )))
noncomputable def bd_btf_rightReferences_v2_L0v2 : Code := codeOf Tryd.f25 [1, 1, 1, 1, 0, 1, 0, 0]
def fl_btf_rightReferences_v2_L0v2 (y0 : Xs35) (a0 : Option Addr) (p0 : Nat) (q0 : Nat) (n0 : Nat) (k0 : Nat) (A0 : Nat → Member) (y1 : Int) : Sh_btf_rightReferences_v2_L0v2 → List L1 → List Value
  | .c0 s0_0, ls => [.int .i64 (y1), .bool false, .slice a0 n0 (n0 + k0), .int .i64 ((n0 : Int)), .int .i64 (s0_0)]
def mf_btf_rightReferences_v2_L0v2 : Sh_btf_rightReferences_v2_L0v2 → List (Nat × Nat)
  | .c0 _ => [(0, 1), (1, 2), (1, 24), (3, 13)]
noncomputable def fr_btf_rightReferences_v2_L0v2 (y0 : Xs35) (a0 : Option Addr) (p0 : Nat) (q0 : Nat) (n0 : Nat) (k0 : Nat) (A0 : Nat → Member) (y1 : Int) (s : Sh_btf_rightReferences_v2_L0v2) : List L1 → List Value := mrgF (mf_btf_rightReferences_v2_L0v2 s) (fl_btf_rightReferences_v2_L0v2 y0 a0 p0 q0 n0 k0 A0 y1 s) 1
def Hs_btf_rightReferences_v2_L0v2 (y0 : Xs35) (a0 : Option Addr) (p0 : Nat) (q0 : Nat) (n0 : Nat) (k0 : Nat) (A0 : Nat → Member) (y1 : Int) : Sh_btf_rightReferences_v2_L0v2 → List L1 → List Obj
  | .c0 s0_0, ls => [.cells #[.int .i64 (y0.fKind), .string y0.fName, .int .i64 (y0.fSize), .bool (y0.fSigned), .int .i64 (y0.fTo), .int .i64 (y0.fCount), .slice a0 n0 (n0 + k0)] 35, unb]
def vl_btf_rightReferences_v2_L0v2 (y0 : Xs35) (a0 : Option Addr) (p0 : Nat) (q0 : Nat) (n0 : Nat) (k0 : Nat) (A0 : Nat → Member) (y1 : Int) : Ex_btf_rightReferences_v2_L0v2 → List L1 → List Value
  | .e0 , ls => [.int .i64 (y1), .bool false, .slice a0 n0 (n0 + k0), .int .i64 ((n0 : Int))]
  | .e1 , ls => [.int .i64 (y1), .bool false, .slice a0 n0 (n0 + k0), .int .i64 ((n0 : Int))]
def mk_btf_rightReferences_v2_L0v2 : Ex_btf_rightReferences_v2_L0v2 → List (Nat × Nat)
  | .e0  => [(0, 1), (1, 2), (1, 24), (2, 14)]
  | .e1  => [(0, 1), (1, 2), (1, 24), (2, 14)]
noncomputable def vf_btf_rightReferences_v2_L0v2 (y0 : Xs35) (a0 : Option Addr) (p0 : Nat) (q0 : Nat) (n0 : Nat) (k0 : Nat) (A0 : Nat → Member) (y1 : Int) (r : Ex_btf_rightReferences_v2_L0v2) : List L1 → List Value := mrgF (mk_btf_rightReferences_v2_L0v2 r) (vl_btf_rightReferences_v2_L0v2 y0 a0 p0 q0 n0 k0 A0 y1 r) 1
def Hf_btf_rightReferences_v2_L0v2 (y0 : Xs35) (a0 : Option Addr) (p0 : Nat) (q0 : Nat) (n0 : Nat) (k0 : Nat) (A0 : Nat → Member) (y1 : Int) : Ex_btf_rightReferences_v2_L0v2 → List L1 → List Obj
  | .e0 , ls => [.cells #[.int .i64 (y0.fKind), .string y0.fName, .int .i64 (y0.fSize), .bool (y0.fSigned), .int .i64 (y0.fTo), .int .i64 (y0.fCount), .slice a0 n0 (n0 + k0)] 35, unb]
  | .e1 , ls => [.cells #[.int .i64 (y0.fKind), .string y0.fName, .int .i64 (y0.fSize), .bool (y0.fSigned), .int .i64 (y0.fTo), .int .i64 (y0.fCount), .slice a0 n0 (n0 + k0)] 35, unb]
def ex_btf_rightReferences_v2_L0v2 : Ex_btf_rightReferences_v2_L0v2 → Ex
  | .e0  => (.exit 3)
  | .e1  => .ret
theorem go_btf_rightReferences_v2_L0v2 (y1 : Int) (s : Sh_btf_rightReferences_v2_L0v2) (r : Ex_btf_rightReferences_v2_L0v2) (h : lpO (st_btf_rightReferences_v2_L0v2 n0 A0 y1) s = some r) : GoesG Tryd.prog M B0 S (.loop bd_btf_rightReferences_v2_L0v2) 2 (fr_btf_rightReferences_v2_L0v2 y0 a0 p0 q0 n0 k0 A0 y1 s) (Hs_btf_rightReferences_v2_L0v2 y0 a0 p0 q0 n0 k0 A0 y1 s) (ex_btf_rightReferences_v2_L0v2 r) 1 (vf_btf_rightReferences_v2_L0v2 y0 a0 p0 q0 n0 k0 A0 y1 r) (Hf_btf_rightReferences_v2_L0v2 y0 a0 p0 q0 n0 k0 A0 y1 r) 2 :=
  goes_lpO (fun s q e => by
    cases s with
    | c0 s0_0 =>
      unfold st_btf_rightReferences_v2_L0v2 at e
      dsimp only at e
      replace e := cond_eq_or e
      rcases e with ⟨hq0, e⟩ | ⟨hq0, e⟩
      · replace e := cond_eq_or e
        rcases e with ⟨hq1, e⟩ | ⟨hq1, e⟩
        · replace e := cond_eq_or e
          rcases e with ⟨hq2, e⟩ | ⟨hq2, e⟩
          · cases e; exact ⟨ne_ret, goes_runM hU [.b (z_lssT hq0), .q (ixRo_ok (kd := .i64) (T := 33) (x := s0_0) (sz := 3) rfl (fun w => by kernel_rfl) hR0 hq1), .l (accRo hR0 c_Member_len (inR_nat hq1) 0 [.string ((A0 (s0_0).toNat)).fName, .int .i64 (((A0 (s0_0).toNat)).fType), .int .i64 (((A0 (s0_0).toNat)).fBits)] rfl), .o, .a 2, .o, .a 2, .b (z_lssT hq2), .o, .o, .o] [0] (fun b => rfl) (by decide) rfl rfl (fun b => by kernel_rfl)⟩
          · replace e := cond_eq_or e
            rcases e with ⟨hq3, e⟩ | ⟨hq3, e⟩
            · cases e; exact ⟨ne_ret, goes_runM hU [.b (z_lssT hq0), .q (ixRo_ok (kd := .i64) (T := 33) (x := s0_0) (sz := 3) rfl (fun w => by kernel_rfl) hR0 hq1), .l (accRo hR0 c_Member_len (inR_nat hq1) 0 [.string ((A0 (s0_0).toNat)).fName, .int .i64 (((A0 (s0_0).toNat)).fType), .int .i64 (((A0 (s0_0).toNat)).fBits)] rfl), .o, .a 2, .o, .a 2, .b (z_lssF hq2), .o, .o, .a 2, .o, .b (z_gtrT hq3), .o, .o] [0] (fun b => rfl) (by decide) rfl rfl (fun b => by kernel_rfl)⟩
            · cases e; exact goes_runM hU [.b (z_lssT hq0), .q (ixRo_ok (kd := .i64) (T := 33) (x := s0_0) (sz := 3) rfl (fun w => by kernel_rfl) hR0 hq1), .l (accRo hR0 c_Member_len (inR_nat hq1) 0 [.string ((A0 (s0_0).toNat)).fName, .int .i64 (((A0 (s0_0).toNat)).fType), .int .i64 (((A0 (s0_0).toNat)).fBits)] rfl), .o, .a 2, .o, .a 2, .b (z_lssF hq2), .o, .o, .a 2, .o, .b (z_gtrF hq3), .o, .o, .o] [0] (fun b => rfl) (by decide) rfl rfl (fun b => by kernel_rfl)
        · exact none_some e
      · cases e; exact ⟨ne_exit 3, goes_runM hU [.b (z_lssF hq0)] [0] (fun b => rfl) (by decide) rfl rfl (fun b => by kernel_rfl)⟩) s r h
noncomputable def t0_btf_rightReferences_v2_L0v2_0 (y0 : Xs35) (a0 : Option Addr) (p0 : Nat) (q0 : Nat) (n0 : Nat) (k0 : Nat) (A0 : Nat → Member) (y1 : Int) (s0_0 : Int) (ls : List L1) : List Value := List.append [.agg #[.int .i64 (y0.fKind), .string y0.fName, .int .i64 (y0.fSize), .bool (y0.fSigned), .int .i64 (y0.fTo), .int .i64 (y0.fCount), .slice a0 n0 (n0 + k0)], .int .i64 (y1), .pointer (some ⟨(lget ls 0).n, 0, none⟩), undef, .bool false, .int .i64 (0), .int .i64 (y1), undef, undef, .int .i64 (y1), .pointer (some ⟨(lget ls 0).n, 0, none⟩), .int .i64 (y0.fKind), .bool false, .bool false, .bool false, .bool true, .bool true, undef, .pointer (some ⟨(lget ls 0).n, 4, none⟩), .int .i64 (y0.fTo), .int .i64 (0), .bool false, .bool false, .pointer (some ⟨(lget ls 0).n, 4, none⟩), .int .i64 (y0.fTo), .int .i64 (y1), .bool false, .bool false, .pointer (some ⟨(lget ls 0).n, 6, none⟩), .slice a0 n0 (n0 + k0), .int .i64 ((n0 : Int)), .int .i64 (s0_0)] (und 13)
def pre_btf_rightReferences_v2_L0v2_0 (y0 : Xs35) (a0 : Option Addr) (p0 : Nat) (q0 : Nat) (n0 : Nat) (k0 : Nat) (A0 : Nat → Member) (y1 : Int) (s0_0 : Int) (ls : List L1) : List Obj := [.cells #[.int .i64 (y0.fKind), .string y0.fName, .int .i64 (y0.fSize), .bool (y0.fSigned), .int .i64 (y0.fTo), .int .i64 (y0.fCount), .slice a0 n0 (n0 + k0)] 35]
theorem sp0_btf_rightReferences_v2_L0v2_0_ok (y1 : Int) (s0_0 : Int) (h : lpO (st_btf_rightReferences_v2_L0v2 n0 A0 y1) (.c0 s0_0) = some (.e0 )) : SpcG Tryd.prog M B0 S ⟨fun ls => .code (.loop bd_btf_rightReferences_v2_L0v2) (t0_btf_rightReferences_v2_L0v2_0 y0 a0 p0 q0 n0 k0 A0 y1 s0_0 ls), pre_btf_rightReferences_v2_L0v2_0 y0 a0 p0 q0 n0 k0 A0 y1 s0_0, 1, (.exit 3), fun ls => vf_btf_rightReferences_v2_L0v2 y0 a0 p0 q0 n0 k0 A0 y1 (.e0 ) (ls.take 1 ++ ls.drop 1), fun ls => (Hf_btf_rightReferences_v2_L0v2 y0 a0 p0 q0 n0 k0 A0 y1 (.e0 ) (ls.take 1 ++ ls.drop 1)).take 1 ++ List.replicate 0 unb, fun ls => (Hf_btf_rightReferences_v2_L0v2 y0 a0 p0 q0 n0 k0 A0 y1 (.e0 ) (ls.take 1 ++ ls.drop 1)).drop 1⟩ :=
  spc_of_goesM hU 0 (k0 := 1) (go_btf_rightReferences_v2_L0v2 hU y0 a0 p0 q0 n0 k0 A0 hR0 y1 _ _ h) (t0_btf_rightReferences_v2_L0v2_0 y0 a0 p0 q0 n0 k0 A0 y1 s0_0) (pre_btf_rightReferences_v2_L0v2_0 y0 a0 p0 q0 n0 k0 A0 y1 s0_0) (fun _ => rfl) (fun ls h => by match ls, h with | [l0], _ => exact ⟨by kernel_rfl, by kernel_rfl⟩) (fun ls h => by match ls, h with | [l0], _ => rfl) (by decide) (by decide) (fun ls => rfl)
theorem sp1_btf_rightReferences_v2_L0v2_0_ok (y1 : Int) (s0_0 : Int) (h : lpO (st_btf_rightReferences_v2_L0v2 n0 A0 y1) (.c0 s0_0) = some (.e1 )) : SpcG Tryd.prog M B0 S ⟨fun ls => .code (.loop bd_btf_rightReferences_v2_L0v2) (t0_btf_rightReferences_v2_L0v2_0 y0 a0 p0 q0 n0 k0 A0 y1 s0_0 ls), pre_btf_rightReferences_v2_L0v2_0 y0 a0 p0 q0 n0 k0 A0 y1 s0_0, 1, .ret, fun ls => vf_btf_rightReferences_v2_L0v2 y0 a0 p0 q0 n0 k0 A0 y1 (.e1 ) (ls.take 1 ++ ls.drop 1), fun ls => (Hf_btf_rightReferences_v2_L0v2 y0 a0 p0 q0 n0 k0 A0 y1 (.e1 ) (ls.take 1 ++ ls.drop 1)).take 1 ++ List.replicate 0 unb, fun ls => (Hf_btf_rightReferences_v2_L0v2 y0 a0 p0 q0 n0 k0 A0 y1 (.e1 ) (ls.take 1 ++ ls.drop 1)).drop 1⟩ :=
  spc_of_goesM hU 0 (k0 := 1) (go_btf_rightReferences_v2_L0v2 hU y0 a0 p0 q0 n0 k0 A0 hR0 y1 _ _ h) (t0_btf_rightReferences_v2_L0v2_0 y0 a0 p0 q0 n0 k0 A0 y1 s0_0) (pre_btf_rightReferences_v2_L0v2_0 y0 a0 p0 q0 n0 k0 A0 y1 s0_0) (fun _ => rfl) (fun ls h => by match ls, h with | [l0], _ => exact ⟨by kernel_rfl, by kernel_rfl⟩) (fun ls h => by match ls, h with | [l0], _ => rfl) (by decide) (by decide) (fun ls => rfl)
inductive Sh_btf_rightReferences_v2_L0v3 where
  | c0 (s0_0 : Int)
inductive Ex_btf_rightReferences_v2_L0v3 where
  | e0 
  | e1 
noncomputable def st_btf_rightReferences_v2_L0v3 (n0 : Nat) (A0 : Nat → Member) (y1 : Int) : Sh_btf_rightReferences_v2_L0v3 → Option (Sh_btf_rightReferences_v2_L0v3 ⊕ Ex_btf_rightReferences_v2_L0v3)
  | .c0 s0_0 =>
    bif decide (s0_0 < (n0 : Int)) then
      (bif inR s0_0 n0 then
        (bif decide (((A0 (s0_0).toNat)).fType < 1) then
          (some (.inr (.e1 )))
        else (bif decide (y1 < ((A0 (s0_0).toNat)).fType) then
          (some (.inr (.e1 )))
        else (some (.inl (.c0 (IntKind.i64.wrap (s0_0 + 1)))))))
      else (none))
    else (some (.inr (.e0 )))
noncomputable def bd_btf_rightReferences_v2_L0v3 : Code := codeOf Tryd.f25 [1, 1, 1, 1, 0, 1, 0, 0]
def fl_btf_rightReferences_v2_L0v3 (y0 : Xs35) (a0 : Option Addr) (p0 : Nat) (q0 : Nat) (n0 : Nat) (k0 : Nat) (A0 : Nat → Member) (y1 : Int) : Sh_btf_rightReferences_v2_L0v3 → List L1 → List Value
  | .c0 s0_0, ls => [.int .i64 (y1), .bool false, .slice a0 n0 (n0 + k0), .int .i64 ((n0 : Int)), .int .i64 (s0_0)]
def mf_btf_rightReferences_v2_L0v3 : Sh_btf_rightReferences_v2_L0v3 → List (Nat × Nat)
  | .c0 _ => [(0, 1), (1, 2), (1, 24), (3, 13)]
noncomputable def fr_btf_rightReferences_v2_L0v3 (y0 : Xs35) (a0 : Option Addr) (p0 : Nat) (q0 : Nat) (n0 : Nat) (k0 : Nat) (A0 : Nat → Member) (y1 : Int) (s : Sh_btf_rightReferences_v2_L0v3) : List L1 → List Value := mrgF (mf_btf_rightReferences_v2_L0v3 s) (fl_btf_rightReferences_v2_L0v3 y0 a0 p0 q0 n0 k0 A0 y1 s) 1
def Hs_btf_rightReferences_v2_L0v3 (y0 : Xs35) (a0 : Option Addr) (p0 : Nat) (q0 : Nat) (n0 : Nat) (k0 : Nat) (A0 : Nat → Member) (y1 : Int) : Sh_btf_rightReferences_v2_L0v3 → List L1 → List Obj
  | .c0 s0_0, ls => [.cells #[.int .i64 (y0.fKind), .string y0.fName, .int .i64 (y0.fSize), .bool (y0.fSigned), .int .i64 (y0.fTo), .int .i64 (y0.fCount), .slice a0 n0 (n0 + k0)] 35, unb]
def vl_btf_rightReferences_v2_L0v3 (y0 : Xs35) (a0 : Option Addr) (p0 : Nat) (q0 : Nat) (n0 : Nat) (k0 : Nat) (A0 : Nat → Member) (y1 : Int) : Ex_btf_rightReferences_v2_L0v3 → List L1 → List Value
  | .e0 , ls => [.int .i64 (y1), .bool false, .slice a0 n0 (n0 + k0), .int .i64 ((n0 : Int))]
  | .e1 , ls => [.int .i64 (y1), .bool false, .slice a0 n0 (n0 + k0), .int .i64 ((n0 : Int))]
def mk_btf_rightReferences_v2_L0v3 : Ex_btf_rightReferences_v2_L0v3 → List (Nat × Nat)
  | .e0  => [(0, 1), (1, 2), (1, 24), (2, 14)]
  | .e1  => [(0, 1), (1, 2), (1, 24), (2, 14)]
noncomputable def vf_btf_rightReferences_v2_L0v3 (y0 : Xs35) (a0 : Option Addr) (p0 : Nat) (q0 : Nat) (n0 : Nat) (k0 : Nat) (A0 : Nat → Member) (y1 : Int) (r : Ex_btf_rightReferences_v2_L0v3) : List L1 → List Value := mrgF (mk_btf_rightReferences_v2_L0v3 r) (vl_btf_rightReferences_v2_L0v3 y0 a0 p0 q0 n0 k0 A0 y1 r) 1
def Hf_btf_rightReferences_v2_L0v3 (y0 : Xs35) (a0 : Option Addr) (p0 : Nat) (q0 : Nat) (n0 : Nat) (k0 : Nat) (A0 : Nat → Member) (y1 : Int) : Ex_btf_rightReferences_v2_L0v3 → List L1 → List Obj
  | .e0 , ls => [.cells #[.int .i64 (y0.fKind), .string y0.fName, .int .i64 (y0.fSize), .bool (y0.fSigned), .int .i64 (y0.fTo), .int .i64 (y0.fCount), .slice a0 n0 (n0 + k0)] 35, unb]
  | .e1 , ls => [.cells #[.int .i64 (y0.fKind), .string y0.fName, .int .i64 (y0.fSize), .bool (y0.fSigned), .int .i64 (y0.fTo), .int .i64 (y0.fCount), .slice a0 n0 (n0 + k0)] 35, unb]
def ex_btf_rightReferences_v2_L0v3 : Ex_btf_rightReferences_v2_L0v3 → Ex
  | .e0  => (.exit 3)
  | .e1  => .ret
theorem go_btf_rightReferences_v2_L0v3 (y1 : Int) (s : Sh_btf_rightReferences_v2_L0v3) (r : Ex_btf_rightReferences_v2_L0v3) (h : lpO (st_btf_rightReferences_v2_L0v3 n0 A0 y1) s = some r) : GoesG Tryd.prog M B0 S (.loop bd_btf_rightReferences_v2_L0v3) 2 (fr_btf_rightReferences_v2_L0v3 y0 a0 p0 q0 n0 k0 A0 y1 s) (Hs_btf_rightReferences_v2_L0v3 y0 a0 p0 q0 n0 k0 A0 y1 s) (ex_btf_rightReferences_v2_L0v3 r) 1 (vf_btf_rightReferences_v2_L0v3 y0 a0 p0 q0 n0 k0 A0 y1 r) (Hf_btf_rightReferences_v2_L0v3 y0 a0 p0 q0 n0 k0 A0 y1 r) 2 :=
  goes_lpO (fun s q e => by
    cases s with
    | c0 s0_0 =>
      unfold st_btf_rightReferences_v2_L0v3 at e
      dsimp only at e
      replace e := cond_eq_or e
      rcases e with ⟨hq0, e⟩ | ⟨hq0, e⟩
      · replace e := cond_eq_or e
        rcases e with ⟨hq1, e⟩ | ⟨hq1, e⟩
        · replace e := cond_eq_or e
          rcases e with ⟨hq2, e⟩ | ⟨hq2, e⟩
          · cases e; exact ⟨ne_ret, goes_runM hU [.b (z_lssT hq0), .q (ixRo_ok (kd := .i64) (T := 33) (x := s0_0) (sz := 3) rfl (fun w => by kernel_rfl) hR0 hq1), .l (accRo hR0 c_Member_len (inR_nat hq1) 0 [.string ((A0 (s0_0).toNat)).fName, .int .i64 (((A0 (s0_0).toNat)).fType), .int .i64 (((A0 (s0_0).toNat)).fBits)] rfl), .o, .a 2, .o, .a 2, .b (z_lssT hq2), .o, .o, .o] [0] (fun b => rfl) (by decide) rfl rfl (fun b => by kernel_rfl)⟩
          · replace e := cond_eq_or e
            rcases e with ⟨hq3, e⟩ | ⟨hq3, e⟩
            · cases e; exact ⟨ne_ret, goes_runM hU [.b (z_lssT hq0), .q (ixRo_ok (kd := .i64) (T := 33) (x := s0_0) (sz := 3) rfl (fun w => by kernel_rfl) hR0 hq1), .l (accRo hR0 c_Member_len (inR_nat hq1) 0 [.string ((A0 (s0_0).toNat)).fName, .int .i64 (((A0 (s0_0).toNat)).fType), .int .i64 (((A0 (s0_0).toNat)).fBits)] rfl), .o, .a 2, .o, .a 2, .b (z_lssF hq2), .o, .o, .a 2, .o, .b (z_gtrT hq3), .o, .o] [0] (fun b => rfl) (by decide) rfl rfl (fun b => by kernel_rfl)⟩
            · cases e; exact goes_runM hU [.b (z_lssT hq0), .q (ixRo_ok (kd := .i64) (T := 33) (x := s0_0) (sz := 3) rfl (fun w => by kernel_rfl) hR0 hq1), .l (accRo hR0 c_Member_len (inR_nat hq1) 0 [.string ((A0 (s0_0).toNat)).fName, .int .i64 (((A0 (s0_0).toNat)).fType), .int .i64 (((A0 (s0_0).toNat)).fBits)] rfl), .o, .a 2, .o, .a 2, .b (z_lssF hq2), .o, .o, .a 2, .o, .b (z_gtrF hq3), .o, .o, .o] [0] (fun b => rfl) (by decide) rfl rfl (fun b => by kernel_rfl)
        · exact none_some e
      · cases e; exact ⟨ne_exit 3, goes_runM hU [.b (z_lssF hq0)] [0] (fun b => rfl) (by decide) rfl rfl (fun b => by kernel_rfl)⟩) s r h
noncomputable def t0_btf_rightReferences_v2_L0v3_0 (y0 : Xs35) (a0 : Option Addr) (p0 : Nat) (q0 : Nat) (n0 : Nat) (k0 : Nat) (A0 : Nat → Member) (y1 : Int) (s0_0 : Int) (ls : List L1) : List Value := List.append [.agg #[.int .i64 (y0.fKind), .string y0.fName, .int .i64 (y0.fSize), .bool (y0.fSigned), .int .i64 (y0.fTo), .int .i64 (y0.fCount), .slice a0 n0 (n0 + k0)], .int .i64 (y1), .pointer (some ⟨(lget ls 0).n, 0, none⟩), undef, .bool false, .int .i64 (0), .int .i64 (y1), undef, undef, .int .i64 (y1), .pointer (some ⟨(lget ls 0).n, 0, none⟩), .int .i64 (y0.fKind), .bool false, .bool false, .bool false, .bool true, .bool false, .bool true, .pointer (some ⟨(lget ls 0).n, 4, none⟩), .int .i64 (y0.fTo), .int .i64 (0), .bool false, .bool false, .pointer (some ⟨(lget ls 0).n, 4, none⟩), .int .i64 (y0.fTo), .int .i64 (y1), .bool false, .bool false, .pointer (some ⟨(lget ls 0).n, 6, none⟩), .slice a0 n0 (n0 + k0), .int .i64 ((n0 : Int)), .int .i64 (s0_0)] (und 13)
def pre_btf_rightReferences_v2_L0v3_0 (y0 : Xs35) (a0 : Option Addr) (p0 : Nat) (q0 : Nat) (n0 : Nat) (k0 : Nat) (A0 : Nat → Member) (y1 : Int) (s0_0 : Int) (ls : List L1) : List Obj := [.cells #[.int .i64 (y0.fKind), .string y0.fName, .int .i64 (y0.fSize), .bool (y0.fSigned), .int .i64 (y0.fTo), .int .i64 (y0.fCount), .slice a0 n0 (n0 + k0)] 35]
theorem sp0_btf_rightReferences_v2_L0v3_0_ok (y1 : Int) (s0_0 : Int) (h : lpO (st_btf_rightReferences_v2_L0v3 n0 A0 y1) (.c0 s0_0) = some (.e0 )) : SpcG Tryd.prog M B0 S ⟨fun ls => .code (.loop bd_btf_rightReferences_v2_L0v3) (t0_btf_rightReferences_v2_L0v3_0 y0 a0 p0 q0 n0 k0 A0 y1 s0_0 ls), pre_btf_rightReferences_v2_L0v3_0 y0 a0 p0 q0 n0 k0 A0 y1 s0_0, 1, (.exit 3), fun ls => vf_btf_rightReferences_v2_L0v3 y0 a0 p0 q0 n0 k0 A0 y1 (.e0 ) (ls.take 1 ++ ls.drop 1), fun ls => (Hf_btf_rightReferences_v2_L0v3 y0 a0 p0 q0 n0 k0 A0 y1 (.e0 ) (ls.take 1 ++ ls.drop 1)).take 1 ++ List.replicate 0 unb, fun ls => (Hf_btf_rightReferences_v2_L0v3 y0 a0 p0 q0 n0 k0 A0 y1 (.e0 ) (ls.take 1 ++ ls.drop 1)).drop 1⟩ :=
  spc_of_goesM hU 0 (k0 := 1) (go_btf_rightReferences_v2_L0v3 hU y0 a0 p0 q0 n0 k0 A0 hR0 y1 _ _ h) (t0_btf_rightReferences_v2_L0v3_0 y0 a0 p0 q0 n0 k0 A0 y1 s0_0) (pre_btf_rightReferences_v2_L0v3_0 y0 a0 p0 q0 n0 k0 A0 y1 s0_0) (fun _ => rfl) (fun ls h => by match ls, h with | [l0], _ => exact ⟨by kernel_rfl, by kernel_rfl⟩) (fun ls h => by match ls, h with | [l0], _ => rfl) (by decide) (by decide) (fun ls => rfl)
theorem sp1_btf_rightReferences_v2_L0v3_0_ok (y1 : Int) (s0_0 : Int) (h : lpO (st_btf_rightReferences_v2_L0v3 n0 A0 y1) (.c0 s0_0) = some (.e1 )) : SpcG Tryd.prog M B0 S ⟨fun ls => .code (.loop bd_btf_rightReferences_v2_L0v3) (t0_btf_rightReferences_v2_L0v3_0 y0 a0 p0 q0 n0 k0 A0 y1 s0_0 ls), pre_btf_rightReferences_v2_L0v3_0 y0 a0 p0 q0 n0 k0 A0 y1 s0_0, 1, .ret, fun ls => vf_btf_rightReferences_v2_L0v3 y0 a0 p0 q0 n0 k0 A0 y1 (.e1 ) (ls.take 1 ++ ls.drop 1), fun ls => (Hf_btf_rightReferences_v2_L0v3 y0 a0 p0 q0 n0 k0 A0 y1 (.e1 ) (ls.take 1 ++ ls.drop 1)).take 1 ++ List.replicate 0 unb, fun ls => (Hf_btf_rightReferences_v2_L0v3 y0 a0 p0 q0 n0 k0 A0 y1 (.e1 ) (ls.take 1 ++ ls.drop 1)).drop 1⟩ :=
  spc_of_goesM hU 0 (k0 := 1) (go_btf_rightReferences_v2_L0v3 hU y0 a0 p0 q0 n0 k0 A0 hR0 y1 _ _ h) (t0_btf_rightReferences_v2_L0v3_0 y0 a0 p0 q0 n0 k0 A0 y1 s0_0) (pre_btf_rightReferences_v2_L0v3_0 y0 a0 p0 q0 n0 k0 A0 y1 s0_0) (fun _ => rfl) (fun ls h => by match ls, h with | [l0], _ => exact ⟨by kernel_rfl, by kernel_rfl⟩) (fun ls h => by match ls, h with | [l0], _ => rfl) (by decide) (by decide) (fun ls => rfl)
inductive Sh_btf_rightReferences_v2_L0v4 where
  | c0 (s0_0 : Int)
inductive Ex_btf_rightReferences_v2_L0v4 where
  | e0 
  | e1 
noncomputable def st_btf_rightReferences_v2_L0v4 (n0 : Nat) (A0 : Nat → Member) (y1 : Int) : Sh_btf_rightReferences_v2_L0v4 → Option (Sh_btf_rightReferences_v2_L0v4 ⊕ Ex_btf_rightReferences_v2_L0v4)
  | .c0 s0_0 =>
    bif decide (s0_0 < (n0 : Int)) then
      (bif inR s0_0 n0 then
        (bif decide (((A0 (s0_0).toNat)).fType < 1) then
          (some (.inr (.e1 )))
        else (bif decide (y1 < ((A0 (s0_0).toNat)).fType) then
          (some (.inr (.e1 )))
        else (some (.inl (.c0 (IntKind.i64.wrap (s0_0 + 1)))))))
      else (none))
    else (some (.inr (.e0 )))
noncomputable def bd_btf_rightReferences_v2_L0v4 : Code := codeOf Tryd.f25 [1, 1, 1, 1, 0, 1, 0, 0]
def fl_btf_rightReferences_v2_L0v4 (y0 : Xs35) (a0 : Option Addr) (p0 : Nat) (q0 : Nat) (n0 : Nat) (k0 : Nat) (A0 : Nat → Member) (y1 : Int) : Sh_btf_rightReferences_v2_L0v4 → List L1 → List Value
  | .c0 s0_0, ls => [.int .i64 (y1), .bool false, .slice a0 n0 (n0 + k0), .int .i64 ((n0 : Int)), .int .i64 (s0_0)]
def mf_btf_rightReferences_v2_L0v4 : Sh_btf_rightReferences_v2_L0v4 → List (Nat × Nat)
  | .c0 _ => [(0, 1), (1, 2), (1, 24), (3, 13)]
noncomputable def fr_btf_rightReferences_v2_L0v4 (y0 : Xs35) (a0 : Option Addr) (p0 : Nat) (q0 : Nat) (n0 : Nat) (k0 : Nat) (A0 : Nat → Member) (y1 : Int) (s : Sh_btf_rightReferences_v2_L0v4) : List L1 → List Value := mrgF (mf_btf_rightReferences_v2_L0v4 s) (fl_btf_rightReferences_v2_L0v4 y0 a0 p0 q0 n0 k0 A0 y1 s) 1
def Hs_btf_rightReferences_v2_L0v4 (y0 : Xs35) (a0 : Option Addr) (p0 : Nat) (q0 : Nat) (n0 : Nat) (k0 : Nat) (A0 : Nat → Member) (y1 : Int) : Sh_btf_rightReferences_v2_L0v4 → List L1 → List Obj
  | .c0 s0_0, ls => [.cells #[.int .i64 (y0.fKind), .string y0.fName, .int .i64 (y0.fSize), .bool (y0.fSigned), .int .i64 (y0.fTo), .int .i64 (y0.fCount), .slice a0 n0 (n0 + k0)] 35, unb]
def vl_btf_rightReferences_v2_L0v4 (y0 : Xs35) (a0 : Option Addr) (p0 : Nat) (q0 : Nat) (n0 : Nat) (k0 : Nat) (A0 : Nat → Member) (y1 : Int) : Ex_btf_rightReferences_v2_L0v4 → List L1 → List Value
  | .e0 , ls => [.int .i64 (y1), .bool false, .slice a0 n0 (n0 + k0), .int .i64 ((n0 : Int))]
  | .e1 , ls => [.int .i64 (y1), .bool false, .slice a0 n0 (n0 + k0), .int .i64 ((n0 : Int))]
def mk_btf_rightReferences_v2_L0v4 : Ex_btf_rightReferences_v2_L0v4 → List (Nat × Nat)
  | .e0  => [(0, 1), (1, 2), (1, 24), (2, 14)]
  | .e1  => [(0, 1), (1, 2), (1, 24), (2, 14)]
noncomputable def vf_btf_rightReferences_v2_L0v4 (y0 : Xs35) (a0 : Option Addr) (p0 : Nat) (q0 : Nat) (n0 : Nat) (k0 : Nat) (A0 : Nat → Member) (y1 : Int) (r : Ex_btf_rightReferences_v2_L0v4) : List L1 → List Value := mrgF (mk_btf_rightReferences_v2_L0v4 r) (vl_btf_rightReferences_v2_L0v4 y0 a0 p0 q0 n0 k0 A0 y1 r) 1
def Hf_btf_rightReferences_v2_L0v4 (y0 : Xs35) (a0 : Option Addr) (p0 : Nat) (q0 : Nat) (n0 : Nat) (k0 : Nat) (A0 : Nat → Member) (y1 : Int) : Ex_btf_rightReferences_v2_L0v4 → List L1 → List Obj
  | .e0 , ls => [.cells #[.int .i64 (y0.fKind), .string y0.fName, .int .i64 (y0.fSize), .bool (y0.fSigned), .int .i64 (y0.fTo), .int .i64 (y0.fCount), .slice a0 n0 (n0 + k0)] 35, unb]
  | .e1 , ls => [.cells #[.int .i64 (y0.fKind), .string y0.fName, .int .i64 (y0.fSize), .bool (y0.fSigned), .int .i64 (y0.fTo), .int .i64 (y0.fCount), .slice a0 n0 (n0 + k0)] 35, unb]
def ex_btf_rightReferences_v2_L0v4 : Ex_btf_rightReferences_v2_L0v4 → Ex
  | .e0  => (.exit 3)
  | .e1  => .ret
theorem go_btf_rightReferences_v2_L0v4 (y1 : Int) (s : Sh_btf_rightReferences_v2_L0v4) (r : Ex_btf_rightReferences_v2_L0v4) (h : lpO (st_btf_rightReferences_v2_L0v4 n0 A0 y1) s = some r) : GoesG Tryd.prog M B0 S (.loop bd_btf_rightReferences_v2_L0v4) 2 (fr_btf_rightReferences_v2_L0v4 y0 a0 p0 q0 n0 k0 A0 y1 s) (Hs_btf_rightReferences_v2_L0v4 y0 a0 p0 q0 n0 k0 A0 y1 s) (ex_btf_rightReferences_v2_L0v4 r) 1 (vf_btf_rightReferences_v2_L0v4 y0 a0 p0 q0 n0 k0 A0 y1 r) (Hf_btf_rightReferences_v2_L0v4 y0 a0 p0 q0 n0 k0 A0 y1 r) 2 :=
  goes_lpO (fun s q e => by
    cases s with
    | c0 s0_0 =>
      unfold st_btf_rightReferences_v2_L0v4 at e
      dsimp only at e
      replace e := cond_eq_or e
      rcases e with ⟨hq0, e⟩ | ⟨hq0, e⟩
      · replace e := cond_eq_or e
        rcases e with ⟨hq1, e⟩ | ⟨hq1, e⟩
        · replace e := cond_eq_or e
          rcases e with ⟨hq2, e⟩ | ⟨hq2, e⟩
          · cases e; exact ⟨ne_ret, goes_runM hU [.b (z_lssT hq0), .q (ixRo_ok (kd := .i64) (T := 33) (x := s0_0) (sz := 3) rfl (fun w => by kernel_rfl) hR0 hq1), .l (accRo hR0 c_Member_len (inR_nat hq1) 0 [.string ((A0 (s0_0).toNat)).fName, .int .i64 (((A0 (s0_0).toNat)).fType), .int .i64 (((A0 (s0_0).toNat)).fBits)] rfl), .o, .a 2, .o, .a 2, .b (z_lssT hq2), .o, .o, .o] [0] (fun b => rfl) (by decide) rfl rfl (fun b => by kernel_rfl)⟩
          · replace e := cond_eq_or e
            rcases e with ⟨hq3, e⟩ | ⟨hq3, e⟩
            · cases e; exact ⟨ne_ret, goes_runM hU [.b (z_lssT hq0), .q (ixRo_ok (kd := .i64) (T := 33) (x := s0_0) (sz := 3) rfl (fun w => by kernel_rfl) hR0 hq1), .l (accRo hR0 c_Member_len (inR_nat hq1) 0 [.string ((A0 (s0_0).toNat)).fName, .int .i64 (((A0 (s0_0).toNat)).fType), .int .i64 (((A0 (s0_0).toNat)).fBits)] rfl), .o, .a 2, .o, .a 2, .b (z_lssF hq2), .o, .o, .a 2, .o, .b (z_gtrT hq3), .o, .o] [0] (fun b => rfl) (by decide) rfl rfl (fun b => by kernel_rfl)⟩
            · cases e; exact goes_runM hU [.b (z_lssT hq0), .q (ixRo_ok (kd := .i64) (T := 33) (x := s0_0) (sz := 3) rfl (fun w => by kernel_rfl) hR0 hq1), .l (accRo hR0 c_Member_len (inR_nat hq1) 0 [.string ((A0 (s0_0).toNat)).fName, .int .i64 (((A0 (s0_0).toNat)).fType), .int .i64 (((A0 (s0_0).toNat)).fBits)] rfl), .o, .a 2, .o, .a 2, .b (z_lssF hq2), .o, .o, .a 2, .o, .b (z_gtrF hq3), .o, .o, .o] [0] (fun b => rfl) (by decide) rfl rfl (fun b => by kernel_rfl)
        · exact none_some e
      · cases e; exact ⟨ne_exit 3, goes_runM hU [.b (z_lssF hq0)] [0] (fun b => rfl) (by decide) rfl rfl (fun b => by kernel_rfl)⟩) s r h
noncomputable def t0_btf_rightReferences_v2_L0v4_0 (y0 : Xs35) (a0 : Option Addr) (p0 : Nat) (q0 : Nat) (n0 : Nat) (k0 : Nat) (A0 : Nat → Member) (y1 : Int) (s0_0 : Int) (ls : List L1) : List Value := List.append [.agg #[.int .i64 (y0.fKind), .string y0.fName, .int .i64 (y0.fSize), .bool (y0.fSigned), .int .i64 (y0.fTo), .int .i64 (y0.fCount), .slice a0 n0 (n0 + k0)], .int .i64 (y1), .pointer (some ⟨(lget ls 0).n, 0, none⟩), undef, .bool false, .int .i64 (1), .int .i64 (y1), undef, undef, .int .i64 (y1), .pointer (some ⟨(lget ls 0).n, 0, none⟩), .int .i64 (y0.fKind), .bool false, .bool false, .bool false, .bool false, .bool false, .bool false, .pointer (some ⟨(lget ls 0).n, 4, none⟩), .int .i64 (y0.fTo), .int .i64 (1), .bool false, .bool false, .pointer (some ⟨(lget ls 0).n, 4, none⟩), .int .i64 (y0.fTo), .int .i64 (y1), .bool false, .bool false, .pointer (some ⟨(lget ls 0).n, 6, none⟩), .slice a0 n0 (n0 + k0), .int .i64 ((n0 : Int)), .int .i64 (s0_0)] (und 13)
def pre_btf_rightReferences_v2_L0v4_0 (y0 : Xs35) (a0 : Option Addr) (p0 : Nat) (q0 : Nat) (n0 : Nat) (k0 : Nat) (A0 : Nat → Member) (y1 : Int) (s0_0 : Int) (ls : List L1) : List Obj := [.cells #[.int .i64 (y0.fKind), .string y0.fName, .int .i64 (y0.fSize), .bool (y0.fSigned), .int .i64 (y0.fTo), .int .i64 (y0.fCount), .slice a0 n0 (n0 + k0)] 35]
theorem sp0_btf_rightReferences_v2_L0v4_0_ok (y1 : Int) (s0_0 : Int) (h : lpO (st_btf_rightReferences_v2_L0v4 n0 A0 y1) (.c0 s0_0) = some (.e0 )) : SpcG Tryd.prog M B0 S ⟨fun ls => .code (.loop bd_btf_rightReferences_v2_L0v4) (t0_btf_rightReferences_v2_L0v4_0 y0 a0 p0 q0 n0 k0 A0 y1 s0_0 ls), pre_btf_rightReferences_v2_L0v4_0 y0 a0 p0 q0 n0 k0 A0 y1 s0_0, 1, (.exit 3), fun ls => vf_btf_rightReferences_v2_L0v4 y0 a0 p0 q0 n0 k0 A0 y1 (.e0 ) (ls.take 1 ++ ls.drop 1), fun ls => (Hf_btf_rightReferences_v2_L0v4 y0 a0 p0 q0 n0 k0 A0 y1 (.e0 ) (ls.take 1 ++ ls.drop 1)).take 1 ++ List.replicate 0 unb, fun ls => (Hf_btf_rightReferences_v2_L0v4 y0 a0 p0 q0 n0 k0 A0 y1 (.e0 ) (ls.take 1 ++ ls.drop 1)).drop 1⟩ :=
  spc_of_goesM hU 0 (k0 := 1) (go_btf_rightReferences_v2_L0v4 hU y0 a0 p0 q0 n0 k0 A0 hR0 y1 _ _ h) (t0_btf_rightReferences_v2_L0v4_0 y0 a0 p0 q0 n0 k0 A0 y1 s0_0) (pre_btf_rightReferences_v2_L0v4_0 y0 a0 p0 q0 n0 k0 A0 y1 s0_0) (fun _ => rfl) (fun ls h => by match ls, h with | [l0], _ => exact ⟨by kernel_rfl, by kernel_rfl⟩) (fun ls h => by match ls, h with | [l0], _ => rfl) (by decide) (by decide) (fun ls => rfl)
theorem sp1_btf_rightReferences_v2_L0v4_0_ok (y1 : Int) (s0_0 : Int) (h : lpO (st_btf_rightReferences_v2_L0v4 n0 A0 y1) (.c0 s0_0) = some (.e1 )) : SpcG Tryd.prog M B0 S ⟨fun ls => .code (.loop bd_btf_rightReferences_v2_L0v4) (t0_btf_rightReferences_v2_L0v4_0 y0 a0 p0 q0 n0 k0 A0 y1 s0_0 ls), pre_btf_rightReferences_v2_L0v4_0 y0 a0 p0 q0 n0 k0 A0 y1 s0_0, 1, .ret, fun ls => vf_btf_rightReferences_v2_L0v4 y0 a0 p0 q0 n0 k0 A0 y1 (.e1 ) (ls.take 1 ++ ls.drop 1), fun ls => (Hf_btf_rightReferences_v2_L0v4 y0 a0 p0 q0 n0 k0 A0 y1 (.e1 ) (ls.take 1 ++ ls.drop 1)).take 1 ++ List.replicate 0 unb, fun ls => (Hf_btf_rightReferences_v2_L0v4 y0 a0 p0 q0 n0 k0 A0 y1 (.e1 ) (ls.take 1 ++ ls.drop 1)).drop 1⟩ :=
  spc_of_goesM hU 0 (k0 := 1) (go_btf_rightReferences_v2_L0v4 hU y0 a0 p0 q0 n0 k0 A0 hR0 y1 _ _ h) (t0_btf_rightReferences_v2_L0v4_0 y0 a0 p0 q0 n0 k0 A0 y1 s0_0) (pre_btf_rightReferences_v2_L0v4_0 y0 a0 p0 q0 n0 k0 A0 y1 s0_0) (fun _ => rfl) (fun ls h => by match ls, h with | [l0], _ => exact ⟨by kernel_rfl, by kernel_rfl⟩) (fun ls h => by match ls, h with | [l0], _ => rfl) (by decide) (by decide) (fun ls => rfl)
noncomputable def m_btf_rightReferences_v2 (y0 : Xs35) (n0 : Nat) (A0 : Nat → Member) (y1 : Int) : Option (Bool) :=
  bif y0.fKind == 1 then
    (bif decide (y0.fTo < 0) then
      (some false)
    else (bif decide (0 < y0.fTo) then
      (some false)
    else ((lpO (st_btf_rightReferences_v2_L0 n0 A0 y1) (.c0 0)).bind fun g0 => match g0 with
    | .e0  => (some true)
    | .e1  => (some false))))
  else (bif y0.fKind == 4 then
    (bif decide (y0.fTo < 0) then
      (some false)
    else (bif decide (0 < y0.fTo) then
      (some false)
    else ((lpO (st_btf_rightReferences_v2_L0v1 n0 A0 y1) (.c0 0)).bind fun g0 => match g0 with
    | .e0  => (some true)
    | .e1  => (some false))))
  else (bif y0.fKind == 2 then
    (bif decide (y0.fTo < 0) then
      (some false)
    else (bif decide (y1 < y0.fTo) then
      (some false)
    else ((lpO (st_btf_rightReferences_v2_L0v2 n0 A0 y1) (.c0 0)).bind fun g0 => match g0 with
    | .e0  => (some true)
    | .e1  => (some false))))
  else (bif y0.fKind == 6 then
    (bif decide (y0.fTo < 0) then
      (some false)
    else (bif decide (y1 < y0.fTo) then
      (some false)
    else ((lpO (st_btf_rightReferences_v2_L0v3 n0 A0 y1) (.c0 0)).bind fun g0 => match g0 with
    | .e0  => (some true)
    | .e1  => (some false))))
  else (bif decide (y0.fTo < 1) then
    (some false)
  else (bif decide (y1 < y0.fTo) then
    (some false)
  else ((lpO (st_btf_rightReferences_v2_L0v4 n0 A0 y1) (.c0 0)).bind fun g0 => match g0 with
  | .e0  => (some true)
  | .e1  => (some false)))))))
theorem ok_btf_rightReferences_v2 (y1 : Int) (r : Bool) (e : m_btf_rightReferences_v2 y0 n0 A0 y1 = some r) : ConG Tryd.prog S 25 #[.agg #[.int .i64 (y0.fKind), .string y0.fName, .int .i64 (y0.fSize), .bool (y0.fSigned), .int .i64 (y0.fTo), .int .i64 (y0.fCount), .slice a0 n0 (n0 + k0)], .int .i64 (y1)] (.bool (r)) := by
  unfold m_btf_rightReferences_v2 at e
  replace e := cond_eq_or e
  rcases e with ⟨hq0, e⟩ | ⟨hq0, e⟩
  · replace e := cond_eq_or e
    rcases e with ⟨hq1, e⟩ | ⟨hq1, e⟩
    · injection e with e; subst e; exact fn_conG hU (P := Tryd.prog) Tryd.func25 (fun xs w => by kernel_rfl) _ _ [.o, .o, .o, .o, .o, .o, .a 0, .b (z_eqlT hq0), .o, .o, .o, .o, .a 0, .o, .b (z_lssT hq1), .o, .o, .o] [] (fun b => by kernel_rfl)
    · replace e := cond_eq_or e
      rcases e with ⟨hq2, e⟩ | ⟨hq2, e⟩
      · injection e with e; subst e; exact fn_conG hU (P := Tryd.prog) Tryd.func25 (fun xs w => by kernel_rfl) _ _ [.o, .o, .o, .o, .o, .o, .a 0, .b (z_eqlT hq0), .o, .o, .o, .o, .a 0, .o, .b (z_lssF hq1), .o, .o, .a 0, .o, .b (z_gtrT hq2), .o, .o] [] (fun b => by kernel_rfl)
      · replace e := bindO_eq e
        obtain ⟨g0, e_g0, e⟩ := e
        rcases g0 with _ | _
        · try dsimp only at e
          injection e with e; subst e; exact fn_conG hU (P := Tryd.prog) Tryd.func25 (fun xs w => by kernel_rfl) _ _ [.o, .o, .o, .o, .o, .o, .a 0, .b (z_eqlT hq0), .o, .o, .o, .o, .a 0, .o, .b (z_lssF hq1), .o, .o, .a 0, .o, .b (z_gtrF hq2), .o, .o, .a 0, .o, .o, .cp, .cx (sp0_btf_rightReferences_v2_L0_0_ok hU y0 a0 p0 q0 n0 k0 A0 hR0 y1 0  e_g0) [0], .o] [] (fun b => by kernel_rfl)
        · try dsimp only at e
          injection e with e; subst e; exact fn_conG hU (P := Tryd.prog) Tryd.func25 (fun xs w => by kernel_rfl) _ _ [.o, .o, .o, .o, .o, .o, .a 0, .b (z_eqlT hq0), .o, .o, .o, .o, .a 0, .o, .b (z_lssF hq1), .o, .o, .a 0, .o, .b (z_gtrF hq2), .o, .o, .a 0, .o, .o, .cp, .cx (sp1_btf_rightReferences_v2_L0_0_ok hU y0 a0 p0 q0 n0 k0 A0 hR0 y1 0  e_g0) [0]] [] (fun b => by kernel_rfl)
  · replace e := cond_eq_or e
    rcases e with ⟨hq1, e⟩ | ⟨hq1, e⟩
    · replace e := cond_eq_or e
      rcases e with ⟨hq2, e⟩ | ⟨hq2, e⟩
      · injection e with e; subst e; exact fn_conG hU (P := Tryd.prog) Tryd.func25 (fun xs w => by kernel_rfl) _ _ [.o, .o, .o, .o, .o, .o, .a 0, .b (z_eqlF hq0), .o, .b (z_eqlT hq1), .o, .o, .o, .o, .a 0, .o, .b (z_lssT hq2), .o, .o, .o] [] (fun b => by kernel_rfl)
      · replace e := cond_eq_or e
        rcases e with ⟨hq3, e⟩ | ⟨hq3, e⟩
        · injection e with e; subst e; exact fn_conG hU (P := Tryd.prog) Tryd.func25 (fun xs w => by kernel_rfl) _ _ [.o, .o, .o, .o, .o, .o, .a 0, .b (z_eqlF hq0), .o, .b (z_eqlT hq1), .o, .o, .o, .o, .a 0, .o, .b (z_lssF hq2), .o, .o, .a 0, .o, .b (z_gtrT hq3), .o, .o] [] (fun b => by kernel_rfl)
        · replace e := bindO_eq e
          obtain ⟨g0, e_g0, e⟩ := e
          rcases g0 with _ | _
          · try dsimp only at e
            injection e with e; subst e; exact fn_conG hU (P := Tryd.prog) Tryd.func25 (fun xs w => by kernel_rfl) _ _ [.o, .o, .o, .o, .o, .o, .a 0, .b (z_eqlF hq0), .o, .b (z_eqlT hq1), .o, .o, .o, .o, .a 0, .o, .b (z_lssF hq2), .o, .o, .a 0, .o, .b (z_gtrF hq3), .o, .o, .a 0, .o, .o, .cp, .cx (sp0_btf_rightReferences_v2_L0v1_0_ok hU y0 a0 p0 q0 n0 k0 A0 hR0 y1 0  e_g0) [0], .o] [] (fun b => by kernel_rfl)
          · try dsimp only at e
            injection e with e; subst e; exact fn_conG hU (P := Tryd.prog) Tryd.func25 (fun xs w => by kernel_rfl) _ _ [.o, .o, .o, .o, .o, .o, .a 0, .b (z_eqlF hq0), .o, .b (z_eqlT hq1), .o, .o, .o, .o, .a 0, .o, .b (z_lssF hq2), .o, .o, .a 0, .o, .b (z_gtrF hq3), .o, .o, .a 0, .o, .o, .cp, .cx (sp1_btf_rightReferences_v2_L0v1_0_ok hU y0 a0 p0 q0 n0 k0 A0 hR0 y1 0  e_g0) [0]] [] (fun b => by kernel_rfl)
    · replace e := cond_eq_or e
      rcases e with ⟨hq2, e⟩ | ⟨hq2, e⟩
      · replace e := cond_eq_or e
        rcases e with ⟨hq3, e⟩ | ⟨hq3, e⟩
        · injection e with e; subst e; exact fn_conG hU (P := Tryd.prog) Tryd.func25 (fun xs w => by kernel_rfl) _ _ [.o, .o, .o, .o, .o, .o, .a 0, .b (z_eqlF hq0), .o, .b (z_eqlF hq1), .o, .b (z_eqlT hq2), .o, .o, .o, .a 0, .o, .b (z_lssT hq3), .o, .o, .o] [] (fun b => by kernel_rfl)
        · replace e := cond_eq_or e
          rcases e with ⟨hq4, e⟩ | ⟨hq4, e⟩
          · injection e with e; subst e; exact fn_conG hU (P := Tryd.prog) Tryd.func25 (fun xs w => by kernel_rfl) _ _ [.o, .o, .o, .o, .o, .o, .a 0, .b (z_eqlF hq0), .o, .b (z_eqlF hq1), .o, .b (z_eqlT hq2), .o, .o, .o, .a 0, .o, .b (z_lssF hq3), .o, .o, .a 0, .o, .b (z_gtrT hq4), .o, .o] [] (fun b => by kernel_rfl)
          · replace e := bindO_eq e
            obtain ⟨g0, e_g0, e⟩ := e
            rcases g0 with _ | _
            · try dsimp only at e
              injection e with e; subst e; exact fn_conG hU (P := Tryd.prog) Tryd.func25 (fun xs w => by kernel_rfl) _ _ [.o, .o, .o, .o, .o, .o, .a 0, .b (z_eqlF hq0), .o, .b (z_eqlF hq1), .o, .b (z_eqlT hq2), .o, .o, .o, .a 0, .o, .b (z_lssF hq3), .o, .o, .a 0, .o, .b (z_gtrF hq4), .o, .o, .a 0, .o, .o, .cp, .cx (sp0_btf_rightReferences_v2_L0v2_0_ok hU y0 a0 p0 q0 n0 k0 A0 hR0 y1 0  e_g0) [0], .o] [] (fun b => by kernel_rfl)
            · try dsimp only at e
              injection e with e; subst e; exact fn_conG hU (P := Tryd.prog) Tryd.func25 (fun xs w => by kernel_rfl) _ _ [.o, .o, .o, .o, .o, .o, .a 0, .b (z_eqlF hq0), .o, .b (z_eqlF hq1), .o, .b (z_eqlT hq2), .o, .o, .o, .a 0, .o, .b (z_lssF hq3), .o, .o, .a 0, .o, .b (z_gtrF hq4), .o, .o, .a 0, .o, .o, .cp, .cx (sp1_btf_rightReferences_v2_L0v2_0_ok hU y0 a0 p0 q0 n0 k0 A0 hR0 y1 0  e_g0) [0]] [] (fun b => by kernel_rfl)
      · replace e := cond_eq_or e
        rcases e with ⟨hq3, e⟩ | ⟨hq3, e⟩
        · replace e := cond_eq_or e
          rcases e with ⟨hq4, e⟩ | ⟨hq4, e⟩
          · injection e with e; subst e; exact fn_conG hU (P := Tryd.prog) Tryd.func25 (fun xs w => by kernel_rfl) _ _ [.o, .o, .o, .o, .o, .o, .a 0, .b (z_eqlF hq0), .o, .b (z_eqlF hq1), .o, .b (z_eqlF hq2), .o, .b (z_eqlT hq3), .o, .o, .o, .a 0, .o, .b (z_lssT hq4), .o, .o, .o] [] (fun b => by kernel_rfl)
          · replace e := cond_eq_or e
            rcases e with ⟨hq5, e⟩ | ⟨hq5, e⟩
            · injection e with e; subst e; exact fn_conG hU (P := Tryd.prog) Tryd.func25 (fun xs w => by kernel_rfl) _ _ [.o, .o, .o, .o, .o, .o, .a 0, .b (z_eqlF hq0), .o, .b (z_eqlF hq1), .o, .b (z_eqlF hq2), .o, .b (z_eqlT hq3), .o, .o, .o, .a 0, .o, .b (z_lssF hq4), .o, .o, .a 0, .o, .b (z_gtrT hq5), .o, .o] [] (fun b => by kernel_rfl)
            · replace e := bindO_eq e
              obtain ⟨g0, e_g0, e⟩ := e
              rcases g0 with _ | _
              · try dsimp only at e
                injection e with e; subst e; exact fn_conG hU (P := Tryd.prog) Tryd.func25 (fun xs w => by kernel_rfl) _ _ [.o, .o, .o, .o, .o, .o, .a 0, .b (z_eqlF hq0), .o, .b (z_eqlF hq1), .o, .b (z_eqlF hq2), .o, .b (z_eqlT hq3), .o, .o, .o, .a 0, .o, .b (z_lssF hq4), .o, .o, .a 0, .o, .b (z_gtrF hq5), .o, .o, .a 0, .o, .o, .cp, .cx (sp0_btf_rightReferences_v2_L0v3_0_ok hU y0 a0 p0 q0 n0 k0 A0 hR0 y1 0  e_g0) [0], .o] [] (fun b => by kernel_rfl)
              · try dsimp only at e
                injection e with e; subst e; exact fn_conG hU (P := Tryd.prog) Tryd.func25 (fun xs w => by kernel_rfl) _ _ [.o, .o, .o, .o, .o, .o, .a 0, .b (z_eqlF hq0), .o, .b (z_eqlF hq1), .o, .b (z_eqlF hq2), .o, .b (z_eqlT hq3), .o, .o, .o, .a 0, .o, .b (z_lssF hq4), .o, .o, .a 0, .o, .b (z_gtrF hq5), .o, .o, .a 0, .o, .o, .cp, .cx (sp1_btf_rightReferences_v2_L0v3_0_ok hU y0 a0 p0 q0 n0 k0 A0 hR0 y1 0  e_g0) [0]] [] (fun b => by kernel_rfl)
        · replace e := cond_eq_or e
          rcases e with ⟨hq4, e⟩ | ⟨hq4, e⟩
          · injection e with e; subst e; exact fn_conG hU (P := Tryd.prog) Tryd.func25 (fun xs w => by kernel_rfl) _ _ [.o, .o, .o, .o, .o, .o, .a 0, .b (z_eqlF hq0), .o, .b (z_eqlF hq1), .o, .b (z_eqlF hq2), .o, .b (z_eqlF hq3), .o, .o, .a 0, .o, .b (z_lssT hq4), .o, .o, .o] [] (fun b => by kernel_rfl)
          · replace e := cond_eq_or e
            rcases e with ⟨hq5, e⟩ | ⟨hq5, e⟩
            · injection e with e; subst e; exact fn_conG hU (P := Tryd.prog) Tryd.func25 (fun xs w => by kernel_rfl) _ _ [.o, .o, .o, .o, .o, .o, .a 0, .b (z_eqlF hq0), .o, .b (z_eqlF hq1), .o, .b (z_eqlF hq2), .o, .b (z_eqlF hq3), .o, .o, .a 0, .o, .b (z_lssF hq4), .o, .o, .a 0, .o, .b (z_gtrT hq5), .o, .o] [] (fun b => by kernel_rfl)
            · replace e := bindO_eq e
              obtain ⟨g0, e_g0, e⟩ := e
              rcases g0 with _ | _
              · try dsimp only at e
                injection e with e; subst e; exact fn_conG hU (P := Tryd.prog) Tryd.func25 (fun xs w => by kernel_rfl) _ _ [.o, .o, .o, .o, .o, .o, .a 0, .b (z_eqlF hq0), .o, .b (z_eqlF hq1), .o, .b (z_eqlF hq2), .o, .b (z_eqlF hq3), .o, .o, .a 0, .o, .b (z_lssF hq4), .o, .o, .a 0, .o, .b (z_gtrF hq5), .o, .o, .a 0, .o, .o, .cp, .cx (sp0_btf_rightReferences_v2_L0v4_0_ok hU y0 a0 p0 q0 n0 k0 A0 hR0 y1 0  e_g0) [0], .o] [] (fun b => by kernel_rfl)
              · try dsimp only at e
                injection e with e; subst e; exact fn_conG hU (P := Tryd.prog) Tryd.func25 (fun xs w => by kernel_rfl) _ _ [.o, .o, .o, .o, .o, .o, .a 0, .b (z_eqlF hq0), .o, .b (z_eqlF hq1), .o, .b (z_eqlF hq2), .o, .b (z_eqlF hq3), .o, .o, .a 0, .o, .b (z_lssF hq4), .o, .o, .a 0, .o, .b (z_gtrF hq5), .o, .o, .a 0, .o, .o, .cp, .cx (sp1_btf_rightReferences_v2_L0v4_0_ok hU y0 a0 p0 q0 n0 k0 A0 hR0 y1 0  e_g0) [0]] [] (fun b => by kernel_rfl)
inductive Sh_btf_onlyOwnFields_v2_L0 where
  | c0 (s0_0 : Int)
inductive Ex_btf_onlyOwnFields_v2_L0 where
  | e0 
  | e1 
noncomputable def st_btf_onlyOwnFields_v2_L0 (n0 : Nat) (A0 : Nat → Member) : Sh_btf_onlyOwnFields_v2_L0 → Option (Sh_btf_onlyOwnFields_v2_L0 ⊕ Ex_btf_onlyOwnFields_v2_L0)
  | .c0 s0_0 =>
    bif decide (s0_0 < (n0 : Int)) then
      (bif inR s0_0 n0 then
        (bif ((A0 (s0_0).toNat)).fBits == 0 then
          (some (.inl (.c0 (IntKind.i64.wrap (s0_0 + 1)))))
        else (some (.inr (.e1 ))))
      else (none))
    else (some (.inr (.e0 )))
noncomputable def bd_btf_onlyOwnFields_v2_L0 : Code := codeOf Tryd.f26 [1, 1, 0, 1, 0, 1, 1, 1, 1, 1, 0, 0, 1, 0, 0]
def fl_btf_onlyOwnFields_v2_L0 (y0 : Xs35) (a0 : Option Addr) (p0 : Nat) (q0 : Nat) (n0 : Nat) (k0 : Nat) (A0 : Nat → Member) : Sh_btf_onlyOwnFields_v2_L0 → List L1 → List Value
  | .c0 s0_0, ls => [.pointer (some ⟨(lget ls 0).n, 0, none⟩), .bool false, .slice a0 n0 (n0 + k0), .int .i64 ((n0 : Int)), .int .i64 (s0_0)]
def mf_btf_onlyOwnFields_v2_L0 : Sh_btf_onlyOwnFields_v2_L0 → List (Nat × Nat)
  | .c0 _ => [(0, 1), (2, 32), (3, 19)]
noncomputable def fr_btf_onlyOwnFields_v2_L0 (y0 : Xs35) (a0 : Option Addr) (p0 : Nat) (q0 : Nat) (n0 : Nat) (k0 : Nat) (A0 : Nat → Member) (s : Sh_btf_onlyOwnFields_v2_L0) : List L1 → List Value := mrgF (mf_btf_onlyOwnFields_v2_L0 s) (fl_btf_onlyOwnFields_v2_L0 y0 a0 p0 q0 n0 k0 A0 s) 1
def Hs_btf_onlyOwnFields_v2_L0 (y0 : Xs35) (a0 : Option Addr) (p0 : Nat) (q0 : Nat) (n0 : Nat) (k0 : Nat) (A0 : Nat → Member) : Sh_btf_onlyOwnFields_v2_L0 → List L1 → List Obj
  | .c0 s0_0, ls => [.cells #[.int .i64 (y0.fKind), .string y0.fName, .int .i64 (y0.fSize), .bool (y0.fSigned), .int .i64 (y0.fTo), .int .i64 (y0.fCount), .slice a0 n0 (n0 + k0)] 35, unb]
def vl_btf_onlyOwnFields_v2_L0 (y0 : Xs35) (a0 : Option Addr) (p0 : Nat) (q0 : Nat) (n0 : Nat) (k0 : Nat) (A0 : Nat → Member) : Ex_btf_onlyOwnFields_v2_L0 → List L1 → List Value
  | .e0 , ls => [.pointer (some ⟨(lget ls 0).n, 0, none⟩), .bool false, .slice a0 n0 (n0 + k0), .int .i64 ((n0 : Int))]
  | .e1 , ls => [.pointer (some ⟨(lget ls 0).n, 0, none⟩), .bool false, .slice a0 n0 (n0 + k0), .int .i64 ((n0 : Int))]
def mk_btf_onlyOwnFields_v2_L0 : Ex_btf_onlyOwnFields_v2_L0 → List (Nat × Nat)
  | .e0  => [(0, 1), (2, 32), (2, 20)]
  | .e1  => [(0, 1), (2, 32), (2, 20)]
noncomputable def vf_btf_onlyOwnFields_v2_L0 (y0 : Xs35) (a0 : Option Addr) (p0 : Nat) (q0 : Nat) (n0 : Nat) (k0 : Nat) (A0 : Nat → Member) (r : Ex_btf_onlyOwnFields_v2_L0) : List L1 → List Value := mrgF (mk_btf_onlyOwnFields_v2_L0 r) (vl_btf_onlyOwnFields_v2_L0 y0 a0 p0 q0 n0 k0 A0 r) 1
def Hf_btf_onlyOwnFields_v2_L0 (y0 : Xs35) (a0 : Option Addr) (p0 : Nat) (q0 : Nat) (n0 : Nat) (k0 : Nat) (A0 : Nat → Member) : Ex_btf_onlyOwnFields_v2_L0 → List L1 → List Obj
  | .e0 , ls => [.cells #[.int .i64 (y0.fKind), .string y0.fName, .int .i64 (y0.fSize), .bool (y0.fSigned), .int .i64 (y0.fTo), .int .i64 (y0.fCount), .slice a0 n0 (n0 + k0)] 35, unb]
  | .e1 , ls => [.cells #[.int .i64 (y0.fKind), .string y0.fName, .int .i64 (y0.fSize), .bool (y0.fSigned), .int .i64 (y0.fTo), .int .i64 (y0.fCount), .slice a0 n0 (n0 + k0)] 35, unb]
def ex_btf_onlyOwnFields_v2_L0 : Ex_btf_onlyOwnFields_v2_L0 → Ex
  | .e0  => (.exit 1)
  | .e1  => .ret
theorem go_btf_onlyOwnFields_v2_L0 (s : Sh_btf_onlyOwnFields_v2_L0) (r : Ex_btf_onlyOwnFields_v2_L0) (h : lpO (st_btf_onlyOwnFields_v2_L0 n0 A0) s = some r) : GoesG Tryd.prog M B0 S (.loop bd_btf_onlyOwnFields_v2_L0) 2 (fr_btf_onlyOwnFields_v2_L0 y0 a0 p0 q0 n0 k0 A0 s) (Hs_btf_onlyOwnFields_v2_L0 y0 a0 p0 q0 n0 k0 A0 s) (ex_btf_onlyOwnFields_v2_L0 r) 1 (vf_btf_onlyOwnFields_v2_L0 y0 a0 p0 q0 n0 k0 A0 r) (Hf_btf_onlyOwnFields_v2_L0 y0 a0 p0 q0 n0 k0 A0 r) 2 :=
  goes_lpO (fun s q e => by
    cases s with
    | c0 s0_0 =>
      unfold st_btf_onlyOwnFields_v2_L0 at e
      dsimp only at e
      replace e := cond_eq_or e
      rcases e with ⟨hq0, e⟩ | ⟨hq0, e⟩
      · replace e := cond_eq_or e
        rcases e with ⟨hq1, e⟩ | ⟨hq1, e⟩
        · replace e := cond_eq_or e
          rcases e with ⟨hq2, e⟩ | ⟨hq2, e⟩
          · cases e; exact goes_runM hU [.b (z_lssT hq0), .q (ixRo_ok (kd := .i64) (T := 33) (x := s0_0) (sz := 3) rfl (fun w => by kernel_rfl) hR0 hq1), .l (accRo hR0 c_Member_len (inR_nat hq1) 0 [.string ((A0 (s0_0).toNat)).fName, .int .i64 (((A0 (s0_0).toNat)).fType), .int .i64 (((A0 (s0_0).toNat)).fBits)] rfl), .o, .a 2, .o, .a 2, .b (z_neqT hq2), .o, .o] [0] (fun b => rfl) (by decide) rfl rfl (fun b => by kernel_rfl)
          · cases e; exact ⟨ne_ret, goes_runM hU [.b (z_lssT hq0), .q (ixRo_ok (kd := .i64) (T := 33) (x := s0_0) (sz := 3) rfl (fun w => by kernel_rfl) hR0 hq1), .l (accRo hR0 c_Member_len (inR_nat hq1) 0 [.string ((A0 (s0_0).toNat)).fName, .int .i64 (((A0 (s0_0).toNat)).fType), .int .i64 (((A0 (s0_0).toNat)).fBits)] rfl), .o, .a 2, .o, .a 2, .b (z_neqF hq2), .o] [0] (fun b => rfl) (by decide) rfl rfl (fun b => by kernel_rfl)⟩
        · exact none_some e
      · cases e; exact ⟨ne_exit 1, goes_runM hU [.b (z_lssF hq0)] [0] (fun b => rfl) (by decide) rfl rfl (fun b => by kernel_rfl)⟩) s r h
noncomputable def t0_btf_onlyOwnFields_v2_L0_0 (y0 : Xs35) (a0 : Option Addr) (p0 : Nat) (q0 : Nat) (n0 : Nat) (k0 : Nat) (A0 : Nat → Member) (s0_0 : Int) (ls : List L1) : List Value := List.append [.agg #[.int .i64 (y0.fKind), .string y0.fName, .int .i64 (y0.fSize), .bool (y0.fSigned), .int .i64 (y0.fTo), .int .i64 (y0.fCount), .slice a0 n0 (n0 + k0)], .pointer (some ⟨(lget ls 0).n, 0, none⟩), .bool false, undef, undef, .pointer (some ⟨(lget ls 0).n, 0, none⟩), .int .i64 (y0.fKind), .bool true, .bool true, .pointer (some ⟨(lget ls 0).n, 3, none⟩), .bool false, .bool false, .bool false, .pointer (some ⟨(lget ls 0).n, 0, none⟩), .int .i64 (y0.fKind), .bool false, .bool false, undef, undef, undef, .bool false, .bool false, .pointer (some ⟨(lget ls 0).n, 0, none⟩), .int .i64 (y0.fKind), .bool false, .bool false] (List.append (und 4) (List.append [.bool false, .bool false, .bool true, .bool true, .pointer (some ⟨(lget ls 0).n, 6, none⟩), .slice a0 n0 (n0 + k0), .int .i64 ((n0 : Int)), .int .i64 (s0_0)] (und 19)))
def pre_btf_onlyOwnFields_v2_L0_0 (y0 : Xs35) (a0 : Option Addr) (p0 : Nat) (q0 : Nat) (n0 : Nat) (k0 : Nat) (A0 : Nat → Member) (s0_0 : Int) (ls : List L1) : List Obj := [.cells #[.int .i64 (y0.fKind), .string y0.fName, .int .i64 (y0.fSize), .bool (y0.fSigned), .int .i64 (y0.fTo), .int .i64 (y0.fCount), .slice a0 n0 (n0 + k0)] 35]
theorem sp0_btf_onlyOwnFields_v2_L0_0_ok (s0_0 : Int) (h : lpO (st_btf_onlyOwnFields_v2_L0 n0 A0) (.c0 s0_0) = some (.e0 )) : SpcG Tryd.prog M B0 S ⟨fun ls => .code (.loop bd_btf_onlyOwnFields_v2_L0) (t0_btf_onlyOwnFields_v2_L0_0 y0 a0 p0 q0 n0 k0 A0 s0_0 ls), pre_btf_onlyOwnFields_v2_L0_0 y0 a0 p0 q0 n0 k0 A0 s0_0, 1, (.exit 1), fun ls => vf_btf_onlyOwnFields_v2_L0 y0 a0 p0 q0 n0 k0 A0 (.e0 ) (ls.take 1 ++ ls.drop 1), fun ls => (Hf_btf_onlyOwnFields_v2_L0 y0 a0 p0 q0 n0 k0 A0 (.e0 ) (ls.take 1 ++ ls.drop 1)).take 1 ++ List.replicate 0 unb, fun ls => (Hf_btf_onlyOwnFields_v2_L0 y0 a0 p0 q0 n0 k0 A0 (.e0 ) (ls.take 1 ++ ls.drop 1)).drop 1⟩ :=
  spc_of_goesM hU 0 (k0 := 1) (go_btf_onlyOwnFields_v2_L0 hU y0 a0 p0 q0 n0 k0 A0 hR0 _ _ h) (t0_btf_onlyOwnFields_v2_L0_0 y0 a0 p0 q0 n0 k0 A0 s0_0) (pre_btf_onlyOwnFields_v2_L0_0 y0 a0 p0 q0 n0 k0 A0 s0_0) (fun _ => rfl) (fun ls h => by match ls, h with | [l0], _ => exact ⟨by kernel_rfl, by kernel_rfl⟩) (fun ls h => by match ls, h with | [l0], _ => rfl) (by decide) (by decide) (fun ls => rfl)
theorem sp1_btf_onlyOwnFields_v2_L0_0_ok (s0_0 : Int) (h : lpO (st_btf_onlyOwnFields_v2_L0 n0 A0) (.c0 s0_0) = some (.e1 )) : SpcG Tryd.prog M B0 S ⟨fun ls => .code (.loop bd_btf_onlyOwnFields_v2_L0) (t0_btf_onlyOwnFields_v2_L0_0 y0 a0 p0 q0 n0 k0 A0 s0_0 ls), pre_btf_onlyOwnFields_v2_L0_0 y0 a0 p0 q0 n0 k0 A0 s0_0, 1, .ret, fun ls => vf_btf_onlyOwnFields_v2_L0 y0 a0 p0 q0 n0 k0 A0 (.e1 ) (ls.take 1 ++ ls.drop 1), fun ls => (Hf_btf_onlyOwnFields_v2_L0 y0 a0 p0 q0 n0 k0 A0 (.e1 ) (ls.take 1 ++ ls.drop 1)).take 1 ++ List.replicate 0 unb, fun ls => (Hf_btf_onlyOwnFields_v2_L0 y0 a0 p0 q0 n0 k0 A0 (.e1 ) (ls.take 1 ++ ls.drop 1)).drop 1⟩ :=
  spc_of_goesM hU 0 (k0 := 1) (go_btf_onlyOwnFields_v2_L0 hU y0 a0 p0 q0 n0 k0 A0 hR0 _ _ h) (t0_btf_onlyOwnFields_v2_L0_0 y0 a0 p0 q0 n0 k0 A0 s0_0) (pre_btf_onlyOwnFields_v2_L0_0 y0 a0 p0 q0 n0 k0 A0 s0_0) (fun _ => rfl) (fun ls h => by match ls, h with | [l0], _ => exact ⟨by kernel_rfl, by kernel_rfl⟩) (fun ls h => by match ls, h with | [l0], _ => rfl) (by decide) (by decide) (fun ls => rfl)
inductive Sh_btf_onlyOwnFields_v2_L0v1 where
  | c0 (s0_0 : Int)
inductive Ex_btf_onlyOwnFields_v2_L0v1 where
  | e0 
  | e1 
noncomputable def st_btf_onlyOwnFields_v2_L0v1 (n0 : Nat) (A0 : Nat → Member) : Sh_btf_onlyOwnFields_v2_L0v1 → Option (Sh_btf_onlyOwnFields_v2_L0v1 ⊕ Ex_btf_onlyOwnFields_v2_L0v1)
  | .c0 s0_0 =>
    bif decide (s0_0 < (n0 : Int)) then
      (bif inR s0_0 n0 then
        (bif ((A0 (s0_0).toNat)).fBits == 0 then
          (some (.inl (.c0 (IntKind.i64.wrap (s0_0 + 1)))))
        else (some (.inr (.e1 ))))
      else (none))
    else (some (.inr (.e0 )))
noncomputable def bd_btf_onlyOwnFields_v2_L0v1 : Code := codeOf Tryd.f26 [1, 1, 0, 1, 0, 1, 1, 1, 1, 1, 0, 0, 1, 0, 0]
def fl_btf_onlyOwnFields_v2_L0v1 (y0 : Xs35) (a0 : Option Addr) (p0 : Nat) (q0 : Nat) (n0 : Nat) (k0 : Nat) (A0 : Nat → Member) : Sh_btf_onlyOwnFields_v2_L0v1 → List L1 → List Value
  | .c0 s0_0, ls => [.pointer (some ⟨(lget ls 0).n, 0, none⟩), .bool false, .slice a0 n0 (n0 + k0), .int .i64 ((n0 : Int)), .int .i64 (s0_0)]
def mf_btf_onlyOwnFields_v2_L0v1 : Sh_btf_onlyOwnFields_v2_L0v1 → List (Nat × Nat)
  | .c0 _ => [(0, 1), (2, 32), (3, 19)]
noncomputable def fr_btf_onlyOwnFields_v2_L0v1 (y0 : Xs35) (a0 : Option Addr) (p0 : Nat) (q0 : Nat) (n0 : Nat) (k0 : Nat) (A0 : Nat → Member) (s : Sh_btf_onlyOwnFields_v2_L0v1) : List L1 → List Value := mrgF (mf_btf_onlyOwnFields_v2_L0v1 s) (fl_btf_onlyOwnFields_v2_L0v1 y0 a0 p0 q0 n0 k0 A0 s) 1
def Hs_btf_onlyOwnFields_v2_L0v1 (y0 : Xs35) (a0 : Option Addr) (p0 : Nat) (q0 : Nat) (n0 : Nat) (k0 : Nat) (A0 : Nat → Member) : Sh_btf_onlyOwnFields_v2_L0v1 → List L1 → List Obj
  | .c0 s0_0, ls => [.cells #[.int .i64 (y0.fKind), .string y0.fName, .int .i64 (y0.fSize), .bool (y0.fSigned), .int .i64 (y0.fTo), .int .i64 (y0.fCount), .slice a0 n0 (n0 + k0)] 35, unb]
def vl_btf_onlyOwnFields_v2_L0v1 (y0 : Xs35) (a0 : Option Addr) (p0 : Nat) (q0 : Nat) (n0 : Nat) (k0 : Nat) (A0 : Nat → Member) : Ex_btf_onlyOwnFields_v2_L0v1 → List L1 → List Value
  | .e0 , ls => [.pointer (some ⟨(lget ls 0).n, 0, none⟩), .bool false, .slice a0 n0 (n0 + k0), .int .i64 ((n0 : Int))]
  | .e1 , ls => [.pointer (some ⟨(lget ls 0).n, 0, none⟩), .bool false, .slice a0 n0 (n0 + k0), .int .i64 ((n0 : Int))]
def mk_btf_onlyOwnFields_v2_L0v1 : Ex_btf_onlyOwnFields_v2_L0v1 → List (Nat × Nat)
  | .e0  => [(0, 1), (2, 32), (2, 20)]
  | .e1  => [(0, 1), (2, 32), (2, 20)]
noncomputable def vf_btf_onlyOwnFields_v2_L0v1 (y0 : Xs35) (a0 : Option Addr) (p0 : Nat) (q0 : Nat) (n0 : Nat) (k0 : Nat) (A0 : Nat → Member) (r : Ex_btf_onlyOwnFields_v2_L0v1) : List L1 → List Value := mrgF (mk_btf_onlyOwnFields_v2_L0v1 r) (vl_btf_onlyOwnFields_v2_L0v1 y0 a0 p0 q0 n0 k0 A0 r) 1
def Hf_btf_onlyOwnFields_v2_L0v1 (y0 : Xs35) (a0 : Option Addr) (p0 : Nat) (q0 : Nat) (n0 : Nat) (k0 : Nat) (A0 : Nat → Member) : Ex_btf_onlyOwnFields_v2_L0v1 → List L1 → List Obj
  | .e0 , ls => [.cells #[.int .i64 (y0.fKind), .string y0.fName, .int .i64 (y0.fSize), .bool (y0.fSigned), .int .i64 (y0.fTo), .int .i64 (y0.fCount), .slice a0 n0 (n0 + k0)] 35, unb]
  | .e1 , ls => [.cells #[.int .i64 (y0.fKind), .string y0.fName, .int .i64 (y0.fSize), .bool (y0.fSigned), .int .i64 (y0.fTo), .int .i64 (y0.fCount), .slice a0 n0 (n0 + k0)] 35, unb]
def ex_btf_onlyOwnFields_v2_L0v1 : Ex_btf_onlyOwnFields_v2_L0v1 → Ex
  | .e0  => (.exit 1)
  | .e1  => .ret
theorem go_btf_onlyOwnFields_v2_L0v1 (s : Sh_btf_onlyOwnFields_v2_L0v1) (r : Ex_btf_onlyOwnFields_v2_L0v1) (h : lpO (st_btf_onlyOwnFields_v2_L0v1 n0 A0) s = some r) : GoesG Tryd.prog M B0 S (.loop bd_btf_onlyOwnFields_v2_L0v1) 2 (fr_btf_onlyOwnFields_v2_L0v1 y0 a0 p0 q0 n0 k0 A0 s) (Hs_btf_onlyOwnFields_v2_L0v1 y0 a0 p0 q0 n0 k0 A0 s) (ex_btf_onlyOwnFields_v2_L0v1 r) 1 (vf_btf_onlyOwnFields_v2_L0v1 y0 a0 p0 q0 n0 k0 A0 r) (Hf_btf_onlyOwnFields_v2_L0v1 y0 a0 p0 q0 n0 k0 A0 r) 2 :=
  goes_lpO (fun s q e => by
    cases s with
    | c0 s0_0 =>
      unfold st_btf_onlyOwnFields_v2_L0v1 at e
      dsimp only at e
      replace e := cond_eq_or e
      rcases e with ⟨hq0, e⟩ | ⟨hq0, e⟩
      · replace e := cond_eq_or e
        rcases e with ⟨hq1, e⟩ | ⟨hq1, e⟩
        · replace e := cond_eq_or e
          rcases e with ⟨hq2, e⟩ | ⟨hq2, e⟩
          · cases e; exact goes_runM hU [.b (z_lssT hq0), .q (ixRo_ok (kd := .i64) (T := 33) (x := s0_0) (sz := 3) rfl (fun w => by kernel_rfl) hR0 hq1), .l (accRo hR0 c_Member_len (inR_nat hq1) 0 [.string ((A0 (s0_0).toNat)).fName, .int .i64 (((A0 (s0_0).toNat)).fType), .int .i64 (((A0 (s0_0).toNat)).fBits)] rfl), .o, .a 2, .o, .a 2, .b (z_neqT hq2), .o, .o] [0] (fun b => rfl) (by decide) rfl rfl (fun b => by kernel_rfl)
          · cases e; exact ⟨ne_ret, goes_runM hU [.b (z_lssT hq0), .q (ixRo_ok (kd := .i64) (T := 33) (x := s0_0) (sz := 3) rfl (fun w => by kernel_rfl) hR0 hq1), .l (accRo hR0 c_Member_len (inR_nat hq1) 0 [.string ((A0 (s0_0).toNat)).fName, .int .i64 (((A0 (s0_0).toNat)).fType), .int .i64 (((A0 (s0_0).toNat)).fBits)] rfl), .o, .a 2, .o, .a 2, .b (z_neqF hq2), .o] [0] (fun b => rfl) (by decide) rfl rfl (fun b => by kernel_rfl)⟩
        · exact none_some e
      · cases e; exact ⟨ne_exit 1, goes_runM hU [.b (z_lssF hq0)] [0] (fun b => rfl) (by decide) rfl rfl (fun b => by kernel_rfl)⟩) s r h
noncomputable def t0_btf_onlyOwnFields_v2_L0v1_0 (y0 : Xs35) (a0 : Option Addr) (p0 : Nat) (q0 : Nat) (n0 : Nat) (k0 : Nat) (A0 : Nat → Member) (s0_0 : Int) (ls : List L1) : List Value := List.append [.agg #[.int .i64 (y0.fKind), .string y0.fName, .int .i64 (y0.fSize), .bool (y0.fSigned), .int .i64 (y0.fTo), .int .i64 (y0.fCount), .slice a0 n0 (n0 + k0)], .pointer (some ⟨(lget ls 0).n, 0, none⟩), .bool false, undef, undef, .pointer (some ⟨(lget ls 0).n, 0, none⟩), .int .i64 (y0.fKind), .bool true, .bool true, .pointer (some ⟨(lget ls 0).n, 3, none⟩), .bool false, .bool false, .bool false, .pointer (some ⟨(lget ls 0).n, 0, none⟩), .int .i64 (y0.fKind), .bool true, .bool true, .pointer (some ⟨(lget ls 0).n, 5, none⟩), .int .i64 (y0.fCount), .bool false, .bool false, .bool false, .pointer (some ⟨(lget ls 0).n, 0, none⟩), .int .i64 (y0.fKind), .bool false, .bool false] (List.append (und 4) (List.append [.bool false, .bool false, .bool true, .bool true, .pointer (some ⟨(lget ls 0).n, 6, none⟩), .slice a0 n0 (n0 + k0), .int .i64 ((n0 : Int)), .int .i64 (s0_0)] (und 19)))
def pre_btf_onlyOwnFields_v2_L0v1_0 (y0 : Xs35) (a0 : Option Addr) (p0 : Nat) (q0 : Nat) (n0 : Nat) (k0 : Nat) (A0 : Nat → Member) (s0_0 : Int) (ls : List L1) : List Obj := [.cells #[.int .i64 (y0.fKind), .string y0.fName, .int .i64 (y0.fSize), .bool (y0.fSigned), .int .i64 (y0.fTo), .int .i64 (y0.fCount), .slice a0 n0 (n0 + k0)] 35]
theorem sp0_btf_onlyOwnFields_v2_L0v1_0_ok (s0_0 : Int) (h : lpO (st_btf_onlyOwnFields_v2_L0v1 n0 A0) (.c0 s0_0) = some (.e0 )) : SpcG Tryd.prog M B0 S ⟨fun ls => .code (.loop bd_btf_onlyOwnFields_v2_L0v1) (t0_btf_onlyOwnFields_v2_L0v1_0 y0 a0 p0 q0 n0 k0 A0 s0_0 ls), pre_btf_onlyOwnFields_v2_L0v1_0 y0 a0 p0 q0 n0 k0 A0 s0_0, 1, (.exit 1), fun ls => vf_btf_onlyOwnFields_v2_L0v1 y0 a0 p0 q0 n0 k0 A0 (.e0 ) (ls.take 1 ++ ls.drop 1), fun ls => (Hf_btf_onlyOwnFields_v2_L0v1 y0 a0 p0 q0 n0 k0 A0 (.e0 ) (ls.take 1 ++ ls.drop 1)).take 1 ++ List.replicate 0 unb, fun ls => (Hf_btf_onlyOwnFields_v2_L0v1 y0 a0 p0 q0 n0 k0 A0 (.e0 ) (ls.take 1 ++ ls.drop 1)).drop 1⟩ :=
  spc_of_goesM hU 0 (k0 := 1) (go_btf_onlyOwnFields_v2_L0v1 hU y0 a0 p0 q0 n0 k0 A0 hR0 _ _ h) (t0_btf_onlyOwnFields_v2_L0v1_0 y0 a0 p0 q0 n0 k0 A0 s0_0) (pre_btf_onlyOwnFields_v2_L0v1_0 y0 a0 p0 q0 n0 k0 A0 s0_0) (fun _ => rfl) (fun ls h => by match ls, h with | [l0], _ => exact ⟨by kernel_rfl, by kernel_rfl⟩) (fun ls h => by match ls, h with | [l0], _ => rfl) (by decide) (by decide) (fun ls => rfl)
theorem sp1_btf_onlyOwnFields_v2_L0v1_0_ok (s0_0 : Int) (h : lpO (st_btf_onlyOwnFields_v2_L0v1 n0 A0) (.c0 s0_0) = some (.e1 )) : SpcG Tryd.prog M B0 S ⟨fun ls => .code (.loop bd_btf_onlyOwnFields_v2_L0v1) (t0_btf_onlyOwnFields_v2_L0v1_0 y0 a0 p0 q0 n0 k0 A0 s0_0 ls), pre_btf_onlyOwnFields_v2_L0v1_0 y0 a0 p0 q0 n0 k0 A0 s0_0, 1, .ret, fun ls => vf_btf_onlyOwnFields_v2_L0v1 y0 a0 p0 q0 n0 k0 A0 (.e1 ) (ls.take 1 ++ ls.drop 1), fun ls => (Hf_btf_onlyOwnFields_v2_L0v1 y0 a0 p0 q0 n0 k0 A0 (.e1 ) (ls.take 1 ++ ls.drop 1)).take 1 ++ List.replicate 0 unb, fun ls => (Hf_btf_onlyOwnFields_v2_L0v1 y0 a0 p0 q0 n0 k0 A0 (.e1 ) (ls.take 1 ++ ls.drop 1)).drop 1⟩ :=
  spc_of_goesM hU 0 (k0 := 1) (go_btf_onlyOwnFields_v2_L0v1 hU y0 a0 p0 q0 n0 k0 A0 hR0 _ _ h) (t0_btf_onlyOwnFields_v2_L0v1_0 y0 a0 p0 q0 n0 k0 A0 s0_0) (pre_btf_onlyOwnFields_v2_L0v1_0 y0 a0 p0 q0 n0 k0 A0 s0_0) (fun _ => rfl) (fun ls h => by match ls, h with | [l0], _ => exact ⟨by kernel_rfl, by kernel_rfl⟩) (fun ls h => by match ls, h with | [l0], _ => rfl) (by decide) (by decide) (fun ls => rfl)
noncomputable def m_btf_onlyOwnFields_v2 (y0 : Xs35) (n0 : Nat) (A0 : Nat → Member) : Option (Bool) :=
  bif y0.fKind == 1 then
    (bif y0.fKind == 3 then
      (some ((n0 : Int) == 0))
    else (bif y0.fCount == 0 then
      (some ((n0 : Int) == 0))
    else (some false)))
  else (bif y0.fSigned then
    (some false)
  else (bif y0.fKind == 3 then
    (bif y0.fKind == 4 then
      (some true)
    else (bif y0.fKind == 6 then
      ((lpO (st_btf_onlyOwnFields_v2_L0 n0 A0) (.c0 0)).bind fun g0 => match g0 with
      | .e0  => (some (y0.fSize == 0))
      | .e1  => (some false))
    else (bif y0.fSize == 0 then
      (some ((n0 : Int) == 0))
    else (some false))))
  else (bif y0.fCount == 0 then
    (bif y0.fKind == 4 then
      (some true)
    else (bif y0.fKind == 6 then
      ((lpO (st_btf_onlyOwnFields_v2_L0v1 n0 A0) (.c0 0)).bind fun g0 => match g0 with
      | .e0  => (some (y0.fSize == 0))
      | .e1  => (some false))
    else (bif y0.fSize == 0 then
      (some ((n0 : Int) == 0))
    else (some false))))
  else (some false))))
theorem ok_btf_onlyOwnFields_v2 (r : Bool) (e : m_btf_onlyOwnFields_v2 y0 n0 A0 = some r) : ConG Tryd.prog S 26 #[.agg #[.int .i64 (y0.fKind), .string y0.fName, .int .i64 (y0.fSize), .bool (y0.fSigned), .int .i64 (y0.fTo), .int .i64 (y0.fCount), .slice a0 n0 (n0 + k0)]] (.bool (r)) := by
  unfold m_btf_onlyOwnFields_v2 at e
  replace e := cond_eq_or e
  rcases e with ⟨hq0, e⟩ | ⟨hq0, e⟩
  · replace e := cond_eq_or e
    rcases e with ⟨hq1, e⟩ | ⟨hq1, e⟩
    · injection e with e; subst e; exact fn_conG hU (P := Tryd.prog) Tryd.func26 (fun xs w => by kernel_rfl) _ _ [.o, .o, .o, .a 0, .b (z_neqT hq0), .o, .o, .o, .o, .a 0, .b (z_neqT hq1), .o, .o, .o, .o, .a 0, .b (z_eqlT hq0), .o, .o, .a 0, .o, .o, .o] [] (fun b => by kernel_rfl)
    · replace e := cond_eq_or e
      rcases e with ⟨hq2, e⟩ | ⟨hq2, e⟩
      · injection e with e; subst e; exact fn_conG hU (P := Tryd.prog) Tryd.func26 (fun xs w => by kernel_rfl) _ _ [.o, .o, .o, .a 0, .b (z_neqT hq0), .o, .o, .o, .o, .a 0, .b (z_neqF hq1), .o, .o, .a 0, .b (z_neqT hq2), .o, .o, .o, .a 0, .b (z_eqlT hq0), .o, .o, .a 0, .o, .o, .o] [] (fun b => by kernel_rfl)
      · injection e with e; subst e; exact fn_conG hU (P := Tryd.prog) Tryd.func26 (fun xs w => by kernel_rfl) _ _ [.o, .o, .o, .a 0, .b (z_neqT hq0), .o, .o, .o, .o, .a 0, .b (z_neqF hq1), .o, .o, .a 0, .b (z_neqF hq2), .o, .o, .o] [] (fun b => by kernel_rfl)
  · replace e := cond_eq_or e
    rcases e with ⟨hq1, e⟩ | ⟨hq1, e⟩
    · injection e with e; subst e; exact fn_conG hU (P := Tryd.prog) Tryd.func26 (fun xs w => by kernel_rfl) _ _ [.o, .o, .o, .a 0, .b (z_neqF hq0), .o, .o, .l (accKn (i := 0) (c := #[.int .i64 (y0.fKind), .string y0.fName, .int .i64 (y0.fSize), .bool (y0.fSigned), .int .i64 (y0.fTo), .int .i64 (y0.fCount), .slice a0 n0 (n0 + k0)]) 3 (congrArg (fun b => some (Value.bool b)) hq1)), .o, .o, .o, .o] [] (fun b => by kernel_rfl)
    · replace e := cond_eq_or e
      rcases e with ⟨hq2, e⟩ | ⟨hq2, e⟩
      · replace e := cond_eq_or e
        rcases e with ⟨hq3, e⟩ | ⟨hq3, e⟩
        · injection e with e; subst e; exact fn_conG hU (P := Tryd.prog) Tryd.func26 (fun xs w => by kernel_rfl) _ _ [.o, .o, .o, .a 0, .b (z_neqF hq0), .o, .o, .l (accKn (i := 0) (c := #[.int .i64 (y0.fKind), .string y0.fName, .int .i64 (y0.fSize), .bool (y0.fSigned), .int .i64 (y0.fTo), .int .i64 (y0.fCount), .slice a0 n0 (n0 + k0)]) 3 (congrArg (fun b => some (Value.bool b)) hq1)), .o, .o, .o, .a 0, .b (z_neqT hq2), .o, .o, .o, .o, .a 0, .b (z_eqlF hq0), .o, .b (z_eqlT hq3), .o, .o] [] (fun b => by kernel_rfl)
        · replace e := cond_eq_or e
          rcases e with ⟨hq4, e⟩ | ⟨hq4, e⟩
          · replace e := bindO_eq e
            obtain ⟨g0, e_g0, e⟩ := e
            rcases g0 with _ | _
            · try dsimp only at e
              injection e with e; subst e; exact fn_conG hU (P := Tryd.prog) Tryd.func26 (fun xs w => by kernel_rfl) _ _ [.o, .o, .o, .a 0, .b (z_neqF hq0), .o, .o, .l (accKn (i := 0) (c := #[.int .i64 (y0.fKind), .string y0.fName, .int .i64 (y0.fSize), .bool (y0.fSigned), .int .i64 (y0.fTo), .int .i64 (y0.fCount), .slice a0 n0 (n0 + k0)]) 3 (congrArg (fun b => some (Value.bool b)) hq1)), .o, .o, .o, .a 0, .b (z_neqT hq2), .o, .o, .o, .o, .a 0, .b (z_eqlF hq0), .o, .b (z_eqlF hq3), .o, .b (z_eqlT hq4), .o, .o, .a 0, .o, .o, .cp, .cx (sp0_btf_onlyOwnFields_v2_L0_0_ok hU y0 a0 p0 q0 n0 k0 A0 hR0 0  e_g0) [0], .o, .a 0, .o, .o] [] (fun b => by kernel_rfl)
            · try dsimp only at e
              injection e with e; subst e; exact fn_conG hU (P := Tryd.prog) Tryd.func26 (fun xs w => by kernel_rfl) _ _ [.o, .o, .o, .a 0, .b (z_neqF hq0), .o, .o, .l (accKn (i := 0) (c := #[.int .i64 (y0.fKind), .string y0.fName, .int .i64 (y0.fSize), .bool (y0.fSigned), .int .i64 (y0.fTo), .int .i64 (y0.fCount), .slice a0 n0 (n0 + k0)]) 3 (congrArg (fun b => some (Value.bool b)) hq1)), .o, .o, .o, .a 0, .b (z_neqT hq2), .o, .o, .o, .o, .a 0, .b (z_eqlF hq0), .o, .b (z_eqlF hq3), .o, .b (z_eqlT hq4), .o, .o, .a 0, .o, .o, .cp, .cx (sp1_btf_onlyOwnFields_v2_L0_0_ok hU y0 a0 p0 q0 n0 k0 A0 hR0 0  e_g0) [0]] [] (fun b => by kernel_rfl)
          · replace e := cond_eq_or e
            rcases e with ⟨hq5, e⟩ | ⟨hq5, e⟩
            · injection e with e; subst e; exact fn_conG hU (P := Tryd.prog) Tryd.func26 (fun xs w => by kernel_rfl) _ _ [.o, .o, .o, .a 0, .b (z_neqF hq0), .o, .o, .l (accKn (i := 0) (c := #[.int .i64 (y0.fKind), .string y0.fName, .int .i64 (y0.fSize), .bool (y0.fSigned), .int .i64 (y0.fTo), .int .i64 (y0.fCount), .slice a0 n0 (n0 + k0)]) 3 (congrArg (fun b => some (Value.bool b)) hq1)), .o, .o, .o, .a 0, .b (z_neqT hq2), .o, .o, .o, .o, .a 0, .b (z_eqlF hq0), .o, .b (z_eqlF hq3), .o, .b (z_eqlF hq4), .o, .o, .a 0, .b (z_eqlT hq5), .o, .o, .a 0, .o, .o, .o, .o] [] (fun b => by kernel_rfl)
            · injection e with e; subst e; exact fn_conG hU (P := Tryd.prog) Tryd.func26 (fun xs w => by kernel_rfl) _ _ [.o, .o, .o, .a 0, .b (z_neqF hq0), .o, .o, .l (accKn (i := 0) (c := #[.int .i64 (y0.fKind), .string y0.fName, .int .i64 (y0.fSize), .bool (y0.fSigned), .int .i64 (y0.fTo), .int .i64 (y0.fCount), .slice a0 n0 (n0 + k0)]) 3 (congrArg (fun b => some (Value.bool b)) hq1)), .o, .o, .o, .a 0, .b (z_neqT hq2), .o, .o, .o, .o, .a 0, .b (z_eqlF hq0), .o, .b (z_eqlF hq3), .o, .b (z_eqlF hq4), .o, .o, .a 0, .b (z_eqlF hq5), .o, .o, .o] [] (fun b => by kernel_rfl)
      · replace e := cond_eq_or e
        rcases e with ⟨hq3, e⟩ | ⟨hq3, e⟩
        · replace e := cond_eq_or e
          rcases e with ⟨hq4, e⟩ | ⟨hq4, e⟩
          · injection e with e; subst e; exact fn_conG hU (P := Tryd.prog) Tryd.func26 (fun xs w => by kernel_rfl) _ _ [.o, .o, .o, .a 0, .b (z_neqF hq0), .o, .o, .l (accKn (i := 0) (c := #[.int .i64 (y0.fKind), .string y0.fName, .int .i64 (y0.fSize), .bool (y0.fSigned), .int .i64 (y0.fTo), .int .i64 (y0.fCount), .slice a0 n0 (n0 + k0)]) 3 (congrArg (fun b => some (Value.bool b)) hq1)), .o, .o, .o, .a 0, .b (z_neqF hq2), .o, .o, .a 0, .b (z_neqT hq3), .o, .o, .o, .a 0, .b (z_eqlF hq0), .o, .b (z_eqlT hq4), .o, .o] [] (fun b => by kernel_rfl)
          · replace e := cond_eq_or e
            rcases e with ⟨hq5, e⟩ | ⟨hq5, e⟩
            · replace e := bindO_eq e
              obtain ⟨g0, e_g0, e⟩ := e
              rcases g0 with _ | _
              · try dsimp only at e
                injection e with e; subst e; exact fn_conG hU (P := Tryd.prog) Tryd.func26 (fun xs w => by kernel_rfl) _ _ [.o, .o, .o, .a 0, .b (z_neqF hq0), .o, .o, .l (accKn (i := 0) (c := #[.int .i64 (y0.fKind), .string y0.fName, .int .i64 (y0.fSize), .bool (y0.fSigned), .int .i64 (y0.fTo), .int .i64 (y0.fCount), .slice a0 n0 (n0 + k0)]) 3 (congrArg (fun b => some (Value.bool b)) hq1)), .o, .o, .o, .a 0, .b (z_neqF hq2), .o, .o, .a 0, .b (z_neqT hq3), .o, .o, .o, .a 0, .b (z_eqlF hq0), .o, .b (z_eqlF hq4), .o, .b (z_eqlT hq5), .o, .o, .a 0, .o, .o, .cp, .cx (sp0_btf_onlyOwnFields_v2_L0v1_0_ok hU y0 a0 p0 q0 n0 k0 A0 hR0 0  e_g0) [0], .o, .a 0, .o, .o] [] (fun b => by kernel_rfl)
              · try dsimp only at e
                injection e with e; subst e; exact fn_conG hU (P := Tryd.prog) Tryd.func26 (fun xs w => by kernel_rfl) _ _ [.o, .o, .o, .a 0, .b (z_neqF hq0), .o, .o, .l (accKn (i := 0) (c := #[.int .i64 (y0.fKind), .string y0.fName, .int .i64 (y0.fSize), .bool (y0.fSigned), .int .i64 (y0.fTo), .int .i64 (y0.fCount), .slice a0 n0 (n0 + k0)]) 3 (congrArg (fun b => some (Value.bool b)) hq1)), .o, .o, .o, .a 0, .b (z_neqF hq2), .o, .o, .a 0, .b (z_neqT hq3), .o, .o, .o, .a 0, .b (z_eqlF hq0), .o, .b (z_eqlF hq4), .o, .b (z_eqlT hq5), .o, .o, .a 0, .o, .o, .cp, .cx (sp1_btf_onlyOwnFields_v2_L0v1_0_ok hU y0 a0 p0 q0 n0 k0 A0 hR0 0  e_g0) [0]] [] (fun b => by kernel_rfl)
            · replace e := cond_eq_or e
              rcases e with ⟨hq6, e⟩ | ⟨hq6, e⟩
              · injection e with e; subst e; exact fn_conG hU (P := Tryd.prog) Tryd.func26 (fun xs w => by kernel_rfl) _ _ [.o, .o, .o, .a 0, .b (z_neqF hq0), .o, .o, .l (accKn (i := 0) (c := #[.int .i64 (y0.fKind), .string y0.fName, .int .i64 (y0.fSize), .bool (y0.fSigned), .int .i64 (y0.fTo), .int .i64 (y0.fCount), .slice a0 n0 (n0 + k0)]) 3 (congrArg (fun b => some (Value.bool b)) hq1)), .o, .o, .o, .a 0, .b (z_neqF hq2), .o, .o, .a 0, .b (z_neqT hq3), .o, .o, .o, .a 0, .b (z_eqlF hq0), .o, .b (z_eqlF hq4), .o, .b (z_eqlF hq5), .o, .o, .a 0, .b (z_eqlT hq6), .o, .o, .a 0, .o, .o, .o, .o] [] (fun b => by kernel_rfl)
              · injection e with e; subst e; exact fn_conG hU (P := Tryd.prog) Tryd.func26 (fun xs w => by kernel_rfl) _ _ [.o, .o, .o, .a 0, .b (z_neqF hq0), .o, .o, .l (accKn (i := 0) (c := #[.int .i64 (y0.fKind), .string y0.fName, .int .i64 (y0.fSize), .bool (y0.fSigned), .int .i64 (y0.fTo), .int .i64 (y0.fCount), .slice a0 n0 (n0 + k0)]) 3 (congrArg (fun b => some (Value.bool b)) hq1)), .o, .o, .o, .a 0, .b (z_neqF hq2), .o, .o, .a 0, .b (z_neqT hq3), .o, .o, .o, .a 0, .b (z_eqlF hq0), .o, .b (z_eqlF hq4), .o, .b (z_eqlF hq5), .o, .o, .a 0, .b (z_eqlF hq6), .o, .o, .o] [] (fun b => by kernel_rfl)
        · injection e with e; subst e; exact fn_conG hU (P := Tryd.prog) Tryd.func26 (fun xs w => by kernel_rfl) _ _ [.o, .o, .o, .a 0, .b (z_neqF hq0), .o, .o, .l (accKn (i := 0) (c := #[.int .i64 (y0.fKind), .string y0.fName, .int .i64 (y0.fSize), .bool (y0.fSigned), .int .i64 (y0.fTo), .int .i64 (y0.fCount), .slice a0 n0 (n0 + k0)]) 3 (congrArg (fun b => some (Value.bool b)) hq1)), .o, .o, .o, .a 0, .b (z_neqF hq2), .o, .o, .a 0, .b (z_neqF hq3), .o, .o, .o] [] (fun b => by kernel_rfl)
inductive R_btf_checkType_v2 where
  | e0 (c0_0 : Nat) (c0_1 : Nat → Me45) (c0_2 : Int)
noncomputable def m_btf_checkType_v2 (y0 : Xs35) (n0 : Nat) (A0 : Nat → Member) (y1 : Int) (w0 : Nat) (w1 : Nat → Me45) : Option R_btf_checkType_v2 :=
  bif decide (y0.fKind < 1) then
    (some (.e0 w0 w1 41))
  else (bif decide (6 < y0.fKind) then
    (some (.e0 w0 w1 41))
  else ((m_btf_rightName_v2 y0 n0 A0 w0 w1).bind fun g0 => match g0 with
  | .e0 g0_0 g0_1 g0_2 =>
  bif g0_2 then
    (bif m_btf_rightSize_v2 y0 n0 A0 then
      ((m_btf_rightMemberNames_v2 y0 n0 A0).bind fun r1 =>
      bif r1 then
        ((m_btf_rightReferences_v2 y0 n0 A0 y1).bind fun r2 =>
        bif r2 then
          ((m_btf_onlyOwnFields_v2 y0 n0 A0).bind fun r3 =>
          bif r3 then
            (some (.e0 g0_0 g0_1 0))
          else (some (.e0 g0_0 g0_1 41)))
        else (some (.e0 g0_0 g0_1 41)))
      else (some (.e0 g0_0 g0_1 44)))
    else (some (.e0 g0_0 g0_1 43)))
  else (some (.e0 g0_0 g0_1 44))))
def sq0_btf_checkType_v2 (y0 : Xs35) (a0 : Option Addr) (p0 : Nat) (q0 : Nat) (n0 : Nat) (k0 : Nat) (A0 : Nat → Member) (y1 : Int) (w0 : Nat) (w1 : Nat → Me45) (c0_0 : Nat) (c0_1 : Nat → Me45) (c0_2 : Int) : Spc := ⟨fun ls => .call 17 #[.agg #[.int .i64 (y0.fKind), .string y0.fName, .int .i64 (y0.fSize), .bool (y0.fSigned), .int .i64 (y0.fTo), .int .i64 (y0.fCount), .slice a0 n0 (n0 + k0)], .int .i64 (y1), .map (some (lget ls 0).n)], fun ls => [mapG kv_Me45 vv_Me45 w0 w1], 0, .normal, fun ls => [.int .i64 (c0_2)], fun ls => [mapG kv_Me45 vv_Me45 c0_0 c0_1], fun ls => []⟩
theorem ok0_btf_checkType_v2 (y1 : Int) (w0 : Nat) (w1 : Nat → Me45) (c0_0 : Nat) (c0_1 : Nat → Me45) (c0_2 : Int) (e : m_btf_checkType_v2 y0 n0 A0 y1 w0 w1 = some (.e0 c0_0 c0_1 c0_2)) : SpcG Tryd.prog M B0 S (sq0_btf_checkType_v2 y0 a0 p0 q0 n0 k0 A0 y1 w0 w1 c0_0 c0_1 c0_2) := by
  unfold m_btf_checkType_v2 at e
  replace e := cond_eq_or e
  rcases e with ⟨hq0, e⟩ | ⟨hq0, e⟩
  · injection e with e; injection e with i0 i1 i2; subst i0 i1 i2; exact fn_specG hU (P := Tryd.prog) Tryd.func17 (fun xs w => by kernel_rfl) 1 _ _ (fun _ => rfl) _ _ _ [] [.o, .o, .o, .a 1, .b (z_lssT hq0), .o, .o, .o, .o] [] (fun b => by kernel_rfl)
  · replace e := cond_eq_or e
    rcases e with ⟨hq1, e⟩ | ⟨hq1, e⟩
    · injection e with e; injection e with i0 i1 i2; subst i0 i1 i2; exact fn_specG hU (P := Tryd.prog) Tryd.func17 (fun xs w => by kernel_rfl) 1 _ _ (fun _ => rfl) _ _ _ [] [.o, .o, .o, .a 1, .b (z_lssF hq0), .o, .o, .a 1, .b (z_gtrT hq1), .o, .o, .o] [] (fun b => by kernel_rfl)
    · replace e := bindO_eq e
      obtain ⟨g0, e_g0, e⟩ := e
      obtain ⟨g0_0, g0_1, g0_2⟩ := g0
      try dsimp only at e
      replace e := cond_eq_or e
      rcases e with ⟨hq2, e⟩ | ⟨hq2, e⟩
      · subst hq2
        replace e := cond_eq_or e
        rcases e with ⟨hq3, e⟩ | ⟨hq3, e⟩
        · replace e := bindO_eq e
          obtain ⟨r1, e_r1, e⟩ := e
          try dsimp only at e
          replace e := cond_eq_or e
          rcases e with ⟨hq4, e⟩ | ⟨hq4, e⟩
          · subst hq4
            replace e := bindO_eq e
            obtain ⟨r2, e_r2, e⟩ := e
            try dsimp only at e
            replace e := cond_eq_or e
            rcases e with ⟨hq5, e⟩ | ⟨hq5, e⟩
            · subst hq5
              replace e := bindO_eq e
              obtain ⟨r3, e_r3, e⟩ := e
              try dsimp only at e
              replace e := cond_eq_or e
              rcases e with ⟨hq6, e⟩ | ⟨hq6, e⟩
              · subst hq6
                injection e with e; injection e with i0 i1 i2; subst i0 i1 i2; exact fn_specG hU (P := Tryd.prog) Tryd.func17 (fun xs w => by kernel_rfl) 1 _ _ (fun _ => rfl) _ _ _ [] [.o, .o, .o, .a 1, .b (z_lssF hq0), .o, .o, .a 1, .b (z_gtrF hq1), .o, .o, .a 1, .o, .xg (ok0_btf_rightName_v2 hU y0 a0 p0 q0 n0 k0 A0 hR0 w0 w1 g0_0 g0_1 true e_g0) [0], .o, .o, .a 1, .cg (ok_btf_rightSize_v2 hU y0 a0 p0 q0 n0 k0 A0 hR0 true hq3), .o, .o, .a 1, .cg (ok_btf_rightMemberNames_v2 hU y0 a0 p0 q0 n0 k0 A0 hR0 true e_r1), .o, .o, .a 1, .o, .cg (ok_btf_rightReferences_v2 hU y0 a0 p0 q0 n0 k0 A0 hR0 y1 true e_r2), .o, .o, .a 1, .cg (ok_btf_onlyOwnFields_v2 hU y0 a0 p0 q0 n0 k0 A0 hR0 true e_r3), .o, .o, .o, .o] [] (fun b => by kernel_rfl)
              · subst hq6
                injection e with e; injection e with i0 i1 i2; subst i0 i1 i2; exact fn_specG hU (P := Tryd.prog) Tryd.func17 (fun xs w => by kernel_rfl) 1 _ _ (fun _ => rfl) _ _ _ [] [.o, .o, .o, .a 1, .b (z_lssF hq0), .o, .o, .a 1, .b (z_gtrF hq1), .o, .o, .a 1, .o, .xg (ok0_btf_rightName_v2 hU y0 a0 p0 q0 n0 k0 A0 hR0 w0 w1 g0_0 g0_1 true e_g0) [0], .o, .o, .a 1, .cg (ok_btf_rightSize_v2 hU y0 a0 p0 q0 n0 k0 A0 hR0 true hq3), .o, .o, .a 1, .cg (ok_btf_rightMemberNames_v2 hU y0 a0 p0 q0 n0 k0 A0 hR0 true e_r1), .o, .o, .a 1, .o, .cg (ok_btf_rightReferences_v2 hU y0 a0 p0 q0 n0 k0 A0 hR0 y1 true e_r2), .o, .o, .a 1, .cg (ok_btf_onlyOwnFields_v2 hU y0 a0 p0 q0 n0 k0 A0 hR0 false e_r3), .o, .o, .o, .o] [] (fun b => by kernel_rfl)
            · subst hq5
              injection e with e; injection e with i0 i1 i2; subst i0 i1 i2; exact fn_specG hU (P := Tryd.prog) Tryd.func17 (fun xs w => by kernel_rfl) 1 _ _ (fun _ => rfl) _ _ _ [] [.o, .o, .o, .a 1, .b (z_lssF hq0), .o, .o, .a 1, .b (z_gtrF hq1), .o, .o, .a 1, .o, .xg (ok0_btf_rightName_v2 hU y0 a0 p0 q0 n0 k0 A0 hR0 w0 w1 g0_0 g0_1 true e_g0) [0], .o, .o, .a 1, .cg (ok_btf_rightSize_v2 hU y0 a0 p0 q0 n0 k0 A0 hR0 true hq3), .o, .o, .a 1, .cg (ok_btf_rightMemberNames_v2 hU y0 a0 p0 q0 n0 k0 A0 hR0 true e_r1), .o, .o, .a 1, .o, .cg (ok_btf_rightReferences_v2 hU y0 a0 p0 q0 n0 k0 A0 hR0 y1 false e_r2), .o, .o, .o, .o, .o] [] (fun b => by kernel_rfl)
          · subst hq4
            injection e with e; injection e with i0 i1 i2; subst i0 i1 i2; exact fn_specG hU (P := Tryd.prog) Tryd.func17 (fun xs w => by kernel_rfl) 1 _ _ (fun _ => rfl) _ _ _ [] [.o, .o, .o, .a 1, .b (z_lssF hq0), .o, .o, .a 1, .b (z_gtrF hq1), .o, .o, .a 1, .o, .xg (ok0_btf_rightName_v2 hU y0 a0 p0 q0 n0 k0 A0 hR0 w0 w1 g0_0 g0_1 true e_g0) [0], .o, .o, .a 1, .cg (ok_btf_rightSize_v2 hU y0 a0 p0 q0 n0 k0 A0 hR0 true hq3), .o, .o, .a 1, .cg (ok_btf_rightMemberNames_v2 hU y0 a0 p0 q0 n0 k0 A0 hR0 false e_r1), .o, .o, .o] [] (fun b => by kernel_rfl)
        · injection e with e; injection e with i0 i1 i2; subst i0 i1 i2; exact fn_specG hU (P := Tryd.prog) Tryd.func17 (fun xs w => by kernel_rfl) 1 _ _ (fun _ => rfl) _ _ _ [] [.o, .o, .o, .a 1, .b (z_lssF hq0), .o, .o, .a 1, .b (z_gtrF hq1), .o, .o, .a 1, .o, .xg (ok0_btf_rightName_v2 hU y0 a0 p0 q0 n0 k0 A0 hR0 w0 w1 g0_0 g0_1 true e_g0) [0], .o, .o, .a 1, .cg (ok_btf_rightSize_v2 hU y0 a0 p0 q0 n0 k0 A0 hR0 false hq3), .o, .o, .o] [] (fun b => by kernel_rfl)
      · subst hq2
        injection e with e; injection e with i0 i1 i2; subst i0 i1 i2; exact fn_specG hU (P := Tryd.prog) Tryd.func17 (fun xs w => by kernel_rfl) 1 _ _ (fun _ => rfl) _ _ _ [] [.o, .o, .o, .a 1, .b (z_lssF hq0), .o, .o, .a 1, .b (z_gtrF hq1), .o, .o, .a 1, .o, .xg (ok0_btf_rightName_v2 hU y0 a0 p0 q0 n0 k0 A0 hR0 w0 w1 g0_0 g0_1 false e_g0) [0], .o, .o, .o] [] (fun b => by kernel_rfl)
inductive R_btf_holdsItself_1_v3 where
  | e0 (c0_0 : Nat → Bool) (c0_1 : Bool)
inductive Sh_btf_held_v2_L0 where
  | c0 
  | c1 (s0_0 : Nat) (s0_1 : Nat → Int) (s0_2 : Int)
inductive Ex_btf_held_v2_L0 where
  | e0 
  | e1 (c1_0 : Nat) (c1_1 : Nat → Int)
noncomputable def st_btf_held_v2_L0 (n0 : Nat) (A0 : Nat → Member) : Sh_btf_held_v2_L0 → Option (Sh_btf_held_v2_L0 ⊕ Ex_btf_held_v2_L0)
  | .c0  =>
    bif decide (0 < (n0 : Int)) then
      (bif inR 0 n0 then
        (some (.inl (.c1 1 (fun _ => ((A0 0)).fType) 1)))
      else (none))
    else (some (.inr (.e0 )))
  | .c1 s0_0 s0_1 s0_2 =>
    bif decide (s0_2 < (n0 : Int)) then
      (bif inR s0_2 n0 then
        (bif decide (s0_0 ≤ 1000000) then
          (some (.inl (.c1 (s0_0 + 1) (updF s0_1 s0_0 ((A0 (s0_2).toNat)).fType) (IntKind.i64.wrap (s0_2 + 1)))))
        else (none))
      else (none))
    else (some (.inr (.e1 s0_0 s0_1)))
noncomputable def bd_btf_held_v2_L0 : Code := codeOf Tryd.f28 [1, 1, 0, 1, 0, 1, 1, 1, 0, 1, 0, 0]
def fl_btf_held_v2_L0 (y0 : Xs35) (a0 : Option Addr) (p0 : Nat) (q0 : Nat) (n0 : Nat) (k0 : Nat) (A0 : Nat → Member) : Sh_btf_held_v2_L0 → List L1 → List Value
  | .c0 , ls => [.slice none 0 0, .slice a0 n0 (n0 + k0), .int .i64 ((n0 : Int)), .int .i64 (0)]
  | .c1 s0_0 s0_1 s0_2, ls => [(rowV (lget ls 1) s0_0 1), .slice a0 n0 (n0 + k0), .int .i64 ((n0 : Int)), .int .i64 (s0_2)]
def mf_btf_held_v2_L0 : Sh_btf_held_v2_L0 → List (Nat × Nat)
  | .c0  => [(0, 3), (1, 15), (3, 10)]
  | .c1 _ _ _ => [(0, 3), (1, 15), (3, 10)]
noncomputable def fr_btf_held_v2_L0 (y0 : Xs35) (a0 : Option Addr) (p0 : Nat) (q0 : Nat) (n0 : Nat) (k0 : Nat) (A0 : Nat → Member) (s : Sh_btf_held_v2_L0) : List L1 → List Value := mrgF (mf_btf_held_v2_L0 s) (fl_btf_held_v2_L0 y0 a0 p0 q0 n0 k0 A0 s) 2
def Hs_btf_held_v2_L0 (y0 : Xs35) (a0 : Option Addr) (p0 : Nat) (q0 : Nat) (n0 : Nat) (k0 : Nat) (A0 : Nat → Member) : Sh_btf_held_v2_L0 → List L1 → List Obj
  | .c0 , ls => [.cells #[.int .i64 (y0.fKind), .string y0.fName, .int .i64 (y0.fSize), .bool (y0.fSigned), .int .i64 (y0.fTo), .int .i64 (y0.fCount), .slice a0 n0 (n0 + k0)] 35, unb, unb]
  | .c1 s0_0 s0_1 s0_2, ls => [.cells #[.int .i64 (y0.fKind), .string y0.fName, .int .i64 (y0.fSize), .bool (y0.fSigned), .int .i64 (y0.fTo), .int .i64 (y0.fCount), .slice a0 n0 (n0 + k0)] 35, rowO (lget ls 1) (esG cZ s0_0 s0_1) 3 s0_0 1, unb]
def vl_btf_held_v2_L0 (y0 : Xs35) (a0 : Option Addr) (p0 : Nat) (q0 : Nat) (n0 : Nat) (k0 : Nat) (A0 : Nat → Member) : Ex_btf_held_v2_L0 → List L1 → List Value
  | .e0 , ls => [.slice none 0 0, .slice a0 n0 (n0 + k0), .int .i64 ((n0 : Int))]
  | .e1 c1_0 c1_1, ls => [(rowV (lget ls 1) c1_0 1), .slice a0 n0 (n0 + k0), .int .i64 ((n0 : Int))]
def mk_btf_held_v2_L0 : Ex_btf_held_v2_L0 → List (Nat × Nat)
  | .e0  => [(0, 3), (1, 15), (2, 11)]
  | .e1 _ _ => [(0, 3), (1, 15), (2, 11)]
noncomputable def vf_btf_held_v2_L0 (y0 : Xs35) (a0 : Option Addr) (p0 : Nat) (q0 : Nat) (n0 : Nat) (k0 : Nat) (A0 : Nat → Member) (r : Ex_btf_held_v2_L0) : List L1 → List Value := mrgF (mk_btf_held_v2_L0 r) (vl_btf_held_v2_L0 y0 a0 p0 q0 n0 k0 A0 r) 2
def Hf_btf_held_v2_L0 (y0 : Xs35) (a0 : Option Addr) (p0 : Nat) (q0 : Nat) (n0 : Nat) (k0 : Nat) (A0 : Nat → Member) : Ex_btf_held_v2_L0 → List L1 → List Obj
  | .e0 , ls => [.cells #[.int .i64 (y0.fKind), .string y0.fName, .int .i64 (y0.fSize), .bool (y0.fSigned), .int .i64 (y0.fTo), .int .i64 (y0.fCount), .slice a0 n0 (n0 + k0)] 35, unb, unb]
  | .e1 c1_0 c1_1, ls => [.cells #[.int .i64 (y0.fKind), .string y0.fName, .int .i64 (y0.fSize), .bool (y0.fSigned), .int .i64 (y0.fTo), .int .i64 (y0.fCount), .slice a0 n0 (n0 + k0)] 35, rowO (lget ls 1) (esG cZ c1_0 c1_1) 3 c1_0 1, unb]
def ex_btf_held_v2_L0 : Ex_btf_held_v2_L0 → Ex
  | .e0  => (.exit 1)
  | .e1 _ _ => (.exit 1)
theorem go_btf_held_v2_L0 (s : Sh_btf_held_v2_L0) (r : Ex_btf_held_v2_L0) (h : lpO (st_btf_held_v2_L0 n0 A0) s = some r) : GoesG Tryd.prog M B0 S (.loop bd_btf_held_v2_L0) 3 (fr_btf_held_v2_L0 y0 a0 p0 q0 n0 k0 A0 s) (Hs_btf_held_v2_L0 y0 a0 p0 q0 n0 k0 A0 s) (ex_btf_held_v2_L0 r) 1 (vf_btf_held_v2_L0 y0 a0 p0 q0 n0 k0 A0 r) (Hf_btf_held_v2_L0 y0 a0 p0 q0 n0 k0 A0 r) 3 :=
  goes_lpO (fun s q e => by
    cases s with
    | c0  =>
      unfold st_btf_held_v2_L0 at e
      dsimp only at e
      replace e := cond_eq_or e
      rcases e with ⟨hq0, e⟩ | ⟨hq0, e⟩
      · replace e := cond_eq_or e
        rcases e with ⟨hq1, e⟩ | ⟨hq1, e⟩
        · cases e; exact goes_runM hU [.b (z_lssT hq0), .q (ixRo_ok (kd := .i64) (T := 33) (x := 0) (sz := 3) rfl (fun w => by kernel_rfl) hR0 hq1), .l (accRo hR0 c_Member_len (inR_nat hq1) 0 [.string ((A0 0)).fName, .int .i64 (((A0 0)).fType), .int .i64 (((A0 0)).fBits)] rfl), .o, .a 3, .o, .o, .a 3, .o, .x (sqAppL1_ok (ty := 55) rt55 #[false, false] (f := cZ) (c := 1) ((A0 0)).fType (T' := 3) cZ_len cZ_one (by decide)) [4], .o, .o, .o] [0, 5] (fun b => rfl) (by decide) rfl rfl (fun b => by kernel_rfl)
        · exact none_some e
      · cases e; exact ⟨ne_exit 1, goes_runM hU [.b (z_lssF hq0)] [0, 1] (fun b => rfl) (by decide) rfl rfl (fun b => by kernel_rfl)⟩
    | c1 s0_0 s0_1 s0_2 =>
      unfold st_btf_held_v2_L0 at e
      dsimp only at e
      replace e := cond_eq_or e
      rcases e with ⟨hq0, e⟩ | ⟨hq0, e⟩
      · replace e := cond_eq_or e
        rcases e with ⟨hq1, e⟩ | ⟨hq1, e⟩
        · replace e := cond_eq_or e
          rcases e with ⟨hq2, e⟩ | ⟨hq2, e⟩
          · cases e; exact goes_runM hU [.b (z_lssT hq0), .q (ixRo_ok (kd := .i64) (T := 33) (x := s0_2) (sz := 3) rfl (fun w => by kernel_rfl) hR0 hq1), .l (accRo hR0 c_Member_len (inR_nat hq1) 0 [.string ((A0 (s0_2).toNat)).fName, .int .i64 (((A0 (s0_2).toNat)).fType), .int .i64 (((A0 (s0_2).toNat)).fBits)] rfl), .o, .a 3, .o, .o, .a 3, .o, .x (sqAppL_ok (ty := 55) rt55 #[false, false] (f := cZ) (N := s0_0) (A := s0_1) (c := 1) [((A0 (s0_2).toNat)).fType] (T' := 3) .row cZ_len cZ_one hq2 rfl (by decide)) [1, 4], .o, .o, .o] [0, 5] (fun b => rfl) (by decide) rfl rfl (fun b => by kernel_rfl)
          · exact none_some e
        · exact none_some e
      · cases e; exact ⟨ne_exit 1, goes_runM hU [.b (z_lssF hq0)] [0, 1] (fun b => rfl) (by decide) rfl rfl (fun b => by kernel_rfl)⟩) s r h
noncomputable def t0_btf_held_v2_L0_0 (y0 : Xs35) (a0 : Option Addr) (p0 : Nat) (q0 : Nat) (n0 : Nat) (k0 : Nat) (A0 : Nat → Member)  (ls : List L1) : List Value := List.append [.agg #[.int .i64 (y0.fKind), .string y0.fName, .int .i64 (y0.fSize), .bool (y0.fSigned), .int .i64 (y0.fTo), .int .i64 (y0.fCount), .slice a0 n0 (n0 + k0)], .pointer (some ⟨(lget ls 0).n, 0, none⟩), .slice none 0 0, .slice none 0 0, undef, undef, .pointer (some ⟨(lget ls 0).n, 0, none⟩), .int .i64 (y0.fKind), .bool false, .bool false, .bool false] (List.append (und 5) (List.append [.bool true, .bool true, .pointer (some ⟨(lget ls 0).n, 6, none⟩), .slice a0 n0 (n0 + k0), .int .i64 ((n0 : Int)), .int .i64 (0)] (und 10)))
def pre_btf_held_v2_L0_0 (y0 : Xs35) (a0 : Option Addr) (p0 : Nat) (q0 : Nat) (n0 : Nat) (k0 : Nat) (A0 : Nat → Member)  (ls : List L1) : List Obj := [.cells #[.int .i64 (y0.fKind), .string y0.fName, .int .i64 (y0.fSize), .bool (y0.fSigned), .int .i64 (y0.fTo), .int .i64 (y0.fCount), .slice a0 n0 (n0 + k0)] 35]
theorem sp0_btf_held_v2_L0_0_ok (h : lpO (st_btf_held_v2_L0 n0 A0) (.c0) = some (.e0 )) : SpcG Tryd.prog M B0 S ⟨fun ls => .code (.loop bd_btf_held_v2_L0) (t0_btf_held_v2_L0_0 y0 a0 p0 q0 n0 k0 A0  ls), pre_btf_held_v2_L0_0 y0 a0 p0 q0 n0 k0 A0 , 2, (.exit 1), fun ls => vf_btf_held_v2_L0 y0 a0 p0 q0 n0 k0 A0 (.e0 ) (ls.take 1 ++ ls.drop 1), fun ls => (Hf_btf_held_v2_L0 y0 a0 p0 q0 n0 k0 A0 (.e0 ) (ls.take 1 ++ ls.drop 1)).take 1 ++ List.replicate 0 unb, fun ls => (Hf_btf_held_v2_L0 y0 a0 p0 q0 n0 k0 A0 (.e0 ) (ls.take 1 ++ ls.drop 1)).drop 1⟩ :=
  spc_of_goesM hU 1 (k0 := 1) (go_btf_held_v2_L0 hU y0 a0 p0 q0 n0 k0 A0 hR0 _ _ h) (t0_btf_held_v2_L0_0 y0 a0 p0 q0 n0 k0 A0 ) (pre_btf_held_v2_L0_0 y0 a0 p0 q0 n0 k0 A0 ) (fun _ => rfl) (fun ls h => by match ls, h with | [l0], _ => exact ⟨by kernel_rfl, by kernel_rfl⟩) (fun ls h => by match ls, h with | [l0], _ => rfl) (by decide) (by decide) (fun ls => rfl)
theorem sp1_btf_held_v2_L0_0_ok (c1_0 : Nat) (c1_1 : Nat → Int) (h : lpO (st_btf_held_v2_L0 n0 A0) (.c0) = some (.e1 c1_0 c1_1)) : SpcG Tryd.prog M B0 S ⟨fun ls => .code (.loop bd_btf_held_v2_L0) (t0_btf_held_v2_L0_0 y0 a0 p0 q0 n0 k0 A0  ls), pre_btf_held_v2_L0_0 y0 a0 p0 q0 n0 k0 A0 , 2, (.exit 1), fun ls => vf_btf_held_v2_L0 y0 a0 p0 q0 n0 k0 A0 (.e1 c1_0 c1_1) (ls.take 1 ++ ls.drop 1), fun ls => (Hf_btf_held_v2_L0 y0 a0 p0 q0 n0 k0 A0 (.e1 c1_0 c1_1) (ls.take 1 ++ ls.drop 1)).take 1 ++ List.replicate 0 unb, fun ls => (Hf_btf_held_v2_L0 y0 a0 p0 q0 n0 k0 A0 (.e1 c1_0 c1_1) (ls.take 1 ++ ls.drop 1)).drop 1⟩ :=
  spc_of_goesM hU 1 (k0 := 1) (go_btf_held_v2_L0 hU y0 a0 p0 q0 n0 k0 A0 hR0 _ _ h) (t0_btf_held_v2_L0_0 y0 a0 p0 q0 n0 k0 A0 ) (pre_btf_held_v2_L0_0 y0 a0 p0 q0 n0 k0 A0 ) (fun _ => rfl) (fun ls h => by match ls, h with | [l0], _ => exact ⟨by kernel_rfl, by kernel_rfl⟩) (fun ls h => by match ls, h with | [l0], _ => rfl) (by decide) (by decide) (fun ls => rfl)
inductive R_btf_held_v2 where
  | e0 (c0_0 : Nat) (c0_1 : Nat → Int)
  | e1 
noncomputable def m_btf_held_v2 (y0 : Xs35) (n0 : Nat) (A0 : Nat → Member) : Option R_btf_held_v2 :=
  bif y0.fKind == 5 then
    (some (.e0 1 (fun _ => y0.fTo)))
  else (bif y0.fKind == 3 then
    (some (.e0 1 (fun _ => y0.fTo)))
  else (bif y0.fKind == 4 then
    ((lpO (st_btf_held_v2_L0 n0 A0) (.c0)).bind fun g0 => match g0 with
    | .e0  => (some (.e1))
    | .e1 g0_0 g0_1 => (some (.e0 g0_0 g0_1)))
  else (some (.e1))))
def sq0_btf_held_v2 (y0 : Xs35) (a0 : Option Addr) (p0 : Nat) (q0 : Nat) (n0 : Nat) (k0 : Nat) (A0 : Nat → Member) (c0_0 : Nat) (c0_1 : Nat → Int) : Spc := ⟨fun ls => .call 28 #[.agg #[.int .i64 (y0.fKind), .string y0.fName, .int .i64 (y0.fSize), .bool (y0.fSigned), .int .i64 (y0.fTo), .int .i64 (y0.fCount), .slice a0 n0 (n0 + k0)]], fun ls => [], 1, .normal, fun ls => [(rowV (lget ls 0) c0_0 1)], fun ls => [], fun ls => [rowO (lget ls 0) (esG cZ c0_0 c0_1) 3 c0_0 1]⟩
def sq1_btf_held_v2 (y0 : Xs35) (a0 : Option Addr) (p0 : Nat) (q0 : Nat) (n0 : Nat) (k0 : Nat) (A0 : Nat → Member)  : Spc := ⟨fun ls => .call 28 #[.agg #[.int .i64 (y0.fKind), .string y0.fName, .int .i64 (y0.fSize), .bool (y0.fSigned), .int .i64 (y0.fTo), .int .i64 (y0.fCount), .slice a0 n0 (n0 + k0)]], fun ls => [], 0, .normal, fun ls => [.slice none 0 0], fun ls => [], fun ls => []⟩
theorem ok0_btf_held_v2 (c0_0 : Nat) (c0_1 : Nat → Int) (e : m_btf_held_v2 y0 n0 A0 = some (.e0 c0_0 c0_1)) : SpcG Tryd.prog M B0 S (sq0_btf_held_v2 y0 a0 p0 q0 n0 k0 A0 c0_0 c0_1) := by
  unfold m_btf_held_v2 at e
  replace e := cond_eq_or e
  rcases e with ⟨hq0, e⟩ | ⟨hq0, e⟩
  · injection e with e; injection e with i0 i1; subst i0 i1; exact fn_specG hU (P := Tryd.prog) Tryd.func28 (fun xs w => by kernel_rfl) 0 _ _ (fun _ => rfl) _ _ _ [2] [.o, .o, .o, .o, .a 0, .b (z_eqlT hq0), .o, .o, .o, .a 0, .o, .x (sqAppL1_ok (ty := 55) rt55 #[false, false] (f := cZ) (c := 1) y0.fTo (T' := 3) cZ_len cZ_one (by decide)) [1], .o, .o, .o] [] (fun b => by kernel_rfl)
  · replace e := cond_eq_or e
    rcases e with ⟨hq1, e⟩ | ⟨hq1, e⟩
    · injection e with e; injection e with i0 i1; subst i0 i1; exact fn_specG hU (P := Tryd.prog) Tryd.func28 (fun xs w => by kernel_rfl) 0 _ _ (fun _ => rfl) _ _ _ [2] [.o, .o, .o, .o, .a 0, .b (z_eqlF hq0), .o, .b (z_eqlT hq1), .o, .o, .o, .a 0, .o, .x (sqAppL1_ok (ty := 55) rt55 #[false, false] (f := cZ) (c := 1) y0.fTo (T' := 3) cZ_len cZ_one (by decide)) [1], .o, .o, .o] [] (fun b => by kernel_rfl)
    · replace e := cond_eq_or e
      rcases e with ⟨hq2, e⟩ | ⟨hq2, e⟩
      · replace e := bindO_eq e
        obtain ⟨g0, e_g0, e⟩ := e
        rcases g0 with _ | ⟨g0_0, g0_1⟩
        · try dsimp only at e
          cases e
        · try dsimp only at e
          injection e with e; injection e with i0 i1; subst i0 i1; exact fn_specG hU (P := Tryd.prog) Tryd.func28 (fun xs w => by kernel_rfl) 0 _ _ (fun _ => rfl) _ _ _ [1] [.o, .o, .o, .o, .a 0, .b (z_eqlF hq0), .o, .b (z_eqlF hq1), .o, .b (z_eqlT hq2), .o, .o, .a 0, .o, .o, .cp, .cx (sp1_btf_held_v2_L0_0_ok hU y0 a0 p0 q0 n0 k0 A0 hR0  g0_0 g0_1 e_g0) [0], .o, .o] [] (fun b => by kernel_rfl)
      · cases e
theorem ok1_btf_held_v2 (e : m_btf_held_v2 y0 n0 A0 = some (.e1 )) : SpcG Tryd.prog M B0 S (sq1_btf_held_v2 y0 a0 p0 q0 n0 k0 A0 ) := by
  unfold m_btf_held_v2 at e
  replace e := cond_eq_or e
  rcases e with ⟨hq0, e⟩ | ⟨hq0, e⟩
  · cases e
  · replace e := cond_eq_or e
    rcases e with ⟨hq1, e⟩ | ⟨hq1, e⟩
    · cases e
    · replace e := cond_eq_or e
      rcases e with ⟨hq2, e⟩ | ⟨hq2, e⟩
      · replace e := bindO_eq e
        obtain ⟨g0, e_g0, e⟩ := e
        rcases g0 with _ | ⟨g0_0, g0_1⟩
        · try dsimp only at e
          exact fn_specG hU (P := Tryd.prog) Tryd.func28 (fun xs w => by kernel_rfl) 0 _ _ (fun _ => rfl) _ _ _ [] [.o, .o, .o, .o, .a 0, .b (z_eqlF hq0), .o, .b (z_eqlF hq1), .o, .b (z_eqlT hq2), .o, .o, .a 0, .o, .o, .cp, .cx (sp0_btf_held_v2_L0_0_ok hU y0 a0 p0 q0 n0 k0 A0 hR0   e_g0) [0], .o, .o] [] (fun b => by kernel_rfl)
        · try dsimp only at e
          cases e
      · exact fn_specG hU (P := Tryd.prog) Tryd.func28 (fun xs w => by kernel_rfl) 0 _ _ (fun _ => rfl) _ _ _ [] [.o, .o, .o, .o, .a 0, .b (z_eqlF hq0), .o, .b (z_eqlF hq1), .o, .b (z_eqlF hq2), .o, .o, .o] [] (fun b => by kernel_rfl)
inductive Sh_btf_holdsItself_1_v3_L0 where
  | c0 (s0_0 : Nat → Bool) (s0_1 : Int)
inductive Ex_btf_holdsItself_1_v3_L0 where
  | e0 (c0_0 : Nat → Bool)
  | e1 (c1_0 : Nat → Bool)
noncomputable def st_btf_holdsItself_1_v3_L0 (n0 : Nat) (A0 : Nat → (Xs35 × (Nat × (Nat → Member)))) (w0 : Int) (mr0 : (Int) → (Nat) → (Nat → (Xs35 × (Nat × (Nat → Member)))) → (Int) → (Nat → Bool) → Option R_btf_holdsItself_1_v3) (g0_0 : Nat) (g0_1 : Nat → Int) : Sh_btf_holdsItself_1_v3_L0 → Option (Sh_btf_holdsItself_1_v3_L0 ⊕ Ex_btf_holdsItself_1_v3_L0)
  | .c0 s0_0 s0_1 =>
    bif decide (s0_1 < (g0_0 : Int)) then
      (bif inR s0_1 g0_0 then
        (bif (g0_1 (s0_1).toNat) == w0 then
          (some (.inr (.e1 s0_0)))
        else (bif inR (g0_1 (s0_1).toNat) 257 then
          (bif (s0_0 ((g0_1 (s0_1).toNat)).toNat) then
            (some (.inl (.c0 s0_0 (IntKind.i64.wrap (s0_1 + 1)))))
          else ((mr0 (g0_1 (s0_1).toNat) n0 A0 w0 (updF s0_0 ((g0_1 (s0_1).toNat)).toNat true)).bind fun gb0 => match gb0 with
          | .e0 gb0_0 gb0_1 =>
          bif gb0_1 then
            (some (.inr (.e1 gb0_0)))
          else (some (.inl (.c0 gb0_0 (IntKind.i64.wrap (s0_1 + 1)))))))
        else (none)))
      else (none))
    else (some (.inr (.e0 s0_0)))
noncomputable def bd_btf_holdsItself_1_v3_L0 : Code := codeOf Tryd.f27 [1, 0, 1, 0, 0]
def fl_btf_holdsItself_1_v3_L0 (y0 : Int) (a0 : Option Addr) (p0 : Nat) (q0 : Nat) (n0 : Nat) (k0 : Nat) (X0 : Nat → RoX) (A0 : Nat → (Xs35 × (Nat × (Nat → Member)))) (w0 : Int) (w1 : Nat → Bool) (mr0 : (Int) → (Nat) → (Nat → (Xs35 × (Nat × (Nat → Member)))) → (Int) → (Nat → Bool) → Option R_btf_holdsItself_1_v3) (ih0 : ∀ {M : Nat → Prop} {B0 : Nat} {S : World → Prop} (hU : Up M B0 S) (y0 : Int) (a0 : Option Addr) (p0 : Nat) (q0 : Nat) (n0 : Nat) (k0 : Nat) (X0 : Nat → RoX) (A0 : Nat → (Xs35 × (Nat × (Nat → Member)))) (hR0 : RoS S h_Xs35 t_Xs35 7 c_Member 3 a0 p0 q0 n0 X0 (fun i => (A0 i).2) (fun i => (A0 i).1)) (w0 : Int) (w1 : Nat → Bool) (c0_0 : Nat → Bool) (c0_1 : Bool), mr0 y0 n0 A0 w0 w1 = some (.e0 c0_0 c0_1) → SpcG Tryd.prog M B0 S ⟨fun ls => .call 27 #[.int .i64 (y0), .pointer (some ⟨(lget ls 0).n, 0, none⟩), .pointer (some ⟨(lget ls 1).n, 0, none⟩), .pointer (some ⟨(lget ls 2).n, 0, none⟩), .pointer (some ⟨(lget ls 3).n, 0, none⟩)], fun ls => [.cells #[.slice a0 n0 (n0 + k0)] 22, .cells #[.int .i64 (w0)] 3, .cells ⟨esG cB 257 w1⟩ 53, .cells #[.func (.func 27) #[] #[.pointer (some ⟨(lget ls 0).n, 0, none⟩), .pointer (some ⟨(lget ls 1).n, 0, none⟩), .pointer (some ⟨(lget ls 2).n, 0, none⟩), .pointer (some ⟨(lget ls 3).n, 0, none⟩)]] 54], 0, .normal, fun ls => [.bool (c0_1)], fun ls => [.cells #[.slice a0 n0 (n0 + k0)] 22, .cells #[.int .i64 (w0)] 3, .cells ⟨esG cB 257 c0_0⟩ 53, .cells #[.func (.func 27) #[] #[.pointer (some ⟨(lget ls 0).n, 0, none⟩), .pointer (some ⟨(lget ls 1).n, 0, none⟩), .pointer (some ⟨(lget ls 2).n, 0, none⟩), .pointer (some ⟨(lget ls 3).n, 0, none⟩)]] 54], fun ls => []⟩) (g0_0 : Nat) (g0_1 : Nat → Int) : Sh_btf_holdsItself_1_v3_L0 → List L1 → List Value
  | .c0 s0_0 s0_1, ls => [.pointer (some ⟨(lget ls 1).n, 0, none⟩), .pointer (some ⟨(lget ls 2).n, 0, none⟩), .pointer (some ⟨(lget ls 3).n, 0, none⟩), .bool false, (rowV (lget ls 4) g0_0 1), .int .i64 ((g0_0 : Int)), .int .i64 (s0_1)]
def mf_btf_holdsItself_1_v3_L0 : Sh_btf_holdsItself_1_v3_L0 → List (Nat × Nat)
  | .c0 _ _ => [(0, 2), (3, 1), (1, 7), (3, 15)]
noncomputable def fr_btf_holdsItself_1_v3_L0 (y0 : Int) (a0 : Option Addr) (p0 : Nat) (q0 : Nat) (n0 : Nat) (k0 : Nat) (X0 : Nat → RoX) (A0 : Nat → (Xs35 × (Nat × (Nat → Member)))) (w0 : Int) (w1 : Nat → Bool) (mr0 : (Int) → (Nat) → (Nat → (Xs35 × (Nat × (Nat → Member)))) → (Int) → (Nat → Bool) → Option R_btf_holdsItself_1_v3) (ih0 : ∀ {M : Nat → Prop} {B0 : Nat} {S : World → Prop} (hU : Up M B0 S) (y0 : Int) (a0 : Option Addr) (p0 : Nat) (q0 : Nat) (n0 : Nat) (k0 : Nat) (X0 : Nat → RoX) (A0 : Nat → (Xs35 × (Nat × (Nat → Member)))) (hR0 : RoS S h_Xs35 t_Xs35 7 c_Member 3 a0 p0 q0 n0 X0 (fun i => (A0 i).2) (fun i => (A0 i).1)) (w0 : Int) (w1 : Nat → Bool) (c0_0 : Nat → Bool) (c0_1 : Bool), mr0 y0 n0 A0 w0 w1 = some (.e0 c0_0 c0_1) → SpcG Tryd.prog M B0 S ⟨fun ls => .call 27 #[.int .i64 (y0), .pointer (some ⟨(lget ls 0).n, 0, none⟩), .pointer (some ⟨(lget ls 1).n, 0, none⟩), .pointer (some ⟨(lget ls 2).n, 0, none⟩), .pointer (some ⟨(lget ls 3).n, 0, none⟩)], fun ls => [.cells #[.slice a0 n0 (n0 + k0)] 22, .cells #[.int .i64 (w0)] 3, .cells ⟨esG cB 257 w1⟩ 53, .cells #[.func (.func 27) #[] #[.pointer (some ⟨(lget ls 0).n, 0, none⟩), .pointer (some ⟨(lget ls 1).n, 0, none⟩), .pointer (some ⟨(lget ls 2).n, 0, none⟩), .pointer (some ⟨(lget ls 3).n, 0, none⟩)]] 54], 0, .normal, fun ls => [.bool (c0_1)], fun ls => [.cells #[.slice a0 n0 (n0 + k0)] 22, .cells #[.int .i64 (w0)] 3, .cells ⟨esG cB 257 c0_0⟩ 53, .cells #[.func (.func 27) #[] #[.pointer (some ⟨(lget ls 0).n, 0, none⟩), .pointer (some ⟨(lget ls 1).n, 0, none⟩), .pointer (some ⟨(lget ls 2).n, 0, none⟩), .pointer (some ⟨(lget ls 3).n, 0, none⟩)]] 54], fun ls => []⟩) (g0_0 : Nat) (g0_1 : Nat → Int) (s : Sh_btf_holdsItself_1_v3_L0) : List L1 → List Value := mrgF (mf_btf_holdsItself_1_v3_L0 s) (fl_btf_holdsItself_1_v3_L0 y0 a0 p0 q0 n0 k0 X0 A0 w0 w1 mr0 ih0 g0_0 g0_1 s) 5
def Hs_btf_holdsItself_1_v3_L0 (y0 : Int) (a0 : Option Addr) (p0 : Nat) (q0 : Nat) (n0 : Nat) (k0 : Nat) (X0 : Nat → RoX) (A0 : Nat → (Xs35 × (Nat × (Nat → Member)))) (w0 : Int) (w1 : Nat → Bool) (mr0 : (Int) → (Nat) → (Nat → (Xs35 × (Nat × (Nat → Member)))) → (Int) → (Nat → Bool) → Option R_btf_holdsItself_1_v3) (ih0 : ∀ {M : Nat → Prop} {B0 : Nat} {S : World → Prop} (hU : Up M B0 S) (y0 : Int) (a0 : Option Addr) (p0 : Nat) (q0 : Nat) (n0 : Nat) (k0 : Nat) (X0 : Nat → RoX) (A0 : Nat → (Xs35 × (Nat × (Nat → Member)))) (hR0 : RoS S h_Xs35 t_Xs35 7 c_Member 3 a0 p0 q0 n0 X0 (fun i => (A0 i).2) (fun i => (A0 i).1)) (w0 : Int) (w1 : Nat → Bool) (c0_0 : Nat → Bool) (c0_1 : Bool), mr0 y0 n0 A0 w0 w1 = some (.e0 c0_0 c0_1) → SpcG Tryd.prog M B0 S ⟨fun ls => .call 27 #[.int .i64 (y0), .pointer (some ⟨(lget ls 0).n, 0, none⟩), .pointer (some ⟨(lget ls 1).n, 0, none⟩), .pointer (some ⟨(lget ls 2).n, 0, none⟩), .pointer (some ⟨(lget ls 3).n, 0, none⟩)], fun ls => [.cells #[.slice a0 n0 (n0 + k0)] 22, .cells #[.int .i64 (w0)] 3, .cells ⟨esG cB 257 w1⟩ 53, .cells #[.func (.func 27) #[] #[.pointer (some ⟨(lget ls 0).n, 0, none⟩), .pointer (some ⟨(lget ls 1).n, 0, none⟩), .pointer (some ⟨(lget ls 2).n, 0, none⟩), .pointer (some ⟨(lget ls 3).n, 0, none⟩)]] 54], 0, .normal, fun ls => [.bool (c0_1)], fun ls => [.cells #[.slice a0 n0 (n0 + k0)] 22, .cells #[.int .i64 (w0)] 3, .cells ⟨esG cB 257 c0_0⟩ 53, .cells #[.func (.func 27) #[] #[.pointer (some ⟨(lget ls 0).n, 0, none⟩), .pointer (some ⟨(lget ls 1).n, 0, none⟩), .pointer (some ⟨(lget ls 2).n, 0, none⟩), .pointer (some ⟨(lget ls 3).n, 0, none⟩)]] 54], fun ls => []⟩) (g0_0 : Nat) (g0_1 : Nat → Int) : Sh_btf_holdsItself_1_v3_L0 → List L1 → List Obj
  | .c0 s0_0 s0_1, ls => [.cells #[.slice a0 n0 (n0 + k0)] 22, .cells #[.int .i64 (w0)] 3, .cells ⟨esG cB 257 s0_0⟩ 53, .cells #[.func (.func 27) #[] #[.pointer (some ⟨(lget ls 0).n, 0, none⟩), .pointer (some ⟨(lget ls 1).n, 0, none⟩), .pointer (some ⟨(lget ls 2).n, 0, none⟩), .pointer (some ⟨(lget ls 3).n, 0, none⟩)]] 54, rowO (lget ls 4) (esG cZ g0_0 g0_1) 3 g0_0 1, unb]
def vl_btf_holdsItself_1_v3_L0 (y0 : Int) (a0 : Option Addr) (p0 : Nat) (q0 : Nat) (n0 : Nat) (k0 : Nat) (X0 : Nat → RoX) (A0 : Nat → (Xs35 × (Nat × (Nat → Member)))) (w0 : Int) (w1 : Nat → Bool) (mr0 : (Int) → (Nat) → (Nat → (Xs35 × (Nat × (Nat → Member)))) → (Int) → (Nat → Bool) → Option R_btf_holdsItself_1_v3) (ih0 : ∀ {M : Nat → Prop} {B0 : Nat} {S : World → Prop} (hU : Up M B0 S) (y0 : Int) (a0 : Option Addr) (p0 : Nat) (q0 : Nat) (n0 : Nat) (k0 : Nat) (X0 : Nat → RoX) (A0 : Nat → (Xs35 × (Nat × (Nat → Member)))) (hR0 : RoS S h_Xs35 t_Xs35 7 c_Member 3 a0 p0 q0 n0 X0 (fun i => (A0 i).2) (fun i => (A0 i).1)) (w0 : Int) (w1 : Nat → Bool) (c0_0 : Nat → Bool) (c0_1 : Bool), mr0 y0 n0 A0 w0 w1 = some (.e0 c0_0 c0_1) → SpcG Tryd.prog M B0 S ⟨fun ls => .call 27 #[.int .i64 (y0), .pointer (some ⟨(lget ls 0).n, 0, none⟩), .pointer (some ⟨(lget ls 1).n, 0, none⟩), .pointer (some ⟨(lget ls 2).n, 0, none⟩), .pointer (some ⟨(lget ls 3).n, 0, none⟩)], fun ls => [.cells #[.slice a0 n0 (n0 + k0)] 22, .cells #[.int .i64 (w0)] 3, .cells ⟨esG cB 257 w1⟩ 53, .cells #[.func (.func 27) #[] #[.pointer (some ⟨(lget ls 0).n, 0, none⟩), .pointer (some ⟨(lget ls 1).n, 0, none⟩), .pointer (some ⟨(lget ls 2).n, 0, none⟩), .pointer (some ⟨(lget ls 3).n, 0, none⟩)]] 54], 0, .normal, fun ls => [.bool (c0_1)], fun ls => [.cells #[.slice a0 n0 (n0 + k0)] 22, .cells #[.int .i64 (w0)] 3, .cells ⟨esG cB 257 c0_0⟩ 53, .cells #[.func (.func 27) #[] #[.pointer (some ⟨(lget ls 0).n, 0, none⟩), .pointer (some ⟨(lget ls 1).n, 0, none⟩), .pointer (some ⟨(lget ls 2).n, 0, none⟩), .pointer (some ⟨(lget ls 3).n, 0, none⟩)]] 54], fun ls => []⟩) (g0_0 : Nat) (g0_1 : Nat → Int) : Ex_btf_holdsItself_1_v3_L0 → List L1 → List Value
  | .e0 c0_0, ls => [.pointer (some ⟨(lget ls 1).n, 0, none⟩), .pointer (some ⟨(lget ls 2).n, 0, none⟩), .pointer (some ⟨(lget ls 3).n, 0, none⟩), .bool false, (rowV (lget ls 4) g0_0 1), .int .i64 ((g0_0 : Int))]
  | .e1 c1_0, ls => [.pointer (some ⟨(lget ls 1).n, 0, none⟩), .pointer (some ⟨(lget ls 2).n, 0, none⟩), .pointer (some ⟨(lget ls 3).n, 0, none⟩), .bool true, (rowV (lget ls 4) g0_0 1), .int .i64 ((g0_0 : Int))]
def mk_btf_holdsItself_1_v3_L0 : Ex_btf_holdsItself_1_v3_L0 → List (Nat × Nat)
  | .e0 _ => [(0, 2), (3, 1), (1, 7), (2, 16)]
  | .e1 _ => [(0, 2), (3, 1), (1, 7), (2, 16)]
noncomputable def vf_btf_holdsItself_1_v3_L0 (y0 : Int) (a0 : Option Addr) (p0 : Nat) (q0 : Nat) (n0 : Nat) (k0 : Nat) (X0 : Nat → RoX) (A0 : Nat → (Xs35 × (Nat × (Nat → Member)))) (w0 : Int) (w1 : Nat → Bool) (mr0 : (Int) → (Nat) → (Nat → (Xs35 × (Nat × (Nat → Member)))) → (Int) → (Nat → Bool) → Option R_btf_holdsItself_1_v3) (ih0 : ∀ {M : Nat → Prop} {B0 : Nat} {S : World → Prop} (hU : Up M B0 S) (y0 : Int) (a0 : Option Addr) (p0 : Nat) (q0 : Nat) (n0 : Nat) (k0 : Nat) (X0 : Nat → RoX) (A0 : Nat → (Xs35 × (Nat × (Nat → Member)))) (hR0 : RoS S h_Xs35 t_Xs35 7 c_Member 3 a0 p0 q0 n0 X0 (fun i => (A0 i).2) (fun i => (A0 i).1)) (w0 : Int) (w1 : Nat → Bool) (c0_0 : Nat → Bool) (c0_1 : Bool), mr0 y0 n0 A0 w0 w1 = some (.e0 c0_0 c0_1) → SpcG Tryd.prog M B0 S ⟨fun ls => .call 27 #[.int .i64 (y0), .pointer (some ⟨(lget ls 0).n, 0, none⟩), .pointer (some ⟨(lget ls 1).n, 0, none⟩), .pointer (some ⟨(lget ls 2).n, 0, none⟩), .pointer (some ⟨(lget ls 3).n, 0, none⟩)], fun ls => [.cells #[.slice a0 n0 (n0 + k0)] 22, .cells #[.int .i64 (w0)] 3, .cells ⟨esG cB 257 w1⟩ 53, .cells #[.func (.func 27) #[] #[.pointer (some ⟨(lget ls 0).n, 0, none⟩), .pointer (some ⟨(lget ls 1).n, 0, none⟩), .pointer (some ⟨(lget ls 2).n, 0, none⟩), .pointer (some ⟨(lget ls 3).n, 0, none⟩)]] 54], 0, .normal, fun ls => [.bool (c0_1)], fun ls => [.cells #[.slice a0 n0 (n0 + k0)] 22, .cells #[.int .i64 (w0)] 3, .cells ⟨esG cB 257 c0_0⟩ 53, .cells #[.func (.func 27) #[] #[.pointer (some ⟨(lget ls 0).n, 0, none⟩), .pointer (some ⟨(lget ls 1).n, 0, none⟩), .pointer (some ⟨(lget ls 2).n, 0, none⟩), .pointer (some ⟨(lget ls 3).n, 0, none⟩)]] 54], fun ls => []⟩) (g0_0 : Nat) (g0_1 : Nat → Int) (r : Ex_btf_holdsItself_1_v3_L0) : List L1 → List Value := mrgF (mk_btf_holdsItself_1_v3_L0 r) (vl_btf_holdsItself_1_v3_L0 y0 a0 p0 q0 n0 k0 X0 A0 w0 w1 mr0 ih0 g0_0 g0_1 r) 5
def Hf_btf_holdsItself_1_v3_L0 (y0 : Int) (a0 : Option Addr) (p0 : Nat) (q0 : Nat) (n0 : Nat) (k0 : Nat) (X0 : Nat → RoX) (A0 : Nat → (Xs35 × (Nat × (Nat → Member)))) (w0 : Int) (w1 : Nat → Bool) (mr0 : (Int) → (Nat) → (Nat → (Xs35 × (Nat × (Nat → Member)))) → (Int) → (Nat → Bool) → Option R_btf_holdsItself_1_v3) (ih0 : ∀ {M : Nat → Prop} {B0 : Nat} {S : World → Prop} (hU : Up M B0 S) (y0 : Int) (a0 : Option Addr) (p0 : Nat) (q0 : Nat) (n0 : Nat) (k0 : Nat) (X0 : Nat → RoX) (A0 : Nat → (Xs35 × (Nat × (Nat → Member)))) (hR0 : RoS S h_Xs35 t_Xs35 7 c_Member 3 a0 p0 q0 n0 X0 (fun i => (A0 i).2) (fun i => (A0 i).1)) (w0 : Int) (w1 : Nat → Bool) (c0_0 : Nat → Bool) (c0_1 : Bool), mr0 y0 n0 A0 w0 w1 = some (.e0 c0_0 c0_1) → SpcG Tryd.prog M B0 S ⟨fun ls => .call 27 #[.int .i64 (y0), .pointer (some ⟨(lget ls 0).n, 0, none⟩), .pointer (some ⟨(lget ls 1).n, 0, none⟩), .pointer (some ⟨(lget ls 2).n, 0, none⟩), .pointer (some ⟨(lget ls 3).n, 0, none⟩)], fun ls => [.cells #[.slice a0 n0 (n0 + k0)] 22, .cells #[.int .i64 (w0)] 3, .cells ⟨esG cB 257 w1⟩ 53, .cells #[.func (.func 27) #[] #[.pointer (some ⟨(lget ls 0).n, 0, none⟩), .pointer (some ⟨(lget ls 1).n, 0, none⟩), .pointer (some ⟨(lget ls 2).n, 0, none⟩), .pointer (some ⟨(lget ls 3).n, 0, none⟩)]] 54], 0, .normal, fun ls => [.bool (c0_1)], fun ls => [.cells #[.slice a0 n0 (n0 + k0)] 22, .cells #[.int .i64 (w0)] 3, .cells ⟨esG cB 257 c0_0⟩ 53, .cells #[.func (.func 27) #[] #[.pointer (some ⟨(lget ls 0).n, 0, none⟩), .pointer (some ⟨(lget ls 1).n, 0, none⟩), .pointer (some ⟨(lget ls 2).n, 0, none⟩), .pointer (some ⟨(lget ls 3).n, 0, none⟩)]] 54], fun ls => []⟩) (g0_0 : Nat) (g0_1 : Nat → Int) : Ex_btf_holdsItself_1_v3_L0 → List L1 → List Obj
  | .e0 c0_0, ls => [.cells #[.slice a0 n0 (n0 + k0)] 22, .cells #[.int .i64 (w0)] 3, .cells ⟨esG cB 257 c0_0⟩ 53, .cells #[.func (.func 27) #[] #[.pointer (some ⟨(lget ls 0).n, 0, none⟩), .pointer (some ⟨(lget ls 1).n, 0, none⟩), .pointer (some ⟨(lget ls 2).n, 0, none⟩), .pointer (some ⟨(lget ls 3).n, 0, none⟩)]] 54, rowO (lget ls 4) (esG cZ g0_0 g0_1) 3 g0_0 1, unb]
  | .e1 c1_0, ls => [.cells #[.slice a0 n0 (n0 + k0)] 22, .cells #[.int .i64 (w0)] 3, .cells ⟨esG cB 257 c1_0⟩ 53, .cells #[.func (.func 27) #[] #[.pointer (some ⟨(lget ls 0).n, 0, none⟩), .pointer (some ⟨(lget ls 1).n, 0, none⟩), .pointer (some ⟨(lget ls 2).n, 0, none⟩), .pointer (some ⟨(lget ls 3).n, 0, none⟩)]] 54, rowO (lget ls 4) (esG cZ g0_0 g0_1) 3 g0_0 1, unb]
def ex_btf_holdsItself_1_v3_L0 : Ex_btf_holdsItself_1_v3_L0 → Ex
  | .e0 _ => (.exit 0)
  | .e1 _ => .ret
end
section
variable {M : Nat → Prop} {B0 : Nat} {S : World → Prop} (hU : Up M B0 S) (y0 : Int) (a0 : Option Addr) (p0 : Nat) (q0 : Nat) (n0 : Nat) (k0 : Nat) (X0 : Nat → RoX) (A0 : Nat → (Xs35 × (Nat × (Nat → Member)))) (hR0 : RoS S h_Xs35 t_Xs35 7 c_Member 3 a0 p0 q0 n0 X0 (fun i => (A0 i).2) (fun i => (A0 i).1)) (w0 : Int) (w1 : Nat → Bool) (mr0 : (Int) → (Nat) → (Nat → (Xs35 × (Nat × (Nat → Member)))) → (Int) → (Nat → Bool) → Option R_btf_holdsItself_1_v3) (ih0 : ∀ {M : Nat → Prop} {B0 : Nat} {S : World → Prop} (hU : Up M B0 S) (y0 : Int) (a0 : Option Addr) (p0 : Nat) (q0 : Nat) (n0 : Nat) (k0 : Nat) (X0 : Nat → RoX) (A0 : Nat → (Xs35 × (Nat × (Nat → Member)))) (hR0 : RoS S h_Xs35 t_Xs35 7 c_Member 3 a0 p0 q0 n0 X0 (fun i => (A0 i).2) (fun i => (A0 i).1)) (w0 : Int) (w1 : Nat → Bool) (c0_0 : Nat → Bool) (c0_1 : Bool), mr0 y0 n0 A0 w0 w1 = some (.e0 c0_0 c0_1) → SpcG Tryd.prog M B0 S ⟨fun ls => .call 27 #[.int .i64 (y0), .pointer (some ⟨(lget ls 0).n, 0, none⟩), .pointer (some ⟨(lget ls 1).n, 0, none⟩), .pointer (some ⟨(lget ls 2).n, 0, none⟩), .pointer (some ⟨(lget ls 3).n, 0, none⟩)], fun ls => [.cells #[.slice a0 n0 (n0 + k0)] 22, .cells #[.int .i64 (w0)] 3, .cells ⟨esG cB 257 w1⟩ 53, .cells #[.func (.func 27) #[] #[.pointer (some ⟨(lget ls 0).n, 0, none⟩), .pointer (some ⟨(lget ls 1).n, 0, none⟩), .pointer (some ⟨(lget ls 2).n, 0, none⟩), .pointer (some ⟨(lget ls 3).n, 0, none⟩)]] 54], 0, .normal, fun ls => [.bool (c0_1)], fun ls => [.cells #[.slice a0 n0 (n0 + k0)] 22, .cells #[.int .i64 (w0)] 3, .cells ⟨esG cB 257 c0_0⟩ 53, .cells #[.func (.func 27) #[] #[.pointer (some ⟨(lget ls 0).n, 0, none⟩), .pointer (some ⟨(lget ls 1).n, 0, none⟩), .pointer (some ⟨(lget ls 2).n, 0, none⟩), .pointer (some ⟨(lget ls 3).n, 0, none⟩)]] 54], fun ls => []⟩) (g0_0 : Nat) (g0_1 : Nat → Int)
include hU y0 a0 p0 q0 n0 k0 X0 A0 hR0 w0 w1 mr0 ih0 g0_0 g0_1
theorem go_btf_holdsItself_1_v3_L0 (s : Sh_btf_holdsItself_1_v3_L0) (r : Ex_btf_holdsItself_1_v3_L0) (h : lpO (st_btf_holdsItself_1_v3_L0 n0 A0 w0 mr0 g0_0 g0_1) s = some r) : GoesG Tryd.prog M B0 S (.loop bd_btf_holdsItself_1_v3_L0) 6 (fr_btf_holdsItself_1_v3_L0 y0 a0 p0 q0 n0 k0 X0 A0 w0 w1 mr0 ih0 g0_0 g0_1 s) (Hs_btf_holdsItself_1_v3_L0 y0 a0 p0 q0 n0 k0 X0 A0 w0 w1 mr0 ih0 g0_0 g0_1 s) (ex_btf_holdsItself_1_v3_L0 r) 5 (vf_btf_holdsItself_1_v3_L0 y0 a0 p0 q0 n0 k0 X0 A0 w0 w1 mr0 ih0 g0_0 g0_1 r) (Hf_btf_holdsItself_1_v3_L0 y0 a0 p0 q0 n0 k0 X0 A0 w0 w1 mr0 ih0 g0_0 g0_1 r) 6 :=
  goes_lpO (fun s q e => by
    cases s with
    | c0 s0_0 s0_1 =>
      unfold st_btf_holdsItself_1_v3_L0 at e
      dsimp only at e
      replace e := cond_eq_or e
      rcases e with ⟨hq0, e⟩ | ⟨hq0, e⟩
      · replace e := cond_eq_or e
        rcases e with ⟨hq1, e⟩ | ⟨hq1, e⟩
        · replace e := cond_eq_or e
          rcases e with ⟨hq2, e⟩ | ⟨hq2, e⟩
          · cases e; exact ⟨ne_ret, goes_runM hU [.b (z_lssT hq0), .q (ixM_ok (kd := .i64) (T := 55) (x := s0_1) (N := g0_0) (sz := 1) rfl (fun w => by kernel_rfl) hq1), .l (accG (i := 4) (f := cZ) (A := g0_1) (k := (s0_1).toNat) 0 [.int .i64 ((g0_1 (s0_1).toNat))] cZ_len (inR_nat hq1) rfl), .o, .o, .a 1, .b (z_eqlT hq2), .o] [0, 1, 2, 3, 4] (fun b => rfl) (by decide) rfl rfl (fun b => by kernel_rfl)⟩
          · replace e := cond_eq_or e
            rcases e with ⟨hq3, e⟩ | ⟨hq3, e⟩
            · replace e := cond_eq_or e
              rcases e with ⟨hq4, e⟩ | ⟨hq4, e⟩
              · cases e; exact goes_runM hU [.b (z_lssT hq0), .q (ixM_ok (kd := .i64) (T := 55) (x := s0_1) (N := g0_0) (sz := 1) rfl (fun w => by kernel_rfl) hq1), .l (accG (i := 4) (f := cZ) (A := g0_1) (k := (s0_1).toNat) 0 [.int .i64 ((g0_1 (s0_1).toNat))] cZ_len (inR_nat hq1) rfl), .o, .o, .a 1, .b (z_eqlF hq2), .o, .q (ixA_ok (kd := .i64) (T := 53) (x := (g0_1 (s0_1).toNat)) (sz := 1) (N := 257) rfl rfl (fun w => by kernel_rfl) hq3), .l (accF (i := 2) (f := cB) (A := s0_0) (k := ((g0_1 (s0_1).toNat)).toNat) 0 [.bool true] cB_len (inR_nat hq3) (congrArg (fun b => [Value.bool b]) hq4)), .o, .o] [0, 1, 2, 3, 4] (fun b => rfl) (by decide) rfl rfl (fun b => by kernel_rfl)
              · replace e := bindO_eq e
                obtain ⟨gb0, e_gb0, e⟩ := e
                obtain ⟨gb0_0, gb0_1⟩ := gb0
                try dsimp only at e
                replace e := cond_eq_or e
                rcases e with ⟨hq5, e⟩ | ⟨hq5, e⟩
                · subst hq5
                  cases e; exact ⟨ne_ret, goes_runM hU [.b (z_lssT hq0), .q (ixM_ok (kd := .i64) (T := 55) (x := s0_1) (N := g0_0) (sz := 1) rfl (fun w => by kernel_rfl) hq1), .l (accG (i := 4) (f := cZ) (A := g0_1) (k := (s0_1).toNat) 0 [.int .i64 ((g0_1 (s0_1).toNat))] cZ_len (inR_nat hq1) rfl), .o, .o, .a 1, .b (z_eqlF hq2), .o, .q (ixA_ok (kd := .i64) (T := 53) (x := (g0_1 (s0_1).toNat)) (sz := 1) (N := 257) rfl rfl (fun w => by kernel_rfl) hq3), .l (accF (i := 2) (f := cB) (A := s0_0) (k := ((g0_1 (s0_1).toNat)).toNat) 0 [.bool false] cB_len (inR_nat hq3) (congrArg (fun b => [Value.bool b]) hq4)), .o, .q (ixA_ok (kd := .i64) (T := 53) (x := (g0_1 (s0_1).toNat)) (sz := 1) (N := 257) rfl rfl (fun w => by kernel_rfl) hq3), .x (sqStF_ok (T := 4) (e := 53) (f := cB) (A := s0_0) (v := true) 0 (.bool true) cB_len cB_one rfl rfl (fun w => by kernel_rfl) (inR_nat hq3)) [2], .a 3, .o, .xg (ih0 hU (g0_1 (s0_1).toNat) a0 p0 q0 n0 k0 X0 A0 hR0 w0 (updF s0_0 ((g0_1 (s0_1).toNat)).toNat true) gb0_0 true e_gb0) [0, 1, 2, 3], .o] [0, 1, 2, 3, 4] (fun b => rfl) (by decide) rfl rfl (fun b => by kernel_rfl)⟩
                · subst hq5
                  cases e; exact goes_runM hU [.b (z_lssT hq0), .q (ixM_ok (kd := .i64) (T := 55) (x := s0_1) (N := g0_0) (sz := 1) rfl (fun w => by kernel_rfl) hq1), .l (accG (i := 4) (f := cZ) (A := g0_1) (k := (s0_1).toNat) 0 [.int .i64 ((g0_1 (s0_1).toNat))] cZ_len (inR_nat hq1) rfl), .o, .o, .a 1, .b (z_eqlF hq2), .o, .q (ixA_ok (kd := .i64) (T := 53) (x := (g0_1 (s0_1).toNat)) (sz := 1) (N := 257) rfl rfl (fun w => by kernel_rfl) hq3), .l (accF (i := 2) (f := cB) (A := s0_0) (k := ((g0_1 (s0_1).toNat)).toNat) 0 [.bool false] cB_len (inR_nat hq3) (congrArg (fun b => [Value.bool b]) hq4)), .o, .q (ixA_ok (kd := .i64) (T := 53) (x := (g0_1 (s0_1).toNat)) (sz := 1) (N := 257) rfl rfl (fun w => by kernel_rfl) hq3), .x (sqStF_ok (T := 4) (e := 53) (f := cB) (A := s0_0) (v := true) 0 (.bool true) cB_len cB_one rfl rfl (fun w => by kernel_rfl) (inR_nat hq3)) [2], .a 3, .o, .xg (ih0 hU (g0_1 (s0_1).toNat) a0 p0 q0 n0 k0 X0 A0 hR0 w0 (updF s0_0 ((g0_1 (s0_1).toNat)).toNat true) gb0_0 false e_gb0) [0, 1, 2, 3], .o, .o] [0, 1, 2, 3, 4] (fun b => rfl) (by decide) rfl rfl (fun b => by kernel_rfl)
            · exact none_some e
        · exact none_some e
      · cases e; exact ⟨ne_exit 0, goes_runM hU [.b (z_lssF hq0)] [0, 1, 2, 3, 4] (fun b => rfl) (by decide) rfl rfl (fun b => by kernel_rfl)⟩) s r h
noncomputable def t0_btf_holdsItself_1_v3_L0_0 (y0 : Int) (a0 : Option Addr) (p0 : Nat) (q0 : Nat) (n0 : Nat) (k0 : Nat) (X0 : Nat → RoX) (A0 : Nat → (Xs35 × (Nat × (Nat → Member)))) (w0 : Int) (w1 : Nat → Bool) (mr0 : (Int) → (Nat) → (Nat → (Xs35 × (Nat × (Nat → Member)))) → (Int) → (Nat → Bool) → Option R_btf_holdsItself_1_v3) (ih0 : ∀ {M : Nat → Prop} {B0 : Nat} {S : World → Prop} (hU : Up M B0 S) (y0 : Int) (a0 : Option Addr) (p0 : Nat) (q0 : Nat) (n0 : Nat) (k0 : Nat) (X0 : Nat → RoX) (A0 : Nat → (Xs35 × (Nat × (Nat → Member)))) (hR0 : RoS S h_Xs35 t_Xs35 7 c_Member 3 a0 p0 q0 n0 X0 (fun i => (A0 i).2) (fun i => (A0 i).1)) (w0 : Int) (w1 : Nat → Bool) (c0_0 : Nat → Bool) (c0_1 : Bool), mr0 y0 n0 A0 w0 w1 = some (.e0 c0_0 c0_1) → SpcG Tryd.prog M B0 S ⟨fun ls => .call 27 #[.int .i64 (y0), .pointer (some ⟨(lget ls 0).n, 0, none⟩), .pointer (some ⟨(lget ls 1).n, 0, none⟩), .pointer (some ⟨(lget ls 2).n, 0, none⟩), .pointer (some ⟨(lget ls 3).n, 0, none⟩)], fun ls => [.cells #[.slice a0 n0 (n0 + k0)] 22, .cells #[.int .i64 (w0)] 3, .cells ⟨esG cB 257 w1⟩ 53, .cells #[.func (.func 27) #[] #[.pointer (some ⟨(lget ls 0).n, 0, none⟩), .pointer (some ⟨(lget ls 1).n, 0, none⟩), .pointer (some ⟨(lget ls 2).n, 0, none⟩), .pointer (some ⟨(lget ls 3).n, 0, none⟩)]] 54], 0, .normal, fun ls => [.bool (c0_1)], fun ls => [.cells #[.slice a0 n0 (n0 + k0)] 22, .cells #[.int .i64 (w0)] 3, .cells ⟨esG cB 257 c0_0⟩ 53, .cells #[.func (.func 27) #[] #[.pointer (some ⟨(lget ls 0).n, 0, none⟩), .pointer (some ⟨(lget ls 1).n, 0, none⟩), .pointer (some ⟨(lget ls 2).n, 0, none⟩), .pointer (some ⟨(lget ls 3).n, 0, none⟩)]] 54], fun ls => []⟩) (g0_0 : Nat) (g0_1 : Nat → Int) (s0_0 : Nat → Bool) (s0_1 : Int) (ls : List L1) : List Value := List.append [.int .i64 (y0), .pointer (some ⟨(lget ls 0).n, 0, none⟩), .pointer (some ⟨(lget ls 1).n, 0, none⟩), .pointer (some ⟨(lget ls 2).n, 0, none⟩), .pointer (some ⟨(lget ls 3).n, 0, none⟩), undef, .bool false, undef, undef, .slice a0 n0 (n0 + k0), .int .i64 (y0), .int .i64 ((IntKind.i64.wrap (y0 - 1))), .pointer (some ⟨p0, q0 + ((IntKind.i64.wrap (y0 - 1))).toNat * 7, none⟩), .agg #[.int .i64 (((A0 ((IntKind.i64.wrap (y0 - 1))).toNat).1).fKind), .string ((A0 ((IntKind.i64.wrap (y0 - 1))).toNat).1).fName, .int .i64 (((A0 ((IntKind.i64.wrap (y0 - 1))).toNat).1).fSize), .bool (((A0 ((IntKind.i64.wrap (y0 - 1))).toNat).1).fSigned), .int .i64 (((A0 ((IntKind.i64.wrap (y0 - 1))).toNat).1).fTo), .int .i64 (((A0 ((IntKind.i64.wrap (y0 - 1))).toNat).1).fCount), .slice (X0 ((IntKind.i64.wrap (y0 - 1))).toNat).a (A0 ((IntKind.i64.wrap (y0 - 1))).toNat).2.1 ((A0 ((IntKind.i64.wrap (y0 - 1))).toNat).2.1 + (X0 ((IntKind.i64.wrap (y0 - 1))).toNat).c)], (rowV (lget ls 4) g0_0 1), .int .i64 ((g0_0 : Int)), .int .i64 (s0_1)] (und 15)
def pre_btf_holdsItself_1_v3_L0_0 (y0 : Int) (a0 : Option Addr) (p0 : Nat) (q0 : Nat) (n0 : Nat) (k0 : Nat) (X0 : Nat → RoX) (A0 : Nat → (Xs35 × (Nat × (Nat → Member)))) (w0 : Int) (w1 : Nat → Bool) (mr0 : (Int) → (Nat) → (Nat → (Xs35 × (Nat × (Nat → Member)))) → (Int) → (Nat → Bool) → Option R_btf_holdsItself_1_v3) (ih0 : ∀ {M : Nat → Prop} {B0 : Nat} {S : World → Prop} (hU : Up M B0 S) (y0 : Int) (a0 : Option Addr) (p0 : Nat) (q0 : Nat) (n0 : Nat) (k0 : Nat) (X0 : Nat → RoX) (A0 : Nat → (Xs35 × (Nat × (Nat → Member)))) (hR0 : RoS S h_Xs35 t_Xs35 7 c_Member 3 a0 p0 q0 n0 X0 (fun i => (A0 i).2) (fun i => (A0 i).1)) (w0 : Int) (w1 : Nat → Bool) (c0_0 : Nat → Bool) (c0_1 : Bool), mr0 y0 n0 A0 w0 w1 = some (.e0 c0_0 c0_1) → SpcG Tryd.prog M B0 S ⟨fun ls => .call 27 #[.int .i64 (y0), .pointer (some ⟨(lget ls 0).n, 0, none⟩), .pointer (some ⟨(lget ls 1).n, 0, none⟩), .pointer (some ⟨(lget ls 2).n, 0, none⟩), .pointer (some ⟨(lget ls 3).n, 0, none⟩)], fun ls => [.cells #[.slice a0 n0 (n0 + k0)] 22, .cells #[.int .i64 (w0)] 3, .cells ⟨esG cB 257 w1⟩ 53, .cells #[.func (.func 27) #[] #[.pointer (some ⟨(lget ls 0).n, 0, none⟩), .pointer (some ⟨(lget ls 1).n, 0, none⟩), .pointer (some ⟨(lget ls 2).n, 0, none⟩), .pointer (some ⟨(lget ls 3).n, 0, none⟩)]] 54], 0, .normal, fun ls => [.bool (c0_1)], fun ls => [.cells #[.slice a0 n0 (n0 + k0)] 22, .cells #[.int .i64 (w0)] 3, .cells ⟨esG cB 257 c0_0⟩ 53, .cells #[.func (.func 27) #[] #[.pointer (some ⟨(lget ls 0).n, 0, none⟩), .pointer (some ⟨(lget ls 1).n, 0, none⟩), .pointer (some ⟨(lget ls 2).n, 0, none⟩), .pointer (some ⟨(lget ls 3).n, 0, none⟩)]] 54], fun ls => []⟩) (g0_0 : Nat) (g0_1 : Nat → Int) (s0_0 : Nat → Bool) (s0_1 : Int) (ls : List L1) : List Obj := [.cells #[.slice a0 n0 (n0 + k0)] 22, .cells #[.int .i64 (w0)] 3, .cells ⟨esG cB 257 s0_0⟩ 53, .cells #[.func (.func 27) #[] #[.pointer (some ⟨(lget ls 0).n, 0, none⟩), .pointer (some ⟨(lget ls 1).n, 0, none⟩), .pointer (some ⟨(lget ls 2).n, 0, none⟩), .pointer (some ⟨(lget ls 3).n, 0, none⟩)]] 54, rowO (lget ls 4) (esG cZ g0_0 g0_1) 3 g0_0 1]
theorem sp0_btf_holdsItself_1_v3_L0_0_ok (s0_0 : Nat → Bool) (s0_1 : Int) (c0_0 : Nat → Bool) (h : lpO (st_btf_holdsItself_1_v3_L0 n0 A0 w0 mr0 g0_0 g0_1) (.c0 s0_0 s0_1) = some (.e0 c0_0)) : SpcG Tryd.prog M B0 S ⟨fun ls => .code (.loop bd_btf_holdsItself_1_v3_L0) (t0_btf_holdsItself_1_v3_L0_0 y0 a0 p0 q0 n0 k0 X0 A0 w0 w1 mr0 ih0 g0_0 g0_1 s0_0 s0_1 ls), pre_btf_holdsItself_1_v3_L0_0 y0 a0 p0 q0 n0 k0 X0 A0 w0 w1 mr0 ih0 g0_0 g0_1 s0_0 s0_1, 1, (.exit 0), fun ls => vf_btf_holdsItself_1_v3_L0 y0 a0 p0 q0 n0 k0 X0 A0 w0 w1 mr0 ih0 g0_0 g0_1 (.e0 c0_0) (ls.take 5 ++ ls.drop 5), fun ls => (Hf_btf_holdsItself_1_v3_L0 y0 a0 p0 q0 n0 k0 X0 A0 w0 w1 mr0 ih0 g0_0 g0_1 (.e0 c0_0) (ls.take 5 ++ ls.drop 5)).take 5 ++ List.replicate 0 unb, fun ls => (Hf_btf_holdsItself_1_v3_L0 y0 a0 p0 q0 n0 k0 X0 A0 w0 w1 mr0 ih0 g0_0 g0_1 (.e0 c0_0) (ls.take 5 ++ ls.drop 5)).drop 5⟩ :=
  spc_of_goesM hU 0 (k0 := 5) (go_btf_holdsItself_1_v3_L0 hU y0 a0 p0 q0 n0 k0 X0 A0 hR0 w0 w1 mr0 ih0 g0_0 g0_1 _ _ h) (t0_btf_holdsItself_1_v3_L0_0 y0 a0 p0 q0 n0 k0 X0 A0 w0 w1 mr0 ih0 g0_0 g0_1 s0_0 s0_1) (pre_btf_holdsItself_1_v3_L0_0 y0 a0 p0 q0 n0 k0 X0 A0 w0 w1 mr0 ih0 g0_0 g0_1 s0_0 s0_1) (fun _ => rfl) (fun ls h => by match ls, h with | [l0, l1, l2, l3, l4], _ => exact ⟨by kernel_rfl, by kernel_rfl⟩) (fun ls h => by match ls, h with | [l0, l1, l2, l3, l4], _ => rfl) (by decide) (by decide) (fun ls => rfl)
theorem sp1_btf_holdsItself_1_v3_L0_0_ok (s0_0 : Nat → Bool) (s0_1 : Int) (c1_0 : Nat → Bool) (h : lpO (st_btf_holdsItself_1_v3_L0 n0 A0 w0 mr0 g0_0 g0_1) (.c0 s0_0 s0_1) = some (.e1 c1_0)) : SpcG Tryd.prog M B0 S ⟨fun ls => .code (.loop bd_btf_holdsItself_1_v3_L0) (t0_btf_holdsItself_1_v3_L0_0 y0 a0 p0 q0 n0 k0 X0 A0 w0 w1 mr0 ih0 g0_0 g0_1 s0_0 s0_1 ls), pre_btf_holdsItself_1_v3_L0_0 y0 a0 p0 q0 n0 k0 X0 A0 w0 w1 mr0 ih0 g0_0 g0_1 s0_0 s0_1, 1, .ret, fun ls => vf_btf_holdsItself_1_v3_L0 y0 a0 p0 q0 n0 k0 X0 A0 w0 w1 mr0 ih0 g0_0 g0_1 (.e1 c1_0) (ls.take 5 ++ ls.drop 5), fun ls => (Hf_btf_holdsItself_1_v3_L0 y0 a0 p0 q0 n0 k0 X0 A0 w0 w1 mr0 ih0 g0_0 g0_1 (.e1 c1_0) (ls.take 5 ++ ls.drop 5)).take 5 ++ List.replicate 0 unb, fun ls => (Hf_btf_holdsItself_1_v3_L0 y0 a0 p0 q0 n0 k0 X0 A0 w0 w1 mr0 ih0 g0_0 g0_1 (.e1 c1_0) (ls.take 5 ++ ls.drop 5)).drop 5⟩ :=
  spc_of_goesM hU 0 (k0 := 5) (go_btf_holdsItself_1_v3_L0 hU y0 a0 p0 q0 n0 k0 X0 A0 hR0 w0 w1 mr0 ih0 g0_0 g0_1 _ _ h) (t0_btf_holdsItself_1_v3_L0_0 y0 a0 p0 q0 n0 k0 X0 A0 w0 w1 mr0 ih0 g0_0 g0_1 s0_0 s0_1) (pre_btf_holdsItself_1_v3_L0_0 y0 a0 p0 q0 n0 k0 X0 A0 w0 w1 mr0 ih0 g0_0 g0_1 s0_0 s0_1) (fun _ => rfl) (fun ls h => by match ls, h with | [l0, l1, l2, l3, l4], _ => exact ⟨by kernel_rfl, by kernel_rfl⟩) (fun ls h => by match ls, h with | [l0, l1, l2, l3, l4], _ => rfl) (by decide) (by decide) (fun ls => rfl)
noncomputable def m_btf_holdsItself_1_v3 (y0 : Int) (n0 : Nat) (A0 : Nat → (Xs35 × (Nat × (Nat → Member)))) (w0 : Int) (w1 : Nat → Bool) (mr0 : (Int) → (Nat) → (Nat → (Xs35 × (Nat × (Nat → Member)))) → (Int) → (Nat → Bool) → Option R_btf_holdsItself_1_v3) : Option R_btf_holdsItself_1_v3 :=
  bif inR (IntKind.i64.wrap (y0 - 1)) n0 then
    ((m_btf_held_v2 ((A0 ((IntKind.i64.wrap (y0 - 1))).toNat).1) (A0 ((IntKind.i64.wrap (y0 - 1))).toNat).2.1 (A0 ((IntKind.i64.wrap (y0 - 1))).toNat).2.2).bind fun g0 => match g0 with
    | .e0 g0_0 g0_1 => ((lpO (st_btf_holdsItself_1_v3_L0 n0 A0 w0 mr0 g0_0 g0_1) (.c0 w1 0)).bind fun g1 => match g1 with
      | .e0 g1_0 => (some (.e0 g1_0 false))
      | .e1 g1_0 => (some (.e0 g1_0 true)))
    | .e1  => (some (.e0 w1 false)))
  else (none)
def sq0_btf_holdsItself_1_v3 (y0 : Int) (a0 : Option Addr) (p0 : Nat) (q0 : Nat) (n0 : Nat) (k0 : Nat) (X0 : Nat → RoX) (A0 : Nat → (Xs35 × (Nat × (Nat → Member)))) (w0 : Int) (w1 : Nat → Bool) (mr0 : (Int) → (Nat) → (Nat → (Xs35 × (Nat × (Nat → Member)))) → (Int) → (Nat → Bool) → Option R_btf_holdsItself_1_v3) (ih0 : ∀ {M : Nat → Prop} {B0 : Nat} {S : World → Prop} (hU : Up M B0 S) (y0 : Int) (a0 : Option Addr) (p0 : Nat) (q0 : Nat) (n0 : Nat) (k0 : Nat) (X0 : Nat → RoX) (A0 : Nat → (Xs35 × (Nat × (Nat → Member)))) (hR0 : RoS S h_Xs35 t_Xs35 7 c_Member 3 a0 p0 q0 n0 X0 (fun i => (A0 i).2) (fun i => (A0 i).1)) (w0 : Int) (w1 : Nat → Bool) (c0_0 : Nat → Bool) (c0_1 : Bool), mr0 y0 n0 A0 w0 w1 = some (.e0 c0_0 c0_1) → SpcG Tryd.prog M B0 S ⟨fun ls => .call 27 #[.int .i64 (y0), .pointer (some ⟨(lget ls 0).n, 0, none⟩), .pointer (some ⟨(lget ls 1).n, 0, none⟩), .pointer (some ⟨(lget ls 2).n, 0, none⟩), .pointer (some ⟨(lget ls 3).n, 0, none⟩)], fun ls => [.cells #[.slice a0 n0 (n0 + k0)] 22, .cells #[.int .i64 (w0)] 3, .cells ⟨esG cB 257 w1⟩ 53, .cells #[.func (.func 27) #[] #[.pointer (some ⟨(lget ls 0).n, 0, none⟩), .pointer (some ⟨(lget ls 1).n, 0, none⟩), .pointer (some ⟨(lget ls 2).n, 0, none⟩), .pointer (some ⟨(lget ls 3).n, 0, none⟩)]] 54], 0, .normal, fun ls => [.bool (c0_1)], fun ls => [.cells #[.slice a0 n0 (n0 + k0)] 22, .cells #[.int .i64 (w0)] 3, .cells ⟨esG cB 257 c0_0⟩ 53, .cells #[.func (.func 27) #[] #[.pointer (some ⟨(lget ls 0).n, 0, none⟩), .pointer (some ⟨(lget ls 1).n, 0, none⟩), .pointer (some ⟨(lget ls 2).n, 0, none⟩), .pointer (some ⟨(lget ls 3).n, 0, none⟩)]] 54], fun ls => []⟩) (c0_0 : Nat → Bool) (c0_1 : Bool) : Spc := ⟨fun ls => .call 27 #[.int .i64 (y0), .pointer (some ⟨(lget ls 0).n, 0, none⟩), .pointer (some ⟨(lget ls 1).n, 0, none⟩), .pointer (some ⟨(lget ls 2).n, 0, none⟩), .pointer (some ⟨(lget ls 3).n, 0, none⟩)], fun ls => [.cells #[.slice a0 n0 (n0 + k0)] 22, .cells #[.int .i64 (w0)] 3, .cells ⟨esG cB 257 w1⟩ 53, .cells #[.func (.func 27) #[] #[.pointer (some ⟨(lget ls 0).n, 0, none⟩), .pointer (some ⟨(lget ls 1).n, 0, none⟩), .pointer (some ⟨(lget ls 2).n, 0, none⟩), .pointer (some ⟨(lget ls 3).n, 0, none⟩)]] 54], 0, .normal, fun ls => [.bool (c0_1)], fun ls => [.cells #[.slice a0 n0 (n0 + k0)] 22, .cells #[.int .i64 (w0)] 3, .cells ⟨esG cB 257 c0_0⟩ 53, .cells #[.func (.func 27) #[] #[.pointer (some ⟨(lget ls 0).n, 0, none⟩), .pointer (some ⟨(lget ls 1).n, 0, none⟩), .pointer (some ⟨(lget ls 2).n, 0, none⟩), .pointer (some ⟨(lget ls 3).n, 0, none⟩)]] 54], fun ls => []⟩
end
section
variable {M : Nat → Prop} {B0 : Nat} {S : World → Prop} (hU : Up M B0 S)
include hU
theorem ok0_btf_holdsItself_1_v3 (y0 : Int) (a0 : Option Addr) (p0 : Nat) (q0 : Nat) (n0 : Nat) (k0 : Nat) (X0 : Nat → RoX) (A0 : Nat → (Xs35 × (Nat × (Nat → Member)))) (hR0 : RoS S h_Xs35 t_Xs35 7 c_Member 3 a0 p0 q0 n0 X0 (fun i => (A0 i).2) (fun i => (A0 i).1)) (w0 : Int) (w1 : Nat → Bool) (mr0 : (Int) → (Nat) → (Nat → (Xs35 × (Nat × (Nat → Member)))) → (Int) → (Nat → Bool) → Option R_btf_holdsItself_1_v3) (ih0 : ∀ {M : Nat → Prop} {B0 : Nat} {S : World → Prop} (hU : Up M B0 S) (y0 : Int) (a0 : Option Addr) (p0 : Nat) (q0 : Nat) (n0 : Nat) (k0 : Nat) (X0 : Nat → RoX) (A0 : Nat → (Xs35 × (Nat × (Nat → Member)))) (hR0 : RoS S h_Xs35 t_Xs35 7 c_Member 3 a0 p0 q0 n0 X0 (fun i => (A0 i).2) (fun i => (A0 i).1)) (w0 : Int) (w1 : Nat → Bool) (c0_0 : Nat → Bool) (c0_1 : Bool), mr0 y0 n0 A0 w0 w1 = some (.e0 c0_0 c0_1) → SpcG Tryd.prog M B0 S ⟨fun ls => .call 27 #[.int .i64 (y0), .pointer (some ⟨(lget ls 0).n, 0, none⟩), .pointer (some ⟨(lget ls 1).n, 0, none⟩), .pointer (some ⟨(lget ls 2).n, 0, none⟩), .pointer (some ⟨(lget ls 3).n, 0, none⟩)], fun ls => [.cells #[.slice a0 n0 (n0 + k0)] 22, .cells #[.int .i64 (w0)] 3, .cells ⟨esG cB 257 w1⟩ 53, .cells #[.func (.func 27) #[] #[.pointer (some ⟨(lget ls 0).n, 0, none⟩), .pointer (some ⟨(lget ls 1).n, 0, none⟩), .pointer (some ⟨(lget ls 2).n, 0, none⟩), .pointer (some ⟨(lget ls 3).n, 0, none⟩)]] 54], 0, .normal, fun ls => [.bool (c0_1)], fun ls => [.cells #[.slice a0 n0 (n0 + k0)] 22, .cells #[.int .i64 (w0)] 3, .cells ⟨esG cB 257 c0_0⟩ 53, .cells #[.func (.func 27) #[] #[.pointer (some ⟨(lget ls 0).n, 0, none⟩), .pointer (some ⟨(lget ls 1).n, 0, none⟩), .pointer (some ⟨(lget ls 2).n, 0, none⟩), .pointer (some ⟨(lget ls 3).n, 0, none⟩)]] 54], fun ls => []⟩) (c0_0 : Nat → Bool) (c0_1 : Bool) (e : m_btf_holdsItself_1_v3 y0 n0 A0 w0 w1 mr0 = some (.e0 c0_0 c0_1)) : SpcG Tryd.prog M B0 S (sq0_btf_holdsItself_1_v3 y0 a0 p0 q0 n0 k0 X0 A0 w0 w1 mr0 ih0 c0_0 c0_1) := by
  unfold m_btf_holdsItself_1_v3 at e
  replace e := cond_eq_or e
  rcases e with ⟨hq0, e⟩ | ⟨hq0, e⟩
  · replace e := bindO_eq e
    obtain ⟨g0, e_g0, e⟩ := e
    rcases g0 with ⟨g0_0, g0_1⟩ | _
    · try dsimp only at e
      replace e := bindO_eq e
      obtain ⟨g1, e_g1, e⟩ := e
      rcases g1 with ⟨g1_0⟩ | ⟨g1_0⟩
      · try dsimp only at e
        injection e with e; injection e with i0 i1; subst i0 i1; exact fn_specG hU (P := Tryd.prog) Tryd.func27 (fun xs w => by kernel_rfl) 4 _ _ (fun _ => rfl) _ _ _ [] [.o, .a 0, .o, .o, .q (ixRo_ok (kd := .i64) (T := 22) (x := (IntKind.i64.wrap (y0 - 1))) (sz := 7) rfl (fun w => by kernel_rfl) (RoS.row hR0) hq0), .l (accRo (RoS.row hR0) (rxS_len z_Xs35 X0 (fun i => (A0 i).2) (fun i => (A0 i).1)) (inR_nat hq0) 0 [.int .i64 (((A0 ((IntKind.i64.wrap (y0 - 1))).toNat).1).fKind), .string ((A0 ((IntKind.i64.wrap (y0 - 1))).toNat).1).fName, .int .i64 (((A0 ((IntKind.i64.wrap (y0 - 1))).toNat).1).fSize), .bool (((A0 ((IntKind.i64.wrap (y0 - 1))).toNat).1).fSigned), .int .i64 (((A0 ((IntKind.i64.wrap (y0 - 1))).toNat).1).fTo), .int .i64 (((A0 ((IntKind.i64.wrap (y0 - 1))).toNat).1).fCount), .slice (X0 ((IntKind.i64.wrap (y0 - 1))).toNat).a (A0 ((IntKind.i64.wrap (y0 - 1))).toNat).2.1 ((A0 ((IntKind.i64.wrap (y0 - 1))).toNat).2.1 + (X0 ((IntKind.i64.wrap (y0 - 1))).toNat).c)] rfl), .xg (ok0_btf_held_v2 hU ((A0 ((IntKind.i64.wrap (y0 - 1))).toNat).1) (X0 ((IntKind.i64.wrap (y0 - 1))).toNat).a (X0 ((IntKind.i64.wrap (y0 - 1))).toNat).p (X0 ((IntKind.i64.wrap (y0 - 1))).toNat).q (A0 ((IntKind.i64.wrap (y0 - 1))).toNat).2.1 (X0 ((IntKind.i64.wrap (y0 - 1))).toNat).c (A0 ((IntKind.i64.wrap (y0 - 1))).toNat).2.2 (RoS.els hR0 ((IntKind.i64.wrap (y0 - 1))).toNat (inR_nat hq0)) g0_0 g0_1 e_g0) [], .o, .o, .cp, .cx (sp0_btf_holdsItself_1_v3_L0_0_ok hU y0 a0 p0 q0 n0 k0 X0 A0 hR0 w0 w1 mr0 ih0 g0_0 g0_1 w1 0 g1_0 e_g1) [0, 1, 2, 3, 4], .o] [] (fun b => by kernel_rfl)
      · try dsimp only at e
        injection e with e; injection e with i0 i1; subst i0 i1; exact fn_specG hU (P := Tryd.prog) Tryd.func27 (fun xs w => by kernel_rfl) 4 _ _ (fun _ => rfl) _ _ _ [] [.o, .a 0, .o, .o, .q (ixRo_ok (kd := .i64) (T := 22) (x := (IntKind.i64.wrap (y0 - 1))) (sz := 7) rfl (fun w => by kernel_rfl) (RoS.row hR0) hq0), .l (accRo (RoS.row hR0) (rxS_len z_Xs35 X0 (fun i => (A0 i).2) (fun i => (A0 i).1)) (inR_nat hq0) 0 [.int .i64 (((A0 ((IntKind.i64.wrap (y0 - 1))).toNat).1).fKind), .string ((A0 ((IntKind.i64.wrap (y0 - 1))).toNat).1).fName, .int .i64 (((A0 ((IntKind.i64.wrap (y0 - 1))).toNat).1).fSize), .bool (((A0 ((IntKind.i64.wrap (y0 - 1))).toNat).1).fSigned), .int .i64 (((A0 ((IntKind.i64.wrap (y0 - 1))).toNat).1).fTo), .int .i64 (((A0 ((IntKind.i64.wrap (y0 - 1))).toNat).1).fCount), .slice (X0 ((IntKind.i64.wrap (y0 - 1))).toNat).a (A0 ((IntKind.i64.wrap (y0 - 1))).toNat).2.1 ((A0 ((IntKind.i64.wrap (y0 - 1))).toNat).2.1 + (X0 ((IntKind.i64.wrap (y0 - 1))).toNat).c)] rfl), .xg (ok0_btf_held_v2 hU ((A0 ((IntKind.i64.wrap (y0 - 1))).toNat).1) (X0 ((IntKind.i64.wrap (y0 - 1))).toNat).a (X0 ((IntKind.i64.wrap (y0 - 1))).toNat).p (X0 ((IntKind.i64.wrap (y0 - 1))).toNat).q (A0 ((IntKind.i64.wrap (y0 - 1))).toNat).2.1 (X0 ((IntKind.i64.wrap (y0 - 1))).toNat).c (A0 ((IntKind.i64.wrap (y0 - 1))).toNat).2.2 (RoS.els hR0 ((IntKind.i64.wrap (y0 - 1))).toNat (inR_nat hq0)) g0_0 g0_1 e_g0) [], .o, .o, .cp, .cx (sp1_btf_holdsItself_1_v3_L0_0_ok hU y0 a0 p0 q0 n0 k0 X0 A0 hR0 w0 w1 mr0 ih0 g0_0 g0_1 w1 0 g1_0 e_g1) [0, 1, 2, 3, 4]] [] (fun b => by kernel_rfl)
    · try dsimp only at e
      injection e with e; injection e with i0 i1; subst i0 i1; exact fn_specG hU (P := Tryd.prog) Tryd.func27 (fun xs w => by kernel_rfl) 4 _ _ (fun _ => rfl) _ _ _ [] [.o, .a 0, .o, .o, .q (ixRo_ok (kd := .i64) (T := 22) (x := (IntKind.i64.wrap (y0 - 1))) (sz := 7) rfl (fun w => by kernel_rfl) (RoS.row hR0) hq0), .l (accRo (RoS.row hR0) (rxS_len z_Xs35 X0 (fun i => (A0 i).2) (fun i => (A0 i).1)) (inR_nat hq0) 0 [.int .i64 (((A0 ((IntKind.i64.wrap (y0 - 1))).toNat).1).fKind), .string ((A0 ((IntKind.i64.wrap (y0 - 1))).toNat).1).fName, .int .i64 (((A0 ((IntKind.i64.wrap (y0 - 1))).toNat).1).fSize), .bool (((A0 ((IntKind.i64.wrap (y0 - 1))).toNat).1).fSigned), .int .i64 (((A0 ((IntKind.i64.wrap (y0 - 1))).toNat).1).fTo), .int .i64 (((A0 ((IntKind.i64.wrap (y0 - 1))).toNat).1).fCount), .slice (X0 ((IntKind.i64.wrap (y0 - 1))).toNat).a (A0 ((IntKind.i64.wrap (y0 - 1))).toNat).2.1 ((A0 ((IntKind.i64.wrap (y0 - 1))).toNat).2.1 + (X0 ((IntKind.i64.wrap (y0 - 1))).toNat).c)] rfl), .xg (ok1_btf_held_v2 hU ((A0 ((IntKind.i64.wrap (y0 - 1))).toNat).1) (X0 ((IntKind.i64.wrap (y0 - 1))).toNat).a (X0 ((IntKind.i64.wrap (y0 - 1))).toNat).p (X0 ((IntKind.i64.wrap (y0 - 1))).toNat).q (A0 ((IntKind.i64.wrap (y0 - 1))).toNat).2.1 (X0 ((IntKind.i64.wrap (y0 - 1))).toNat).c (A0 ((IntKind.i64.wrap (y0 - 1))).toNat).2.2 (RoS.els hR0 ((IntKind.i64.wrap (y0 - 1))).toNat (inR_nat hq0))  e_g0) [], .o, .o, .o, .o] [] (fun b => by kernel_rfl)
  · exact none_some e
noncomputable def m_btf_holdsItself_1_v3_F : Nat → (Int) → (Nat) → (Nat → (Xs35 × (Nat × (Nat → Member)))) → (Int) → (Nat → Bool) → Option R_btf_holdsItself_1_v3
  | 0 => fun _ _ _ _ _ => none
  | k + 1 => fun y0 n0 A0 w0 w1 => m_btf_holdsItself_1_v3 y0 n0 A0 w0 w1 (m_btf_holdsItself_1_v3_F k)
end
theorem okA_btf_holdsItself_1_v3_F (k : Nat) : (∀ {M : Nat → Prop} {B0 : Nat} {S : World → Prop} (hU : Up M B0 S) (y0 : Int) (a0 : Option Addr) (p0 : Nat) (q0 : Nat) (n0 : Nat) (k0 : Nat) (X0 : Nat → RoX) (A0 : Nat → (Xs35 × (Nat × (Nat → Member)))) (hR0 : RoS S h_Xs35 t_Xs35 7 c_Member 3 a0 p0 q0 n0 X0 (fun i => (A0 i).2) (fun i => (A0 i).1)) (w0 : Int) (w1 : Nat → Bool) (c0_0 : Nat → Bool) (c0_1 : Bool) (e : m_btf_holdsItself_1_v3_F k y0 n0 A0 w0 w1 = some (.e0 c0_0 c0_1)), SpcG Tryd.prog M B0 S ⟨fun ls => .call 27 #[.int .i64 (y0), .pointer (some ⟨(lget ls 0).n, 0, none⟩), .pointer (some ⟨(lget ls 1).n, 0, none⟩), .pointer (some ⟨(lget ls 2).n, 0, none⟩), .pointer (some ⟨(lget ls 3).n, 0, none⟩)], fun ls => [.cells #[.slice a0 n0 (n0 + k0)] 22, .cells #[.int .i64 (w0)] 3, .cells ⟨esG cB 257 w1⟩ 53, .cells #[.func (.func 27) #[] #[.pointer (some ⟨(lget ls 0).n, 0, none⟩), .pointer (some ⟨(lget ls 1).n, 0, none⟩), .pointer (some ⟨(lget ls 2).n, 0, none⟩), .pointer (some ⟨(lget ls 3).n, 0, none⟩)]] 54], 0, .normal, fun ls => [.bool (c0_1)], fun ls => [.cells #[.slice a0 n0 (n0 + k0)] 22, .cells #[.int .i64 (w0)] 3, .cells ⟨esG cB 257 c0_0⟩ 53, .cells #[.func (.func 27) #[] #[.pointer (some ⟨(lget ls 0).n, 0, none⟩), .pointer (some ⟨(lget ls 1).n, 0, none⟩), .pointer (some ⟨(lget ls 2).n, 0, none⟩), .pointer (some ⟨(lget ls 3).n, 0, none⟩)]] 54], fun ls => []⟩) := by
  induction k with
  | zero => exact fun {M} {B0} {S} hU y0 a0 p0 q0 n0 k0 X0 A0 hR0 w0 w1 c0_0 c0_1 e => by cases e
  | succ k ih => exact fun {M} {B0} {S} hU y0 a0 p0 q0 n0 k0 X0 A0 hR0 w0 w1 c0_0 c0_1 e => ok0_btf_holdsItself_1_v3 hU y0 a0 p0 q0 n0 k0 X0 A0 hR0 w0 w1 (m_btf_holdsItself_1_v3_F k) (fun hU y0 a0 p0 q0 n0 k0 X0 A0 hR0 w0 w1 c0_0 c0_1 e => ih hU y0 a0 p0 q0 n0 k0 X0 A0 hR0 w0 w1 c0_0 c0_1 e) c0_0 c0_1 e
theorem ok0_btf_holdsItself_1_v3_F (k : Nat) : ∀ {M : Nat → Prop} {B0 : Nat} {S : World → Prop} (hU : Up M B0 S) (y0 : Int) (a0 : Option Addr) (p0 : Nat) (q0 : Nat) (n0 : Nat) (k0 : Nat) (X0 : Nat → RoX) (A0 : Nat → (Xs35 × (Nat × (Nat → Member)))) (hR0 : RoS S h_Xs35 t_Xs35 7 c_Member 3 a0 p0 q0 n0 X0 (fun i => (A0 i).2) (fun i => (A0 i).1)) (w0 : Int) (w1 : Nat → Bool) (c0_0 : Nat → Bool) (c0_1 : Bool) (e : m_btf_holdsItself_1_v3_F k y0 n0 A0 w0 w1 = some (.e0 c0_0 c0_1)), SpcG Tryd.prog M B0 S ⟨fun ls => .call 27 #[.int .i64 (y0), .pointer (some ⟨(lget ls 0).n, 0, none⟩), .pointer (some ⟨(lget ls 1).n, 0, none⟩), .pointer (some ⟨(lget ls 2).n, 0, none⟩), .pointer (some ⟨(lget ls 3).n, 0, none⟩)], fun ls => [.cells #[.slice a0 n0 (n0 + k0)] 22, .cells #[.int .i64 (w0)] 3, .cells ⟨esG cB 257 w1⟩ 53, .cells #[.func (.func 27) #[] #[.pointer (some ⟨(lget ls 0).n, 0, none⟩), .pointer (some ⟨(lget ls 1).n, 0, none⟩), .pointer (some ⟨(lget ls 2).n, 0, none⟩), .pointer (some ⟨(lget ls 3).n, 0, none⟩)]] 54], 0, .normal, fun ls => [.bool (c0_1)], fun ls => [.cells #[.slice a0 n0 (n0 + k0)] 22, .cells #[.int .i64 (w0)] 3, .cells ⟨esG cB 257 c0_0⟩ 53, .cells #[.func (.func 27) #[] #[.pointer (some ⟨(lget ls 0).n, 0, none⟩), .pointer (some ⟨(lget ls 1).n, 0, none⟩), .pointer (some ⟨(lget ls 2).n, 0, none⟩), .pointer (some ⟨(lget ls 3).n, 0, none⟩)]] 54], fun ls => []⟩ := (okA_btf_holdsItself_1_v3_F k)
inductive Sh_btf_holdsItself_v1_L0 where
  | c0 (s0_0 : Int)
inductive Ex_btf_holdsItself_v1_L0 where
  | e0 
  | e1 (c1_0 : Int)
noncomputable def st_btf_holdsItself_v1_L0 (n0 : Nat) (A0 : Nat → (Xs35 × (Nat × (Nat → Member)))) : Sh_btf_holdsItself_v1_L0 → Option (Sh_btf_holdsItself_v1_L0 ⊕ Ex_btf_holdsItself_v1_L0)
  | .c0 s0_0 =>
    bif decide (s0_0 ≤ (n0 : Int)) then
      ((m_btf_holdsItself_1_v3_F 300 s0_0 n0 A0 s0_0 (fun _ => false)).bind fun gb0 => match gb0 with
      | .e0 gb0_0 gb0_1 =>
      bif gb0_1 then
        (some (.inr (.e1 s0_0)))
      else (some (.inl (.c0 (IntKind.i64.wrap (s0_0 + 1))))))
    else (some (.inr (.e0 )))
noncomputable def bd_btf_holdsItself_v1_L0 : Code := codeOf Tryd.f18 [1, 0, 1, 0, 0]
def fl_btf_holdsItself_v1_L0 (a0 : Option Addr) (p0 : Nat) (q0 : Nat) (n0 : Nat) (k0 : Nat) (X0 : Nat → RoX) (A0 : Nat → (Xs35 × (Nat × (Nat → Member)))) : Sh_btf_holdsItself_v1_L0 → List L1 → List Value
  | .c0 s0_0, ls => [.pointer (some ⟨(lget ls 0).n, 0, none⟩), .int .i64 (0), .pointer (some ⟨(lget ls 1).n, 0, none⟩)]
def mf_btf_holdsItself_v1_L0 : Sh_btf_holdsItself_v1_L0 → List (Nat × Nat)
  | .c0 _ => [(0, 1), (3, 14)]
noncomputable def fr_btf_holdsItself_v1_L0 (a0 : Option Addr) (p0 : Nat) (q0 : Nat) (n0 : Nat) (k0 : Nat) (X0 : Nat → RoX) (A0 : Nat → (Xs35 × (Nat × (Nat → Member)))) (s : Sh_btf_holdsItself_v1_L0) : List L1 → List Value := mrgF (mf_btf_holdsItself_v1_L0 s) (fl_btf_holdsItself_v1_L0 a0 p0 q0 n0 k0 X0 A0 s) 2
def Hs_btf_holdsItself_v1_L0 (a0 : Option Addr) (p0 : Nat) (q0 : Nat) (n0 : Nat) (k0 : Nat) (X0 : Nat → RoX) (A0 : Nat → (Xs35 × (Nat × (Nat → Member)))) : Sh_btf_holdsItself_v1_L0 → List L1 → List Obj
  | .c0 s0_0, ls => [.cells #[.slice a0 n0 (n0 + k0)] 22, .cells #[.int .i64 (s0_0)] 3, unb]
def vl_btf_holdsItself_v1_L0 (a0 : Option Addr) (p0 : Nat) (q0 : Nat) (n0 : Nat) (k0 : Nat) (X0 : Nat → RoX) (A0 : Nat → (Xs35 × (Nat × (Nat → Member)))) : Ex_btf_holdsItself_v1_L0 → List L1 → List Value
  | .e0 , ls => [.pointer (some ⟨(lget ls 0).n, 0, none⟩), .int .i64 (0)]
  | .e1 c1_0, ls => [.pointer (some ⟨(lget ls 0).n, 0, none⟩), .int .i64 (c1_0)]
def mk_btf_holdsItself_v1_L0 : Ex_btf_holdsItself_v1_L0 → List (Nat × Nat)
  | .e0  => [(0, 1), (2, 15)]
  | .e1 _ => [(0, 1), (2, 15)]
noncomputable def vf_btf_holdsItself_v1_L0 (a0 : Option Addr) (p0 : Nat) (q0 : Nat) (n0 : Nat) (k0 : Nat) (X0 : Nat → RoX) (A0 : Nat → (Xs35 × (Nat × (Nat → Member)))) (r : Ex_btf_holdsItself_v1_L0) : List L1 → List Value := mrgF (mk_btf_holdsItself_v1_L0 r) (vl_btf_holdsItself_v1_L0 a0 p0 q0 n0 k0 X0 A0 r) 2
def Hf_btf_holdsItself_v1_L0 (a0 : Option Addr) (p0 : Nat) (q0 : Nat) (n0 : Nat) (k0 : Nat) (X0 : Nat → RoX) (A0 : Nat → (Xs35 × (Nat × (Nat → Member)))) : Ex_btf_holdsItself_v1_L0 → List L1 → List Obj
  | .e0 , ls => [.cells #[.slice a0 n0 (n0 + k0)] 22, unb, unb]
  | .e1 c1_0, ls => [.cells #[.slice a0 n0 (n0 + k0)] 22, unb, unb]
def ex_btf_holdsItself_v1_L0 : Ex_btf_holdsItself_v1_L0 → Ex
  | .e0  => (.exit 0)
  | .e1 _ => .ret

end Go.Proofs.YtlpjdjbophcomaaDoor

