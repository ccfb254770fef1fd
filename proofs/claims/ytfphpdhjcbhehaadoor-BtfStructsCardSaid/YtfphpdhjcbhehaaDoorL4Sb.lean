/-
  The law on a struct of fields of one size, by the program's text.
-/
import Derived.Test.YtfphpdhjcbhehaaDoorL4S
import Derived.Test.YtfphpdhjcbhehaaDoorL4K
import Derived.Test.YtfphpdhjcbhehaaDoorRyM
namespace Go.Proofs.YtfphpdhjcbhehaaDoor
open Go.RowKit
set_option linter.unusedVariables false
set_option linter.unusedSimpArgs false
set_option linter.unusedSectionVars false
set_option maxRecDepth 100000
set_option maxHeartbeats 4000000
section
variable {M : Nat → Prop} {B0 : Nat} {S : World → Prop} (hU : Up M B0 S) (w0 : Int) (w1 : Nat) (w2 : Nat → Member)
include hU w0 w1 w2
theorem go_btf_rightMemberNames_v3_L0 (s : Sh_btf_rightMemberNames_v3_L0) (r : Ex_btf_rightMemberNames_v3_L0) (h : lpO (st_btf_rightMemberNames_v3_L0 w1 w2) s = some r) : GoesG Tryd.prog M B0 S (.loop bd_btf_rightMemberNames_v3_L0) 4 (fr_btf_rightMemberNames_v3_L0 w0 w1 w2 s) (Hs_btf_rightMemberNames_v3_L0 w0 w1 w2 s) (ex_btf_rightMemberNames_v3_L0 r) 3 (vf_btf_rightMemberNames_v3_L0 w0 w1 w2 r) (Hf_btf_rightMemberNames_v3_L0 w0 w1 w2 r) 4 :=
  goes_lpO (fun s q e => by
    cases s with
    | c0  =>
      unfold st_btf_rightMemberNames_v3_L0 at e
      dsimp only at e
      replace e := cond_eq_or e
      rcases e with ⟨hq0, e⟩ | ⟨hq0, e⟩
      · replace e := cond_eq_or e
        rcases e with ⟨hq1, e⟩ | ⟨hq1, e⟩
        · replace e := cond_eq_or e
          rcases e with ⟨hq2, e⟩ | ⟨hq2, e⟩
          · cases e; exact goes_runM hU [.b (z_lssT hq0), .q (ixM_ok (kd := .i64) (T := 23) (x := 0) (N := w1) (sz := 3) rfl (fun w => by kernel_rfl) hq1), .l (accG (i := 0) (f := c_Member) (A := w2) (k := 0) 0 [.string (⟨#[97]⟩ : ByteArray), .int .i64 (((w2 0)).fType), .int .i64 (((w2 0)).fBits)] c_Member_len (inR_nat hq1) (congrArg (fun x : ByteArray => ([.string x, .int .i64 (((w2 0)).fType), .int .i64 (((w2 0)).fBits)] : List Value)) (ba_eq hq2))), .o, .a 4, .o, .a 1, .o, .o, .o, .o, .o, .o, .a 4, .a 2, .o, .a 2, .o, .a 4, .cg (ok_btf_isName_v6 hU  ), .o, .o, .o, .o, .o, .o, .a 4, .a 2, .o, .o, .o, .o] [0, 1, 2] (fun b => rfl) (by decide) rfl rfl (fun b => by kernel_rfl)
          · exact none_some e
        · exact none_some e
      · cases e; exact ⟨ne_exit 0, goes_runM hU [.b (z_lssF hq0)] [0, 1, 2] (fun b => rfl) (by decide) rfl rfl (fun b => by kernel_rfl)⟩
    | c1  =>
      unfold st_btf_rightMemberNames_v3_L0 at e
      dsimp only at e
      replace e := cond_eq_or e
      rcases e with ⟨hq0, e⟩ | ⟨hq0, e⟩
      · replace e := cond_eq_or e
        rcases e with ⟨hq1, e⟩ | ⟨hq1, e⟩
        · replace e := cond_eq_or e
          rcases e with ⟨hq2, e⟩ | ⟨hq2, e⟩
          · cases e; exact goes_runM hU [.b (z_lssT hq0), .q (ixM_ok (kd := .i64) (T := 23) (x := 1) (N := w1) (sz := 3) rfl (fun w => by kernel_rfl) hq1), .l (accG (i := 0) (f := c_Member) (A := w2) (k := 1) 0 [.string (⟨#[98]⟩ : ByteArray), .int .i64 (((w2 1)).fType), .int .i64 (((w2 1)).fBits)] c_Member_len (inR_nat hq1) (congrArg (fun x : ByteArray => ([.string x, .int .i64 (((w2 1)).fType), .int .i64 (((w2 1)).fBits)] : List Value)) (ba_eq hq2))), .o, .a 4, .o, .a 1, .o, .o, .o, .o, .o, .o, .a 4, .a 2, .o, .a 2, .o, .a 4, .cg (ok_btf_isName_v7 hU  ), .o, .o, .o, .o, .o, .o, .a 4, .a 2, .o, .o, .o, .o] [0, 1, 2] (fun b => rfl) (by decide) rfl rfl (fun b => by kernel_rfl)
          · exact none_some e
        · exact none_some e
      · cases e; exact ⟨ne_exit 0, goes_runM hU [.b (z_lssF hq0)] [0, 1, 2] (fun b => rfl) (by decide) rfl rfl (fun b => by kernel_rfl)⟩
    | c2  =>
      unfold st_btf_rightMemberNames_v3_L0 at e
      dsimp only at e
      replace e := cond_eq_or e
      rcases e with ⟨hq0, e⟩ | ⟨hq0, e⟩
      · replace e := cond_eq_or e
        rcases e with ⟨hq1, e⟩ | ⟨hq1, e⟩
        · replace e := cond_eq_or e
          rcases e with ⟨hq2, e⟩ | ⟨hq2, e⟩
          · cases e; exact goes_runM hU [.b (z_lssT hq0), .q (ixM_ok (kd := .i64) (T := 23) (x := 2) (N := w1) (sz := 3) rfl (fun w => by kernel_rfl) hq1), .l (accG (i := 0) (f := c_Member) (A := w2) (k := 2) 0 [.string (⟨#[99]⟩ : ByteArray), .int .i64 (((w2 2)).fType), .int .i64 (((w2 2)).fBits)] c_Member_len (inR_nat hq1) (congrArg (fun x : ByteArray => ([.string x, .int .i64 (((w2 2)).fType), .int .i64 (((w2 2)).fBits)] : List Value)) (ba_eq hq2))), .o, .a 4, .o, .a 1, .o, .o, .o, .o, .o, .o, .a 4, .a 2, .o, .a 2, .o, .a 4, .cg (ok_btf_isName_v8 hU  ), .o, .o, .o, .o, .o, .o, .a 4, .a 2, .o, .o, .o, .o] [0, 1, 2] (fun b => rfl) (by decide) rfl rfl (fun b => by kernel_rfl)
          · exact none_some e
        · exact none_some e
      · cases e; exact ⟨ne_exit 0, goes_runM hU [.b (z_lssF hq0)] [0, 1, 2] (fun b => rfl) (by decide) rfl rfl (fun b => by kernel_rfl)⟩
    | c3  =>
      unfold st_btf_rightMemberNames_v3_L0 at e
      dsimp only at e
      replace e := cond_eq_or e
      rcases e with ⟨hq0, e⟩ | ⟨hq0, e⟩
      · replace e := cond_eq_or e
        rcases e with ⟨hq1, e⟩ | ⟨hq1, e⟩
        · replace e := cond_eq_or e
          rcases e with ⟨hq2, e⟩ | ⟨hq2, e⟩
          · cases e; exact goes_runM hU [.b (z_lssT hq0), .q (ixM_ok (kd := .i64) (T := 23) (x := 3) (N := w1) (sz := 3) rfl (fun w => by kernel_rfl) hq1), .l (accG (i := 0) (f := c_Member) (A := w2) (k := 3) 0 [.string (⟨#[100]⟩ : ByteArray), .int .i64 (((w2 3)).fType), .int .i64 (((w2 3)).fBits)] c_Member_len (inR_nat hq1) (congrArg (fun x : ByteArray => ([.string x, .int .i64 (((w2 3)).fType), .int .i64 (((w2 3)).fBits)] : List Value)) (ba_eq hq2))), .o, .a 4, .o, .a 1, .o, .o, .o, .o, .o, .o, .a 4, .a 2, .o, .a 2, .o, .a 4, .cg (ok_btf_isName_v9 hU  ), .o, .o, .o, .o, .o, .o, .a 4, .a 2, .o, .o, .o, .o] [0, 1, 2] (fun b => rfl) (by decide) rfl rfl (fun b => by kernel_rfl)
          · exact none_some e
        · exact none_some e
      · cases e; exact ⟨ne_exit 0, goes_runM hU [.b (z_lssF hq0)] [0, 1, 2] (fun b => rfl) (by decide) rfl rfl (fun b => by kernel_rfl)⟩
    | c4  =>
      unfold st_btf_rightMemberNames_v3_L0 at e
      dsimp only at e
      replace e := cond_eq_or e
      rcases e with ⟨hq0, e⟩ | ⟨hq0, e⟩
      · replace e := cond_eq_or e
        rcases e with ⟨hq1, e⟩ | ⟨hq1, e⟩
        · replace e := cond_eq_or e
          rcases e with ⟨hq2, e⟩ | ⟨hq2, e⟩
          · cases e; exact goes_runM hU [.b (z_lssT hq0), .q (ixM_ok (kd := .i64) (T := 23) (x := 4) (N := w1) (sz := 3) rfl (fun w => by kernel_rfl) hq1), .l (accG (i := 0) (f := c_Member) (A := w2) (k := 4) 0 [.string (⟨#[101]⟩ : ByteArray), .int .i64 (((w2 4)).fType), .int .i64 (((w2 4)).fBits)] c_Member_len (inR_nat hq1) (congrArg (fun x : ByteArray => ([.string x, .int .i64 (((w2 4)).fType), .int .i64 (((w2 4)).fBits)] : List Value)) (ba_eq hq2))), .o, .a 4, .o, .a 1, .o, .o, .o, .o, .o, .o, .a 4, .a 2, .o, .a 2, .o, .a 4, .cg (ok_btf_isName_v10 hU  ), .o, .o, .o, .o, .o, .o, .a 4, .a 2, .o, .o, .o, .o] [0, 1, 2] (fun b => rfl) (by decide) rfl rfl (fun b => by kernel_rfl)
          · exact none_some e
        · exact none_some e
      · cases e; exact ⟨ne_exit 0, goes_runM hU [.b (z_lssF hq0)] [0, 1, 2] (fun b => rfl) (by decide) rfl rfl (fun b => by kernel_rfl)⟩
    | c5  =>
      unfold st_btf_rightMemberNames_v3_L0 at e
      dsimp only at e
      replace e := cond_eq_or e
      rcases e with ⟨hq0, e⟩ | ⟨hq0, e⟩
      · replace e := cond_eq_or e
        rcases e with ⟨hq1, e⟩ | ⟨hq1, e⟩
        · replace e := cond_eq_or e
          rcases e with ⟨hq2, e⟩ | ⟨hq2, e⟩
          · cases e; exact goes_runM hU [.b (z_lssT hq0), .q (ixM_ok (kd := .i64) (T := 23) (x := 5) (N := w1) (sz := 3) rfl (fun w => by kernel_rfl) hq1), .l (accG (i := 0) (f := c_Member) (A := w2) (k := 5) 0 [.string (⟨#[102]⟩ : ByteArray), .int .i64 (((w2 5)).fType), .int .i64 (((w2 5)).fBits)] c_Member_len (inR_nat hq1) (congrArg (fun x : ByteArray => ([.string x, .int .i64 (((w2 5)).fType), .int .i64 (((w2 5)).fBits)] : List Value)) (ba_eq hq2))), .o, .a 4, .o, .a 1, .o, .o, .o, .o, .o, .o, .a 4, .a 2, .o, .a 2, .o, .a 4, .cg (ok_btf_isName_v11 hU  ), .o, .o, .o, .o, .o, .o, .a 4, .a 2, .o, .o, .o, .o] [0, 1, 2] (fun b => rfl) (by decide) rfl rfl (fun b => by kernel_rfl)
          · exact none_some e
        · exact none_some e
      · cases e; exact ⟨ne_exit 0, goes_runM hU [.b (z_lssF hq0)] [0, 1, 2] (fun b => rfl) (by decide) rfl rfl (fun b => by kernel_rfl)⟩
    | c6  =>
      unfold st_btf_rightMemberNames_v3_L0 at e
      dsimp only at e
      replace e := cond_eq_or e
      rcases e with ⟨hq0, e⟩ | ⟨hq0, e⟩
      · replace e := cond_eq_or e
        rcases e with ⟨hq1, e⟩ | ⟨hq1, e⟩
        · replace e := cond_eq_or e
          rcases e with ⟨hq2, e⟩ | ⟨hq2, e⟩
          · cases e; exact goes_runM hU [.b (z_lssT hq0), .q (ixM_ok (kd := .i64) (T := 23) (x := 6) (N := w1) (sz := 3) rfl (fun w => by kernel_rfl) hq1), .l (accG (i := 0) (f := c_Member) (A := w2) (k := 6) 0 [.string (⟨#[103]⟩ : ByteArray), .int .i64 (((w2 6)).fType), .int .i64 (((w2 6)).fBits)] c_Member_len (inR_nat hq1) (congrArg (fun x : ByteArray => ([.string x, .int .i64 (((w2 6)).fType), .int .i64 (((w2 6)).fBits)] : List Value)) (ba_eq hq2))), .o, .a 4, .o, .a 1, .o, .o, .o, .o, .o, .o, .a 4, .a 2, .o, .a 2, .o, .a 4, .cg (ok_btf_isName_v12 hU  ), .o, .o, .o, .o, .o, .o, .a 4, .a 2, .o, .o, .o, .o] [0, 1, 2] (fun b => rfl) (by decide) rfl rfl (fun b => by kernel_rfl)
          · exact none_some e
        · exact none_some e
      · cases e; exact ⟨ne_exit 0, goes_runM hU [.b (z_lssF hq0)] [0, 1, 2] (fun b => rfl) (by decide) rfl rfl (fun b => by kernel_rfl)⟩
    | c7  =>
      unfold st_btf_rightMemberNames_v3_L0 at e
      dsimp only at e
      replace e := cond_eq_or e
      rcases e with ⟨hq0, e⟩ | ⟨hq0, e⟩
      · replace e := cond_eq_or e
        rcases e with ⟨hq1, e⟩ | ⟨hq1, e⟩
        · replace e := cond_eq_or e
          rcases e with ⟨hq2, e⟩ | ⟨hq2, e⟩
          · cases e; exact goes_runM hU [.b (z_lssT hq0), .q (ixM_ok (kd := .i64) (T := 23) (x := 7) (N := w1) (sz := 3) rfl (fun w => by kernel_rfl) hq1), .l (accG (i := 0) (f := c_Member) (A := w2) (k := 7) 0 [.string (⟨#[104]⟩ : ByteArray), .int .i64 (((w2 7)).fType), .int .i64 (((w2 7)).fBits)] c_Member_len (inR_nat hq1) (congrArg (fun x : ByteArray => ([.string x, .int .i64 (((w2 7)).fType), .int .i64 (((w2 7)).fBits)] : List Value)) (ba_eq hq2))), .o, .a 4, .o, .a 1, .o, .o, .o, .o, .o, .o, .a 4, .a 2, .o, .a 2, .o, .a 4, .cg (ok_btf_isName_v13 hU  ), .o, .o, .o, .o, .o, .o, .a 4, .a 2, .o, .o, .o, .o] [0, 1, 2] (fun b => rfl) (by decide) rfl rfl (fun b => by kernel_rfl)
          · exact none_some e
        · exact none_some e
      · cases e; exact ⟨ne_exit 0, goes_runM hU [.b (z_lssF hq0)] [0, 1, 2] (fun b => rfl) (by decide) rfl rfl (fun b => by kernel_rfl)⟩
    | c8  =>
      unfold st_btf_rightMemberNames_v3_L0 at e
      dsimp only at e
      replace e := cond_eq_or e
      rcases e with ⟨hq0, e⟩ | ⟨hq0, e⟩
      · replace e := cond_eq_or e
        rcases e with ⟨hq1, e⟩ | ⟨hq1, e⟩
        · replace e := cond_eq_or e
          rcases e with ⟨hq2, e⟩ | ⟨hq2, e⟩
          · cases e; exact goes_runM hU [.b (z_lssT hq0), .q (ixM_ok (kd := .i64) (T := 23) (x := 8) (N := w1) (sz := 3) rfl (fun w => by kernel_rfl) hq1), .l (accG (i := 0) (f := c_Member) (A := w2) (k := 8) 0 [.string (⟨#[105]⟩ : ByteArray), .int .i64 (((w2 8)).fType), .int .i64 (((w2 8)).fBits)] c_Member_len (inR_nat hq1) (congrArg (fun x : ByteArray => ([.string x, .int .i64 (((w2 8)).fType), .int .i64 (((w2 8)).fBits)] : List Value)) (ba_eq hq2))), .o, .a 4, .o, .a 1, .o, .o, .o, .o, .o, .o, .a 4, .a 2, .o, .a 2, .o, .a 4, .cg (ok_btf_isName_v14 hU  ), .o, .o, .o, .o, .o, .o, .a 4, .a 2, .o, .o, .o, .o] [0, 1, 2] (fun b => rfl) (by decide) rfl rfl (fun b => by kernel_rfl)
          · exact none_some e
        · exact none_some e
      · cases e; exact ⟨ne_exit 0, goes_runM hU [.b (z_lssF hq0)] [0, 1, 2] (fun b => rfl) (by decide) rfl rfl (fun b => by kernel_rfl)⟩
    | c9  =>
      unfold st_btf_rightMemberNames_v3_L0 at e
      dsimp only at e
      replace e := cond_eq_or e
      rcases e with ⟨hq0, e⟩ | ⟨hq0, e⟩
      · replace e := cond_eq_or e
        rcases e with ⟨hq1, e⟩ | ⟨hq1, e⟩
        · replace e := cond_eq_or e
          rcases e with ⟨hq2, e⟩ | ⟨hq2, e⟩
          · cases e; exact goes_runM hU [.b (z_lssT hq0), .q (ixM_ok (kd := .i64) (T := 23) (x := 9) (N := w1) (sz := 3) rfl (fun w => by kernel_rfl) hq1), .l (accG (i := 0) (f := c_Member) (A := w2) (k := 9) 0 [.string (⟨#[106]⟩ : ByteArray), .int .i64 (((w2 9)).fType), .int .i64 (((w2 9)).fBits)] c_Member_len (inR_nat hq1) (congrArg (fun x : ByteArray => ([.string x, .int .i64 (((w2 9)).fType), .int .i64 (((w2 9)).fBits)] : List Value)) (ba_eq hq2))), .o, .a 4, .o, .a 1, .o, .o, .o, .o, .o, .o, .a 4, .a 2, .o, .a 2, .o, .a 4, .cg (ok_btf_isName_v15 hU  ), .o, .o, .o, .o, .o, .o, .a 4, .a 2, .o, .o, .o, .o] [0, 1, 2] (fun b => rfl) (by decide) rfl rfl (fun b => by kernel_rfl)
          · exact none_some e
        · exact none_some e
      · cases e; exact ⟨ne_exit 0, goes_runM hU [.b (z_lssF hq0)] [0, 1, 2] (fun b => rfl) (by decide) rfl rfl (fun b => by kernel_rfl)⟩
    | c10  =>
      unfold st_btf_rightMemberNames_v3_L0 at e
      dsimp only at e
      replace e := cond_eq_or e
      rcases e with ⟨hq0, e⟩ | ⟨hq0, e⟩
      · replace e := cond_eq_or e
        rcases e with ⟨hq1, e⟩ | ⟨hq1, e⟩
        · replace e := cond_eq_or e
          rcases e with ⟨hq2, e⟩ | ⟨hq2, e⟩
          · cases e; exact goes_runM hU [.b (z_lssT hq0), .q (ixM_ok (kd := .i64) (T := 23) (x := 10) (N := w1) (sz := 3) rfl (fun w => by kernel_rfl) hq1), .l (accG (i := 0) (f := c_Member) (A := w2) (k := 10) 0 [.string (⟨#[107]⟩ : ByteArray), .int .i64 (((w2 10)).fType), .int .i64 (((w2 10)).fBits)] c_Member_len (inR_nat hq1) (congrArg (fun x : ByteArray => ([.string x, .int .i64 (((w2 10)).fType), .int .i64 (((w2 10)).fBits)] : List Value)) (ba_eq hq2))), .o, .a 4, .o, .a 1, .o, .o, .o, .o, .o, .o, .a 4, .a 2, .o, .a 2, .o, .a 4, .cg (ok_btf_isName_v16 hU  ), .o, .o, .o, .o, .o, .o, .a 4, .a 2, .o, .o, .o, .o] [0, 1, 2] (fun b => rfl) (by decide) rfl rfl (fun b => by kernel_rfl)
          · exact none_some e
        · exact none_some e
      · cases e; exact ⟨ne_exit 0, goes_runM hU [.b (z_lssF hq0)] [0, 1, 2] (fun b => rfl) (by decide) rfl rfl (fun b => by kernel_rfl)⟩
    | c11  =>
      unfold st_btf_rightMemberNames_v3_L0 at e
      dsimp only at e
      replace e := cond_eq_or e
      rcases e with ⟨hq0, e⟩ | ⟨hq0, e⟩
      · replace e := cond_eq_or e
        rcases e with ⟨hq1, e⟩ | ⟨hq1, e⟩
        · replace e := cond_eq_or e
          rcases e with ⟨hq2, e⟩ | ⟨hq2, e⟩
          · cases e; exact goes_runM hU [.b (z_lssT hq0), .q (ixM_ok (kd := .i64) (T := 23) (x := 11) (N := w1) (sz := 3) rfl (fun w => by kernel_rfl) hq1), .l (accG (i := 0) (f := c_Member) (A := w2) (k := 11) 0 [.string (⟨#[108]⟩ : ByteArray), .int .i64 (((w2 11)).fType), .int .i64 (((w2 11)).fBits)] c_Member_len (inR_nat hq1) (congrArg (fun x : ByteArray => ([.string x, .int .i64 (((w2 11)).fType), .int .i64 (((w2 11)).fBits)] : List Value)) (ba_eq hq2))), .o, .a 4, .o, .a 1, .o, .o, .o, .o, .o, .o, .a 4, .a 2, .o, .a 2, .o, .a 4, .cg (ok_btf_isName_v17 hU  ), .o, .o, .o, .o, .o, .o, .a 4, .a 2, .o, .o, .o, .o] [0, 1, 2] (fun b => rfl) (by decide) rfl rfl (fun b => by kernel_rfl)
          · exact none_some e
        · exact none_some e
      · cases e; exact ⟨ne_exit 0, goes_runM hU [.b (z_lssF hq0)] [0, 1, 2] (fun b => rfl) (by decide) rfl rfl (fun b => by kernel_rfl)⟩
    | c12  =>
      unfold st_btf_rightMemberNames_v3_L0 at e
      dsimp only at e
      replace e := cond_eq_or e
      rcases e with ⟨hq0, e⟩ | ⟨hq0, e⟩
      · replace e := cond_eq_or e
        rcases e with ⟨hq1, e⟩ | ⟨hq1, e⟩
        · replace e := cond_eq_or e
          rcases e with ⟨hq2, e⟩ | ⟨hq2, e⟩
          · cases e; exact goes_runM hU [.b (z_lssT hq0), .q (ixM_ok (kd := .i64) (T := 23) (x := 12) (N := w1) (sz := 3) rfl (fun w => by kernel_rfl) hq1), .l (accG (i := 0) (f := c_Member) (A := w2) (k := 12) 0 [.string (⟨#[109]⟩ : ByteArray), .int .i64 (((w2 12)).fType), .int .i64 (((w2 12)).fBits)] c_Member_len (inR_nat hq1) (congrArg (fun x : ByteArray => ([.string x, .int .i64 (((w2 12)).fType), .int .i64 (((w2 12)).fBits)] : List Value)) (ba_eq hq2))), .o, .a 4, .o, .a 1, .o, .o, .o, .o, .o, .o, .a 4, .a 2, .o, .a 2, .o, .a 4, .cg (ok_btf_isName_v18 hU  ), .o, .o, .o, .o, .o, .o, .a 4, .a 2, .o, .o, .o, .o] [0, 1, 2] (fun b => rfl) (by decide) rfl rfl (fun b => by kernel_rfl)
          · exact none_some e
        · exact none_some e
      · cases e; exact ⟨ne_exit 0, goes_runM hU [.b (z_lssF hq0)] [0, 1, 2] (fun b => rfl) (by decide) rfl rfl (fun b => by kernel_rfl)⟩
    | c13  =>
      unfold st_btf_rightMemberNames_v3_L0 at e
      dsimp only at e
      replace e := cond_eq_or e
      rcases e with ⟨hq0, e⟩ | ⟨hq0, e⟩
      · replace e := cond_eq_or e
        rcases e with ⟨hq1, e⟩ | ⟨hq1, e⟩
        · replace e := cond_eq_or e
          rcases e with ⟨hq2, e⟩ | ⟨hq2, e⟩
          · cases e; exact goes_runM hU [.b (z_lssT hq0), .q (ixM_ok (kd := .i64) (T := 23) (x := 13) (N := w1) (sz := 3) rfl (fun w => by kernel_rfl) hq1), .l (accG (i := 0) (f := c_Member) (A := w2) (k := 13) 0 [.string (⟨#[110]⟩ : ByteArray), .int .i64 (((w2 13)).fType), .int .i64 (((w2 13)).fBits)] c_Member_len (inR_nat hq1) (congrArg (fun x : ByteArray => ([.string x, .int .i64 (((w2 13)).fType), .int .i64 (((w2 13)).fBits)] : List Value)) (ba_eq hq2))), .o, .a 4, .o, .a 1, .o, .o, .o, .o, .o, .o, .a 4, .a 2, .o, .a 2, .o, .a 4, .cg (ok_btf_isName_v19 hU  ), .o, .o, .o, .o, .o, .o, .a 4, .a 2, .o, .o, .o, .o] [0, 1, 2] (fun b => rfl) (by decide) rfl rfl (fun b => by kernel_rfl)
          · exact none_some e
        · exact none_some e
      · cases e; exact ⟨ne_exit 0, goes_runM hU [.b (z_lssF hq0)] [0, 1, 2] (fun b => rfl) (by decide) rfl rfl (fun b => by kernel_rfl)⟩
    | c14  =>
      unfold st_btf_rightMemberNames_v3_L0 at e
      dsimp only at e
      replace e := cond_eq_or e
      rcases e with ⟨hq0, e⟩ | ⟨hq0, e⟩
      · replace e := cond_eq_or e
        rcases e with ⟨hq1, e⟩ | ⟨hq1, e⟩
        · replace e := cond_eq_or e
          rcases e with ⟨hq2, e⟩ | ⟨hq2, e⟩
          · cases e; exact goes_runM hU [.b (z_lssT hq0), .q (ixM_ok (kd := .i64) (T := 23) (x := 14) (N := w1) (sz := 3) rfl (fun w => by kernel_rfl) hq1), .l (accG (i := 0) (f := c_Member) (A := w2) (k := 14) 0 [.string (⟨#[111]⟩ : ByteArray), .int .i64 (((w2 14)).fType), .int .i64 (((w2 14)).fBits)] c_Member_len (inR_nat hq1) (congrArg (fun x : ByteArray => ([.string x, .int .i64 (((w2 14)).fType), .int .i64 (((w2 14)).fBits)] : List Value)) (ba_eq hq2))), .o, .a 4, .o, .a 1, .o, .o, .o, .o, .o, .o, .a 4, .a 2, .o, .a 2, .o, .a 4, .cg (ok_btf_isName_v20 hU  ), .o, .o, .o, .o, .o, .o, .a 4, .a 2, .o, .o, .o, .o] [0, 1, 2] (fun b => rfl) (by decide) rfl rfl (fun b => by kernel_rfl)
          · exact none_some e
        · exact none_some e
      · cases e; exact ⟨ne_exit 0, goes_runM hU [.b (z_lssF hq0)] [0, 1, 2] (fun b => rfl) (by decide) rfl rfl (fun b => by kernel_rfl)⟩
    | c15  =>
      unfold st_btf_rightMemberNames_v3_L0 at e
      dsimp only at e
      replace e := cond_eq_or e
      rcases e with ⟨hq0, e⟩ | ⟨hq0, e⟩
      · replace e := cond_eq_or e
        rcases e with ⟨hq1, e⟩ | ⟨hq1, e⟩
        · replace e := cond_eq_or e
          rcases e with ⟨hq2, e⟩ | ⟨hq2, e⟩
          · cases e; exact goes_runM hU [.b (z_lssT hq0), .q (ixM_ok (kd := .i64) (T := 23) (x := 15) (N := w1) (sz := 3) rfl (fun w => by kernel_rfl) hq1), .l (accG (i := 0) (f := c_Member) (A := w2) (k := 15) 0 [.string (⟨#[112]⟩ : ByteArray), .int .i64 (((w2 15)).fType), .int .i64 (((w2 15)).fBits)] c_Member_len (inR_nat hq1) (congrArg (fun x : ByteArray => ([.string x, .int .i64 (((w2 15)).fType), .int .i64 (((w2 15)).fBits)] : List Value)) (ba_eq hq2))), .o, .a 4, .o, .a 1, .o, .o, .o, .o, .o, .o, .a 4, .a 2, .o, .a 2, .o, .a 4, .cg (ok_btf_isName_v21 hU  ), .o, .o, .o, .o, .o, .o, .a 4, .a 2, .o, .o, .o, .o] [0, 1, 2] (fun b => rfl) (by decide) rfl rfl (fun b => by kernel_rfl)
          · exact none_some e
        · exact none_some e
      · cases e; exact ⟨ne_exit 0, goes_runM hU [.b (z_lssF hq0)] [0, 1, 2] (fun b => rfl) (by decide) rfl rfl (fun b => by kernel_rfl)⟩
    | c16  =>
      unfold st_btf_rightMemberNames_v3_L0 at e
      dsimp only at e
      replace e := cond_eq_or e
      rcases e with ⟨hq0, e⟩ | ⟨hq0, e⟩
      · replace e := cond_eq_or e
        rcases e with ⟨hq1, e⟩ | ⟨hq1, e⟩
        · replace e := cond_eq_or e
          rcases e with ⟨hq2, e⟩ | ⟨hq2, e⟩
          · cases e; exact goes_runM hU [.b (z_lssT hq0), .q (ixM_ok (kd := .i64) (T := 23) (x := 16) (N := w1) (sz := 3) rfl (fun w => by kernel_rfl) hq1), .l (accG (i := 0) (f := c_Member) (A := w2) (k := 16) 0 [.string (⟨#[113]⟩ : ByteArray), .int .i64 (((w2 16)).fType), .int .i64 (((w2 16)).fBits)] c_Member_len (inR_nat hq1) (congrArg (fun x : ByteArray => ([.string x, .int .i64 (((w2 16)).fType), .int .i64 (((w2 16)).fBits)] : List Value)) (ba_eq hq2))), .o, .a 4, .o, .a 1, .o, .o, .o, .o, .o, .o, .a 4, .a 2, .o, .a 2, .o, .a 4, .cg (ok_btf_isName_v22 hU  ), .o, .o, .o, .o, .o, .o, .a 4, .a 2, .o, .o, .o, .o] [0, 1, 2] (fun b => rfl) (by decide) rfl rfl (fun b => by kernel_rfl)
          · exact none_some e
        · exact none_some e
      · cases e; exact ⟨ne_exit 0, goes_runM hU [.b (z_lssF hq0)] [0, 1, 2] (fun b => rfl) (by decide) rfl rfl (fun b => by kernel_rfl)⟩
    | c17  =>
      unfold st_btf_rightMemberNames_v3_L0 at e
      dsimp only at e
      replace e := cond_eq_or e
      rcases e with ⟨hq0, e⟩ | ⟨hq0, e⟩
      · replace e := cond_eq_or e
        rcases e with ⟨hq1, e⟩ | ⟨hq1, e⟩
        · replace e := cond_eq_or e
          rcases e with ⟨hq2, e⟩ | ⟨hq2, e⟩
          · cases e; exact goes_runM hU [.b (z_lssT hq0), .q (ixM_ok (kd := .i64) (T := 23) (x := 17) (N := w1) (sz := 3) rfl (fun w => by kernel_rfl) hq1), .l (accG (i := 0) (f := c_Member) (A := w2) (k := 17) 0 [.string (⟨#[114]⟩ : ByteArray), .int .i64 (((w2 17)).fType), .int .i64 (((w2 17)).fBits)] c_Member_len (inR_nat hq1) (congrArg (fun x : ByteArray => ([.string x, .int .i64 (((w2 17)).fType), .int .i64 (((w2 17)).fBits)] : List Value)) (ba_eq hq2))), .o, .a 4, .o, .a 1, .o, .o, .o, .o, .o, .o, .a 4, .a 2, .o, .a 2, .o, .a 4, .cg (ok_btf_isName_v23 hU  ), .o, .o, .o, .o, .o, .o, .a 4, .a 2, .o, .o, .o, .o] [0, 1, 2] (fun b => rfl) (by decide) rfl rfl (fun b => by kernel_rfl)
          · exact none_some e
        · exact none_some e
      · cases e; exact ⟨ne_exit 0, goes_runM hU [.b (z_lssF hq0)] [0, 1, 2] (fun b => rfl) (by decide) rfl rfl (fun b => by kernel_rfl)⟩
    | c18  =>
      unfold st_btf_rightMemberNames_v3_L0 at e
      dsimp only at e
      replace e := cond_eq_or e
      rcases e with ⟨hq0, e⟩ | ⟨hq0, e⟩
      · replace e := cond_eq_or e
        rcases e with ⟨hq1, e⟩ | ⟨hq1, e⟩
        · replace e := cond_eq_or e
          rcases e with ⟨hq2, e⟩ | ⟨hq2, e⟩
          · cases e; exact goes_runM hU [.b (z_lssT hq0), .q (ixM_ok (kd := .i64) (T := 23) (x := 18) (N := w1) (sz := 3) rfl (fun w => by kernel_rfl) hq1), .l (accG (i := 0) (f := c_Member) (A := w2) (k := 18) 0 [.string (⟨#[115]⟩ : ByteArray), .int .i64 (((w2 18)).fType), .int .i64 (((w2 18)).fBits)] c_Member_len (inR_nat hq1) (congrArg (fun x : ByteArray => ([.string x, .int .i64 (((w2 18)).fType), .int .i64 (((w2 18)).fBits)] : List Value)) (ba_eq hq2))), .o, .a 4, .o, .a 1, .o, .o, .o, .o, .o, .o, .a 4, .a 2, .o, .a 2, .o, .a 4, .cg (ok_btf_isName_v5 hU  ), .o, .o, .o, .o, .o, .o, .a 4, .a 2, .o, .o, .o, .o] [0, 1, 2] (fun b => rfl) (by decide) rfl rfl (fun b => by kernel_rfl)
          · exact none_some e
        · exact none_some e
      · cases e; exact ⟨ne_exit 0, goes_runM hU [.b (z_lssF hq0)] [0, 1, 2] (fun b => rfl) (by decide) rfl rfl (fun b => by kernel_rfl)⟩
    | c19  =>
      unfold st_btf_rightMemberNames_v3_L0 at e
      dsimp only at e
      replace e := cond_eq_or e
      rcases e with ⟨hq0, e⟩ | ⟨hq0, e⟩
      · replace e := cond_eq_or e
        rcases e with ⟨hq1, e⟩ | ⟨hq1, e⟩
        · replace e := cond_eq_or e
          rcases e with ⟨hq2, e⟩ | ⟨hq2, e⟩
          · cases e; exact goes_runM hU [.b (z_lssT hq0), .q (ixM_ok (kd := .i64) (T := 23) (x := 19) (N := w1) (sz := 3) rfl (fun w => by kernel_rfl) hq1), .l (accG (i := 0) (f := c_Member) (A := w2) (k := 19) 0 [.string (⟨#[116]⟩ : ByteArray), .int .i64 (((w2 19)).fType), .int .i64 (((w2 19)).fBits)] c_Member_len (inR_nat hq1) (congrArg (fun x : ByteArray => ([.string x, .int .i64 (((w2 19)).fType), .int .i64 (((w2 19)).fBits)] : List Value)) (ba_eq hq2))), .o, .a 4, .o, .a 1, .o, .o, .o, .o, .o, .o, .a 4, .a 2, .o, .a 2, .o, .a 4, .cg (ok_btf_isName_v24 hU  ), .o, .o, .o, .o, .o, .o, .a 4, .a 2, .o, .o, .o, .o] [0, 1, 2] (fun b => rfl) (by decide) rfl rfl (fun b => by kernel_rfl)
          · exact none_some e
        · exact none_some e
      · cases e; exact ⟨ne_exit 0, goes_runM hU [.b (z_lssF hq0)] [0, 1, 2] (fun b => rfl) (by decide) rfl rfl (fun b => by kernel_rfl)⟩
    | c20  =>
      unfold st_btf_rightMemberNames_v3_L0 at e
      dsimp only at e
      replace e := cond_eq_or e
      rcases e with ⟨hq0, e⟩ | ⟨hq0, e⟩
      · replace e := cond_eq_or e
        rcases e with ⟨hq1, e⟩ | ⟨hq1, e⟩
        · replace e := cond_eq_or e
          rcases e with ⟨hq2, e⟩ | ⟨hq2, e⟩
          · cases e; exact goes_runM hU [.b (z_lssT hq0), .q (ixM_ok (kd := .i64) (T := 23) (x := 20) (N := w1) (sz := 3) rfl (fun w => by kernel_rfl) hq1), .l (accG (i := 0) (f := c_Member) (A := w2) (k := 20) 0 [.string (⟨#[117]⟩ : ByteArray), .int .i64 (((w2 20)).fType), .int .i64 (((w2 20)).fBits)] c_Member_len (inR_nat hq1) (congrArg (fun x : ByteArray => ([.string x, .int .i64 (((w2 20)).fType), .int .i64 (((w2 20)).fBits)] : List Value)) (ba_eq hq2))), .o, .a 4, .o, .a 1, .o, .o, .o, .o, .o, .o, .a 4, .a 2, .o, .a 2, .o, .a 4, .cg (ok_btf_isName_v25 hU  ), .o, .o, .o, .o, .o, .o, .a 4, .a 2, .o, .o, .o, .o] [0, 1, 2] (fun b => rfl) (by decide) rfl rfl (fun b => by kernel_rfl)
          · exact none_some e
        · exact none_some e
      · cases e; exact ⟨ne_exit 0, goes_runM hU [.b (z_lssF hq0)] [0, 1, 2] (fun b => rfl) (by decide) rfl rfl (fun b => by kernel_rfl)⟩
    | c21  =>
      unfold st_btf_rightMemberNames_v3_L0 at e
      dsimp only at e
      replace e := cond_eq_or e
      rcases e with ⟨hq0, e⟩ | ⟨hq0, e⟩
      · replace e := cond_eq_or e
        rcases e with ⟨hq1, e⟩ | ⟨hq1, e⟩
        · replace e := cond_eq_or e
          rcases e with ⟨hq2, e⟩ | ⟨hq2, e⟩
          · cases e; exact goes_runM hU [.b (z_lssT hq0), .q (ixM_ok (kd := .i64) (T := 23) (x := 21) (N := w1) (sz := 3) rfl (fun w => by kernel_rfl) hq1), .l (accG (i := 0) (f := c_Member) (A := w2) (k := 21) 0 [.string (⟨#[118]⟩ : ByteArray), .int .i64 (((w2 21)).fType), .int .i64 (((w2 21)).fBits)] c_Member_len (inR_nat hq1) (congrArg (fun x : ByteArray => ([.string x, .int .i64 (((w2 21)).fType), .int .i64 (((w2 21)).fBits)] : List Value)) (ba_eq hq2))), .o, .a 4, .o, .a 1, .o, .o, .o, .o, .o, .o, .a 4, .a 2, .o, .a 2, .o, .a 4, .cg (ok_btf_isName_v26 hU  ), .o, .o, .o, .o, .o, .o, .a 4, .a 2, .o, .o, .o, .o] [0, 1, 2] (fun b => rfl) (by decide) rfl rfl (fun b => by kernel_rfl)
          · exact none_some e
        · exact none_some e
      · cases e; exact ⟨ne_exit 0, goes_runM hU [.b (z_lssF hq0)] [0, 1, 2] (fun b => rfl) (by decide) rfl rfl (fun b => by kernel_rfl)⟩
    | c22  =>
      unfold st_btf_rightMemberNames_v3_L0 at e
      dsimp only at e
      replace e := cond_eq_or e
      rcases e with ⟨hq0, e⟩ | ⟨hq0, e⟩
      · replace e := cond_eq_or e
        rcases e with ⟨hq1, e⟩ | ⟨hq1, e⟩
        · replace e := cond_eq_or e
          rcases e with ⟨hq2, e⟩ | ⟨hq2, e⟩
          · cases e; exact goes_runM hU [.b (z_lssT hq0), .q (ixM_ok (kd := .i64) (T := 23) (x := 22) (N := w1) (sz := 3) rfl (fun w => by kernel_rfl) hq1), .l (accG (i := 0) (f := c_Member) (A := w2) (k := 22) 0 [.string (⟨#[119]⟩ : ByteArray), .int .i64 (((w2 22)).fType), .int .i64 (((w2 22)).fBits)] c_Member_len (inR_nat hq1) (congrArg (fun x : ByteArray => ([.string x, .int .i64 (((w2 22)).fType), .int .i64 (((w2 22)).fBits)] : List Value)) (ba_eq hq2))), .o, .a 4, .o, .a 1, .o, .o, .o, .o, .o, .o, .a 4, .a 2, .o, .a 2, .o, .a 4, .cg (ok_btf_isName_v27 hU  ), .o, .o, .o, .o, .o, .o, .a 4, .a 2, .o, .o, .o, .o] [0, 1, 2] (fun b => rfl) (by decide) rfl rfl (fun b => by kernel_rfl)
          · exact none_some e
        · exact none_some e
      · cases e; exact ⟨ne_exit 0, goes_runM hU [.b (z_lssF hq0)] [0, 1, 2] (fun b => rfl) (by decide) rfl rfl (fun b => by kernel_rfl)⟩
    | c23  =>
      unfold st_btf_rightMemberNames_v3_L0 at e
      dsimp only at e
      replace e := cond_eq_or e
      rcases e with ⟨hq0, e⟩ | ⟨hq0, e⟩
      · replace e := cond_eq_or e
        rcases e with ⟨hq1, e⟩ | ⟨hq1, e⟩
        · replace e := cond_eq_or e
          rcases e with ⟨hq2, e⟩ | ⟨hq2, e⟩
          · cases e; exact goes_runM hU [.b (z_lssT hq0), .q (ixM_ok (kd := .i64) (T := 23) (x := 23) (N := w1) (sz := 3) rfl (fun w => by kernel_rfl) hq1), .l (accG (i := 0) (f := c_Member) (A := w2) (k := 23) 0 [.string (⟨#[120]⟩ : ByteArray), .int .i64 (((w2 23)).fType), .int .i64 (((w2 23)).fBits)] c_Member_len (inR_nat hq1) (congrArg (fun x : ByteArray => ([.string x, .int .i64 (((w2 23)).fType), .int .i64 (((w2 23)).fBits)] : List Value)) (ba_eq hq2))), .o, .a 4, .o, .a 1, .o, .o, .o, .o, .o, .o, .a 4, .a 2, .o, .a 2, .o, .a 4, .cg (ok_btf_isName_v28 hU  ), .o, .o, .o, .o, .o, .o, .a 4, .a 2, .o, .o, .o, .o] [0, 1, 2] (fun b => rfl) (by decide) rfl rfl (fun b => by kernel_rfl)
          · exact none_some e
        · exact none_some e
      · cases e; exact ⟨ne_exit 0, goes_runM hU [.b (z_lssF hq0)] [0, 1, 2] (fun b => rfl) (by decide) rfl rfl (fun b => by kernel_rfl)⟩
    | c24  =>
      unfold st_btf_rightMemberNames_v3_L0 at e
      dsimp only at e
      replace e := cond_eq_or e
      rcases e with ⟨hq0, e⟩ | ⟨hq0, e⟩
      · replace e := cond_eq_or e
        rcases e with ⟨hq1, e⟩ | ⟨hq1, e⟩
        · replace e := cond_eq_or e
          rcases e with ⟨hq2, e⟩ | ⟨hq2, e⟩
          · cases e; exact goes_runM hU [.b (z_lssT hq0), .q (ixM_ok (kd := .i64) (T := 23) (x := 24) (N := w1) (sz := 3) rfl (fun w => by kernel_rfl) hq1), .l (accG (i := 0) (f := c_Member) (A := w2) (k := 24) 0 [.string (⟨#[121]⟩ : ByteArray), .int .i64 (((w2 24)).fType), .int .i64 (((w2 24)).fBits)] c_Member_len (inR_nat hq1) (congrArg (fun x : ByteArray => ([.string x, .int .i64 (((w2 24)).fType), .int .i64 (((w2 24)).fBits)] : List Value)) (ba_eq hq2))), .o, .a 4, .o, .a 1, .o, .o, .o, .o, .o, .o, .a 4, .a 2, .o, .a 2, .o, .a 4, .cg (ok_btf_isName_v29 hU  ), .o, .o, .o, .o, .o, .o, .a 4, .a 2, .o, .o, .o, .o] [0, 1, 2] (fun b => rfl) (by decide) rfl rfl (fun b => by kernel_rfl)
          · exact none_some e
        · exact none_some e
      · cases e; exact ⟨ne_exit 0, goes_runM hU [.b (z_lssF hq0)] [0, 1, 2] (fun b => rfl) (by decide) rfl rfl (fun b => by kernel_rfl)⟩
    | c25  =>
      unfold st_btf_rightMemberNames_v3_L0 at e
      dsimp only at e
      replace e := cond_eq_or e
      rcases e with ⟨hq0, e⟩ | ⟨hq0, e⟩
      · replace e := cond_eq_or e
        rcases e with ⟨hq1, e⟩ | ⟨hq1, e⟩
        · replace e := cond_eq_or e
          rcases e with ⟨hq2, e⟩ | ⟨hq2, e⟩
          · cases e; exact goes_runM hU [.b (z_lssT hq0), .q (ixM_ok (kd := .i64) (T := 23) (x := 25) (N := w1) (sz := 3) rfl (fun w => by kernel_rfl) hq1), .l (accG (i := 0) (f := c_Member) (A := w2) (k := 25) 0 [.string (⟨#[122]⟩ : ByteArray), .int .i64 (((w2 25)).fType), .int .i64 (((w2 25)).fBits)] c_Member_len (inR_nat hq1) (congrArg (fun x : ByteArray => ([.string x, .int .i64 (((w2 25)).fType), .int .i64 (((w2 25)).fBits)] : List Value)) (ba_eq hq2))), .o, .a 4, .o, .a 1, .o, .o, .o, .o, .o, .o, .a 4, .a 2, .o, .a 2, .o, .a 4, .cg (ok_btf_isName_v30 hU  ), .o, .o, .o, .o, .o, .o, .a 4, .a 2, .o, .o, .o, .o] [0, 1, 2] (fun b => rfl) (by decide) rfl rfl (fun b => by kernel_rfl)
          · exact none_some e
        · exact none_some e
      · cases e; exact ⟨ne_exit 0, goes_runM hU [.b (z_lssF hq0)] [0, 1, 2] (fun b => rfl) (by decide) rfl rfl (fun b => by kernel_rfl)⟩
    | c26  =>
      unfold st_btf_rightMemberNames_v3_L0 at e
      dsimp only at e
      replace e := cond_eq_or e
      rcases e with ⟨hq0, e⟩ | ⟨hq0, e⟩
      · replace e := cond_eq_or e
        rcases e with ⟨hq1, e⟩ | ⟨hq1, e⟩
        · replace e := cond_eq_or e
          rcases e with ⟨hq2, e⟩ | ⟨hq2, e⟩
          · cases e; exact goes_runM hU [.b (z_lssT hq0), .q (ixM_ok (kd := .i64) (T := 23) (x := 26) (N := w1) (sz := 3) rfl (fun w => by kernel_rfl) hq1), .l (accG (i := 0) (f := c_Member) (A := w2) (k := 26) 0 [.string (⟨#[65]⟩ : ByteArray), .int .i64 (((w2 26)).fType), .int .i64 (((w2 26)).fBits)] c_Member_len (inR_nat hq1) (congrArg (fun x : ByteArray => ([.string x, .int .i64 (((w2 26)).fType), .int .i64 (((w2 26)).fBits)] : List Value)) (ba_eq hq2))), .o, .a 4, .o, .a 1, .o, .o, .o, .o, .o, .o, .a 4, .a 2, .o, .a 2, .o, .a 4, .cg (ok_btf_isName_v31 hU  ), .o, .o, .o, .o, .o, .o, .a 4, .a 2, .o, .o, .o, .o] [0, 1, 2] (fun b => rfl) (by decide) rfl rfl (fun b => by kernel_rfl)
          · exact none_some e
        · exact none_some e
      · cases e; exact ⟨ne_exit 0, goes_runM hU [.b (z_lssF hq0)] [0, 1, 2] (fun b => rfl) (by decide) rfl rfl (fun b => by kernel_rfl)⟩
    | c27  =>
      unfold st_btf_rightMemberNames_v3_L0 at e
      dsimp only at e
      replace e := cond_eq_or e
      rcases e with ⟨hq0, e⟩ | ⟨hq0, e⟩
      · replace e := cond_eq_or e
        rcases e with ⟨hq1, e⟩ | ⟨hq1, e⟩
        · replace e := cond_eq_or e
          rcases e with ⟨hq2, e⟩ | ⟨hq2, e⟩
          · cases e; exact goes_runM hU [.b (z_lssT hq0), .q (ixM_ok (kd := .i64) (T := 23) (x := 27) (N := w1) (sz := 3) rfl (fun w => by kernel_rfl) hq1), .l (accG (i := 0) (f := c_Member) (A := w2) (k := 27) 0 [.string (⟨#[66]⟩ : ByteArray), .int .i64 (((w2 27)).fType), .int .i64 (((w2 27)).fBits)] c_Member_len (inR_nat hq1) (congrArg (fun x : ByteArray => ([.string x, .int .i64 (((w2 27)).fType), .int .i64 (((w2 27)).fBits)] : List Value)) (ba_eq hq2))), .o, .a 4, .o, .a 1, .o, .o, .o, .o, .o, .o, .a 4, .a 2, .o, .a 2, .o, .a 4, .cg (ok_btf_isName_v32 hU  ), .o, .o, .o, .o, .o, .o, .a 4, .a 2, .o, .o, .o, .o] [0, 1, 2] (fun b => rfl) (by decide) rfl rfl (fun b => by kernel_rfl)
          · exact none_some e
        · exact none_some e
      · cases e; exact ⟨ne_exit 0, goes_runM hU [.b (z_lssF hq0)] [0, 1, 2] (fun b => rfl) (by decide) rfl rfl (fun b => by kernel_rfl)⟩
    | c28  =>
      unfold st_btf_rightMemberNames_v3_L0 at e
      dsimp only at e
      replace e := cond_eq_or e
      rcases e with ⟨hq0, e⟩ | ⟨hq0, e⟩
      · replace e := cond_eq_or e
        rcases e with ⟨hq1, e⟩ | ⟨hq1, e⟩
        · replace e := cond_eq_or e
          rcases e with ⟨hq2, e⟩ | ⟨hq2, e⟩
          · cases e; exact goes_runM hU [.b (z_lssT hq0), .q (ixM_ok (kd := .i64) (T := 23) (x := 28) (N := w1) (sz := 3) rfl (fun w => by kernel_rfl) hq1), .l (accG (i := 0) (f := c_Member) (A := w2) (k := 28) 0 [.string (⟨#[67]⟩ : ByteArray), .int .i64 (((w2 28)).fType), .int .i64 (((w2 28)).fBits)] c_Member_len (inR_nat hq1) (congrArg (fun x : ByteArray => ([.string x, .int .i64 (((w2 28)).fType), .int .i64 (((w2 28)).fBits)] : List Value)) (ba_eq hq2))), .o, .a 4, .o, .a 1, .o, .o, .o, .o, .o, .o, .a 4, .a 2, .o, .a 2, .o, .a 4, .cg (ok_btf_isName_v33 hU  ), .o, .o, .o, .o, .o, .o, .a 4, .a 2, .o, .o, .o, .o] [0, 1, 2] (fun b => rfl) (by decide) rfl rfl (fun b => by kernel_rfl)
          · exact none_some e
        · exact none_some e
      · cases e; exact ⟨ne_exit 0, goes_runM hU [.b (z_lssF hq0)] [0, 1, 2] (fun b => rfl) (by decide) rfl rfl (fun b => by kernel_rfl)⟩
    | c29  =>
      unfold st_btf_rightMemberNames_v3_L0 at e
      dsimp only at e
      replace e := cond_eq_or e
      rcases e with ⟨hq0, e⟩ | ⟨hq0, e⟩
      · replace e := cond_eq_or e
        rcases e with ⟨hq1, e⟩ | ⟨hq1, e⟩
        · replace e := cond_eq_or e
          rcases e with ⟨hq2, e⟩ | ⟨hq2, e⟩
          · cases e; exact goes_runM hU [.b (z_lssT hq0), .q (ixM_ok (kd := .i64) (T := 23) (x := 29) (N := w1) (sz := 3) rfl (fun w => by kernel_rfl) hq1), .l (accG (i := 0) (f := c_Member) (A := w2) (k := 29) 0 [.string (⟨#[68]⟩ : ByteArray), .int .i64 (((w2 29)).fType), .int .i64 (((w2 29)).fBits)] c_Member_len (inR_nat hq1) (congrArg (fun x : ByteArray => ([.string x, .int .i64 (((w2 29)).fType), .int .i64 (((w2 29)).fBits)] : List Value)) (ba_eq hq2))), .o, .a 4, .o, .a 1, .o, .o, .o, .o, .o, .o, .a 4, .a 2, .o, .a 2, .o, .a 4, .cg (ok_btf_isName_v34 hU  ), .o, .o, .o, .o, .o, .o, .a 4, .a 2, .o, .o, .o, .o] [0, 1, 2] (fun b => rfl) (by decide) rfl rfl (fun b => by kernel_rfl)
          · exact none_some e
        · exact none_some e
      · cases e; exact ⟨ne_exit 0, goes_runM hU [.b (z_lssF hq0)] [0, 1, 2] (fun b => rfl) (by decide) rfl rfl (fun b => by kernel_rfl)⟩
    | c30  =>
      unfold st_btf_rightMemberNames_v3_L0 at e
      dsimp only at e
      replace e := cond_eq_or e
      rcases e with ⟨hq0, e⟩ | ⟨hq0, e⟩
      · replace e := cond_eq_or e
        rcases e with ⟨hq1, e⟩ | ⟨hq1, e⟩
        · replace e := cond_eq_or e
          rcases e with ⟨hq2, e⟩ | ⟨hq2, e⟩
          · cases e; exact goes_runM hU [.b (z_lssT hq0), .q (ixM_ok (kd := .i64) (T := 23) (x := 30) (N := w1) (sz := 3) rfl (fun w => by kernel_rfl) hq1), .l (accG (i := 0) (f := c_Member) (A := w2) (k := 30) 0 [.string (⟨#[69]⟩ : ByteArray), .int .i64 (((w2 30)).fType), .int .i64 (((w2 30)).fBits)] c_Member_len (inR_nat hq1) (congrArg (fun x : ByteArray => ([.string x, .int .i64 (((w2 30)).fType), .int .i64 (((w2 30)).fBits)] : List Value)) (ba_eq hq2))), .o, .a 4, .o, .a 1, .o, .o, .o, .o, .o, .o, .a 4, .a 2, .o, .a 2, .o, .a 4, .cg (ok_btf_isName_v35 hU  ), .o, .o, .o, .o, .o, .o, .a 4, .a 2, .o, .o, .o, .o] [0, 1, 2] (fun b => rfl) (by decide) rfl rfl (fun b => by kernel_rfl)
          · exact none_some e
        · exact none_some e
      · cases e; exact ⟨ne_exit 0, goes_runM hU [.b (z_lssF hq0)] [0, 1, 2] (fun b => rfl) (by decide) rfl rfl (fun b => by kernel_rfl)⟩
    | c31  =>
      unfold st_btf_rightMemberNames_v3_L0 at e
      dsimp only at e
      replace e := cond_eq_or e
      rcases e with ⟨hq0, e⟩ | ⟨hq0, e⟩
      · replace e := cond_eq_or e
        rcases e with ⟨hq1, e⟩ | ⟨hq1, e⟩
        · replace e := cond_eq_or e
          rcases e with ⟨hq2, e⟩ | ⟨hq2, e⟩
          · cases e; exact goes_runM hU [.b (z_lssT hq0), .q (ixM_ok (kd := .i64) (T := 23) (x := 31) (N := w1) (sz := 3) rfl (fun w => by kernel_rfl) hq1), .l (accG (i := 0) (f := c_Member) (A := w2) (k := 31) 0 [.string (⟨#[70]⟩ : ByteArray), .int .i64 (((w2 31)).fType), .int .i64 (((w2 31)).fBits)] c_Member_len (inR_nat hq1) (congrArg (fun x : ByteArray => ([.string x, .int .i64 (((w2 31)).fType), .int .i64 (((w2 31)).fBits)] : List Value)) (ba_eq hq2))), .o, .a 4, .o, .a 1, .o, .o, .o, .o, .o, .o, .a 4, .a 2, .o, .a 2, .o, .a 4, .cg (ok_btf_isName_v36 hU  ), .o, .o, .o, .o, .o, .o, .a 4, .a 2, .o, .o, .o, .o] [0, 1, 2] (fun b => rfl) (by decide) rfl rfl (fun b => by kernel_rfl)
          · exact none_some e
        · exact none_some e
      · cases e; exact ⟨ne_exit 0, goes_runM hU [.b (z_lssF hq0)] [0, 1, 2] (fun b => rfl) (by decide) rfl rfl (fun b => by kernel_rfl)⟩
    | c32  =>
      unfold st_btf_rightMemberNames_v3_L0 at e
      dsimp only at e
      replace e := cond_eq_or e
      rcases e with ⟨hq0, e⟩ | ⟨hq0, e⟩
      · replace e := cond_eq_or e
        rcases e with ⟨hq1, e⟩ | ⟨hq1, e⟩
        · replace e := cond_eq_or e
          rcases e with ⟨hq2, e⟩ | ⟨hq2, e⟩
          · cases e; exact goes_runM hU [.b (z_lssT hq0), .q (ixM_ok (kd := .i64) (T := 23) (x := 32) (N := w1) (sz := 3) rfl (fun w => by kernel_rfl) hq1), .l (accG (i := 0) (f := c_Member) (A := w2) (k := 32) 0 [.string (⟨#[71]⟩ : ByteArray), .int .i64 (((w2 32)).fType), .int .i64 (((w2 32)).fBits)] c_Member_len (inR_nat hq1) (congrArg (fun x : ByteArray => ([.string x, .int .i64 (((w2 32)).fType), .int .i64 (((w2 32)).fBits)] : List Value)) (ba_eq hq2))), .o, .a 4, .o, .a 1, .o, .o, .o, .o, .o, .o, .a 4, .a 2, .o, .a 2, .o, .a 4, .cg (ok_btf_isName_v37 hU  ), .o, .o, .o, .o, .o, .o, .a 4, .a 2, .o, .o, .o, .o] [0, 1, 2] (fun b => rfl) (by decide) rfl rfl (fun b => by kernel_rfl)
          · exact none_some e
        · exact none_some e
      · cases e; exact ⟨ne_exit 0, goes_runM hU [.b (z_lssF hq0)] [0, 1, 2] (fun b => rfl) (by decide) rfl rfl (fun b => by kernel_rfl)⟩
    | c33  =>
      unfold st_btf_rightMemberNames_v3_L0 at e
      dsimp only at e
      replace e := cond_eq_or e
      rcases e with ⟨hq0, e⟩ | ⟨hq0, e⟩
      · replace e := cond_eq_or e
        rcases e with ⟨hq1, e⟩ | ⟨hq1, e⟩
        · replace e := cond_eq_or e
          rcases e with ⟨hq2, e⟩ | ⟨hq2, e⟩
          · cases e; exact goes_runM hU [.b (z_lssT hq0), .q (ixM_ok (kd := .i64) (T := 23) (x := 33) (N := w1) (sz := 3) rfl (fun w => by kernel_rfl) hq1), .l (accG (i := 0) (f := c_Member) (A := w2) (k := 33) 0 [.string (⟨#[72]⟩ : ByteArray), .int .i64 (((w2 33)).fType), .int .i64 (((w2 33)).fBits)] c_Member_len (inR_nat hq1) (congrArg (fun x : ByteArray => ([.string x, .int .i64 (((w2 33)).fType), .int .i64 (((w2 33)).fBits)] : List Value)) (ba_eq hq2))), .o, .a 4, .o, .a 1, .o, .o, .o, .o, .o, .o, .a 4, .a 2, .o, .a 2, .o, .a 4, .cg (ok_btf_isName_v38 hU  ), .o, .o, .o, .o, .o, .o, .a 4, .a 2, .o, .o, .o, .o] [0, 1, 2] (fun b => rfl) (by decide) rfl rfl (fun b => by kernel_rfl)
          · exact none_some e
        · exact none_some e
      · cases e; exact ⟨ne_exit 0, goes_runM hU [.b (z_lssF hq0)] [0, 1, 2] (fun b => rfl) (by decide) rfl rfl (fun b => by kernel_rfl)⟩
    | c34  =>
      unfold st_btf_rightMemberNames_v3_L0 at e
      dsimp only at e
      replace e := cond_eq_or e
      rcases e with ⟨hq0, e⟩ | ⟨hq0, e⟩
      · replace e := cond_eq_or e
        rcases e with ⟨hq1, e⟩ | ⟨hq1, e⟩
        · replace e := cond_eq_or e
          rcases e with ⟨hq2, e⟩ | ⟨hq2, e⟩
          · cases e; exact goes_runM hU [.b (z_lssT hq0), .q (ixM_ok (kd := .i64) (T := 23) (x := 34) (N := w1) (sz := 3) rfl (fun w => by kernel_rfl) hq1), .l (accG (i := 0) (f := c_Member) (A := w2) (k := 34) 0 [.string (⟨#[73]⟩ : ByteArray), .int .i64 (((w2 34)).fType), .int .i64 (((w2 34)).fBits)] c_Member_len (inR_nat hq1) (congrArg (fun x : ByteArray => ([.string x, .int .i64 (((w2 34)).fType), .int .i64 (((w2 34)).fBits)] : List Value)) (ba_eq hq2))), .o, .a 4, .o, .a 1, .o, .o, .o, .o, .o, .o, .a 4, .a 2, .o, .a 2, .o, .a 4, .cg (ok_btf_isName_v39 hU  ), .o, .o, .o, .o, .o, .o, .a 4, .a 2, .o, .o, .o, .o] [0, 1, 2] (fun b => rfl) (by decide) rfl rfl (fun b => by kernel_rfl)
          · exact none_some e
        · exact none_some e
      · cases e; exact ⟨ne_exit 0, goes_runM hU [.b (z_lssF hq0)] [0, 1, 2] (fun b => rfl) (by decide) rfl rfl (fun b => by kernel_rfl)⟩
    | c35  =>
      unfold st_btf_rightMemberNames_v3_L0 at e
      dsimp only at e
      replace e := cond_eq_or e
      rcases e with ⟨hq0, e⟩ | ⟨hq0, e⟩
      · replace e := cond_eq_or e
        rcases e with ⟨hq1, e⟩ | ⟨hq1, e⟩
        · replace e := cond_eq_or e
          rcases e with ⟨hq2, e⟩ | ⟨hq2, e⟩
          · cases e; exact goes_runM hU [.b (z_lssT hq0), .q (ixM_ok (kd := .i64) (T := 23) (x := 35) (N := w1) (sz := 3) rfl (fun w => by kernel_rfl) hq1), .l (accG (i := 0) (f := c_Member) (A := w2) (k := 35) 0 [.string (⟨#[74]⟩ : ByteArray), .int .i64 (((w2 35)).fType), .int .i64 (((w2 35)).fBits)] c_Member_len (inR_nat hq1) (congrArg (fun x : ByteArray => ([.string x, .int .i64 (((w2 35)).fType), .int .i64 (((w2 35)).fBits)] : List Value)) (ba_eq hq2))), .o, .a 4, .o, .a 1, .o, .o, .o, .o, .o, .o, .a 4, .a 2, .o, .a 2, .o, .a 4, .cg (ok_btf_isName_v40 hU  ), .o, .o, .o, .o, .o, .o, .a 4, .a 2, .o, .o, .o, .o] [0, 1, 2] (fun b => rfl) (by decide) rfl rfl (fun b => by kernel_rfl)
          · exact none_some e
        · exact none_some e
      · cases e; exact ⟨ne_exit 0, goes_runM hU [.b (z_lssF hq0)] [0, 1, 2] (fun b => rfl) (by decide) rfl rfl (fun b => by kernel_rfl)⟩
    | c36  =>
      unfold st_btf_rightMemberNames_v3_L0 at e
      dsimp only at e
      replace e := cond_eq_or e
      rcases e with ⟨hq0, e⟩ | ⟨hq0, e⟩
      · replace e := cond_eq_or e
        rcases e with ⟨hq1, e⟩ | ⟨hq1, e⟩
        · replace e := cond_eq_or e
          rcases e with ⟨hq2, e⟩ | ⟨hq2, e⟩
          · cases e; exact goes_runM hU [.b (z_lssT hq0), .q (ixM_ok (kd := .i64) (T := 23) (x := 36) (N := w1) (sz := 3) rfl (fun w => by kernel_rfl) hq1), .l (accG (i := 0) (f := c_Member) (A := w2) (k := 36) 0 [.string (⟨#[75]⟩ : ByteArray), .int .i64 (((w2 36)).fType), .int .i64 (((w2 36)).fBits)] c_Member_len (inR_nat hq1) (congrArg (fun x : ByteArray => ([.string x, .int .i64 (((w2 36)).fType), .int .i64 (((w2 36)).fBits)] : List Value)) (ba_eq hq2))), .o, .a 4, .o, .a 1, .o, .o, .o, .o, .o, .o, .a 4, .a 2, .o, .a 2, .o, .a 4, .cg (ok_btf_isName_v41 hU  ), .o, .o, .o, .o, .o, .o, .a 4, .a 2, .o, .o, .o, .o] [0, 1, 2] (fun b => rfl) (by decide) rfl rfl (fun b => by kernel_rfl)
          · exact none_some e
        · exact none_some e
      · cases e; exact ⟨ne_exit 0, goes_runM hU [.b (z_lssF hq0)] [0, 1, 2] (fun b => rfl) (by decide) rfl rfl (fun b => by kernel_rfl)⟩
    | c37  =>
      unfold st_btf_rightMemberNames_v3_L0 at e
      dsimp only at e
      replace e := cond_eq_or e
      rcases e with ⟨hq0, e⟩ | ⟨hq0, e⟩
      · replace e := cond_eq_or e
        rcases e with ⟨hq1, e⟩ | ⟨hq1, e⟩
        · replace e := cond_eq_or e
          rcases e with ⟨hq2, e⟩ | ⟨hq2, e⟩
          · cases e; exact goes_runM hU [.b (z_lssT hq0), .q (ixM_ok (kd := .i64) (T := 23) (x := 37) (N := w1) (sz := 3) rfl (fun w => by kernel_rfl) hq1), .l (accG (i := 0) (f := c_Member) (A := w2) (k := 37) 0 [.string (⟨#[76]⟩ : ByteArray), .int .i64 (((w2 37)).fType), .int .i64 (((w2 37)).fBits)] c_Member_len (inR_nat hq1) (congrArg (fun x : ByteArray => ([.string x, .int .i64 (((w2 37)).fType), .int .i64 (((w2 37)).fBits)] : List Value)) (ba_eq hq2))), .o, .a 4, .o, .a 1, .o, .o, .o, .o, .o, .o, .a 4, .a 2, .o, .a 2, .o, .a 4, .cg (ok_btf_isName_v42 hU  ), .o, .o, .o, .o, .o, .o, .a 4, .a 2, .o, .o, .o, .o] [0, 1, 2] (fun b => rfl) (by decide) rfl rfl (fun b => by kernel_rfl)
          · exact none_some e
        · exact none_some e
      · cases e; exact ⟨ne_exit 0, goes_runM hU [.b (z_lssF hq0)] [0, 1, 2] (fun b => rfl) (by decide) rfl rfl (fun b => by kernel_rfl)⟩
    | c38  =>
      unfold st_btf_rightMemberNames_v3_L0 at e
      dsimp only at e
      replace e := cond_eq_or e
      rcases e with ⟨hq0, e⟩ | ⟨hq0, e⟩
      · replace e := cond_eq_or e
        rcases e with ⟨hq1, e⟩ | ⟨hq1, e⟩
        · replace e := cond_eq_or e
          rcases e with ⟨hq2, e⟩ | ⟨hq2, e⟩
          · cases e; exact goes_runM hU [.b (z_lssT hq0), .q (ixM_ok (kd := .i64) (T := 23) (x := 38) (N := w1) (sz := 3) rfl (fun w => by kernel_rfl) hq1), .l (accG (i := 0) (f := c_Member) (A := w2) (k := 38) 0 [.string (⟨#[77]⟩ : ByteArray), .int .i64 (((w2 38)).fType), .int .i64 (((w2 38)).fBits)] c_Member_len (inR_nat hq1) (congrArg (fun x : ByteArray => ([.string x, .int .i64 (((w2 38)).fType), .int .i64 (((w2 38)).fBits)] : List Value)) (ba_eq hq2))), .o, .a 4, .o, .a 1, .o, .o, .o, .o, .o, .o, .a 4, .a 2, .o, .a 2, .o, .a 4, .cg (ok_btf_isName_v43 hU  ), .o, .o, .o, .o, .o, .o, .a 4, .a 2, .o, .o, .o, .o] [0, 1, 2] (fun b => rfl) (by decide) rfl rfl (fun b => by kernel_rfl)
          · exact none_some e
        · exact none_some e
      · cases e; exact ⟨ne_exit 0, goes_runM hU [.b (z_lssF hq0)] [0, 1, 2] (fun b => rfl) (by decide) rfl rfl (fun b => by kernel_rfl)⟩
    | c39  =>
      unfold st_btf_rightMemberNames_v3_L0 at e
      dsimp only at e
      replace e := cond_eq_or e
      rcases e with ⟨hq0, e⟩ | ⟨hq0, e⟩
      · replace e := cond_eq_or e
        rcases e with ⟨hq1, e⟩ | ⟨hq1, e⟩
        · replace e := cond_eq_or e
          rcases e with ⟨hq2, e⟩ | ⟨hq2, e⟩
          · cases e; exact goes_runM hU [.b (z_lssT hq0), .q (ixM_ok (kd := .i64) (T := 23) (x := 39) (N := w1) (sz := 3) rfl (fun w => by kernel_rfl) hq1), .l (accG (i := 0) (f := c_Member) (A := w2) (k := 39) 0 [.string (⟨#[78]⟩ : ByteArray), .int .i64 (((w2 39)).fType), .int .i64 (((w2 39)).fBits)] c_Member_len (inR_nat hq1) (congrArg (fun x : ByteArray => ([.string x, .int .i64 (((w2 39)).fType), .int .i64 (((w2 39)).fBits)] : List Value)) (ba_eq hq2))), .o, .a 4, .o, .a 1, .o, .o, .o, .o, .o, .o, .a 4, .a 2, .o, .a 2, .o, .a 4, .cg (ok_btf_isName_v44 hU  ), .o, .o, .o, .o, .o, .o, .a 4, .a 2, .o, .o, .o, .o] [0, 1, 2] (fun b => rfl) (by decide) rfl rfl (fun b => by kernel_rfl)
          · exact none_some e
        · exact none_some e
      · cases e; exact ⟨ne_exit 0, goes_runM hU [.b (z_lssF hq0)] [0, 1, 2] (fun b => rfl) (by decide) rfl rfl (fun b => by kernel_rfl)⟩
    | c40  =>
      unfold st_btf_rightMemberNames_v3_L0 at e
      dsimp only at e
      replace e := cond_eq_or e
      rcases e with ⟨hq0, e⟩ | ⟨hq0, e⟩
      · replace e := cond_eq_or e
        rcases e with ⟨hq1, e⟩ | ⟨hq1, e⟩
        · exact none_some e
        · exact none_some e
      · cases e; exact ⟨ne_exit 0, goes_runM hU [.b (z_lssF hq0)] [0, 1, 2] (fun b => rfl) (by decide) rfl rfl (fun b => by kernel_rfl)⟩) s r h
noncomputable def t0_btf_rightMemberNames_v3_L0_0 (w0 : Int) (w1 : Nat) (w2 : Nat → Member)  (ls : List L1) : List Value := List.append [.agg #[.int .i64 (4), .string (⟨#[115]⟩ : ByteArray), .int .i64 (w0), .bool false, .int .i64 (0), .int .i64 (0), (rowV (lget ls 0) w1 3)], .pointer (some ⟨(lget ls 1).n, 0, none⟩), .bool false, .map (some (lget ls 2).n), undef, undef, undef, .map (some (lget ls 2).n), .pointer (some ⟨(lget ls 1).n, 6, none⟩), (rowV (lget ls 0) w1 3), .int .i64 ((w1 : Int)), .int .i64 (0)] (und 32)
def pre_btf_rightMemberNames_v3_L0_0 (w0 : Int) (w1 : Nat) (w2 : Nat → Member)  (ls : List L1) : List Obj := [rowO (lget ls 0) (esG c_Member w1 w2) 27 w1 3, .cells #[.int .i64 (4), .string (⟨#[115]⟩ : ByteArray), .int .i64 (w0), .bool false, .int .i64 (0), .int .i64 (0), (rowV (lget ls 0) w1 3)] 25, .map #[] 0]
theorem sp0_btf_rightMemberNames_v3_L0_0_ok (h : lpO (st_btf_rightMemberNames_v3_L0 w1 w2) (.c0) = some (.e0 )) : SpcG Tryd.prog M B0 S ⟨fun ls => .code (.loop bd_btf_rightMemberNames_v3_L0) (t0_btf_rightMemberNames_v3_L0_0 w0 w1 w2  ls), pre_btf_rightMemberNames_v3_L0_0 w0 w1 w2 , 1, (.exit 0), fun ls => vf_btf_rightMemberNames_v3_L0 w0 w1 w2 (.e0 ) (ls.take 3 ++ ls.drop 3), fun ls => (Hf_btf_rightMemberNames_v3_L0 w0 w1 w2 (.e0 ) (ls.take 3 ++ ls.drop 3)).take 3 ++ List.replicate 0 unb, fun ls => (Hf_btf_rightMemberNames_v3_L0 w0 w1 w2 (.e0 ) (ls.take 3 ++ ls.drop 3)).drop 3⟩ :=
  spc_of_goesM hU 0 (k0 := 3) (go_btf_rightMemberNames_v3_L0 hU w0 w1 w2 _ _ h) (t0_btf_rightMemberNames_v3_L0_0 w0 w1 w2 ) (pre_btf_rightMemberNames_v3_L0_0 w0 w1 w2 ) (fun _ => rfl) (fun ls h => by match ls, h with | [l0, l1, l2], _ => exact ⟨by kernel_rfl, by kernel_rfl⟩) (fun ls h => by match ls, h with | [l0, l1, l2], _ => rfl) (by decide) (by decide) (fun ls => rfl)
theorem sp1_btf_rightMemberNames_v3_L0_0_ok (h : lpO (st_btf_rightMemberNames_v3_L0 w1 w2) (.c0) = some (.e1 )) : SpcG Tryd.prog M B0 S ⟨fun ls => .code (.loop bd_btf_rightMemberNames_v3_L0) (t0_btf_rightMemberNames_v3_L0_0 w0 w1 w2  ls), pre_btf_rightMemberNames_v3_L0_0 w0 w1 w2 , 1, (.exit 0), fun ls => vf_btf_rightMemberNames_v3_L0 w0 w1 w2 (.e1 ) (ls.take 3 ++ ls.drop 3), fun ls => (Hf_btf_rightMemberNames_v3_L0 w0 w1 w2 (.e1 ) (ls.take 3 ++ ls.drop 3)).take 3 ++ List.replicate 0 unb, fun ls => (Hf_btf_rightMemberNames_v3_L0 w0 w1 w2 (.e1 ) (ls.take 3 ++ ls.drop 3)).drop 3⟩ :=
  spc_of_goesM hU 0 (k0 := 3) (go_btf_rightMemberNames_v3_L0 hU w0 w1 w2 _ _ h) (t0_btf_rightMemberNames_v3_L0_0 w0 w1 w2 ) (pre_btf_rightMemberNames_v3_L0_0 w0 w1 w2 ) (fun _ => rfl) (fun ls h => by match ls, h with | [l0, l1, l2], _ => exact ⟨by kernel_rfl, by kernel_rfl⟩) (fun ls h => by match ls, h with | [l0, l1, l2], _ => rfl) (by decide) (by decide) (fun ls => rfl)
theorem sp2_btf_rightMemberNames_v3_L0_0_ok (h : lpO (st_btf_rightMemberNames_v3_L0 w1 w2) (.c0) = some (.e2 )) : SpcG Tryd.prog M B0 S ⟨fun ls => .code (.loop bd_btf_rightMemberNames_v3_L0) (t0_btf_rightMemberNames_v3_L0_0 w0 w1 w2  ls), pre_btf_rightMemberNames_v3_L0_0 w0 w1 w2 , 1, (.exit 0), fun ls => vf_btf_rightMemberNames_v3_L0 w0 w1 w2 (.e2 ) (ls.take 3 ++ ls.drop 3), fun ls => (Hf_btf_rightMemberNames_v3_L0 w0 w1 w2 (.e2 ) (ls.take 3 ++ ls.drop 3)).take 3 ++ List.replicate 0 unb, fun ls => (Hf_btf_rightMemberNames_v3_L0 w0 w1 w2 (.e2 ) (ls.take 3 ++ ls.drop 3)).drop 3⟩ :=
  spc_of_goesM hU 0 (k0 := 3) (go_btf_rightMemberNames_v3_L0 hU w0 w1 w2 _ _ h) (t0_btf_rightMemberNames_v3_L0_0 w0 w1 w2 ) (pre_btf_rightMemberNames_v3_L0_0 w0 w1 w2 ) (fun _ => rfl) (fun ls h => by match ls, h with | [l0, l1, l2], _ => exact ⟨by kernel_rfl, by kernel_rfl⟩) (fun ls h => by match ls, h with | [l0, l1, l2], _ => rfl) (by decide) (by decide) (fun ls => rfl)
theorem sp3_btf_rightMemberNames_v3_L0_0_ok (h : lpO (st_btf_rightMemberNames_v3_L0 w1 w2) (.c0) = some (.e3 )) : SpcG Tryd.prog M B0 S ⟨fun ls => .code (.loop bd_btf_rightMemberNames_v3_L0) (t0_btf_rightMemberNames_v3_L0_0 w0 w1 w2  ls), pre_btf_rightMemberNames_v3_L0_0 w0 w1 w2 , 1, (.exit 0), fun ls => vf_btf_rightMemberNames_v3_L0 w0 w1 w2 (.e3 ) (ls.take 3 ++ ls.drop 3), fun ls => (Hf_btf_rightMemberNames_v3_L0 w0 w1 w2 (.e3 ) (ls.take 3 ++ ls.drop 3)).take 3 ++ List.replicate 0 unb, fun ls => (Hf_btf_rightMemberNames_v3_L0 w0 w1 w2 (.e3 ) (ls.take 3 ++ ls.drop 3)).drop 3⟩ :=
  spc_of_goesM hU 0 (k0 := 3) (go_btf_rightMemberNames_v3_L0 hU w0 w1 w2 _ _ h) (t0_btf_rightMemberNames_v3_L0_0 w0 w1 w2 ) (pre_btf_rightMemberNames_v3_L0_0 w0 w1 w2 ) (fun _ => rfl) (fun ls h => by match ls, h with | [l0, l1, l2], _ => exact ⟨by kernel_rfl, by kernel_rfl⟩) (fun ls h => by match ls, h with | [l0, l1, l2], _ => rfl) (by decide) (by decide) (fun ls => rfl)
theorem sp4_btf_rightMemberNames_v3_L0_0_ok (h : lpO (st_btf_rightMemberNames_v3_L0 w1 w2) (.c0) = some (.e4 )) : SpcG Tryd.prog M B0 S ⟨fun ls => .code (.loop bd_btf_rightMemberNames_v3_L0) (t0_btf_rightMemberNames_v3_L0_0 w0 w1 w2  ls), pre_btf_rightMemberNames_v3_L0_0 w0 w1 w2 , 1, (.exit 0), fun ls => vf_btf_rightMemberNames_v3_L0 w0 w1 w2 (.e4 ) (ls.take 3 ++ ls.drop 3), fun ls => (Hf_btf_rightMemberNames_v3_L0 w0 w1 w2 (.e4 ) (ls.take 3 ++ ls.drop 3)).take 3 ++ List.replicate 0 unb, fun ls => (Hf_btf_rightMemberNames_v3_L0 w0 w1 w2 (.e4 ) (ls.take 3 ++ ls.drop 3)).drop 3⟩ :=
  spc_of_goesM hU 0 (k0 := 3) (go_btf_rightMemberNames_v3_L0 hU w0 w1 w2 _ _ h) (t0_btf_rightMemberNames_v3_L0_0 w0 w1 w2 ) (pre_btf_rightMemberNames_v3_L0_0 w0 w1 w2 ) (fun _ => rfl) (fun ls h => by match ls, h with | [l0, l1, l2], _ => exact ⟨by kernel_rfl, by kernel_rfl⟩) (fun ls h => by match ls, h with | [l0, l1, l2], _ => rfl) (by decide) (by decide) (fun ls => rfl)
theorem sp5_btf_rightMemberNames_v3_L0_0_ok (h : lpO (st_btf_rightMemberNames_v3_L0 w1 w2) (.c0) = some (.e5 )) : SpcG Tryd.prog M B0 S ⟨fun ls => .code (.loop bd_btf_rightMemberNames_v3_L0) (t0_btf_rightMemberNames_v3_L0_0 w0 w1 w2  ls), pre_btf_rightMemberNames_v3_L0_0 w0 w1 w2 , 1, (.exit 0), fun ls => vf_btf_rightMemberNames_v3_L0 w0 w1 w2 (.e5 ) (ls.take 3 ++ ls.drop 3), fun ls => (Hf_btf_rightMemberNames_v3_L0 w0 w1 w2 (.e5 ) (ls.take 3 ++ ls.drop 3)).take 3 ++ List.replicate 0 unb, fun ls => (Hf_btf_rightMemberNames_v3_L0 w0 w1 w2 (.e5 ) (ls.take 3 ++ ls.drop 3)).drop 3⟩ :=
  spc_of_goesM hU 0 (k0 := 3) (go_btf_rightMemberNames_v3_L0 hU w0 w1 w2 _ _ h) (t0_btf_rightMemberNames_v3_L0_0 w0 w1 w2 ) (pre_btf_rightMemberNames_v3_L0_0 w0 w1 w2 ) (fun _ => rfl) (fun ls h => by match ls, h with | [l0, l1, l2], _ => exact ⟨by kernel_rfl, by kernel_rfl⟩) (fun ls h => by match ls, h with | [l0, l1, l2], _ => rfl) (by decide) (by decide) (fun ls => rfl)
theorem sp6_btf_rightMemberNames_v3_L0_0_ok (h : lpO (st_btf_rightMemberNames_v3_L0 w1 w2) (.c0) = some (.e6 )) : SpcG Tryd.prog M B0 S ⟨fun ls => .code (.loop bd_btf_rightMemberNames_v3_L0) (t0_btf_rightMemberNames_v3_L0_0 w0 w1 w2  ls), pre_btf_rightMemberNames_v3_L0_0 w0 w1 w2 , 1, (.exit 0), fun ls => vf_btf_rightMemberNames_v3_L0 w0 w1 w2 (.e6 ) (ls.take 3 ++ ls.drop 3), fun ls => (Hf_btf_rightMemberNames_v3_L0 w0 w1 w2 (.e6 ) (ls.take 3 ++ ls.drop 3)).take 3 ++ List.replicate 0 unb, fun ls => (Hf_btf_rightMemberNames_v3_L0 w0 w1 w2 (.e6 ) (ls.take 3 ++ ls.drop 3)).drop 3⟩ :=
  spc_of_goesM hU 0 (k0 := 3) (go_btf_rightMemberNames_v3_L0 hU w0 w1 w2 _ _ h) (t0_btf_rightMemberNames_v3_L0_0 w0 w1 w2 ) (pre_btf_rightMemberNames_v3_L0_0 w0 w1 w2 ) (fun _ => rfl) (fun ls h => by match ls, h with | [l0, l1, l2], _ => exact ⟨by kernel_rfl, by kernel_rfl⟩) (fun ls h => by match ls, h with | [l0, l1, l2], _ => rfl) (by decide) (by decide) (fun ls => rfl)
theorem sp7_btf_rightMemberNames_v3_L0_0_ok (h : lpO (st_btf_rightMemberNames_v3_L0 w1 w2) (.c0) = some (.e7 )) : SpcG Tryd.prog M B0 S ⟨fun ls => .code (.loop bd_btf_rightMemberNames_v3_L0) (t0_btf_rightMemberNames_v3_L0_0 w0 w1 w2  ls), pre_btf_rightMemberNames_v3_L0_0 w0 w1 w2 , 1, (.exit 0), fun ls => vf_btf_rightMemberNames_v3_L0 w0 w1 w2 (.e7 ) (ls.take 3 ++ ls.drop 3), fun ls => (Hf_btf_rightMemberNames_v3_L0 w0 w1 w2 (.e7 ) (ls.take 3 ++ ls.drop 3)).take 3 ++ List.replicate 0 unb, fun ls => (Hf_btf_rightMemberNames_v3_L0 w0 w1 w2 (.e7 ) (ls.take 3 ++ ls.drop 3)).drop 3⟩ :=
  spc_of_goesM hU 0 (k0 := 3) (go_btf_rightMemberNames_v3_L0 hU w0 w1 w2 _ _ h) (t0_btf_rightMemberNames_v3_L0_0 w0 w1 w2 ) (pre_btf_rightMemberNames_v3_L0_0 w0 w1 w2 ) (fun _ => rfl) (fun ls h => by match ls, h with | [l0, l1, l2], _ => exact ⟨by kernel_rfl, by kernel_rfl⟩) (fun ls h => by match ls, h with | [l0, l1, l2], _ => rfl) (by decide) (by decide) (fun ls => rfl)
theorem sp8_btf_rightMemberNames_v3_L0_0_ok (h : lpO (st_btf_rightMemberNames_v3_L0 w1 w2) (.c0) = some (.e8 )) : SpcG Tryd.prog M B0 S ⟨fun ls => .code (.loop bd_btf_rightMemberNames_v3_L0) (t0_btf_rightMemberNames_v3_L0_0 w0 w1 w2  ls), pre_btf_rightMemberNames_v3_L0_0 w0 w1 w2 , 1, (.exit 0), fun ls => vf_btf_rightMemberNames_v3_L0 w0 w1 w2 (.e8 ) (ls.take 3 ++ ls.drop 3), fun ls => (Hf_btf_rightMemberNames_v3_L0 w0 w1 w2 (.e8 ) (ls.take 3 ++ ls.drop 3)).take 3 ++ List.replicate 0 unb, fun ls => (Hf_btf_rightMemberNames_v3_L0 w0 w1 w2 (.e8 ) (ls.take 3 ++ ls.drop 3)).drop 3⟩ :=
  spc_of_goesM hU 0 (k0 := 3) (go_btf_rightMemberNames_v3_L0 hU w0 w1 w2 _ _ h) (t0_btf_rightMemberNames_v3_L0_0 w0 w1 w2 ) (pre_btf_rightMemberNames_v3_L0_0 w0 w1 w2 ) (fun _ => rfl) (fun ls h => by match ls, h with | [l0, l1, l2], _ => exact ⟨by kernel_rfl, by kernel_rfl⟩) (fun ls h => by match ls, h with | [l0, l1, l2], _ => rfl) (by decide) (by decide) (fun ls => rfl)
theorem sp9_btf_rightMemberNames_v3_L0_0_ok (h : lpO (st_btf_rightMemberNames_v3_L0 w1 w2) (.c0) = some (.e9 )) : SpcG Tryd.prog M B0 S ⟨fun ls => .code (.loop bd_btf_rightMemberNames_v3_L0) (t0_btf_rightMemberNames_v3_L0_0 w0 w1 w2  ls), pre_btf_rightMemberNames_v3_L0_0 w0 w1 w2 , 1, (.exit 0), fun ls => vf_btf_rightMemberNames_v3_L0 w0 w1 w2 (.e9 ) (ls.take 3 ++ ls.drop 3), fun ls => (Hf_btf_rightMemberNames_v3_L0 w0 w1 w2 (.e9 ) (ls.take 3 ++ ls.drop 3)).take 3 ++ List.replicate 0 unb, fun ls => (Hf_btf_rightMemberNames_v3_L0 w0 w1 w2 (.e9 ) (ls.take 3 ++ ls.drop 3)).drop 3⟩ :=
  spc_of_goesM hU 0 (k0 := 3) (go_btf_rightMemberNames_v3_L0 hU w0 w1 w2 _ _ h) (t0_btf_rightMemberNames_v3_L0_0 w0 w1 w2 ) (pre_btf_rightMemberNames_v3_L0_0 w0 w1 w2 ) (fun _ => rfl) (fun ls h => by match ls, h with | [l0, l1, l2], _ => exact ⟨by kernel_rfl, by kernel_rfl⟩) (fun ls h => by match ls, h with | [l0, l1, l2], _ => rfl) (by decide) (by decide) (fun ls => rfl)
theorem sp10_btf_rightMemberNames_v3_L0_0_ok (h : lpO (st_btf_rightMemberNames_v3_L0 w1 w2) (.c0) = some (.e10 )) : SpcG Tryd.prog M B0 S ⟨fun ls => .code (.loop bd_btf_rightMemberNames_v3_L0) (t0_btf_rightMemberNames_v3_L0_0 w0 w1 w2  ls), pre_btf_rightMemberNames_v3_L0_0 w0 w1 w2 , 1, (.exit 0), fun ls => vf_btf_rightMemberNames_v3_L0 w0 w1 w2 (.e10 ) (ls.take 3 ++ ls.drop 3), fun ls => (Hf_btf_rightMemberNames_v3_L0 w0 w1 w2 (.e10 ) (ls.take 3 ++ ls.drop 3)).take 3 ++ List.replicate 0 unb, fun ls => (Hf_btf_rightMemberNames_v3_L0 w0 w1 w2 (.e10 ) (ls.take 3 ++ ls.drop 3)).drop 3⟩ :=
  spc_of_goesM hU 0 (k0 := 3) (go_btf_rightMemberNames_v3_L0 hU w0 w1 w2 _ _ h) (t0_btf_rightMemberNames_v3_L0_0 w0 w1 w2 ) (pre_btf_rightMemberNames_v3_L0_0 w0 w1 w2 ) (fun _ => rfl) (fun ls h => by match ls, h with | [l0, l1, l2], _ => exact ⟨by kernel_rfl, by kernel_rfl⟩) (fun ls h => by match ls, h with | [l0, l1, l2], _ => rfl) (by decide) (by decide) (fun ls => rfl)
theorem sp11_btf_rightMemberNames_v3_L0_0_ok (h : lpO (st_btf_rightMemberNames_v3_L0 w1 w2) (.c0) = some (.e11 )) : SpcG Tryd.prog M B0 S ⟨fun ls => .code (.loop bd_btf_rightMemberNames_v3_L0) (t0_btf_rightMemberNames_v3_L0_0 w0 w1 w2  ls), pre_btf_rightMemberNames_v3_L0_0 w0 w1 w2 , 1, (.exit 0), fun ls => vf_btf_rightMemberNames_v3_L0 w0 w1 w2 (.e11 ) (ls.take 3 ++ ls.drop 3), fun ls => (Hf_btf_rightMemberNames_v3_L0 w0 w1 w2 (.e11 ) (ls.take 3 ++ ls.drop 3)).take 3 ++ List.replicate 0 unb, fun ls => (Hf_btf_rightMemberNames_v3_L0 w0 w1 w2 (.e11 ) (ls.take 3 ++ ls.drop 3)).drop 3⟩ :=
  spc_of_goesM hU 0 (k0 := 3) (go_btf_rightMemberNames_v3_L0 hU w0 w1 w2 _ _ h) (t0_btf_rightMemberNames_v3_L0_0 w0 w1 w2 ) (pre_btf_rightMemberNames_v3_L0_0 w0 w1 w2 ) (fun _ => rfl) (fun ls h => by match ls, h with | [l0, l1, l2], _ => exact ⟨by kernel_rfl, by kernel_rfl⟩) (fun ls h => by match ls, h with | [l0, l1, l2], _ => rfl) (by decide) (by decide) (fun ls => rfl)
theorem sp12_btf_rightMemberNames_v3_L0_0_ok (h : lpO (st_btf_rightMemberNames_v3_L0 w1 w2) (.c0) = some (.e12 )) : SpcG Tryd.prog M B0 S ⟨fun ls => .code (.loop bd_btf_rightMemberNames_v3_L0) (t0_btf_rightMemberNames_v3_L0_0 w0 w1 w2  ls), pre_btf_rightMemberNames_v3_L0_0 w0 w1 w2 , 1, (.exit 0), fun ls => vf_btf_rightMemberNames_v3_L0 w0 w1 w2 (.e12 ) (ls.take 3 ++ ls.drop 3), fun ls => (Hf_btf_rightMemberNames_v3_L0 w0 w1 w2 (.e12 ) (ls.take 3 ++ ls.drop 3)).take 3 ++ List.replicate 0 unb, fun ls => (Hf_btf_rightMemberNames_v3_L0 w0 w1 w2 (.e12 ) (ls.take 3 ++ ls.drop 3)).drop 3⟩ :=
  spc_of_goesM hU 0 (k0 := 3) (go_btf_rightMemberNames_v3_L0 hU w0 w1 w2 _ _ h) (t0_btf_rightMemberNames_v3_L0_0 w0 w1 w2 ) (pre_btf_rightMemberNames_v3_L0_0 w0 w1 w2 ) (fun _ => rfl) (fun ls h => by match ls, h with | [l0, l1, l2], _ => exact ⟨by kernel_rfl, by kernel_rfl⟩) (fun ls h => by match ls, h with | [l0, l1, l2], _ => rfl) (by decide) (by decide) (fun ls => rfl)
theorem sp13_btf_rightMemberNames_v3_L0_0_ok (h : lpO (st_btf_rightMemberNames_v3_L0 w1 w2) (.c0) = some (.e13 )) : SpcG Tryd.prog M B0 S ⟨fun ls => .code (.loop bd_btf_rightMemberNames_v3_L0) (t0_btf_rightMemberNames_v3_L0_0 w0 w1 w2  ls), pre_btf_rightMemberNames_v3_L0_0 w0 w1 w2 , 1, (.exit 0), fun ls => vf_btf_rightMemberNames_v3_L0 w0 w1 w2 (.e13 ) (ls.take 3 ++ ls.drop 3), fun ls => (Hf_btf_rightMemberNames_v3_L0 w0 w1 w2 (.e13 ) (ls.take 3 ++ ls.drop 3)).take 3 ++ List.replicate 0 unb, fun ls => (Hf_btf_rightMemberNames_v3_L0 w0 w1 w2 (.e13 ) (ls.take 3 ++ ls.drop 3)).drop 3⟩ :=
  spc_of_goesM hU 0 (k0 := 3) (go_btf_rightMemberNames_v3_L0 hU w0 w1 w2 _ _ h) (t0_btf_rightMemberNames_v3_L0_0 w0 w1 w2 ) (pre_btf_rightMemberNames_v3_L0_0 w0 w1 w2 ) (fun _ => rfl) (fun ls h => by match ls, h with | [l0, l1, l2], _ => exact ⟨by kernel_rfl, by kernel_rfl⟩) (fun ls h => by match ls, h with | [l0, l1, l2], _ => rfl) (by decide) (by decide) (fun ls => rfl)
theorem sp14_btf_rightMemberNames_v3_L0_0_ok (h : lpO (st_btf_rightMemberNames_v3_L0 w1 w2) (.c0) = some (.e14 )) : SpcG Tryd.prog M B0 S ⟨fun ls => .code (.loop bd_btf_rightMemberNames_v3_L0) (t0_btf_rightMemberNames_v3_L0_0 w0 w1 w2  ls), pre_btf_rightMemberNames_v3_L0_0 w0 w1 w2 , 1, (.exit 0), fun ls => vf_btf_rightMemberNames_v3_L0 w0 w1 w2 (.e14 ) (ls.take 3 ++ ls.drop 3), fun ls => (Hf_btf_rightMemberNames_v3_L0 w0 w1 w2 (.e14 ) (ls.take 3 ++ ls.drop 3)).take 3 ++ List.replicate 0 unb, fun ls => (Hf_btf_rightMemberNames_v3_L0 w0 w1 w2 (.e14 ) (ls.take 3 ++ ls.drop 3)).drop 3⟩ :=
  spc_of_goesM hU 0 (k0 := 3) (go_btf_rightMemberNames_v3_L0 hU w0 w1 w2 _ _ h) (t0_btf_rightMemberNames_v3_L0_0 w0 w1 w2 ) (pre_btf_rightMemberNames_v3_L0_0 w0 w1 w2 ) (fun _ => rfl) (fun ls h => by match ls, h with | [l0, l1, l2], _ => exact ⟨by kernel_rfl, by kernel_rfl⟩) (fun ls h => by match ls, h with | [l0, l1, l2], _ => rfl) (by decide) (by decide) (fun ls => rfl)
theorem sp15_btf_rightMemberNames_v3_L0_0_ok (h : lpO (st_btf_rightMemberNames_v3_L0 w1 w2) (.c0) = some (.e15 )) : SpcG Tryd.prog M B0 S ⟨fun ls => .code (.loop bd_btf_rightMemberNames_v3_L0) (t0_btf_rightMemberNames_v3_L0_0 w0 w1 w2  ls), pre_btf_rightMemberNames_v3_L0_0 w0 w1 w2 , 1, (.exit 0), fun ls => vf_btf_rightMemberNames_v3_L0 w0 w1 w2 (.e15 ) (ls.take 3 ++ ls.drop 3), fun ls => (Hf_btf_rightMemberNames_v3_L0 w0 w1 w2 (.e15 ) (ls.take 3 ++ ls.drop 3)).take 3 ++ List.replicate 0 unb, fun ls => (Hf_btf_rightMemberNames_v3_L0 w0 w1 w2 (.e15 ) (ls.take 3 ++ ls.drop 3)).drop 3⟩ :=
  spc_of_goesM hU 0 (k0 := 3) (go_btf_rightMemberNames_v3_L0 hU w0 w1 w2 _ _ h) (t0_btf_rightMemberNames_v3_L0_0 w0 w1 w2 ) (pre_btf_rightMemberNames_v3_L0_0 w0 w1 w2 ) (fun _ => rfl) (fun ls h => by match ls, h with | [l0, l1, l2], _ => exact ⟨by kernel_rfl, by kernel_rfl⟩) (fun ls h => by match ls, h with | [l0, l1, l2], _ => rfl) (by decide) (by decide) (fun ls => rfl)
theorem sp16_btf_rightMemberNames_v3_L0_0_ok (h : lpO (st_btf_rightMemberNames_v3_L0 w1 w2) (.c0) = some (.e16 )) : SpcG Tryd.prog M B0 S ⟨fun ls => .code (.loop bd_btf_rightMemberNames_v3_L0) (t0_btf_rightMemberNames_v3_L0_0 w0 w1 w2  ls), pre_btf_rightMemberNames_v3_L0_0 w0 w1 w2 , 1, (.exit 0), fun ls => vf_btf_rightMemberNames_v3_L0 w0 w1 w2 (.e16 ) (ls.take 3 ++ ls.drop 3), fun ls => (Hf_btf_rightMemberNames_v3_L0 w0 w1 w2 (.e16 ) (ls.take 3 ++ ls.drop 3)).take 3 ++ List.replicate 0 unb, fun ls => (Hf_btf_rightMemberNames_v3_L0 w0 w1 w2 (.e16 ) (ls.take 3 ++ ls.drop 3)).drop 3⟩ :=
  spc_of_goesM hU 0 (k0 := 3) (go_btf_rightMemberNames_v3_L0 hU w0 w1 w2 _ _ h) (t0_btf_rightMemberNames_v3_L0_0 w0 w1 w2 ) (pre_btf_rightMemberNames_v3_L0_0 w0 w1 w2 ) (fun _ => rfl) (fun ls h => by match ls, h with | [l0, l1, l2], _ => exact ⟨by kernel_rfl, by kernel_rfl⟩) (fun ls h => by match ls, h with | [l0, l1, l2], _ => rfl) (by decide) (by decide) (fun ls => rfl)
theorem sp17_btf_rightMemberNames_v3_L0_0_ok (h : lpO (st_btf_rightMemberNames_v3_L0 w1 w2) (.c0) = some (.e17 )) : SpcG Tryd.prog M B0 S ⟨fun ls => .code (.loop bd_btf_rightMemberNames_v3_L0) (t0_btf_rightMemberNames_v3_L0_0 w0 w1 w2  ls), pre_btf_rightMemberNames_v3_L0_0 w0 w1 w2 , 1, (.exit 0), fun ls => vf_btf_rightMemberNames_v3_L0 w0 w1 w2 (.e17 ) (ls.take 3 ++ ls.drop 3), fun ls => (Hf_btf_rightMemberNames_v3_L0 w0 w1 w2 (.e17 ) (ls.take 3 ++ ls.drop 3)).take 3 ++ List.replicate 0 unb, fun ls => (Hf_btf_rightMemberNames_v3_L0 w0 w1 w2 (.e17 ) (ls.take 3 ++ ls.drop 3)).drop 3⟩ :=
  spc_of_goesM hU 0 (k0 := 3) (go_btf_rightMemberNames_v3_L0 hU w0 w1 w2 _ _ h) (t0_btf_rightMemberNames_v3_L0_0 w0 w1 w2 ) (pre_btf_rightMemberNames_v3_L0_0 w0 w1 w2 ) (fun _ => rfl) (fun ls h => by match ls, h with | [l0, l1, l2], _ => exact ⟨by kernel_rfl, by kernel_rfl⟩) (fun ls h => by match ls, h with | [l0, l1, l2], _ => rfl) (by decide) (by decide) (fun ls => rfl)
theorem sp18_btf_rightMemberNames_v3_L0_0_ok (h : lpO (st_btf_rightMemberNames_v3_L0 w1 w2) (.c0) = some (.e18 )) : SpcG Tryd.prog M B0 S ⟨fun ls => .code (.loop bd_btf_rightMemberNames_v3_L0) (t0_btf_rightMemberNames_v3_L0_0 w0 w1 w2  ls), pre_btf_rightMemberNames_v3_L0_0 w0 w1 w2 , 1, (.exit 0), fun ls => vf_btf_rightMemberNames_v3_L0 w0 w1 w2 (.e18 ) (ls.take 3 ++ ls.drop 3), fun ls => (Hf_btf_rightMemberNames_v3_L0 w0 w1 w2 (.e18 ) (ls.take 3 ++ ls.drop 3)).take 3 ++ List.replicate 0 unb, fun ls => (Hf_btf_rightMemberNames_v3_L0 w0 w1 w2 (.e18 ) (ls.take 3 ++ ls.drop 3)).drop 3⟩ :=
  spc_of_goesM hU 0 (k0 := 3) (go_btf_rightMemberNames_v3_L0 hU w0 w1 w2 _ _ h) (t0_btf_rightMemberNames_v3_L0_0 w0 w1 w2 ) (pre_btf_rightMemberNames_v3_L0_0 w0 w1 w2 ) (fun _ => rfl) (fun ls h => by match ls, h with | [l0, l1, l2], _ => exact ⟨by kernel_rfl, by kernel_rfl⟩) (fun ls h => by match ls, h with | [l0, l1, l2], _ => rfl) (by decide) (by decide) (fun ls => rfl)
theorem sp19_btf_rightMemberNames_v3_L0_0_ok (h : lpO (st_btf_rightMemberNames_v3_L0 w1 w2) (.c0) = some (.e19 )) : SpcG Tryd.prog M B0 S ⟨fun ls => .code (.loop bd_btf_rightMemberNames_v3_L0) (t0_btf_rightMemberNames_v3_L0_0 w0 w1 w2  ls), pre_btf_rightMemberNames_v3_L0_0 w0 w1 w2 , 1, (.exit 0), fun ls => vf_btf_rightMemberNames_v3_L0 w0 w1 w2 (.e19 ) (ls.take 3 ++ ls.drop 3), fun ls => (Hf_btf_rightMemberNames_v3_L0 w0 w1 w2 (.e19 ) (ls.take 3 ++ ls.drop 3)).take 3 ++ List.replicate 0 unb, fun ls => (Hf_btf_rightMemberNames_v3_L0 w0 w1 w2 (.e19 ) (ls.take 3 ++ ls.drop 3)).drop 3⟩ :=
  spc_of_goesM hU 0 (k0 := 3) (go_btf_rightMemberNames_v3_L0 hU w0 w1 w2 _ _ h) (t0_btf_rightMemberNames_v3_L0_0 w0 w1 w2 ) (pre_btf_rightMemberNames_v3_L0_0 w0 w1 w2 ) (fun _ => rfl) (fun ls h => by match ls, h with | [l0, l1, l2], _ => exact ⟨by kernel_rfl, by kernel_rfl⟩) (fun ls h => by match ls, h with | [l0, l1, l2], _ => rfl) (by decide) (by decide) (fun ls => rfl)
theorem sp20_btf_rightMemberNames_v3_L0_0_ok (h : lpO (st_btf_rightMemberNames_v3_L0 w1 w2) (.c0) = some (.e20 )) : SpcG Tryd.prog M B0 S ⟨fun ls => .code (.loop bd_btf_rightMemberNames_v3_L0) (t0_btf_rightMemberNames_v3_L0_0 w0 w1 w2  ls), pre_btf_rightMemberNames_v3_L0_0 w0 w1 w2 , 1, (.exit 0), fun ls => vf_btf_rightMemberNames_v3_L0 w0 w1 w2 (.e20 ) (ls.take 3 ++ ls.drop 3), fun ls => (Hf_btf_rightMemberNames_v3_L0 w0 w1 w2 (.e20 ) (ls.take 3 ++ ls.drop 3)).take 3 ++ List.replicate 0 unb, fun ls => (Hf_btf_rightMemberNames_v3_L0 w0 w1 w2 (.e20 ) (ls.take 3 ++ ls.drop 3)).drop 3⟩ :=
  spc_of_goesM hU 0 (k0 := 3) (go_btf_rightMemberNames_v3_L0 hU w0 w1 w2 _ _ h) (t0_btf_rightMemberNames_v3_L0_0 w0 w1 w2 ) (pre_btf_rightMemberNames_v3_L0_0 w0 w1 w2 ) (fun _ => rfl) (fun ls h => by match ls, h with | [l0, l1, l2], _ => exact ⟨by kernel_rfl, by kernel_rfl⟩) (fun ls h => by match ls, h with | [l0, l1, l2], _ => rfl) (by decide) (by decide) (fun ls => rfl)
theorem sp21_btf_rightMemberNames_v3_L0_0_ok (h : lpO (st_btf_rightMemberNames_v3_L0 w1 w2) (.c0) = some (.e21 )) : SpcG Tryd.prog M B0 S ⟨fun ls => .code (.loop bd_btf_rightMemberNames_v3_L0) (t0_btf_rightMemberNames_v3_L0_0 w0 w1 w2  ls), pre_btf_rightMemberNames_v3_L0_0 w0 w1 w2 , 1, (.exit 0), fun ls => vf_btf_rightMemberNames_v3_L0 w0 w1 w2 (.e21 ) (ls.take 3 ++ ls.drop 3), fun ls => (Hf_btf_rightMemberNames_v3_L0 w0 w1 w2 (.e21 ) (ls.take 3 ++ ls.drop 3)).take 3 ++ List.replicate 0 unb, fun ls => (Hf_btf_rightMemberNames_v3_L0 w0 w1 w2 (.e21 ) (ls.take 3 ++ ls.drop 3)).drop 3⟩ :=
  spc_of_goesM hU 0 (k0 := 3) (go_btf_rightMemberNames_v3_L0 hU w0 w1 w2 _ _ h) (t0_btf_rightMemberNames_v3_L0_0 w0 w1 w2 ) (pre_btf_rightMemberNames_v3_L0_0 w0 w1 w2 ) (fun _ => rfl) (fun ls h => by match ls, h with | [l0, l1, l2], _ => exact ⟨by kernel_rfl, by kernel_rfl⟩) (fun ls h => by match ls, h with | [l0, l1, l2], _ => rfl) (by decide) (by decide) (fun ls => rfl)
theorem sp22_btf_rightMemberNames_v3_L0_0_ok (h : lpO (st_btf_rightMemberNames_v3_L0 w1 w2) (.c0) = some (.e22 )) : SpcG Tryd.prog M B0 S ⟨fun ls => .code (.loop bd_btf_rightMemberNames_v3_L0) (t0_btf_rightMemberNames_v3_L0_0 w0 w1 w2  ls), pre_btf_rightMemberNames_v3_L0_0 w0 w1 w2 , 1, (.exit 0), fun ls => vf_btf_rightMemberNames_v3_L0 w0 w1 w2 (.e22 ) (ls.take 3 ++ ls.drop 3), fun ls => (Hf_btf_rightMemberNames_v3_L0 w0 w1 w2 (.e22 ) (ls.take 3 ++ ls.drop 3)).take 3 ++ List.replicate 0 unb, fun ls => (Hf_btf_rightMemberNames_v3_L0 w0 w1 w2 (.e22 ) (ls.take 3 ++ ls.drop 3)).drop 3⟩ :=
  spc_of_goesM hU 0 (k0 := 3) (go_btf_rightMemberNames_v3_L0 hU w0 w1 w2 _ _ h) (t0_btf_rightMemberNames_v3_L0_0 w0 w1 w2 ) (pre_btf_rightMemberNames_v3_L0_0 w0 w1 w2 ) (fun _ => rfl) (fun ls h => by match ls, h with | [l0, l1, l2], _ => exact ⟨by kernel_rfl, by kernel_rfl⟩) (fun ls h => by match ls, h with | [l0, l1, l2], _ => rfl) (by decide) (by decide) (fun ls => rfl)
theorem sp23_btf_rightMemberNames_v3_L0_0_ok (h : lpO (st_btf_rightMemberNames_v3_L0 w1 w2) (.c0) = some (.e23 )) : SpcG Tryd.prog M B0 S ⟨fun ls => .code (.loop bd_btf_rightMemberNames_v3_L0) (t0_btf_rightMemberNames_v3_L0_0 w0 w1 w2  ls), pre_btf_rightMemberNames_v3_L0_0 w0 w1 w2 , 1, (.exit 0), fun ls => vf_btf_rightMemberNames_v3_L0 w0 w1 w2 (.e23 ) (ls.take 3 ++ ls.drop 3), fun ls => (Hf_btf_rightMemberNames_v3_L0 w0 w1 w2 (.e23 ) (ls.take 3 ++ ls.drop 3)).take 3 ++ List.replicate 0 unb, fun ls => (Hf_btf_rightMemberNames_v3_L0 w0 w1 w2 (.e23 ) (ls.take 3 ++ ls.drop 3)).drop 3⟩ :=
  spc_of_goesM hU 0 (k0 := 3) (go_btf_rightMemberNames_v3_L0 hU w0 w1 w2 _ _ h) (t0_btf_rightMemberNames_v3_L0_0 w0 w1 w2 ) (pre_btf_rightMemberNames_v3_L0_0 w0 w1 w2 ) (fun _ => rfl) (fun ls h => by match ls, h with | [l0, l1, l2], _ => exact ⟨by kernel_rfl, by kernel_rfl⟩) (fun ls h => by match ls, h with | [l0, l1, l2], _ => rfl) (by decide) (by decide) (fun ls => rfl)
theorem sp24_btf_rightMemberNames_v3_L0_0_ok (h : lpO (st_btf_rightMemberNames_v3_L0 w1 w2) (.c0) = some (.e24 )) : SpcG Tryd.prog M B0 S ⟨fun ls => .code (.loop bd_btf_rightMemberNames_v3_L0) (t0_btf_rightMemberNames_v3_L0_0 w0 w1 w2  ls), pre_btf_rightMemberNames_v3_L0_0 w0 w1 w2 , 1, (.exit 0), fun ls => vf_btf_rightMemberNames_v3_L0 w0 w1 w2 (.e24 ) (ls.take 3 ++ ls.drop 3), fun ls => (Hf_btf_rightMemberNames_v3_L0 w0 w1 w2 (.e24 ) (ls.take 3 ++ ls.drop 3)).take 3 ++ List.replicate 0 unb, fun ls => (Hf_btf_rightMemberNames_v3_L0 w0 w1 w2 (.e24 ) (ls.take 3 ++ ls.drop 3)).drop 3⟩ :=
  spc_of_goesM hU 0 (k0 := 3) (go_btf_rightMemberNames_v3_L0 hU w0 w1 w2 _ _ h) (t0_btf_rightMemberNames_v3_L0_0 w0 w1 w2 ) (pre_btf_rightMemberNames_v3_L0_0 w0 w1 w2 ) (fun _ => rfl) (fun ls h => by match ls, h with | [l0, l1, l2], _ => exact ⟨by kernel_rfl, by kernel_rfl⟩) (fun ls h => by match ls, h with | [l0, l1, l2], _ => rfl) (by decide) (by decide) (fun ls => rfl)
theorem sp25_btf_rightMemberNames_v3_L0_0_ok (h : lpO (st_btf_rightMemberNames_v3_L0 w1 w2) (.c0) = some (.e25 )) : SpcG Tryd.prog M B0 S ⟨fun ls => .code (.loop bd_btf_rightMemberNames_v3_L0) (t0_btf_rightMemberNames_v3_L0_0 w0 w1 w2  ls), pre_btf_rightMemberNames_v3_L0_0 w0 w1 w2 , 1, (.exit 0), fun ls => vf_btf_rightMemberNames_v3_L0 w0 w1 w2 (.e25 ) (ls.take 3 ++ ls.drop 3), fun ls => (Hf_btf_rightMemberNames_v3_L0 w0 w1 w2 (.e25 ) (ls.take 3 ++ ls.drop 3)).take 3 ++ List.replicate 0 unb, fun ls => (Hf_btf_rightMemberNames_v3_L0 w0 w1 w2 (.e25 ) (ls.take 3 ++ ls.drop 3)).drop 3⟩ :=
  spc_of_goesM hU 0 (k0 := 3) (go_btf_rightMemberNames_v3_L0 hU w0 w1 w2 _ _ h) (t0_btf_rightMemberNames_v3_L0_0 w0 w1 w2 ) (pre_btf_rightMemberNames_v3_L0_0 w0 w1 w2 ) (fun _ => rfl) (fun ls h => by match ls, h with | [l0, l1, l2], _ => exact ⟨by kernel_rfl, by kernel_rfl⟩) (fun ls h => by match ls, h with | [l0, l1, l2], _ => rfl) (by decide) (by decide) (fun ls => rfl)
theorem sp26_btf_rightMemberNames_v3_L0_0_ok (h : lpO (st_btf_rightMemberNames_v3_L0 w1 w2) (.c0) = some (.e26 )) : SpcG Tryd.prog M B0 S ⟨fun ls => .code (.loop bd_btf_rightMemberNames_v3_L0) (t0_btf_rightMemberNames_v3_L0_0 w0 w1 w2  ls), pre_btf_rightMemberNames_v3_L0_0 w0 w1 w2 , 1, (.exit 0), fun ls => vf_btf_rightMemberNames_v3_L0 w0 w1 w2 (.e26 ) (ls.take 3 ++ ls.drop 3), fun ls => (Hf_btf_rightMemberNames_v3_L0 w0 w1 w2 (.e26 ) (ls.take 3 ++ ls.drop 3)).take 3 ++ List.replicate 0 unb, fun ls => (Hf_btf_rightMemberNames_v3_L0 w0 w1 w2 (.e26 ) (ls.take 3 ++ ls.drop 3)).drop 3⟩ :=
  spc_of_goesM hU 0 (k0 := 3) (go_btf_rightMemberNames_v3_L0 hU w0 w1 w2 _ _ h) (t0_btf_rightMemberNames_v3_L0_0 w0 w1 w2 ) (pre_btf_rightMemberNames_v3_L0_0 w0 w1 w2 ) (fun _ => rfl) (fun ls h => by match ls, h with | [l0, l1, l2], _ => exact ⟨by kernel_rfl, by kernel_rfl⟩) (fun ls h => by match ls, h with | [l0, l1, l2], _ => rfl) (by decide) (by decide) (fun ls => rfl)
theorem sp27_btf_rightMemberNames_v3_L0_0_ok (h : lpO (st_btf_rightMemberNames_v3_L0 w1 w2) (.c0) = some (.e27 )) : SpcG Tryd.prog M B0 S ⟨fun ls => .code (.loop bd_btf_rightMemberNames_v3_L0) (t0_btf_rightMemberNames_v3_L0_0 w0 w1 w2  ls), pre_btf_rightMemberNames_v3_L0_0 w0 w1 w2 , 1, (.exit 0), fun ls => vf_btf_rightMemberNames_v3_L0 w0 w1 w2 (.e27 ) (ls.take 3 ++ ls.drop 3), fun ls => (Hf_btf_rightMemberNames_v3_L0 w0 w1 w2 (.e27 ) (ls.take 3 ++ ls.drop 3)).take 3 ++ List.replicate 0 unb, fun ls => (Hf_btf_rightMemberNames_v3_L0 w0 w1 w2 (.e27 ) (ls.take 3 ++ ls.drop 3)).drop 3⟩ :=
  spc_of_goesM hU 0 (k0 := 3) (go_btf_rightMemberNames_v3_L0 hU w0 w1 w2 _ _ h) (t0_btf_rightMemberNames_v3_L0_0 w0 w1 w2 ) (pre_btf_rightMemberNames_v3_L0_0 w0 w1 w2 ) (fun _ => rfl) (fun ls h => by match ls, h with | [l0, l1, l2], _ => exact ⟨by kernel_rfl, by kernel_rfl⟩) (fun ls h => by match ls, h with | [l0, l1, l2], _ => rfl) (by decide) (by decide) (fun ls => rfl)
theorem sp28_btf_rightMemberNames_v3_L0_0_ok (h : lpO (st_btf_rightMemberNames_v3_L0 w1 w2) (.c0) = some (.e28 )) : SpcG Tryd.prog M B0 S ⟨fun ls => .code (.loop bd_btf_rightMemberNames_v3_L0) (t0_btf_rightMemberNames_v3_L0_0 w0 w1 w2  ls), pre_btf_rightMemberNames_v3_L0_0 w0 w1 w2 , 1, (.exit 0), fun ls => vf_btf_rightMemberNames_v3_L0 w0 w1 w2 (.e28 ) (ls.take 3 ++ ls.drop 3), fun ls => (Hf_btf_rightMemberNames_v3_L0 w0 w1 w2 (.e28 ) (ls.take 3 ++ ls.drop 3)).take 3 ++ List.replicate 0 unb, fun ls => (Hf_btf_rightMemberNames_v3_L0 w0 w1 w2 (.e28 ) (ls.take 3 ++ ls.drop 3)).drop 3⟩ :=
  spc_of_goesM hU 0 (k0 := 3) (go_btf_rightMemberNames_v3_L0 hU w0 w1 w2 _ _ h) (t0_btf_rightMemberNames_v3_L0_0 w0 w1 w2 ) (pre_btf_rightMemberNames_v3_L0_0 w0 w1 w2 ) (fun _ => rfl) (fun ls h => by match ls, h with | [l0, l1, l2], _ => exact ⟨by kernel_rfl, by kernel_rfl⟩) (fun ls h => by match ls, h with | [l0, l1, l2], _ => rfl) (by decide) (by decide) (fun ls => rfl)
theorem sp29_btf_rightMemberNames_v3_L0_0_ok (h : lpO (st_btf_rightMemberNames_v3_L0 w1 w2) (.c0) = some (.e29 )) : SpcG Tryd.prog M B0 S ⟨fun ls => .code (.loop bd_btf_rightMemberNames_v3_L0) (t0_btf_rightMemberNames_v3_L0_0 w0 w1 w2  ls), pre_btf_rightMemberNames_v3_L0_0 w0 w1 w2 , 1, (.exit 0), fun ls => vf_btf_rightMemberNames_v3_L0 w0 w1 w2 (.e29 ) (ls.take 3 ++ ls.drop 3), fun ls => (Hf_btf_rightMemberNames_v3_L0 w0 w1 w2 (.e29 ) (ls.take 3 ++ ls.drop 3)).take 3 ++ List.replicate 0 unb, fun ls => (Hf_btf_rightMemberNames_v3_L0 w0 w1 w2 (.e29 ) (ls.take 3 ++ ls.drop 3)).drop 3⟩ :=
  spc_of_goesM hU 0 (k0 := 3) (go_btf_rightMemberNames_v3_L0 hU w0 w1 w2 _ _ h) (t0_btf_rightMemberNames_v3_L0_0 w0 w1 w2 ) (pre_btf_rightMemberNames_v3_L0_0 w0 w1 w2 ) (fun _ => rfl) (fun ls h => by match ls, h with | [l0, l1, l2], _ => exact ⟨by kernel_rfl, by kernel_rfl⟩) (fun ls h => by match ls, h with | [l0, l1, l2], _ => rfl) (by decide) (by decide) (fun ls => rfl)
theorem sp30_btf_rightMemberNames_v3_L0_0_ok (h : lpO (st_btf_rightMemberNames_v3_L0 w1 w2) (.c0) = some (.e30 )) : SpcG Tryd.prog M B0 S ⟨fun ls => .code (.loop bd_btf_rightMemberNames_v3_L0) (t0_btf_rightMemberNames_v3_L0_0 w0 w1 w2  ls), pre_btf_rightMemberNames_v3_L0_0 w0 w1 w2 , 1, (.exit 0), fun ls => vf_btf_rightMemberNames_v3_L0 w0 w1 w2 (.e30 ) (ls.take 3 ++ ls.drop 3), fun ls => (Hf_btf_rightMemberNames_v3_L0 w0 w1 w2 (.e30 ) (ls.take 3 ++ ls.drop 3)).take 3 ++ List.replicate 0 unb, fun ls => (Hf_btf_rightMemberNames_v3_L0 w0 w1 w2 (.e30 ) (ls.take 3 ++ ls.drop 3)).drop 3⟩ :=
  spc_of_goesM hU 0 (k0 := 3) (go_btf_rightMemberNames_v3_L0 hU w0 w1 w2 _ _ h) (t0_btf_rightMemberNames_v3_L0_0 w0 w1 w2 ) (pre_btf_rightMemberNames_v3_L0_0 w0 w1 w2 ) (fun _ => rfl) (fun ls h => by match ls, h with | [l0, l1, l2], _ => exact ⟨by kernel_rfl, by kernel_rfl⟩) (fun ls h => by match ls, h with | [l0, l1, l2], _ => rfl) (by decide) (by decide) (fun ls => rfl)
theorem sp31_btf_rightMemberNames_v3_L0_0_ok (h : lpO (st_btf_rightMemberNames_v3_L0 w1 w2) (.c0) = some (.e31 )) : SpcG Tryd.prog M B0 S ⟨fun ls => .code (.loop bd_btf_rightMemberNames_v3_L0) (t0_btf_rightMemberNames_v3_L0_0 w0 w1 w2  ls), pre_btf_rightMemberNames_v3_L0_0 w0 w1 w2 , 1, (.exit 0), fun ls => vf_btf_rightMemberNames_v3_L0 w0 w1 w2 (.e31 ) (ls.take 3 ++ ls.drop 3), fun ls => (Hf_btf_rightMemberNames_v3_L0 w0 w1 w2 (.e31 ) (ls.take 3 ++ ls.drop 3)).take 3 ++ List.replicate 0 unb, fun ls => (Hf_btf_rightMemberNames_v3_L0 w0 w1 w2 (.e31 ) (ls.take 3 ++ ls.drop 3)).drop 3⟩ :=
  spc_of_goesM hU 0 (k0 := 3) (go_btf_rightMemberNames_v3_L0 hU w0 w1 w2 _ _ h) (t0_btf_rightMemberNames_v3_L0_0 w0 w1 w2 ) (pre_btf_rightMemberNames_v3_L0_0 w0 w1 w2 ) (fun _ => rfl) (fun ls h => by match ls, h with | [l0, l1, l2], _ => exact ⟨by kernel_rfl, by kernel_rfl⟩) (fun ls h => by match ls, h with | [l0, l1, l2], _ => rfl) (by decide) (by decide) (fun ls => rfl)
theorem sp32_btf_rightMemberNames_v3_L0_0_ok (h : lpO (st_btf_rightMemberNames_v3_L0 w1 w2) (.c0) = some (.e32 )) : SpcG Tryd.prog M B0 S ⟨fun ls => .code (.loop bd_btf_rightMemberNames_v3_L0) (t0_btf_rightMemberNames_v3_L0_0 w0 w1 w2  ls), pre_btf_rightMemberNames_v3_L0_0 w0 w1 w2 , 1, (.exit 0), fun ls => vf_btf_rightMemberNames_v3_L0 w0 w1 w2 (.e32 ) (ls.take 3 ++ ls.drop 3), fun ls => (Hf_btf_rightMemberNames_v3_L0 w0 w1 w2 (.e32 ) (ls.take 3 ++ ls.drop 3)).take 3 ++ List.replicate 0 unb, fun ls => (Hf_btf_rightMemberNames_v3_L0 w0 w1 w2 (.e32 ) (ls.take 3 ++ ls.drop 3)).drop 3⟩ :=
  spc_of_goesM hU 0 (k0 := 3) (go_btf_rightMemberNames_v3_L0 hU w0 w1 w2 _ _ h) (t0_btf_rightMemberNames_v3_L0_0 w0 w1 w2 ) (pre_btf_rightMemberNames_v3_L0_0 w0 w1 w2 ) (fun _ => rfl) (fun ls h => by match ls, h with | [l0, l1, l2], _ => exact ⟨by kernel_rfl, by kernel_rfl⟩) (fun ls h => by match ls, h with | [l0, l1, l2], _ => rfl) (by decide) (by decide) (fun ls => rfl)
theorem sp33_btf_rightMemberNames_v3_L0_0_ok (h : lpO (st_btf_rightMemberNames_v3_L0 w1 w2) (.c0) = some (.e33 )) : SpcG Tryd.prog M B0 S ⟨fun ls => .code (.loop bd_btf_rightMemberNames_v3_L0) (t0_btf_rightMemberNames_v3_L0_0 w0 w1 w2  ls), pre_btf_rightMemberNames_v3_L0_0 w0 w1 w2 , 1, (.exit 0), fun ls => vf_btf_rightMemberNames_v3_L0 w0 w1 w2 (.e33 ) (ls.take 3 ++ ls.drop 3), fun ls => (Hf_btf_rightMemberNames_v3_L0 w0 w1 w2 (.e33 ) (ls.take 3 ++ ls.drop 3)).take 3 ++ List.replicate 0 unb, fun ls => (Hf_btf_rightMemberNames_v3_L0 w0 w1 w2 (.e33 ) (ls.take 3 ++ ls.drop 3)).drop 3⟩ :=
  spc_of_goesM hU 0 (k0 := 3) (go_btf_rightMemberNames_v3_L0 hU w0 w1 w2 _ _ h) (t0_btf_rightMemberNames_v3_L0_0 w0 w1 w2 ) (pre_btf_rightMemberNames_v3_L0_0 w0 w1 w2 ) (fun _ => rfl) (fun ls h => by match ls, h with | [l0, l1, l2], _ => exact ⟨by kernel_rfl, by kernel_rfl⟩) (fun ls h => by match ls, h with | [l0, l1, l2], _ => rfl) (by decide) (by decide) (fun ls => rfl)
theorem sp34_btf_rightMemberNames_v3_L0_0_ok (h : lpO (st_btf_rightMemberNames_v3_L0 w1 w2) (.c0) = some (.e34 )) : SpcG Tryd.prog M B0 S ⟨fun ls => .code (.loop bd_btf_rightMemberNames_v3_L0) (t0_btf_rightMemberNames_v3_L0_0 w0 w1 w2  ls), pre_btf_rightMemberNames_v3_L0_0 w0 w1 w2 , 1, (.exit 0), fun ls => vf_btf_rightMemberNames_v3_L0 w0 w1 w2 (.e34 ) (ls.take 3 ++ ls.drop 3), fun ls => (Hf_btf_rightMemberNames_v3_L0 w0 w1 w2 (.e34 ) (ls.take 3 ++ ls.drop 3)).take 3 ++ List.replicate 0 unb, fun ls => (Hf_btf_rightMemberNames_v3_L0 w0 w1 w2 (.e34 ) (ls.take 3 ++ ls.drop 3)).drop 3⟩ :=
  spc_of_goesM hU 0 (k0 := 3) (go_btf_rightMemberNames_v3_L0 hU w0 w1 w2 _ _ h) (t0_btf_rightMemberNames_v3_L0_0 w0 w1 w2 ) (pre_btf_rightMemberNames_v3_L0_0 w0 w1 w2 ) (fun _ => rfl) (fun ls h => by match ls, h with | [l0, l1, l2], _ => exact ⟨by kernel_rfl, by kernel_rfl⟩) (fun ls h => by match ls, h with | [l0, l1, l2], _ => rfl) (by decide) (by decide) (fun ls => rfl)
theorem sp35_btf_rightMemberNames_v3_L0_0_ok (h : lpO (st_btf_rightMemberNames_v3_L0 w1 w2) (.c0) = some (.e35 )) : SpcG Tryd.prog M B0 S ⟨fun ls => .code (.loop bd_btf_rightMemberNames_v3_L0) (t0_btf_rightMemberNames_v3_L0_0 w0 w1 w2  ls), pre_btf_rightMemberNames_v3_L0_0 w0 w1 w2 , 1, (.exit 0), fun ls => vf_btf_rightMemberNames_v3_L0 w0 w1 w2 (.e35 ) (ls.take 3 ++ ls.drop 3), fun ls => (Hf_btf_rightMemberNames_v3_L0 w0 w1 w2 (.e35 ) (ls.take 3 ++ ls.drop 3)).take 3 ++ List.replicate 0 unb, fun ls => (Hf_btf_rightMemberNames_v3_L0 w0 w1 w2 (.e35 ) (ls.take 3 ++ ls.drop 3)).drop 3⟩ :=
  spc_of_goesM hU 0 (k0 := 3) (go_btf_rightMemberNames_v3_L0 hU w0 w1 w2 _ _ h) (t0_btf_rightMemberNames_v3_L0_0 w0 w1 w2 ) (pre_btf_rightMemberNames_v3_L0_0 w0 w1 w2 ) (fun _ => rfl) (fun ls h => by match ls, h with | [l0, l1, l2], _ => exact ⟨by kernel_rfl, by kernel_rfl⟩) (fun ls h => by match ls, h with | [l0, l1, l2], _ => rfl) (by decide) (by decide) (fun ls => rfl)
theorem sp36_btf_rightMemberNames_v3_L0_0_ok (h : lpO (st_btf_rightMemberNames_v3_L0 w1 w2) (.c0) = some (.e36 )) : SpcG Tryd.prog M B0 S ⟨fun ls => .code (.loop bd_btf_rightMemberNames_v3_L0) (t0_btf_rightMemberNames_v3_L0_0 w0 w1 w2  ls), pre_btf_rightMemberNames_v3_L0_0 w0 w1 w2 , 1, (.exit 0), fun ls => vf_btf_rightMemberNames_v3_L0 w0 w1 w2 (.e36 ) (ls.take 3 ++ ls.drop 3), fun ls => (Hf_btf_rightMemberNames_v3_L0 w0 w1 w2 (.e36 ) (ls.take 3 ++ ls.drop 3)).take 3 ++ List.replicate 0 unb, fun ls => (Hf_btf_rightMemberNames_v3_L0 w0 w1 w2 (.e36 ) (ls.take 3 ++ ls.drop 3)).drop 3⟩ :=
  spc_of_goesM hU 0 (k0 := 3) (go_btf_rightMemberNames_v3_L0 hU w0 w1 w2 _ _ h) (t0_btf_rightMemberNames_v3_L0_0 w0 w1 w2 ) (pre_btf_rightMemberNames_v3_L0_0 w0 w1 w2 ) (fun _ => rfl) (fun ls h => by match ls, h with | [l0, l1, l2], _ => exact ⟨by kernel_rfl, by kernel_rfl⟩) (fun ls h => by match ls, h with | [l0, l1, l2], _ => rfl) (by decide) (by decide) (fun ls => rfl)
theorem sp37_btf_rightMemberNames_v3_L0_0_ok (h : lpO (st_btf_rightMemberNames_v3_L0 w1 w2) (.c0) = some (.e37 )) : SpcG Tryd.prog M B0 S ⟨fun ls => .code (.loop bd_btf_rightMemberNames_v3_L0) (t0_btf_rightMemberNames_v3_L0_0 w0 w1 w2  ls), pre_btf_rightMemberNames_v3_L0_0 w0 w1 w2 , 1, (.exit 0), fun ls => vf_btf_rightMemberNames_v3_L0 w0 w1 w2 (.e37 ) (ls.take 3 ++ ls.drop 3), fun ls => (Hf_btf_rightMemberNames_v3_L0 w0 w1 w2 (.e37 ) (ls.take 3 ++ ls.drop 3)).take 3 ++ List.replicate 0 unb, fun ls => (Hf_btf_rightMemberNames_v3_L0 w0 w1 w2 (.e37 ) (ls.take 3 ++ ls.drop 3)).drop 3⟩ :=
  spc_of_goesM hU 0 (k0 := 3) (go_btf_rightMemberNames_v3_L0 hU w0 w1 w2 _ _ h) (t0_btf_rightMemberNames_v3_L0_0 w0 w1 w2 ) (pre_btf_rightMemberNames_v3_L0_0 w0 w1 w2 ) (fun _ => rfl) (fun ls h => by match ls, h with | [l0, l1, l2], _ => exact ⟨by kernel_rfl, by kernel_rfl⟩) (fun ls h => by match ls, h with | [l0, l1, l2], _ => rfl) (by decide) (by decide) (fun ls => rfl)
theorem sp38_btf_rightMemberNames_v3_L0_0_ok (h : lpO (st_btf_rightMemberNames_v3_L0 w1 w2) (.c0) = some (.e38 )) : SpcG Tryd.prog M B0 S ⟨fun ls => .code (.loop bd_btf_rightMemberNames_v3_L0) (t0_btf_rightMemberNames_v3_L0_0 w0 w1 w2  ls), pre_btf_rightMemberNames_v3_L0_0 w0 w1 w2 , 1, (.exit 0), fun ls => vf_btf_rightMemberNames_v3_L0 w0 w1 w2 (.e38 ) (ls.take 3 ++ ls.drop 3), fun ls => (Hf_btf_rightMemberNames_v3_L0 w0 w1 w2 (.e38 ) (ls.take 3 ++ ls.drop 3)).take 3 ++ List.replicate 0 unb, fun ls => (Hf_btf_rightMemberNames_v3_L0 w0 w1 w2 (.e38 ) (ls.take 3 ++ ls.drop 3)).drop 3⟩ :=
  spc_of_goesM hU 0 (k0 := 3) (go_btf_rightMemberNames_v3_L0 hU w0 w1 w2 _ _ h) (t0_btf_rightMemberNames_v3_L0_0 w0 w1 w2 ) (pre_btf_rightMemberNames_v3_L0_0 w0 w1 w2 ) (fun _ => rfl) (fun ls h => by match ls, h with | [l0, l1, l2], _ => exact ⟨by kernel_rfl, by kernel_rfl⟩) (fun ls h => by match ls, h with | [l0, l1, l2], _ => rfl) (by decide) (by decide) (fun ls => rfl)
theorem sp39_btf_rightMemberNames_v3_L0_0_ok (h : lpO (st_btf_rightMemberNames_v3_L0 w1 w2) (.c0) = some (.e39 )) : SpcG Tryd.prog M B0 S ⟨fun ls => .code (.loop bd_btf_rightMemberNames_v3_L0) (t0_btf_rightMemberNames_v3_L0_0 w0 w1 w2  ls), pre_btf_rightMemberNames_v3_L0_0 w0 w1 w2 , 1, (.exit 0), fun ls => vf_btf_rightMemberNames_v3_L0 w0 w1 w2 (.e39 ) (ls.take 3 ++ ls.drop 3), fun ls => (Hf_btf_rightMemberNames_v3_L0 w0 w1 w2 (.e39 ) (ls.take 3 ++ ls.drop 3)).take 3 ++ List.replicate 0 unb, fun ls => (Hf_btf_rightMemberNames_v3_L0 w0 w1 w2 (.e39 ) (ls.take 3 ++ ls.drop 3)).drop 3⟩ :=
  spc_of_goesM hU 0 (k0 := 3) (go_btf_rightMemberNames_v3_L0 hU w0 w1 w2 _ _ h) (t0_btf_rightMemberNames_v3_L0_0 w0 w1 w2 ) (pre_btf_rightMemberNames_v3_L0_0 w0 w1 w2 ) (fun _ => rfl) (fun ls h => by match ls, h with | [l0, l1, l2], _ => exact ⟨by kernel_rfl, by kernel_rfl⟩) (fun ls h => by match ls, h with | [l0, l1, l2], _ => rfl) (by decide) (by decide) (fun ls => rfl)
theorem sp40_btf_rightMemberNames_v3_L0_0_ok (h : lpO (st_btf_rightMemberNames_v3_L0 w1 w2) (.c0) = some (.e40 )) : SpcG Tryd.prog M B0 S ⟨fun ls => .code (.loop bd_btf_rightMemberNames_v3_L0) (t0_btf_rightMemberNames_v3_L0_0 w0 w1 w2  ls), pre_btf_rightMemberNames_v3_L0_0 w0 w1 w2 , 1, (.exit 0), fun ls => vf_btf_rightMemberNames_v3_L0 w0 w1 w2 (.e40 ) (ls.take 3 ++ ls.drop 3), fun ls => (Hf_btf_rightMemberNames_v3_L0 w0 w1 w2 (.e40 ) (ls.take 3 ++ ls.drop 3)).take 3 ++ List.replicate 0 unb, fun ls => (Hf_btf_rightMemberNames_v3_L0 w0 w1 w2 (.e40 ) (ls.take 3 ++ ls.drop 3)).drop 3⟩ :=
  spc_of_goesM hU 0 (k0 := 3) (go_btf_rightMemberNames_v3_L0 hU w0 w1 w2 _ _ h) (t0_btf_rightMemberNames_v3_L0_0 w0 w1 w2 ) (pre_btf_rightMemberNames_v3_L0_0 w0 w1 w2 ) (fun _ => rfl) (fun ls h => by match ls, h with | [l0, l1, l2], _ => exact ⟨by kernel_rfl, by kernel_rfl⟩) (fun ls h => by match ls, h with | [l0, l1, l2], _ => rfl) (by decide) (by decide) (fun ls => rfl)
inductive R_btf_rightMemberNames_v3 where
  | e0 
noncomputable def m_btf_rightMemberNames_v3 (w0 : Int) (w1 : Nat) (w2 : Nat → Member) : Option R_btf_rightMemberNames_v3 :=
  (lpO (st_btf_rightMemberNames_v3_L0 w1 w2) (.c0)).bind fun g0 => match g0 with
  | .e0  => (some (.e0))
  | .e1  => (some (.e0))
  | .e2  => (some (.e0))
  | .e3  => (some (.e0))
  | .e4  => (some (.e0))
  | .e5  => (some (.e0))
  | .e6  => (some (.e0))
  | .e7  => (some (.e0))
  | .e8  => (some (.e0))
  | .e9  => (some (.e0))
  | .e10  => (some (.e0))
  | .e11  => (some (.e0))
  | .e12  => (some (.e0))
  | .e13  => (some (.e0))
  | .e14  => (some (.e0))
  | .e15  => (some (.e0))
  | .e16  => (some (.e0))
  | .e17  => (some (.e0))
  | .e18  => (some (.e0))
  | .e19  => (some (.e0))
  | .e20  => (some (.e0))
  | .e21  => (some (.e0))
  | .e22  => (some (.e0))
  | .e23  => (some (.e0))
  | .e24  => (some (.e0))
  | .e25  => (some (.e0))
  | .e26  => (some (.e0))
  | .e27  => (some (.e0))
  | .e28  => (some (.e0))
  | .e29  => (some (.e0))
  | .e30  => (some (.e0))
  | .e31  => (some (.e0))
  | .e32  => (some (.e0))
  | .e33  => (some (.e0))
  | .e34  => (some (.e0))
  | .e35  => (some (.e0))
  | .e36  => (some (.e0))
  | .e37  => (some (.e0))
  | .e38  => (some (.e0))
  | .e39  => (some (.e0))
  | .e40  => (some (.e0))
def sq0_btf_rightMemberNames_v3 (w0 : Int) (w1 : Nat) (w2 : Nat → Member)  : Spc := ⟨fun ls => .call 24 #[.agg #[.int .i64 (4), .string (⟨#[115]⟩ : ByteArray), .int .i64 (w0), .bool false, .int .i64 (0), .int .i64 (0), (rowV (lget ls 0) w1 3)]], fun ls => [rowO (lget ls 0) (esG c_Member w1 w2) 27 w1 3], 0, .normal, fun ls => [.bool true], fun ls => [rowO (lget ls 0) (esG c_Member w1 w2) 27 w1 3], fun ls => []⟩
theorem ok0_btf_rightMemberNames_v3 (e : m_btf_rightMemberNames_v3 w0 w1 w2 = some (.e0 )) : SpcG Tryd.prog M B0 S (sq0_btf_rightMemberNames_v3 w0 w1 w2 ) := by
  unfold m_btf_rightMemberNames_v3 at e
  replace e := bindO_eq e
  obtain ⟨g0, e_g0, e⟩ := e
  rcases g0 with _ | _ | _ | _ | _ | _ | _ | _ | _ | _ | _ | _ | _ | _ | _ | _ | _ | _ | _ | _ | _ | _ | _ | _ | _ | _ | _ | _ | _ | _ | _ | _ | _ | _ | _ | _ | _ | _ | _ | _ | _
  · try dsimp only at e
    exact fn_specG hU (P := Tryd.prog) Tryd.func24 (fun xs w => by kernel_rfl) 1 _ _ (fun _ => rfl) _ _ _ [] [.o, .o, .o, .o, .o, .a 1, .o, .o, .cp, .cx (sp0_btf_rightMemberNames_v3_L0_0_ok hU w0 w1 w2   e_g0) [0, 1, 2], .o] [] (fun b => by kernel_rfl)
  · try dsimp only at e
    exact fn_specG hU (P := Tryd.prog) Tryd.func24 (fun xs w => by kernel_rfl) 1 _ _ (fun _ => rfl) _ _ _ [] [.o, .o, .o, .o, .o, .a 1, .o, .o, .cp, .cx (sp1_btf_rightMemberNames_v3_L0_0_ok hU w0 w1 w2   e_g0) [0, 1, 2], .o] [] (fun b => by kernel_rfl)
  · try dsimp only at e
    exact fn_specG hU (P := Tryd.prog) Tryd.func24 (fun xs w => by kernel_rfl) 1 _ _ (fun _ => rfl) _ _ _ [] [.o, .o, .o, .o, .o, .a 1, .o, .o, .cp, .cx (sp2_btf_rightMemberNames_v3_L0_0_ok hU w0 w1 w2   e_g0) [0, 1, 2], .o] [] (fun b => by kernel_rfl)
  · try dsimp only at e
    exact fn_specG hU (P := Tryd.prog) Tryd.func24 (fun xs w => by kernel_rfl) 1 _ _ (fun _ => rfl) _ _ _ [] [.o, .o, .o, .o, .o, .a 1, .o, .o, .cp, .cx (sp3_btf_rightMemberNames_v3_L0_0_ok hU w0 w1 w2   e_g0) [0, 1, 2], .o] [] (fun b => by kernel_rfl)
  · try dsimp only at e
    exact fn_specG hU (P := Tryd.prog) Tryd.func24 (fun xs w => by kernel_rfl) 1 _ _ (fun _ => rfl) _ _ _ [] [.o, .o, .o, .o, .o, .a 1, .o, .o, .cp, .cx (sp4_btf_rightMemberNames_v3_L0_0_ok hU w0 w1 w2   e_g0) [0, 1, 2], .o] [] (fun b => by kernel_rfl)
  · try dsimp only at e
    exact fn_specG hU (P := Tryd.prog) Tryd.func24 (fun xs w => by kernel_rfl) 1 _ _ (fun _ => rfl) _ _ _ [] [.o, .o, .o, .o, .o, .a 1, .o, .o, .cp, .cx (sp5_btf_rightMemberNames_v3_L0_0_ok hU w0 w1 w2   e_g0) [0, 1, 2], .o] [] (fun b => by kernel_rfl)
  · try dsimp only at e
    exact fn_specG hU (P := Tryd.prog) Tryd.func24 (fun xs w => by kernel_rfl) 1 _ _ (fun _ => rfl) _ _ _ [] [.o, .o, .o, .o, .o, .a 1, .o, .o, .cp, .cx (sp6_btf_rightMemberNames_v3_L0_0_ok hU w0 w1 w2   e_g0) [0, 1, 2], .o] [] (fun b => by kernel_rfl)
  · try dsimp only at e
    exact fn_specG hU (P := Tryd.prog) Tryd.func24 (fun xs w => by kernel_rfl) 1 _ _ (fun _ => rfl) _ _ _ [] [.o, .o, .o, .o, .o, .a 1, .o, .o, .cp, .cx (sp7_btf_rightMemberNames_v3_L0_0_ok hU w0 w1 w2   e_g0) [0, 1, 2], .o] [] (fun b => by kernel_rfl)
  · try dsimp only at e
    exact fn_specG hU (P := Tryd.prog) Tryd.func24 (fun xs w => by kernel_rfl) 1 _ _ (fun _ => rfl) _ _ _ [] [.o, .o, .o, .o, .o, .a 1, .o, .o, .cp, .cx (sp8_btf_rightMemberNames_v3_L0_0_ok hU w0 w1 w2   e_g0) [0, 1, 2], .o] [] (fun b => by kernel_rfl)
  · try dsimp only at e
    exact fn_specG hU (P := Tryd.prog) Tryd.func24 (fun xs w => by kernel_rfl) 1 _ _ (fun _ => rfl) _ _ _ [] [.o, .o, .o, .o, .o, .a 1, .o, .o, .cp, .cx (sp9_btf_rightMemberNames_v3_L0_0_ok hU w0 w1 w2   e_g0) [0, 1, 2], .o] [] (fun b => by kernel_rfl)
  · try dsimp only at e
    exact fn_specG hU (P := Tryd.prog) Tryd.func24 (fun xs w => by kernel_rfl) 1 _ _ (fun _ => rfl) _ _ _ [] [.o, .o, .o, .o, .o, .a 1, .o, .o, .cp, .cx (sp10_btf_rightMemberNames_v3_L0_0_ok hU w0 w1 w2   e_g0) [0, 1, 2], .o] [] (fun b => by kernel_rfl)
  · try dsimp only at e
    exact fn_specG hU (P := Tryd.prog) Tryd.func24 (fun xs w => by kernel_rfl) 1 _ _ (fun _ => rfl) _ _ _ [] [.o, .o, .o, .o, .o, .a 1, .o, .o, .cp, .cx (sp11_btf_rightMemberNames_v3_L0_0_ok hU w0 w1 w2   e_g0) [0, 1, 2], .o] [] (fun b => by kernel_rfl)
  · try dsimp only at e
    exact fn_specG hU (P := Tryd.prog) Tryd.func24 (fun xs w => by kernel_rfl) 1 _ _ (fun _ => rfl) _ _ _ [] [.o, .o, .o, .o, .o, .a 1, .o, .o, .cp, .cx (sp12_btf_rightMemberNames_v3_L0_0_ok hU w0 w1 w2   e_g0) [0, 1, 2], .o] [] (fun b => by kernel_rfl)
  · try dsimp only at e
    exact fn_specG hU (P := Tryd.prog) Tryd.func24 (fun xs w => by kernel_rfl) 1 _ _ (fun _ => rfl) _ _ _ [] [.o, .o, .o, .o, .o, .a 1, .o, .o, .cp, .cx (sp13_btf_rightMemberNames_v3_L0_0_ok hU w0 w1 w2   e_g0) [0, 1, 2], .o] [] (fun b => by kernel_rfl)
  · try dsimp only at e
    exact fn_specG hU (P := Tryd.prog) Tryd.func24 (fun xs w => by kernel_rfl) 1 _ _ (fun _ => rfl) _ _ _ [] [.o, .o, .o, .o, .o, .a 1, .o, .o, .cp, .cx (sp14_btf_rightMemberNames_v3_L0_0_ok hU w0 w1 w2   e_g0) [0, 1, 2], .o] [] (fun b => by kernel_rfl)
  · try dsimp only at e
    exact fn_specG hU (P := Tryd.prog) Tryd.func24 (fun xs w => by kernel_rfl) 1 _ _ (fun _ => rfl) _ _ _ [] [.o, .o, .o, .o, .o, .a 1, .o, .o, .cp, .cx (sp15_btf_rightMemberNames_v3_L0_0_ok hU w0 w1 w2   e_g0) [0, 1, 2], .o] [] (fun b => by kernel_rfl)
  · try dsimp only at e
    exact fn_specG hU (P := Tryd.prog) Tryd.func24 (fun xs w => by kernel_rfl) 1 _ _ (fun _ => rfl) _ _ _ [] [.o, .o, .o, .o, .o, .a 1, .o, .o, .cp, .cx (sp16_btf_rightMemberNames_v3_L0_0_ok hU w0 w1 w2   e_g0) [0, 1, 2], .o] [] (fun b => by kernel_rfl)
  · try dsimp only at e
    exact fn_specG hU (P := Tryd.prog) Tryd.func24 (fun xs w => by kernel_rfl) 1 _ _ (fun _ => rfl) _ _ _ [] [.o, .o, .o, .o, .o, .a 1, .o, .o, .cp, .cx (sp17_btf_rightMemberNames_v3_L0_0_ok hU w0 w1 w2   e_g0) [0, 1, 2], .o] [] (fun b => by kernel_rfl)
  · try dsimp only at e
    exact fn_specG hU (P := Tryd.prog) Tryd.func24 (fun xs w => by kernel_rfl) 1 _ _ (fun _ => rfl) _ _ _ [] [.o, .o, .o, .o, .o, .a 1, .o, .o, .cp, .cx (sp18_btf_rightMemberNames_v3_L0_0_ok hU w0 w1 w2   e_g0) [0, 1, 2], .o] [] (fun b => by kernel_rfl)
  · try dsimp only at e
    exact fn_specG hU (P := Tryd.prog) Tryd.func24 (fun xs w => by kernel_rfl) 1 _ _ (fun _ => rfl) _ _ _ [] [.o, .o, .o, .o, .o, .a 1, .o, .o, .cp, .cx (sp19_btf_rightMemberNames_v3_L0_0_ok hU w0 w1 w2   e_g0) [0, 1, 2], .o] [] (fun b => by kernel_rfl)
  · try dsimp only at e
    exact fn_specG hU (P := Tryd.prog) Tryd.func24 (fun xs w => by kernel_rfl) 1 _ _ (fun _ => rfl) _ _ _ [] [.o, .o, .o, .o, .o, .a 1, .o, .o, .cp, .cx (sp20_btf_rightMemberNames_v3_L0_0_ok hU w0 w1 w2   e_g0) [0, 1, 2], .o] [] (fun b => by kernel_rfl)
  · try dsimp only at e
    exact fn_specG hU (P := Tryd.prog) Tryd.func24 (fun xs w => by kernel_rfl) 1 _ _ (fun _ => rfl) _ _ _ [] [.o, .o, .o, .o, .o, .a 1, .o, .o, .cp, .cx (sp21_btf_rightMemberNames_v3_L0_0_ok hU w0 w1 w2   e_g0) [0, 1, 2], .o] [] (fun b => by kernel_rfl)
  · try dsimp only at e
    exact fn_specG hU (P := Tryd.prog) Tryd.func24 (fun xs w => by kernel_rfl) 1 _ _ (fun _ => rfl) _ _ _ [] [.o, .o, .o, .o, .o, .a 1, .o, .o, .cp, .cx (sp22_btf_rightMemberNames_v3_L0_0_ok hU w0 w1 w2   e_g0) [0, 1, 2], .o] [] (fun b => by kernel_rfl)
  · try dsimp only at e
    exact fn_specG hU (P := Tryd.prog) Tryd.func24 (fun xs w => by kernel_rfl) 1 _ _ (fun _ => rfl) _ _ _ [] [.o, .o, .o, .o, .o, .a 1, .o, .o, .cp, .cx (sp23_btf_rightMemberNames_v3_L0_0_ok hU w0 w1 w2   e_g0) [0, 1, 2], .o] [] (fun b => by kernel_rfl)
  · try dsimp only at e
    exact fn_specG hU (P := Tryd.prog) Tryd.func24 (fun xs w => by kernel_rfl) 1 _ _ (fun _ => rfl) _ _ _ [] [.o, .o, .o, .o, .o, .a 1, .o, .o, .cp, .cx (sp24_btf_rightMemberNames_v3_L0_0_ok hU w0 w1 w2   e_g0) [0, 1, 2], .o] [] (fun b => by kernel_rfl)
  · try dsimp only at e
    exact fn_specG hU (P := Tryd.prog) Tryd.func24 (fun xs w => by kernel_rfl) 1 _ _ (fun _ => rfl) _ _ _ [] [.o, .o, .o, .o, .o, .a 1, .o, .o, .cp, .cx (sp25_btf_rightMemberNames_v3_L0_0_ok hU w0 w1 w2   e_g0) [0, 1, 2], .o] [] (fun b => by kernel_rfl)
  · try dsimp only at e
    exact fn_specG hU (P := Tryd.prog) Tryd.func24 (fun xs w => by kernel_rfl) 1 _ _ (fun _ => rfl) _ _ _ [] [.o, .o, .o, .o, .o, .a 1, .o, .o, .cp, .cx (sp26_btf_rightMemberNames_v3_L0_0_ok hU w0 w1 w2   e_g0) [0, 1, 2], .o] [] (fun b => by kernel_rfl)
  · try dsimp only at e
    exact fn_specG hU (P := Tryd.prog) Tryd.func24 (fun xs w => by kernel_rfl) 1 _ _ (fun _ => rfl) _ _ _ [] [.o, .o, .o, .o, .o, .a 1, .o, .o, .cp, .cx (sp27_btf_rightMemberNames_v3_L0_0_ok hU w0 w1 w2   e_g0) [0, 1, 2], .o] [] (fun b => by kernel_rfl)
  · try dsimp only at e
    exact fn_specG hU (P := Tryd.prog) Tryd.func24 (fun xs w => by kernel_rfl) 1 _ _ (fun _ => rfl) _ _ _ [] [.o, .o, .o, .o, .o, .a 1, .o, .o, .cp, .cx (sp28_btf_rightMemberNames_v3_L0_0_ok hU w0 w1 w2   e_g0) [0, 1, 2], .o] [] (fun b => by kernel_rfl)
  · try dsimp only at e
    exact fn_specG hU (P := Tryd.prog) Tryd.func24 (fun xs w => by kernel_rfl) 1 _ _ (fun _ => rfl) _ _ _ [] [.o, .o, .o, .o, .o, .a 1, .o, .o, .cp, .cx (sp29_btf_rightMemberNames_v3_L0_0_ok hU w0 w1 w2   e_g0) [0, 1, 2], .o] [] (fun b => by kernel_rfl)
  · try dsimp only at e
    exact fn_specG hU (P := Tryd.prog) Tryd.func24 (fun xs w => by kernel_rfl) 1 _ _ (fun _ => rfl) _ _ _ [] [.o, .o, .o, .o, .o, .a 1, .o, .o, .cp, .cx (sp30_btf_rightMemberNames_v3_L0_0_ok hU w0 w1 w2   e_g0) [0, 1, 2], .o] [] (fun b => by kernel_rfl)
  · try dsimp only at e
    exact fn_specG hU (P := Tryd.prog) Tryd.func24 (fun xs w => by kernel_rfl) 1 _ _ (fun _ => rfl) _ _ _ [] [.o, .o, .o, .o, .o, .a 1, .o, .o, .cp, .cx (sp31_btf_rightMemberNames_v3_L0_0_ok hU w0 w1 w2   e_g0) [0, 1, 2], .o] [] (fun b => by kernel_rfl)
  · try dsimp only at e
    exact fn_specG hU (P := Tryd.prog) Tryd.func24 (fun xs w => by kernel_rfl) 1 _ _ (fun _ => rfl) _ _ _ [] [.o, .o, .o, .o, .o, .a 1, .o, .o, .cp, .cx (sp32_btf_rightMemberNames_v3_L0_0_ok hU w0 w1 w2   e_g0) [0, 1, 2], .o] [] (fun b => by kernel_rfl)
  · try dsimp only at e
    exact fn_specG hU (P := Tryd.prog) Tryd.func24 (fun xs w => by kernel_rfl) 1 _ _ (fun _ => rfl) _ _ _ [] [.o, .o, .o, .o, .o, .a 1, .o, .o, .cp, .cx (sp33_btf_rightMemberNames_v3_L0_0_ok hU w0 w1 w2   e_g0) [0, 1, 2], .o] [] (fun b => by kernel_rfl)
  · try dsimp only at e
    exact fn_specG hU (P := Tryd.prog) Tryd.func24 (fun xs w => by kernel_rfl) 1 _ _ (fun _ => rfl) _ _ _ [] [.o, .o, .o, .o, .o, .a 1, .o, .o, .cp, .cx (sp34_btf_rightMemberNames_v3_L0_0_ok hU w0 w1 w2   e_g0) [0, 1, 2], .o] [] (fun b => by kernel_rfl)
  · try dsimp only at e
    exact fn_specG hU (P := Tryd.prog) Tryd.func24 (fun xs w => by kernel_rfl) 1 _ _ (fun _ => rfl) _ _ _ [] [.o, .o, .o, .o, .o, .a 1, .o, .o, .cp, .cx (sp35_btf_rightMemberNames_v3_L0_0_ok hU w0 w1 w2   e_g0) [0, 1, 2], .o] [] (fun b => by kernel_rfl)
  · try dsimp only at e
    exact fn_specG hU (P := Tryd.prog) Tryd.func24 (fun xs w => by kernel_rfl) 1 _ _ (fun _ => rfl) _ _ _ [] [.o, .o, .o, .o, .o, .a 1, .o, .o, .cp, .cx (sp36_btf_rightMemberNames_v3_L0_0_ok hU w0 w1 w2   e_g0) [0, 1, 2], .o] [] (fun b => by kernel_rfl)
  · try dsimp only at e
    exact fn_specG hU (P := Tryd.prog) Tryd.func24 (fun xs w => by kernel_rfl) 1 _ _ (fun _ => rfl) _ _ _ [] [.o, .o, .o, .o, .o, .a 1, .o, .o, .cp, .cx (sp37_btf_rightMemberNames_v3_L0_0_ok hU w0 w1 w2   e_g0) [0, 1, 2], .o] [] (fun b => by kernel_rfl)
  · try dsimp only at e
    exact fn_specG hU (P := Tryd.prog) Tryd.func24 (fun xs w => by kernel_rfl) 1 _ _ (fun _ => rfl) _ _ _ [] [.o, .o, .o, .o, .o, .a 1, .o, .o, .cp, .cx (sp38_btf_rightMemberNames_v3_L0_0_ok hU w0 w1 w2   e_g0) [0, 1, 2], .o] [] (fun b => by kernel_rfl)
  · try dsimp only at e
    exact fn_specG hU (P := Tryd.prog) Tryd.func24 (fun xs w => by kernel_rfl) 1 _ _ (fun _ => rfl) _ _ _ [] [.o, .o, .o, .o, .o, .a 1, .o, .o, .cp, .cx (sp39_btf_rightMemberNames_v3_L0_0_ok hU w0 w1 w2   e_g0) [0, 1, 2], .o] [] (fun b => by kernel_rfl)
  · try dsimp only at e
    exact fn_specG hU (P := Tryd.prog) Tryd.func24 (fun xs w => by kernel_rfl) 1 _ _ (fun _ => rfl) _ _ _ [] [.o, .o, .o, .o, .o, .a 1, .o, .o, .cp, .cx (sp40_btf_rightMemberNames_v3_L0_0_ok hU w0 w1 w2   e_g0) [0, 1, 2], .o] [] (fun b => by kernel_rfl)
inductive Sh_btf_rightReferences_v3_L0 where
  | c0 (s0_0 : Int)
inductive Ex_btf_rightReferences_v3_L0 where
  | e0 
  | e1 
noncomputable def st_btf_rightReferences_v3_L0 (y1 : Int) (w1 : Nat) (w2 : Nat → Member) : Sh_btf_rightReferences_v3_L0 → Option (Sh_btf_rightReferences_v3_L0 ⊕ Ex_btf_rightReferences_v3_L0)
  | .c0 s0_0 =>
    bif decide (s0_0 < (w1 : Int)) then
      (bif inR s0_0 w1 then
        (bif decide (((w2 (s0_0).toNat)).fType < 1) then
          (some (.inr (.e1 )))
        else (bif decide (y1 < ((w2 (s0_0).toNat)).fType) then
          (some (.inr (.e1 )))
        else (some (.inl (.c0 (IntKind.i64.wrap (s0_0 + 1)))))))
      else (none))
    else (some (.inr (.e0 )))
noncomputable def bd_btf_rightReferences_v3_L0 : Code := codeOf Tryd.f25 [1, 1, 1, 1, 0, 1, 0, 0]
def fl_btf_rightReferences_v3_L0 (y1 : Int) (w0 : Int) (w1 : Nat) (w2 : Nat → Member) : Sh_btf_rightReferences_v3_L0 → List L1 → List Value
  | .c0 s0_0, ls => [.int .i64 (y1), .bool false, (rowV (lget ls 0) w1 3), .int .i64 ((w1 : Int)), .int .i64 (s0_0)]
def mf_btf_rightReferences_v3_L0 : Sh_btf_rightReferences_v3_L0 → List (Nat × Nat)
  | .c0 _ => [(0, 1), (1, 2), (1, 24), (3, 13)]
noncomputable def fr_btf_rightReferences_v3_L0 (y1 : Int) (w0 : Int) (w1 : Nat) (w2 : Nat → Member) (s : Sh_btf_rightReferences_v3_L0) : List L1 → List Value := mrgF (mf_btf_rightReferences_v3_L0 s) (fl_btf_rightReferences_v3_L0 y1 w0 w1 w2 s) 2
def Hs_btf_rightReferences_v3_L0 (y1 : Int) (w0 : Int) (w1 : Nat) (w2 : Nat → Member) : Sh_btf_rightReferences_v3_L0 → List L1 → List Obj
  | .c0 s0_0, ls => [rowO (lget ls 0) (esG c_Member w1 w2) 27 w1 3, .cells #[.int .i64 (4), .string (⟨#[115]⟩ : ByteArray), .int .i64 (w0), .bool false, .int .i64 (0), .int .i64 (0), (rowV (lget ls 0) w1 3)] 25, unb]
def vl_btf_rightReferences_v3_L0 (y1 : Int) (w0 : Int) (w1 : Nat) (w2 : Nat → Member) : Ex_btf_rightReferences_v3_L0 → List L1 → List Value
  | .e0 , ls => [.int .i64 (y1), .bool false, (rowV (lget ls 0) w1 3), .int .i64 ((w1 : Int))]
  | .e1 , ls => [.int .i64 (y1), .bool false, (rowV (lget ls 0) w1 3), .int .i64 ((w1 : Int))]
def mk_btf_rightReferences_v3_L0 : Ex_btf_rightReferences_v3_L0 → List (Nat × Nat)
  | .e0  => [(0, 1), (1, 2), (1, 24), (2, 14)]
  | .e1  => [(0, 1), (1, 2), (1, 24), (2, 14)]
noncomputable def vf_btf_rightReferences_v3_L0 (y1 : Int) (w0 : Int) (w1 : Nat) (w2 : Nat → Member) (r : Ex_btf_rightReferences_v3_L0) : List L1 → List Value := mrgF (mk_btf_rightReferences_v3_L0 r) (vl_btf_rightReferences_v3_L0 y1 w0 w1 w2 r) 2
def Hf_btf_rightReferences_v3_L0 (y1 : Int) (w0 : Int) (w1 : Nat) (w2 : Nat → Member) : Ex_btf_rightReferences_v3_L0 → List L1 → List Obj
  | .e0 , ls => [rowO (lget ls 0) (esG c_Member w1 w2) 27 w1 3, .cells #[.int .i64 (4), .string (⟨#[115]⟩ : ByteArray), .int .i64 (w0), .bool false, .int .i64 (0), .int .i64 (0), (rowV (lget ls 0) w1 3)] 25, unb]
  | .e1 , ls => [rowO (lget ls 0) (esG c_Member w1 w2) 27 w1 3, .cells #[.int .i64 (4), .string (⟨#[115]⟩ : ByteArray), .int .i64 (w0), .bool false, .int .i64 (0), .int .i64 (0), (rowV (lget ls 0) w1 3)] 25, unb]
def ex_btf_rightReferences_v3_L0 : Ex_btf_rightReferences_v3_L0 → Ex
  | .e0  => (.exit 3)
  | .e1  => .ret
end
section
variable {M : Nat → Prop} {B0 : Nat} {S : World → Prop} (hU : Up M B0 S) (y1 : Int) (w0 : Int) (w1 : Nat) (w2 : Nat → Member)
include hU y1 w0 w1 w2
theorem go_btf_rightReferences_v3_L0 (s : Sh_btf_rightReferences_v3_L0) (r : Ex_btf_rightReferences_v3_L0) (h : lpO (st_btf_rightReferences_v3_L0 y1 w1 w2) s = some r) : GoesG Tryd.prog M B0 S (.loop bd_btf_rightReferences_v3_L0) 3 (fr_btf_rightReferences_v3_L0 y1 w0 w1 w2 s) (Hs_btf_rightReferences_v3_L0 y1 w0 w1 w2 s) (ex_btf_rightReferences_v3_L0 r) 2 (vf_btf_rightReferences_v3_L0 y1 w0 w1 w2 r) (Hf_btf_rightReferences_v3_L0 y1 w0 w1 w2 r) 3 :=
  goes_lpO (fun s q e => by
    cases s with
    | c0 s0_0 =>
      unfold st_btf_rightReferences_v3_L0 at e
      dsimp only at e
      replace e := cond_eq_or e
      rcases e with ⟨hq0, e⟩ | ⟨hq0, e⟩
      · replace e := cond_eq_or e
        rcases e with ⟨hq1, e⟩ | ⟨hq1, e⟩
        · replace e := cond_eq_or e
          rcases e with ⟨hq2, e⟩ | ⟨hq2, e⟩
          · cases e; exact ⟨ne_ret, goes_runM hU [.b (z_lssT hq0), .q (ixM_ok (kd := .i64) (T := 23) (x := s0_0) (N := w1) (sz := 3) rfl (fun w => by kernel_rfl) hq1), .l (accG (i := 0) (f := c_Member) (A := w2) (k := (s0_0).toNat) 0 [.string ((w2 (s0_0).toNat)).fName, .int .i64 (((w2 (s0_0).toNat)).fType), .int .i64 (((w2 (s0_0).toNat)).fBits)] c_Member_len (inR_nat hq1) rfl), .o, .a 3, .o, .a 3, .b (z_lssT hq2), .o, .o, .o] [0, 1] (fun b => rfl) (by decide) rfl rfl (fun b => by kernel_rfl)⟩
          · replace e := cond_eq_or e
            rcases e with ⟨hq3, e⟩ | ⟨hq3, e⟩
            · cases e; exact ⟨ne_ret, goes_runM hU [.b (z_lssT hq0), .q (ixM_ok (kd := .i64) (T := 23) (x := s0_0) (N := w1) (sz := 3) rfl (fun w => by kernel_rfl) hq1), .l (accG (i := 0) (f := c_Member) (A := w2) (k := (s0_0).toNat) 0 [.string ((w2 (s0_0).toNat)).fName, .int .i64 (((w2 (s0_0).toNat)).fType), .int .i64 (((w2 (s0_0).toNat)).fBits)] c_Member_len (inR_nat hq1) rfl), .o, .a 3, .o, .a 3, .b (z_lssF hq2), .o, .o, .a 3, .o, .b (z_gtrT hq3), .o, .o] [0, 1] (fun b => rfl) (by decide) rfl rfl (fun b => by kernel_rfl)⟩
            · cases e; exact goes_runM hU [.b (z_lssT hq0), .q (ixM_ok (kd := .i64) (T := 23) (x := s0_0) (N := w1) (sz := 3) rfl (fun w => by kernel_rfl) hq1), .l (accG (i := 0) (f := c_Member) (A := w2) (k := (s0_0).toNat) 0 [.string ((w2 (s0_0).toNat)).fName, .int .i64 (((w2 (s0_0).toNat)).fType), .int .i64 (((w2 (s0_0).toNat)).fBits)] c_Member_len (inR_nat hq1) rfl), .o, .a 3, .o, .a 3, .b (z_lssF hq2), .o, .o, .a 3, .o, .b (z_gtrF hq3), .o, .o, .o] [0, 1] (fun b => rfl) (by decide) rfl rfl (fun b => by kernel_rfl)
        · exact none_some e
      · cases e; exact ⟨ne_exit 3, goes_runM hU [.b (z_lssF hq0)] [0, 1] (fun b => rfl) (by decide) rfl rfl (fun b => by kernel_rfl)⟩) s r h
noncomputable def t0_btf_rightReferences_v3_L0_0 (y1 : Int) (w0 : Int) (w1 : Nat) (w2 : Nat → Member) (s0_0 : Int) (ls : List L1) : List Value := List.append [.agg #[.int .i64 (4), .string (⟨#[115]⟩ : ByteArray), .int .i64 (w0), .bool false, .int .i64 (0), .int .i64 (0), (rowV (lget ls 0) w1 3)], .int .i64 (y1), .pointer (some ⟨(lget ls 1).n, 0, none⟩), undef, .bool false, .int .i64 (0), .int .i64 (0), undef, undef, .int .i64 (y1), .pointer (some ⟨(lget ls 1).n, 0, none⟩), .int .i64 (4), .bool true, .bool false, .bool true, undef, undef, undef, .pointer (some ⟨(lget ls 1).n, 4, none⟩), .int .i64 (0), .int .i64 (0), .bool false, .bool false, .pointer (some ⟨(lget ls 1).n, 4, none⟩), .int .i64 (0), .int .i64 (0), .bool false, .bool false, .pointer (some ⟨(lget ls 1).n, 6, none⟩), (rowV (lget ls 0) w1 3), .int .i64 ((w1 : Int)), .int .i64 (s0_0)] (und 13)
def pre_btf_rightReferences_v3_L0_0 (y1 : Int) (w0 : Int) (w1 : Nat) (w2 : Nat → Member) (s0_0 : Int) (ls : List L1) : List Obj := [rowO (lget ls 0) (esG c_Member w1 w2) 27 w1 3, .cells #[.int .i64 (4), .string (⟨#[115]⟩ : ByteArray), .int .i64 (w0), .bool false, .int .i64 (0), .int .i64 (0), (rowV (lget ls 0) w1 3)] 25]
theorem sp0_btf_rightReferences_v3_L0_0_ok (s0_0 : Int) (h : lpO (st_btf_rightReferences_v3_L0 y1 w1 w2) (.c0 s0_0) = some (.e0 )) : SpcG Tryd.prog M B0 S ⟨fun ls => .code (.loop bd_btf_rightReferences_v3_L0) (t0_btf_rightReferences_v3_L0_0 y1 w0 w1 w2 s0_0 ls), pre_btf_rightReferences_v3_L0_0 y1 w0 w1 w2 s0_0, 1, (.exit 3), fun ls => vf_btf_rightReferences_v3_L0 y1 w0 w1 w2 (.e0 ) (ls.take 2 ++ ls.drop 2), fun ls => (Hf_btf_rightReferences_v3_L0 y1 w0 w1 w2 (.e0 ) (ls.take 2 ++ ls.drop 2)).take 2 ++ List.replicate 0 unb, fun ls => (Hf_btf_rightReferences_v3_L0 y1 w0 w1 w2 (.e0 ) (ls.take 2 ++ ls.drop 2)).drop 2⟩ :=
  spc_of_goesM hU 0 (k0 := 2) (go_btf_rightReferences_v3_L0 hU y1 w0 w1 w2 _ _ h) (t0_btf_rightReferences_v3_L0_0 y1 w0 w1 w2 s0_0) (pre_btf_rightReferences_v3_L0_0 y1 w0 w1 w2 s0_0) (fun _ => rfl) (fun ls h => by match ls, h with | [l0, l1], _ => exact ⟨by kernel_rfl, by kernel_rfl⟩) (fun ls h => by match ls, h with | [l0, l1], _ => rfl) (by decide) (by decide) (fun ls => rfl)
theorem sp1_btf_rightReferences_v3_L0_0_ok (s0_0 : Int) (h : lpO (st_btf_rightReferences_v3_L0 y1 w1 w2) (.c0 s0_0) = some (.e1 )) : SpcG Tryd.prog M B0 S ⟨fun ls => .code (.loop bd_btf_rightReferences_v3_L0) (t0_btf_rightReferences_v3_L0_0 y1 w0 w1 w2 s0_0 ls), pre_btf_rightReferences_v3_L0_0 y1 w0 w1 w2 s0_0, 1, .ret, fun ls => vf_btf_rightReferences_v3_L0 y1 w0 w1 w2 (.e1 ) (ls.take 2 ++ ls.drop 2), fun ls => (Hf_btf_rightReferences_v3_L0 y1 w0 w1 w2 (.e1 ) (ls.take 2 ++ ls.drop 2)).take 2 ++ List.replicate 0 unb, fun ls => (Hf_btf_rightReferences_v3_L0 y1 w0 w1 w2 (.e1 ) (ls.take 2 ++ ls.drop 2)).drop 2⟩ :=
  spc_of_goesM hU 0 (k0 := 2) (go_btf_rightReferences_v3_L0 hU y1 w0 w1 w2 _ _ h) (t0_btf_rightReferences_v3_L0_0 y1 w0 w1 w2 s0_0) (pre_btf_rightReferences_v3_L0_0 y1 w0 w1 w2 s0_0) (fun _ => rfl) (fun ls h => by match ls, h with | [l0, l1], _ => exact ⟨by kernel_rfl, by kernel_rfl⟩) (fun ls h => by match ls, h with | [l0, l1], _ => rfl) (by decide) (by decide) (fun ls => rfl)
inductive R_btf_rightReferences_v3 where
  | e0 (c0_0 : Bool)
noncomputable def m_btf_rightReferences_v3 (y1 : Int) (w0 : Int) (w1 : Nat) (w2 : Nat → Member) : Option R_btf_rightReferences_v3 :=
  (lpO (st_btf_rightReferences_v3_L0 y1 w1 w2) (.c0 0)).bind fun g0 => match g0 with
  | .e0  => (some (.e0 true))
  | .e1  => (some (.e0 false))
def sq0_btf_rightReferences_v3 (y1 : Int) (w0 : Int) (w1 : Nat) (w2 : Nat → Member) (c0_0 : Bool) : Spc := ⟨fun ls => .call 25 #[.agg #[.int .i64 (4), .string (⟨#[115]⟩ : ByteArray), .int .i64 (w0), .bool false, .int .i64 (0), .int .i64 (0), (rowV (lget ls 0) w1 3)], .int .i64 (y1)], fun ls => [rowO (lget ls 0) (esG c_Member w1 w2) 27 w1 3], 0, .normal, fun ls => [.bool (c0_0)], fun ls => [rowO (lget ls 0) (esG c_Member w1 w2) 27 w1 3], fun ls => []⟩
theorem ok0_btf_rightReferences_v3 (c0_0 : Bool) (e : m_btf_rightReferences_v3 y1 w0 w1 w2 = some (.e0 c0_0)) : SpcG Tryd.prog M B0 S (sq0_btf_rightReferences_v3 y1 w0 w1 w2 c0_0) := by
  unfold m_btf_rightReferences_v3 at e
  replace e := bindO_eq e
  obtain ⟨g0, e_g0, e⟩ := e
  rcases g0 with _ | _
  · try dsimp only at e
    injection e with e; injection e with i0; subst i0; exact fn_specG hU (P := Tryd.prog) Tryd.func25 (fun xs w => by kernel_rfl) 1 _ _ (fun _ => rfl) _ _ _ [] [.o, .o, .o, .o, .o, .o, .a 1, .o, .o, .o, .o, .o, .o, .o, .a 1, .o, .o, .o, .o, .a 1, .o, .o, .o, .o, .a 1, .o, .o, .cp, .cx (sp0_btf_rightReferences_v3_L0_0_ok hU y1 w0 w1 w2 0  e_g0) [0, 1], .o] [] (fun b => by kernel_rfl)
  · try dsimp only at e
    injection e with e; injection e with i0; subst i0; exact fn_specG hU (P := Tryd.prog) Tryd.func25 (fun xs w => by kernel_rfl) 1 _ _ (fun _ => rfl) _ _ _ [] [.o, .o, .o, .o, .o, .o, .a 1, .o, .o, .o, .o, .o, .o, .o, .a 1, .o, .o, .o, .o, .a 1, .o, .o, .o, .o, .a 1, .o, .o, .cp, .cx (sp1_btf_rightReferences_v3_L0_0_ok hU y1 w0 w1 w2 0  e_g0) [0, 1]] [] (fun b => by kernel_rfl)
def sq0_btf_onlyOwnFields_v3 (w0 : Int) (w1 : Nat) (w2 : Nat → Member)  : Spc := ⟨fun ls => .call 26 #[.agg #[.int .i64 (4), .string (⟨#[115]⟩ : ByteArray), .int .i64 (w0), .bool false, .int .i64 (0), .int .i64 (0), (rowV (lget ls 0) w1 3)]], fun ls => [rowO (lget ls 0) (esG c_Member w1 w2) 27 w1 3], 0, .normal, fun ls => [.bool true], fun ls => [rowO (lget ls 0) (esG c_Member w1 w2) 27 w1 3], fun ls => []⟩
end
section
variable {M : Nat → Prop} {B0 : Nat} {S : World → Prop} (hU : Up M B0 S)
include hU
theorem p0_btf_onlyOwnFields_v3 (w0 : Int) (w1 : Nat) (w2 : Nat → Member) : SpcG Tryd.prog M B0 S (sq0_btf_onlyOwnFields_v3 w0 w1 w2 ) :=
  fn_specG hU (P := Tryd.prog) Tryd.func26 (fun xs w => by kernel_rfl) 1 _ _ (fun _ => rfl) _ _ _ []
    [.o, .o, .o, .a 1, .o, .o, .o, .a 1, .o, .o, .o, .a 1, .o, .o, .o, .a 1, .o, .o, .o, .o, .a 1, .o, .o, .o, .o, .o]
    [] (fun b => by kernel_rfl)
inductive R_btf_checkType_v3 where
  | e0 (c0_0 : Int)
noncomputable def m_btf_checkType_v3 (y1 : Int) (w0 : Int) (w1 : Nat) (w2 : Nat → Member) : Option R_btf_checkType_v3 :=
  (m_btf_rightSize_v3 w0 w1 w2).bind fun g0 => match g0 with
  | .e0 g0_0 =>
  bif g0_0 then
    ((m_btf_rightMemberNames_v3 w0 w1 w2).bind fun g1 => match g1 with
    | .e0 =>
    (m_btf_rightReferences_v3 y1 w0 w1 w2).bind fun g2 => match g2 with
    | .e0 g2_0 =>
    bif g2_0 then
      (some (.e0 0))
    else (some (.e0 41)))
  else (some (.e0 43))
def sq0_btf_checkType_v3 (y1 : Int) (w0 : Int) (w1 : Nat) (w2 : Nat → Member) (c0_0 : Int) : Spc := ⟨fun ls => .call 17 #[.agg #[.int .i64 (4), .string (⟨#[115]⟩ : ByteArray), .int .i64 (w0), .bool false, .int .i64 (0), .int .i64 (0), (rowV (lget ls 0) w1 3)], .int .i64 (y1), .map (some (lget ls 1).n)], fun ls => [rowO (lget ls 0) (esG c_Member w1 w2) 27 w1 3, .map #[⟨.agg #[.int .i64 (1), .string (⟨#[117, 110, 105, 116]⟩ : ByteArray)], .int .i64 (1), 0⟩] 1], 0, .normal, fun ls => [.int .i64 (c0_0)], fun ls => [rowO (lget ls 0) (esG c_Member w1 w2) 27 w1 3, .map #[⟨.agg #[.int .i64 (1), .string (⟨#[117, 110, 105, 116]⟩ : ByteArray)], .int .i64 (1), 0⟩, ⟨.agg #[.int .i64 (4), .string (⟨#[115]⟩ : ByteArray)], .int .i64 (1), 1⟩] 2], fun ls => []⟩
theorem ok0_btf_checkType_v3 (y1 : Int) (w0 : Int) (w1 : Nat) (w2 : Nat → Member) (c0_0 : Int) (e : m_btf_checkType_v3 y1 w0 w1 w2 = some (.e0 c0_0)) : SpcG Tryd.prog M B0 S (sq0_btf_checkType_v3 y1 w0 w1 w2 c0_0) := by
  unfold m_btf_checkType_v3 at e
  replace e := bindO_eq e
  obtain ⟨g0, e_g0, e⟩ := e
  obtain ⟨g0_0⟩ := g0
  try dsimp only at e
  replace e := cond_eq_or e
  rcases e with ⟨hq0, e⟩ | ⟨hq0, e⟩
  · subst hq0
    replace e := bindO_eq e
    obtain ⟨g1, e_g1, e⟩ := e
    cases g1
    try dsimp only at e
    replace e := bindO_eq e
    obtain ⟨g2, e_g2, e⟩ := e
    obtain ⟨g2_0⟩ := g2
    try dsimp only at e
    replace e := cond_eq_or e
    rcases e with ⟨hq1, e⟩ | ⟨hq1, e⟩
    · subst hq1
      injection e with e; injection e with i0; subst i0; exact fn_specG hU (P := Tryd.prog) Tryd.func17 (fun xs w => by kernel_rfl) 2 _ _ (fun _ => rfl) _ _ _ [] [.o, .o, .o, .a 2, .o, .o, .o, .a 2, .o, .o, .o, .a 2, .o, .xg (p0_btf_rightName_v3 hU w0 w1 w2 ) [0, 1], .o, .o, .a 2, .xg (ok0_btf_rightSize_v3 hU w0 w1 w2 true e_g0) [0], .o, .o, .a 2, .xg (ok0_btf_rightMemberNames_v3 hU w0 w1 w2  e_g1) [0], .o, .o, .a 2, .o, .xg (ok0_btf_rightReferences_v3 hU y1 w0 w1 w2 true e_g2) [0], .o, .o, .a 2, .xg (p0_btf_onlyOwnFields_v3 hU w0 w1 w2 ) [0], .o, .o, .o, .o] [] (fun b => by kernel_rfl)
    · subst hq1
      injection e with e; injection e with i0; subst i0; exact fn_specG hU (P := Tryd.prog) Tryd.func17 (fun xs w => by kernel_rfl) 2 _ _ (fun _ => rfl) _ _ _ [] [.o, .o, .o, .a 2, .o, .o, .o, .a 2, .o, .o, .o, .a 2, .o, .xg (p0_btf_rightName_v3 hU w0 w1 w2 ) [0, 1], .o, .o, .a 2, .xg (ok0_btf_rightSize_v3 hU w0 w1 w2 true e_g0) [0], .o, .o, .a 2, .xg (ok0_btf_rightMemberNames_v3 hU w0 w1 w2  e_g1) [0], .o, .o, .a 2, .o, .xg (ok0_btf_rightReferences_v3 hU y1 w0 w1 w2 false e_g2) [0], .o, .o, .o, .o, .o] [] (fun b => by kernel_rfl)
  · subst hq0
    injection e with e; injection e with i0; subst i0; exact fn_specG hU (P := Tryd.prog) Tryd.func17 (fun xs w => by kernel_rfl) 2 _ _ (fun _ => rfl) _ _ _ [] [.o, .o, .o, .a 2, .o, .o, .o, .a 2, .o, .o, .o, .a 2, .o, .xg (p0_btf_rightName_v3 hU w0 w1 w2 ) [0, 1], .o, .o, .a 2, .xg (ok0_btf_rightSize_v3 hU w0 w1 w2 false e_g0) [0], .o, .o, .o] [] (fun b => by kernel_rfl)
def sq0_btf_held_v2 (w0 : Int)  : Spc := ⟨fun ls => .call 28 #[.agg #[.int .i64 (1), .string (⟨#[117, 110, 105, 116]⟩ : ByteArray), .int .i64 (w0), .bool false, .int .i64 (0), .int .i64 (0), .slice none 0 0]], fun ls => [], 0, .normal, fun ls => [.slice none 0 0], fun ls => [], fun ls => []⟩
theorem p0_btf_held_v2 (w0 : Int) : SpcG Tryd.prog M B0 S (sq0_btf_held_v2 w0 ) :=
  fn_specG hU (P := Tryd.prog) Tryd.func28 (fun xs w => by kernel_rfl) 0 _ _ (fun _ => rfl) _ _ _ []
    [.o, .o, .o, .o, .a 0, .o, .o, .o, .o, .o, .o, .o, .o]
    [] (fun b => by kernel_rfl)
def sq0_btf_holdsItself_1_v3 (w0 : Int) (w1 : Int) (w2 : Nat) (w3 : Nat → Member) (w4 : Nat → Bool)  : Spc := ⟨fun ls => .call 27 #[.int .i64 (1), .pointer (some ⟨(lget ls 0).n, 0, none⟩), .pointer (some ⟨(lget ls 3).n, 0, none⟩), .pointer (some ⟨(lget ls 4).n, 0, none⟩), .pointer (some ⟨(lget ls 5).n, 0, none⟩)], fun ls => [.cells #[.slice (some ⟨(lget ls 1).n, 0, none⟩) 2 2] 28, .cells #[.int .i64 (1), .string (⟨#[117, 110, 105, 116]⟩ : ByteArray), .int .i64 (w0), .bool false, .int .i64 (0), .int .i64 (0), .slice none 0 0, .int .i64 (4), .string (⟨#[115]⟩ : ByteArray), .int .i64 (w1), .bool false, .int .i64 (0), .int .i64 (0), (rowV (lget ls 2) w2 3)] 25, rowO (lget ls 2) (esG c_Member w2 w3) 27 w2 3, .cells #[.int .i64 (1)] 3, .cells ⟨esG cB 257 w4⟩ 53, .cells #[.func (.func 27) #[] #[.pointer (some ⟨(lget ls 0).n, 0, none⟩), .pointer (some ⟨(lget ls 3).n, 0, none⟩), .pointer (some ⟨(lget ls 4).n, 0, none⟩), .pointer (some ⟨(lget ls 5).n, 0, none⟩)]] 54], 0, .normal, fun ls => [.bool false], fun ls => [.cells #[.slice (some ⟨(lget ls 1).n, 0, none⟩) 2 2] 28, .cells #[.int .i64 (1), .string (⟨#[117, 110, 105, 116]⟩ : ByteArray), .int .i64 (w0), .bool false, .int .i64 (0), .int .i64 (0), .slice none 0 0, .int .i64 (4), .string (⟨#[115]⟩ : ByteArray), .int .i64 (w1), .bool false, .int .i64 (0), .int .i64 (0), (rowV (lget ls 2) w2 3)] 25, rowO (lget ls 2) (esG c_Member w2 w3) 27 w2 3, .cells #[.int .i64 (1)] 3, .cells ⟨esG cB 257 w4⟩ 53, .cells #[.func (.func 27) #[] #[.pointer (some ⟨(lget ls 0).n, 0, none⟩), .pointer (some ⟨(lget ls 3).n, 0, none⟩), .pointer (some ⟨(lget ls 4).n, 0, none⟩), .pointer (some ⟨(lget ls 5).n, 0, none⟩)]] 54], fun ls => []⟩
theorem p0_btf_holdsItself_1_v3 (w0 : Int) (w1 : Int) (w2 : Nat) (w3 : Nat → Member) (w4 : Nat → Bool) : SpcG Tryd.prog M B0 S (sq0_btf_holdsItself_1_v3 w0 w1 w2 w3 w4 ) :=
  fn_specG hU (P := Tryd.prog) Tryd.func27 (fun xs w => by kernel_rfl) 6 _ _ (fun _ => rfl) _ _ _ []
    [.o, .a 0, .o, .o, .o, .a 1, .xg (p0_btf_held_v2 hU w0 ) [], .o, .o, .o, .o]
    [] (fun b => by kernel_rfl)
inductive Sh_btf_held_v3_L0 where
  | c0 
  | c1 (s0_0 : Nat) (s0_1 : Nat → Int) (s0_2 : Int)
inductive Ex_btf_held_v3_L0 where
  | e0 
  | e1 (c1_0 : Nat) (c1_1 : Nat → Int)
noncomputable def st_btf_held_v3_L0 (w1 : Nat) (w2 : Nat → Member) : Sh_btf_held_v3_L0 → Option (Sh_btf_held_v3_L0 ⊕ Ex_btf_held_v3_L0)
  | .c0  =>
    bif decide (0 < (w1 : Int)) then
      (bif inR 0 w1 then
        (some (.inl (.c1 1 (fun _ => ((w2 0)).fType) 1)))
      else (none))
    else (some (.inr (.e0 )))
  | .c1 s0_0 s0_1 s0_2 =>
    bif decide (s0_2 < (w1 : Int)) then
      (bif inR s0_2 w1 then
        (bif decide (s0_0 ≤ 1000000) then
          (some (.inl (.c1 (s0_0 + 1) (updF s0_1 s0_0 ((w2 (s0_2).toNat)).fType) (IntKind.i64.wrap (s0_2 + 1)))))
        else (none))
      else (none))
    else (some (.inr (.e1 s0_0 s0_1)))
noncomputable def bd_btf_held_v3_L0 : Code := codeOf Tryd.f28 [1, 1, 0, 1, 0, 1, 1, 1, 0, 1, 0, 0]
def fl_btf_held_v3_L0 (w0 : Int) (w1 : Nat) (w2 : Nat → Member) : Sh_btf_held_v3_L0 → List L1 → List Value
  | .c0 , ls => [.slice none 0 0, (rowV (lget ls 0) w1 3), .int .i64 ((w1 : Int)), .int .i64 (0)]
  | .c1 s0_0 s0_1 s0_2, ls => [(rowV (lget ls 2) s0_0 1), (rowV (lget ls 0) w1 3), .int .i64 ((w1 : Int)), .int .i64 (s0_2)]
def mf_btf_held_v3_L0 : Sh_btf_held_v3_L0 → List (Nat × Nat)
  | .c0  => [(0, 3), (1, 15), (3, 10)]
  | .c1 _ _ _ => [(0, 3), (1, 15), (3, 10)]
noncomputable def fr_btf_held_v3_L0 (w0 : Int) (w1 : Nat) (w2 : Nat → Member) (s : Sh_btf_held_v3_L0) : List L1 → List Value := mrgF (mf_btf_held_v3_L0 s) (fl_btf_held_v3_L0 w0 w1 w2 s) 3
def Hs_btf_held_v3_L0 (w0 : Int) (w1 : Nat) (w2 : Nat → Member) : Sh_btf_held_v3_L0 → List L1 → List Obj
  | .c0 , ls => [rowO (lget ls 0) (esG c_Member w1 w2) 27 w1 3, .cells #[.int .i64 (4), .string (⟨#[115]⟩ : ByteArray), .int .i64 (w0), .bool false, .int .i64 (0), .int .i64 (0), (rowV (lget ls 0) w1 3)] 25, unb, unb]
  | .c1 s0_0 s0_1 s0_2, ls => [rowO (lget ls 0) (esG c_Member w1 w2) 27 w1 3, .cells #[.int .i64 (4), .string (⟨#[115]⟩ : ByteArray), .int .i64 (w0), .bool false, .int .i64 (0), .int .i64 (0), (rowV (lget ls 0) w1 3)] 25, rowO (lget ls 2) (esG cZ s0_0 s0_1) 3 s0_0 1, unb]
def vl_btf_held_v3_L0 (w0 : Int) (w1 : Nat) (w2 : Nat → Member) : Ex_btf_held_v3_L0 → List L1 → List Value
  | .e0 , ls => [.slice none 0 0, (rowV (lget ls 0) w1 3), .int .i64 ((w1 : Int))]
  | .e1 c1_0 c1_1, ls => [(rowV (lget ls 2) c1_0 1), (rowV (lget ls 0) w1 3), .int .i64 ((w1 : Int))]
def mk_btf_held_v3_L0 : Ex_btf_held_v3_L0 → List (Nat × Nat)
  | .e0  => [(0, 3), (1, 15), (2, 11)]
  | .e1 _ _ => [(0, 3), (1, 15), (2, 11)]
noncomputable def vf_btf_held_v3_L0 (w0 : Int) (w1 : Nat) (w2 : Nat → Member) (r : Ex_btf_held_v3_L0) : List L1 → List Value := mrgF (mk_btf_held_v3_L0 r) (vl_btf_held_v3_L0 w0 w1 w2 r) 3
def Hf_btf_held_v3_L0 (w0 : Int) (w1 : Nat) (w2 : Nat → Member) : Ex_btf_held_v3_L0 → List L1 → List Obj
  | .e0 , ls => [rowO (lget ls 0) (esG c_Member w1 w2) 27 w1 3, .cells #[.int .i64 (4), .string (⟨#[115]⟩ : ByteArray), .int .i64 (w0), .bool false, .int .i64 (0), .int .i64 (0), (rowV (lget ls 0) w1 3)] 25, unb, unb]
  | .e1 c1_0 c1_1, ls => [rowO (lget ls 0) (esG c_Member w1 w2) 27 w1 3, .cells #[.int .i64 (4), .string (⟨#[115]⟩ : ByteArray), .int .i64 (w0), .bool false, .int .i64 (0), .int .i64 (0), (rowV (lget ls 0) w1 3)] 25, rowO (lget ls 2) (esG cZ c1_0 c1_1) 3 c1_0 1, unb]
def ex_btf_held_v3_L0 : Ex_btf_held_v3_L0 → Ex
  | .e0  => (.exit 1)
  | .e1 _ _ => (.exit 1)
end
section
variable {M : Nat → Prop} {B0 : Nat} {S : World → Prop} (hU : Up M B0 S) (w0 : Int) (w1 : Nat) (w2 : Nat → Member)
include hU w0 w1 w2
theorem go_btf_held_v3_L0 (s : Sh_btf_held_v3_L0) (r : Ex_btf_held_v3_L0) (h : lpO (st_btf_held_v3_L0 w1 w2) s = some r) : GoesG Tryd.prog M B0 S (.loop bd_btf_held_v3_L0) 4 (fr_btf_held_v3_L0 w0 w1 w2 s) (Hs_btf_held_v3_L0 w0 w1 w2 s) (ex_btf_held_v3_L0 r) 2 (vf_btf_held_v3_L0 w0 w1 w2 r) (Hf_btf_held_v3_L0 w0 w1 w2 r) 4 :=
  goes_lpO (fun s q e => by
    cases s with
    | c0  =>
      unfold st_btf_held_v3_L0 at e
      dsimp only at e
      replace e := cond_eq_or e
      rcases e with ⟨hq0, e⟩ | ⟨hq0, e⟩
      · replace e := cond_eq_or e
        rcases e with ⟨hq1, e⟩ | ⟨hq1, e⟩
        · cases e; exact goes_runM hU [.b (z_lssT hq0), .q (ixM_ok (kd := .i64) (T := 23) (x := 0) (N := w1) (sz := 3) rfl (fun w => by kernel_rfl) hq1), .l (accG (i := 0) (f := c_Member) (A := w2) (k := 0) 0 [.string ((w2 0)).fName, .int .i64 (((w2 0)).fType), .int .i64 (((w2 0)).fBits)] c_Member_len (inR_nat hq1) rfl), .o, .a 4, .o, .o, .a 4, .o, .x (sqAppL1_ok (ty := 55) rt55 #[false, false] (f := cZ) (c := 1) ((w2 0)).fType (T' := 3) cZ_len cZ_one (by decide)) [5], .o, .o, .o] [0, 1, 6] (fun b => rfl) (by decide) rfl rfl (fun b => by kernel_rfl)
        · exact none_some e
      · cases e; exact ⟨ne_exit 1, goes_runM hU [.b (z_lssF hq0)] [0, 1, 2] (fun b => rfl) (by decide) rfl rfl (fun b => by kernel_rfl)⟩
    | c1 s0_0 s0_1 s0_2 =>
      unfold st_btf_held_v3_L0 at e
      dsimp only at e
      replace e := cond_eq_or e
      rcases e with ⟨hq0, e⟩ | ⟨hq0, e⟩
      · replace e := cond_eq_or e
        rcases e with ⟨hq1, e⟩ | ⟨hq1, e⟩
        · replace e := cond_eq_or e
          rcases e with ⟨hq2, e⟩ | ⟨hq2, e⟩
          · cases e; exact goes_runM hU [.b (z_lssT hq0), .q (ixM_ok (kd := .i64) (T := 23) (x := s0_2) (N := w1) (sz := 3) rfl (fun w => by kernel_rfl) hq1), .l (accG (i := 0) (f := c_Member) (A := w2) (k := (s0_2).toNat) 0 [.string ((w2 (s0_2).toNat)).fName, .int .i64 (((w2 (s0_2).toNat)).fType), .int .i64 (((w2 (s0_2).toNat)).fBits)] c_Member_len (inR_nat hq1) rfl), .o, .a 4, .o, .o, .a 4, .o, .x (sqAppL_ok (ty := 55) rt55 #[false, false] (f := cZ) (N := s0_0) (A := s0_1) (c := 1) [((w2 (s0_2).toNat)).fType] (T' := 3) .row cZ_len cZ_one hq2 rfl (by decide)) [2, 5], .o, .o, .o] [0, 1, 6] (fun b => rfl) (by decide) rfl rfl (fun b => by kernel_rfl)
          · exact none_some e
        · exact none_some e
      · cases e; exact ⟨ne_exit 1, goes_runM hU [.b (z_lssF hq0)] [0, 1, 2] (fun b => rfl) (by decide) rfl rfl (fun b => by kernel_rfl)⟩) s r h
noncomputable def t0_btf_held_v3_L0_0 (w0 : Int) (w1 : Nat) (w2 : Nat → Member)  (ls : List L1) : List Value := List.append [.agg #[.int .i64 (4), .string (⟨#[115]⟩ : ByteArray), .int .i64 (w0), .bool false, .int .i64 (0), .int .i64 (0), (rowV (lget ls 0) w1 3)], .pointer (some ⟨(lget ls 1).n, 0, none⟩), .slice none 0 0, .slice none 0 0, undef, undef, .pointer (some ⟨(lget ls 1).n, 0, none⟩), .int .i64 (4), .bool false, .bool false, .bool false] (List.append (und 5) (List.append [.bool true, .bool true, .pointer (some ⟨(lget ls 1).n, 6, none⟩), (rowV (lget ls 0) w1 3), .int .i64 ((w1 : Int)), .int .i64 (0)] (und 10)))
def pre_btf_held_v3_L0_0 (w0 : Int) (w1 : Nat) (w2 : Nat → Member)  (ls : List L1) : List Obj := [rowO (lget ls 0) (esG c_Member w1 w2) 27 w1 3, .cells #[.int .i64 (4), .string (⟨#[115]⟩ : ByteArray), .int .i64 (w0), .bool false, .int .i64 (0), .int .i64 (0), (rowV (lget ls 0) w1 3)] 25]
theorem sp0_btf_held_v3_L0_0_ok (h : lpO (st_btf_held_v3_L0 w1 w2) (.c0) = some (.e0 )) : SpcG Tryd.prog M B0 S ⟨fun ls => .code (.loop bd_btf_held_v3_L0) (t0_btf_held_v3_L0_0 w0 w1 w2  ls), pre_btf_held_v3_L0_0 w0 w1 w2 , 2, (.exit 1), fun ls => vf_btf_held_v3_L0 w0 w1 w2 (.e0 ) (ls.take 2 ++ ls.drop 2), fun ls => (Hf_btf_held_v3_L0 w0 w1 w2 (.e0 ) (ls.take 2 ++ ls.drop 2)).take 2 ++ List.replicate 0 unb, fun ls => (Hf_btf_held_v3_L0 w0 w1 w2 (.e0 ) (ls.take 2 ++ ls.drop 2)).drop 2⟩ :=
  spc_of_goesM hU 1 (k0 := 2) (go_btf_held_v3_L0 hU w0 w1 w2 _ _ h) (t0_btf_held_v3_L0_0 w0 w1 w2 ) (pre_btf_held_v3_L0_0 w0 w1 w2 ) (fun _ => rfl) (fun ls h => by match ls, h with | [l0, l1], _ => exact ⟨by kernel_rfl, by kernel_rfl⟩) (fun ls h => by match ls, h with | [l0, l1], _ => rfl) (by decide) (by decide) (fun ls => rfl)
theorem sp1_btf_held_v3_L0_0_ok (c1_0 : Nat) (c1_1 : Nat → Int) (h : lpO (st_btf_held_v3_L0 w1 w2) (.c0) = some (.e1 c1_0 c1_1)) : SpcG Tryd.prog M B0 S ⟨fun ls => .code (.loop bd_btf_held_v3_L0) (t0_btf_held_v3_L0_0 w0 w1 w2  ls), pre_btf_held_v3_L0_0 w0 w1 w2 , 2, (.exit 1), fun ls => vf_btf_held_v3_L0 w0 w1 w2 (.e1 c1_0 c1_1) (ls.take 2 ++ ls.drop 2), fun ls => (Hf_btf_held_v3_L0 w0 w1 w2 (.e1 c1_0 c1_1) (ls.take 2 ++ ls.drop 2)).take 2 ++ List.replicate 0 unb, fun ls => (Hf_btf_held_v3_L0 w0 w1 w2 (.e1 c1_0 c1_1) (ls.take 2 ++ ls.drop 2)).drop 2⟩ :=
  spc_of_goesM hU 1 (k0 := 2) (go_btf_held_v3_L0 hU w0 w1 w2 _ _ h) (t0_btf_held_v3_L0_0 w0 w1 w2 ) (pre_btf_held_v3_L0_0 w0 w1 w2 ) (fun _ => rfl) (fun ls h => by match ls, h with | [l0, l1], _ => exact ⟨by kernel_rfl, by kernel_rfl⟩) (fun ls h => by match ls, h with | [l0, l1], _ => rfl) (by decide) (by decide) (fun ls => rfl)
inductive R_btf_held_v3 where
  | e0 
  | e1 (c1_0 : Nat) (c1_1 : Nat → Int)
noncomputable def m_btf_held_v3 (w0 : Int) (w1 : Nat) (w2 : Nat → Member) : Option R_btf_held_v3 :=
  (lpO (st_btf_held_v3_L0 w1 w2) (.c0)).bind fun g0 => match g0 with
  | .e0  => (some (.e0))
  | .e1 g0_0 g0_1 => (some (.e1 g0_0 g0_1))
def sq0_btf_held_v3 (w0 : Int) (w1 : Nat) (w2 : Nat → Member)  : Spc := ⟨fun ls => .call 28 #[.agg #[.int .i64 (4), .string (⟨#[115]⟩ : ByteArray), .int .i64 (w0), .bool false, .int .i64 (0), .int .i64 (0), (rowV (lget ls 0) w1 3)]], fun ls => [rowO (lget ls 0) (esG c_Member w1 w2) 27 w1 3], 0, .normal, fun ls => [.slice none 0 0], fun ls => [rowO (lget ls 0) (esG c_Member w1 w2) 27 w1 3], fun ls => []⟩
def sq1_btf_held_v3 (w0 : Int) (w1 : Nat) (w2 : Nat → Member) (c1_0 : Nat) (c1_1 : Nat → Int) : Spc := ⟨fun ls => .call 28 #[.agg #[.int .i64 (4), .string (⟨#[115]⟩ : ByteArray), .int .i64 (w0), .bool false, .int .i64 (0), .int .i64 (0), (rowV (lget ls 0) w1 3)]], fun ls => [rowO (lget ls 0) (esG c_Member w1 w2) 27 w1 3], 1, .normal, fun ls => [(rowV (lget ls 1) c1_0 1)], fun ls => [rowO (lget ls 0) (esG c_Member w1 w2) 27 w1 3], fun ls => [rowO (lget ls 1) (esG cZ c1_0 c1_1) 3 c1_0 1]⟩
theorem ok0_btf_held_v3 (e : m_btf_held_v3 w0 w1 w2 = some (.e0 )) : SpcG Tryd.prog M B0 S (sq0_btf_held_v3 w0 w1 w2 ) := by
  unfold m_btf_held_v3 at e
  replace e := bindO_eq e
  obtain ⟨g0, e_g0, e⟩ := e
  rcases g0 with _ | ⟨g0_0, g0_1⟩
  · try dsimp only at e
    exact fn_specG hU (P := Tryd.prog) Tryd.func28 (fun xs w => by kernel_rfl) 1 _ _ (fun _ => rfl) _ _ _ [] [.o, .o, .o, .o, .a 1, .o, .o, .o, .o, .o, .o, .o, .a 1, .o, .o, .cp, .cx (sp0_btf_held_v3_L0_0_ok hU w0 w1 w2   e_g0) [0, 1], .o, .o] [] (fun b => by kernel_rfl)
  · try dsimp only at e
    cases e
theorem ok1_btf_held_v3 (c1_0 : Nat) (c1_1 : Nat → Int) (e : m_btf_held_v3 w0 w1 w2 = some (.e1 c1_0 c1_1)) : SpcG Tryd.prog M B0 S (sq1_btf_held_v3 w0 w1 w2 c1_0 c1_1) := by
  unfold m_btf_held_v3 at e
  replace e := bindO_eq e
  obtain ⟨g0, e_g0, e⟩ := e
  rcases g0 with _ | ⟨g0_0, g0_1⟩
  · try dsimp only at e
    cases e
  · try dsimp only at e
    injection e with e; injection e with i0 i1; subst i0 i1; exact fn_specG hU (P := Tryd.prog) Tryd.func28 (fun xs w => by kernel_rfl) 1 _ _ (fun _ => rfl) _ _ _ [2] [.o, .o, .o, .o, .a 1, .o, .o, .o, .o, .o, .o, .o, .a 1, .o, .o, .cp, .cx (sp1_btf_held_v3_L0_0_ok hU w0 w1 w2  g0_0 g0_1 e_g0) [0, 1], .o, .o] [] (fun b => by kernel_rfl)
def sq0_btf_holdsItself_1_v5 (w0 : Int) (w1 : Int) (w2 : Nat) (w3 : Nat → Member) (w4 : Nat → Bool)  : Spc := ⟨fun ls => .call 27 #[.int .i64 (1), .pointer (some ⟨(lget ls 0).n, 0, none⟩), .pointer (some ⟨(lget ls 3).n, 0, none⟩), .pointer (some ⟨(lget ls 4).n, 0, none⟩), .pointer (some ⟨(lget ls 5).n, 0, none⟩)], fun ls => [.cells #[.slice (some ⟨(lget ls 1).n, 0, none⟩) 2 2] 28, .cells #[.int .i64 (1), .string (⟨#[117, 110, 105, 116]⟩ : ByteArray), .int .i64 (w0), .bool false, .int .i64 (0), .int .i64 (0), .slice none 0 0, .int .i64 (4), .string (⟨#[115]⟩ : ByteArray), .int .i64 (w1), .bool false, .int .i64 (0), .int .i64 (0), (rowV (lget ls 2) w2 3)] 25, rowO (lget ls 2) (esG c_Member w2 w3) 27 w2 3, .cells #[.int .i64 (2)] 3, .cells ⟨esG cB 257 w4⟩ 53, .cells #[.func (.func 27) #[] #[.pointer (some ⟨(lget ls 0).n, 0, none⟩), .pointer (some ⟨(lget ls 3).n, 0, none⟩), .pointer (some ⟨(lget ls 4).n, 0, none⟩), .pointer (some ⟨(lget ls 5).n, 0, none⟩)]] 54], 0, .normal, fun ls => [.bool false], fun ls => [.cells #[.slice (some ⟨(lget ls 1).n, 0, none⟩) 2 2] 28, .cells #[.int .i64 (1), .string (⟨#[117, 110, 105, 116]⟩ : ByteArray), .int .i64 (w0), .bool false, .int .i64 (0), .int .i64 (0), .slice none 0 0, .int .i64 (4), .string (⟨#[115]⟩ : ByteArray), .int .i64 (w1), .bool false, .int .i64 (0), .int .i64 (0), (rowV (lget ls 2) w2 3)] 25, rowO (lget ls 2) (esG c_Member w2 w3) 27 w2 3, .cells #[.int .i64 (2)] 3, .cells ⟨esG cB 257 w4⟩ 53, .cells #[.func (.func 27) #[] #[.pointer (some ⟨(lget ls 0).n, 0, none⟩), .pointer (some ⟨(lget ls 3).n, 0, none⟩), .pointer (some ⟨(lget ls 4).n, 0, none⟩), .pointer (some ⟨(lget ls 5).n, 0, none⟩)]] 54], fun ls => []⟩
end
section
variable {M : Nat → Prop} {B0 : Nat} {S : World → Prop} (hU : Up M B0 S) (w0 : Int) (w1 : Int) (w2 : Nat) (w3 : Nat → Member) (w4 : Nat → Bool)
include hU w0 w1 w2 w3 w4
theorem p0_btf_holdsItself_1_v5 : SpcG Tryd.prog M B0 S (sq0_btf_holdsItself_1_v5 w0 w1 w2 w3 w4 ) :=
  fn_specG hU (P := Tryd.prog) Tryd.func27 (fun xs w => by kernel_rfl) 6 _ _ (fun _ => rfl) _ _ _ []
    [.o, .a 0, .o, .o, .o, .a 1, .xg (p0_btf_held_v2 hU w0 ) [], .o, .o, .o, .o]
    [] (fun b => by kernel_rfl)
inductive Sh_btf_holdsItself_1_v4_L0 where
  | c0 (s0_0 : Nat → Bool) (s0_1 : Int)
inductive Ex_btf_holdsItself_1_v4_L0 where
  | e0 (c0_0 : Nat → Bool)
noncomputable def st_btf_holdsItself_1_v4_L0 (g0_0 : Nat) (g0_1 : Nat → Int) : Sh_btf_holdsItself_1_v4_L0 → Option (Sh_btf_holdsItself_1_v4_L0 ⊕ Ex_btf_holdsItself_1_v4_L0)
  | .c0 s0_0 s0_1 =>
    bif decide (s0_1 < (g0_0 : Int)) then
      (bif inR s0_1 g0_0 then
        (bif (g0_1 (s0_1).toNat) == 1 then
          (bif (s0_0 1) then
            (some (.inl (.c0 s0_0 (IntKind.i64.wrap (s0_1 + 1)))))
          else (some (.inl (.c0 (updF s0_0 1 true) (IntKind.i64.wrap (s0_1 + 1))))))
        else (none))
      else (none))
    else (some (.inr (.e0 s0_0)))
noncomputable def bd_btf_holdsItself_1_v4_L0 : Code := codeOf Tryd.f27 [1, 0, 1, 0, 0]
def fl_btf_holdsItself_1_v4_L0 (w0 : Int) (w1 : Int) (w2 : Nat) (w3 : Nat → Member) (w4 : Nat → Bool) (g0_0 : Nat) (g0_1 : Nat → Int) : Sh_btf_holdsItself_1_v4_L0 → List L1 → List Value
  | .c0 s0_0 s0_1, ls => [.pointer (some ⟨(lget ls 3).n, 0, none⟩), .pointer (some ⟨(lget ls 4).n, 0, none⟩), .pointer (some ⟨(lget ls 5).n, 0, none⟩), .bool false, (rowV (lget ls 6) g0_0 1), .int .i64 ((g0_0 : Int)), .int .i64 (s0_1)]
def mf_btf_holdsItself_1_v4_L0 : Sh_btf_holdsItself_1_v4_L0 → List (Nat × Nat)
  | .c0 _ _ => [(0, 2), (3, 1), (1, 7), (3, 15)]
noncomputable def fr_btf_holdsItself_1_v4_L0 (w0 : Int) (w1 : Int) (w2 : Nat) (w3 : Nat → Member) (w4 : Nat → Bool) (g0_0 : Nat) (g0_1 : Nat → Int) (s : Sh_btf_holdsItself_1_v4_L0) : List L1 → List Value := mrgF (mf_btf_holdsItself_1_v4_L0 s) (fl_btf_holdsItself_1_v4_L0 w0 w1 w2 w3 w4 g0_0 g0_1 s) 7
def Hs_btf_holdsItself_1_v4_L0 (w0 : Int) (w1 : Int) (w2 : Nat) (w3 : Nat → Member) (w4 : Nat → Bool) (g0_0 : Nat) (g0_1 : Nat → Int) : Sh_btf_holdsItself_1_v4_L0 → List L1 → List Obj
  | .c0 s0_0 s0_1, ls => [.cells #[.slice (some ⟨(lget ls 1).n, 0, none⟩) 2 2] 28, .cells #[.int .i64 (1), .string (⟨#[117, 110, 105, 116]⟩ : ByteArray), .int .i64 (w0), .bool false, .int .i64 (0), .int .i64 (0), .slice none 0 0, .int .i64 (4), .string (⟨#[115]⟩ : ByteArray), .int .i64 (w1), .bool false, .int .i64 (0), .int .i64 (0), (rowV (lget ls 2) w2 3)] 25, rowO (lget ls 2) (esG c_Member w2 w3) 27 w2 3, .cells #[.int .i64 (2)] 3, .cells ⟨esG cB 257 s0_0⟩ 53, .cells #[.func (.func 27) #[] #[.pointer (some ⟨(lget ls 0).n, 0, none⟩), .pointer (some ⟨(lget ls 3).n, 0, none⟩), .pointer (some ⟨(lget ls 4).n, 0, none⟩), .pointer (some ⟨(lget ls 5).n, 0, none⟩)]] 54, rowO (lget ls 6) (esG cZ g0_0 g0_1) 3 g0_0 1, unb]
def vl_btf_holdsItself_1_v4_L0 (w0 : Int) (w1 : Int) (w2 : Nat) (w3 : Nat → Member) (w4 : Nat → Bool) (g0_0 : Nat) (g0_1 : Nat → Int) : Ex_btf_holdsItself_1_v4_L0 → List L1 → List Value
  | .e0 c0_0, ls => [.pointer (some ⟨(lget ls 3).n, 0, none⟩), .pointer (some ⟨(lget ls 4).n, 0, none⟩), .pointer (some ⟨(lget ls 5).n, 0, none⟩), .bool false, (rowV (lget ls 6) g0_0 1), .int .i64 ((g0_0 : Int))]
def mk_btf_holdsItself_1_v4_L0 : Ex_btf_holdsItself_1_v4_L0 → List (Nat × Nat)
  | .e0 _ => [(0, 2), (3, 1), (1, 7), (2, 16)]
noncomputable def vf_btf_holdsItself_1_v4_L0 (w0 : Int) (w1 : Int) (w2 : Nat) (w3 : Nat → Member) (w4 : Nat → Bool) (g0_0 : Nat) (g0_1 : Nat → Int) (r : Ex_btf_holdsItself_1_v4_L0) : List L1 → List Value := mrgF (mk_btf_holdsItself_1_v4_L0 r) (vl_btf_holdsItself_1_v4_L0 w0 w1 w2 w3 w4 g0_0 g0_1 r) 7
def Hf_btf_holdsItself_1_v4_L0 (w0 : Int) (w1 : Int) (w2 : Nat) (w3 : Nat → Member) (w4 : Nat → Bool) (g0_0 : Nat) (g0_1 : Nat → Int) : Ex_btf_holdsItself_1_v4_L0 → List L1 → List Obj
  | .e0 c0_0, ls => [.cells #[.slice (some ⟨(lget ls 1).n, 0, none⟩) 2 2] 28, .cells #[.int .i64 (1), .string (⟨#[117, 110, 105, 116]⟩ : ByteArray), .int .i64 (w0), .bool false, .int .i64 (0), .int .i64 (0), .slice none 0 0, .int .i64 (4), .string (⟨#[115]⟩ : ByteArray), .int .i64 (w1), .bool false, .int .i64 (0), .int .i64 (0), (rowV (lget ls 2) w2 3)] 25, rowO (lget ls 2) (esG c_Member w2 w3) 27 w2 3, .cells #[.int .i64 (2)] 3, .cells ⟨esG cB 257 c0_0⟩ 53, .cells #[.func (.func 27) #[] #[.pointer (some ⟨(lget ls 0).n, 0, none⟩), .pointer (some ⟨(lget ls 3).n, 0, none⟩), .pointer (some ⟨(lget ls 4).n, 0, none⟩), .pointer (some ⟨(lget ls 5).n, 0, none⟩)]] 54, rowO (lget ls 6) (esG cZ g0_0 g0_1) 3 g0_0 1, unb]
def ex_btf_holdsItself_1_v4_L0 : Ex_btf_holdsItself_1_v4_L0 → Ex
  | .e0 _ => (.exit 0)
theorem go_btf_holdsItself_1_v4_L0 (g0_0 : Nat) (g0_1 : Nat → Int) (s : Sh_btf_holdsItself_1_v4_L0) (r : Ex_btf_holdsItself_1_v4_L0) (h : lpO (st_btf_holdsItself_1_v4_L0 g0_0 g0_1) s = some r) : GoesG Tryd.prog M B0 S (.loop bd_btf_holdsItself_1_v4_L0) 8 (fr_btf_holdsItself_1_v4_L0 w0 w1 w2 w3 w4 g0_0 g0_1 s) (Hs_btf_holdsItself_1_v4_L0 w0 w1 w2 w3 w4 g0_0 g0_1 s) (ex_btf_holdsItself_1_v4_L0 r) 7 (vf_btf_holdsItself_1_v4_L0 w0 w1 w2 w3 w4 g0_0 g0_1 r) (Hf_btf_holdsItself_1_v4_L0 w0 w1 w2 w3 w4 g0_0 g0_1 r) 8 :=
  goes_lpO (fun s q e => by
    cases s with
    | c0 s0_0 s0_1 =>
      unfold st_btf_holdsItself_1_v4_L0 at e
      dsimp only at e
      replace e := cond_eq_or e
      rcases e with ⟨hq0, e⟩ | ⟨hq0, e⟩
      · replace e := cond_eq_or e
        rcases e with ⟨hq1, e⟩ | ⟨hq1, e⟩
        · replace e := cond_eq_or e
          rcases e with ⟨hq2, e⟩ | ⟨hq2, e⟩
          · replace e := cond_eq_or e
            rcases e with ⟨hq3, e⟩ | ⟨hq3, e⟩
            · cases e; exact goes_runM hU [.b (z_lssT hq0), .q (ixM_ok (kd := .i64) (T := 55) (x := s0_1) (N := g0_0) (sz := 1) rfl (fun w => by kernel_rfl) hq1), .l (accG (i := 6) (f := cZ) (A := g0_1) (k := (s0_1).toNat) 0 [.int .i64 (1)] cZ_len (inR_nat hq1) (congrArg (fun x : Int => ([.int .i64 x] : List Value)) (eq_of_beq hq2))), .o, .o, .a 3, .o, .o, .q (ixA_ok (kd := .i64) (T := 53) (x := 1) (sz := 1) (N := 257) rfl rfl (fun w => by kernel_rfl) (show inR 1 257 = true from by decide)), .l (accF (i := 4) (f := cB) (A := s0_0) (k := 1) 0 [.bool true] cB_len (inR_nat (show inR 1 257 = true from by decide)) (congrArg (fun b => [Value.bool b]) hq3)), .o, .o] [0, 1, 2, 3, 4, 5, 6] (fun b => rfl) (by decide) rfl rfl (fun b => by kernel_rfl)
            · cases e; exact goes_runM hU [.b (z_lssT hq0), .q (ixM_ok (kd := .i64) (T := 55) (x := s0_1) (N := g0_0) (sz := 1) rfl (fun w => by kernel_rfl) hq1), .l (accG (i := 6) (f := cZ) (A := g0_1) (k := (s0_1).toNat) 0 [.int .i64 (1)] cZ_len (inR_nat hq1) (congrArg (fun x : Int => ([.int .i64 x] : List Value)) (eq_of_beq hq2))), .o, .o, .a 3, .o, .o, .q (ixA_ok (kd := .i64) (T := 53) (x := 1) (sz := 1) (N := 257) rfl rfl (fun w => by kernel_rfl) (show inR 1 257 = true from by decide)), .l (accF (i := 4) (f := cB) (A := s0_0) (k := 1) 0 [.bool false] cB_len (inR_nat (show inR 1 257 = true from by decide)) (congrArg (fun b => [Value.bool b]) hq3)), .o, .q (ixA_ok (kd := .i64) (T := 53) (x := 1) (sz := 1) (N := 257) rfl rfl (fun w => by kernel_rfl) (show inR 1 257 = true from by decide)), .x (sqStF_ok (T := 4) (e := 53) (f := cB) (A := s0_0) (v := true) 0 (.bool true) cB_len cB_one rfl rfl (fun w => by kernel_rfl) (inR_nat (show inR 1 257 = true from by decide))) [4], .a 5, .o, .xg (p0_btf_holdsItself_1_v5 hU w0 w1 w2 w3 (updF s0_0 1 true) ) [0, 1, 2, 3, 4, 5], .o, .o] [0, 1, 2, 3, 4, 5, 6] (fun b => rfl) (by decide) rfl rfl (fun b => by kernel_rfl)
          · exact none_some e
        · exact none_some e
      · cases e; exact ⟨ne_exit 0, goes_runM hU [.b (z_lssF hq0)] [0, 1, 2, 3, 4, 5, 6] (fun b => rfl) (by decide) rfl rfl (fun b => by kernel_rfl)⟩) s r h
noncomputable def t0_btf_holdsItself_1_v4_L0_0 (w0 : Int) (w1 : Int) (w2 : Nat) (w3 : Nat → Member) (w4 : Nat → Bool) (g0_0 : Nat) (g0_1 : Nat → Int) (s0_0 : Nat → Bool) (s0_1 : Int) (ls : List L1) : List Value := List.append [.int .i64 (2), .pointer (some ⟨(lget ls 0).n, 0, none⟩), .pointer (some ⟨(lget ls 3).n, 0, none⟩), .pointer (some ⟨(lget ls 4).n, 0, none⟩), .pointer (some ⟨(lget ls 5).n, 0, none⟩), undef, .bool false, undef, undef, .slice (some ⟨(lget ls 1).n, 0, none⟩) 2 2, .int .i64 (2), .int .i64 (1), .pointer (some ⟨(lget ls 1).n, 7, none⟩), .agg #[.int .i64 (4), .string (⟨#[115]⟩ : ByteArray), .int .i64 (w1), .bool false, .int .i64 (0), .int .i64 (0), (rowV (lget ls 2) w2 3)], (rowV (lget ls 6) g0_0 1), .int .i64 ((g0_0 : Int)), .int .i64 (s0_1)] (und 15)
def pre_btf_holdsItself_1_v4_L0_0 (w0 : Int) (w1 : Int) (w2 : Nat) (w3 : Nat → Member) (w4 : Nat → Bool) (g0_0 : Nat) (g0_1 : Nat → Int) (s0_0 : Nat → Bool) (s0_1 : Int) (ls : List L1) : List Obj := [.cells #[.slice (some ⟨(lget ls 1).n, 0, none⟩) 2 2] 28, .cells #[.int .i64 (1), .string (⟨#[117, 110, 105, 116]⟩ : ByteArray), .int .i64 (w0), .bool false, .int .i64 (0), .int .i64 (0), .slice none 0 0, .int .i64 (4), .string (⟨#[115]⟩ : ByteArray), .int .i64 (w1), .bool false, .int .i64 (0), .int .i64 (0), (rowV (lget ls 2) w2 3)] 25, rowO (lget ls 2) (esG c_Member w2 w3) 27 w2 3, .cells #[.int .i64 (2)] 3, .cells ⟨esG cB 257 s0_0⟩ 53, .cells #[.func (.func 27) #[] #[.pointer (some ⟨(lget ls 0).n, 0, none⟩), .pointer (some ⟨(lget ls 3).n, 0, none⟩), .pointer (some ⟨(lget ls 4).n, 0, none⟩), .pointer (some ⟨(lget ls 5).n, 0, none⟩)]] 54, rowO (lget ls 6) (esG cZ g0_0 g0_1) 3 g0_0 1]
theorem sp0_btf_holdsItself_1_v4_L0_0_ok (g0_0 : Nat) (g0_1 : Nat → Int) (s0_0 : Nat → Bool) (s0_1 : Int) (c0_0 : Nat → Bool) (h : lpO (st_btf_holdsItself_1_v4_L0 g0_0 g0_1) (.c0 s0_0 s0_1) = some (.e0 c0_0)) : SpcG Tryd.prog M B0 S ⟨fun ls => .code (.loop bd_btf_holdsItself_1_v4_L0) (t0_btf_holdsItself_1_v4_L0_0 w0 w1 w2 w3 w4 g0_0 g0_1 s0_0 s0_1 ls), pre_btf_holdsItself_1_v4_L0_0 w0 w1 w2 w3 w4 g0_0 g0_1 s0_0 s0_1, 1, (.exit 0), fun ls => vf_btf_holdsItself_1_v4_L0 w0 w1 w2 w3 w4 g0_0 g0_1 (.e0 c0_0) (ls.take 7 ++ ls.drop 7), fun ls => (Hf_btf_holdsItself_1_v4_L0 w0 w1 w2 w3 w4 g0_0 g0_1 (.e0 c0_0) (ls.take 7 ++ ls.drop 7)).take 7 ++ List.replicate 0 unb, fun ls => (Hf_btf_holdsItself_1_v4_L0 w0 w1 w2 w3 w4 g0_0 g0_1 (.e0 c0_0) (ls.take 7 ++ ls.drop 7)).drop 7⟩ :=
  spc_of_goesM hU 0 (k0 := 7) (go_btf_holdsItself_1_v4_L0 hU w0 w1 w2 w3 w4 g0_0 g0_1 _ _ h) (t0_btf_holdsItself_1_v4_L0_0 w0 w1 w2 w3 w4 g0_0 g0_1 s0_0 s0_1) (pre_btf_holdsItself_1_v4_L0_0 w0 w1 w2 w3 w4 g0_0 g0_1 s0_0 s0_1) (fun _ => rfl) (fun ls h => by match ls, h with | [l0, l1, l2, l3, l4, l5, l6], _ => exact ⟨by kernel_rfl, by kernel_rfl⟩) (fun ls h => by match ls, h with | [l0, l1, l2, l3, l4, l5, l6], _ => rfl) (by decide) (by decide) (fun ls => rfl)
inductive R_btf_holdsItself_1_v4 where
  | e0 (c0_0 : Nat → Bool)
noncomputable def m_btf_holdsItself_1_v4 (w0 : Int) (w1 : Int) (w2 : Nat) (w3 : Nat → Member) (w4 : Nat → Bool) : Option R_btf_holdsItself_1_v4 :=
  (m_btf_held_v3 w1 w2 w3).bind fun g0 => match g0 with
  | .e0  => (some (.e0 w4))
  | .e1 g0_0 g0_1 => ((lpO (st_btf_holdsItself_1_v4_L0 g0_0 g0_1) (.c0 w4 0)).bind fun g1 => match g1 with
    | .e0 g1_0 =>
    some (.e0 g1_0))
def sq0_btf_holdsItself_1_v4 (w0 : Int) (w1 : Int) (w2 : Nat) (w3 : Nat → Member) (w4 : Nat → Bool) (c0_0 : Nat → Bool) : Spc := ⟨fun ls => .call 27 #[.int .i64 (2), .pointer (some ⟨(lget ls 0).n, 0, none⟩), .pointer (some ⟨(lget ls 3).n, 0, none⟩), .pointer (some ⟨(lget ls 4).n, 0, none⟩), .pointer (some ⟨(lget ls 5).n, 0, none⟩)], fun ls => [.cells #[.slice (some ⟨(lget ls 1).n, 0, none⟩) 2 2] 28, .cells #[.int .i64 (1), .string (⟨#[117, 110, 105, 116]⟩ : ByteArray), .int .i64 (w0), .bool false, .int .i64 (0), .int .i64 (0), .slice none 0 0, .int .i64 (4), .string (⟨#[115]⟩ : ByteArray), .int .i64 (w1), .bool false, .int .i64 (0), .int .i64 (0), (rowV (lget ls 2) w2 3)] 25, rowO (lget ls 2) (esG c_Member w2 w3) 27 w2 3, .cells #[.int .i64 (2)] 3, .cells ⟨esG cB 257 w4⟩ 53, .cells #[.func (.func 27) #[] #[.pointer (some ⟨(lget ls 0).n, 0, none⟩), .pointer (some ⟨(lget ls 3).n, 0, none⟩), .pointer (some ⟨(lget ls 4).n, 0, none⟩), .pointer (some ⟨(lget ls 5).n, 0, none⟩)]] 54], 0, .normal, fun ls => [.bool false], fun ls => [.cells #[.slice (some ⟨(lget ls 1).n, 0, none⟩) 2 2] 28, .cells #[.int .i64 (1), .string (⟨#[117, 110, 105, 116]⟩ : ByteArray), .int .i64 (w0), .bool false, .int .i64 (0), .int .i64 (0), .slice none 0 0, .int .i64 (4), .string (⟨#[115]⟩ : ByteArray), .int .i64 (w1), .bool false, .int .i64 (0), .int .i64 (0), (rowV (lget ls 2) w2 3)] 25, rowO (lget ls 2) (esG c_Member w2 w3) 27 w2 3, .cells #[.int .i64 (2)] 3, .cells ⟨esG cB 257 c0_0⟩ 53, .cells #[.func (.func 27) #[] #[.pointer (some ⟨(lget ls 0).n, 0, none⟩), .pointer (some ⟨(lget ls 3).n, 0, none⟩), .pointer (some ⟨(lget ls 4).n, 0, none⟩), .pointer (some ⟨(lget ls 5).n, 0, none⟩)]] 54], fun ls => []⟩
theorem ok0_btf_holdsItself_1_v4 (c0_0 : Nat → Bool) (e : m_btf_holdsItself_1_v4 w0 w1 w2 w3 w4 = some (.e0 c0_0)) : SpcG Tryd.prog M B0 S (sq0_btf_holdsItself_1_v4 w0 w1 w2 w3 w4 c0_0) := by
  unfold m_btf_holdsItself_1_v4 at e
  replace e := bindO_eq e
  obtain ⟨g0, e_g0, e⟩ := e
  rcases g0 with _ | ⟨g0_0, g0_1⟩
  · try dsimp only at e
    injection e with e; injection e with i0; subst i0; exact fn_specG hU (P := Tryd.prog) Tryd.func27 (fun xs w => by kernel_rfl) 6 _ _ (fun _ => rfl) _ _ _ [] [.o, .a 0, .o, .o, .o, .a 1, .xg (ok0_btf_held_v3 hU w1 w2 w3  e_g0) [2], .o, .o, .o, .o] [] (fun b => by kernel_rfl)
  · try dsimp only at e
    replace e := bindO_eq e
    obtain ⟨g1, e_g1, e⟩ := e
    obtain ⟨g1_0⟩ := g1
    try dsimp only at e
    injection e with e; injection e with i0; subst i0; exact fn_specG hU (P := Tryd.prog) Tryd.func27 (fun xs w => by kernel_rfl) 6 _ _ (fun _ => rfl) _ _ _ [] [.o, .a 0, .o, .o, .o, .a 1, .xg (ok1_btf_held_v3 hU w1 w2 w3 g0_0 g0_1 e_g0) [2], .o, .o, .cp, .cx (sp0_btf_holdsItself_1_v4_L0_0_ok hU w0 w1 w2 w3 w4 g0_0 g0_1 w4 0 g1_0 e_g1) [0, 1, 2, 3, 4, 5, 6], .o] [] (fun b => by kernel_rfl)
inductive R_btf_holdsItself_v1 where
  | e0 
noncomputable def m_btf_holdsItself_v1 (w0 : Int) (w1 : Int) (w2 : Nat) (w3 : Nat → Member) : Option R_btf_holdsItself_v1 :=
  (m_btf_holdsItself_1_v4 w0 w1 w2 w3 (fun _ => false)).bind fun g0 => match g0 with
  | .e0 g0_0 =>
  some (.e0)
def sq0_btf_holdsItself_v1 (w0 : Int) (w1 : Int) (w2 : Nat) (w3 : Nat → Member)  : Spc := ⟨fun ls => .call 18 #[.slice (some ⟨(lget ls 0).n, 0, none⟩) 2 2], fun ls => [.cells #[.int .i64 (1), .string (⟨#[117, 110, 105, 116]⟩ : ByteArray), .int .i64 (w0), .bool false, .int .i64 (0), .int .i64 (0), .slice none 0 0, .int .i64 (4), .string (⟨#[115]⟩ : ByteArray), .int .i64 (w1), .bool false, .int .i64 (0), .int .i64 (0), (rowV (lget ls 1) w2 3)] 25, rowO (lget ls 1) (esG c_Member w2 w3) 27 w2 3], 0, .normal, fun ls => [.int .i64 (0)], fun ls => [.cells #[.int .i64 (1), .string (⟨#[117, 110, 105, 116]⟩ : ByteArray), .int .i64 (w0), .bool false, .int .i64 (0), .int .i64 (0), .slice none 0 0, .int .i64 (4), .string (⟨#[115]⟩ : ByteArray), .int .i64 (w1), .bool false, .int .i64 (0), .int .i64 (0), (rowV (lget ls 1) w2 3)] 25, rowO (lget ls 1) (esG c_Member w2 w3) 27 w2 3], fun ls => []⟩
end
section
variable {M : Nat → Prop} {B0 : Nat} {S : World → Prop} (hU : Up M B0 S) (w0 : Int) (w1 : Int) (w2 : Nat) (w3 : Nat → Member)
include hU w0 w1 w2 w3
theorem ok0_btf_holdsItself_v1 (e : m_btf_holdsItself_v1 w0 w1 w2 w3 = some (.e0 )) : SpcG Tryd.prog M B0 S (sq0_btf_holdsItself_v1 w0 w1 w2 w3 ) := by
  unfold m_btf_holdsItself_v1 at e
  replace e := bindO_eq e
  obtain ⟨g0, e_g0, e⟩ := e
  obtain ⟨g0_0⟩ := g0
  try dsimp only at e
  exact fn_specG hU (P := Tryd.prog) Tryd.func18 (fun xs w => by kernel_rfl) 2 _ _ (fun _ => rfl) _ _ _ [] [.o, .o, .o, .a 3, .a 3, .a 2, .o, .o, .o, .o, .o, .a 5, .a 5, .a 3, .xg (p0_btf_holdsItself_1_v3 hU w0 w1 w2 w3 (fun _ => false) ) [2, 0, 1, 3, 4, 5], .a 3, .o, .a 6, .a 6, .o, .a 6, .a 6, .a 2, .o, .o, .o, .o, .o, .a 8, .a 8, .a 6, .xg (ok0_btf_holdsItself_1_v4 hU w0 w1 w2 w3 (fun _ => false) g0_0 e_g0) [2, 0, 1, 6, 7, 8], .a 6, .o, .a 9, .a 9, .o, .a 9, .a 9, .a 2, .o, .o, .o] [] (fun b => by kernel_rfl)
def sq0_btf_holdsFunction_v2 (w0 : Int) (w1 : Int) (w2 : Nat) (w3 : Nat → Member)  : Spc := ⟨fun ls => .call 19 #[.slice (some ⟨(lget ls 0).n, 0, none⟩) 2 2, .agg #[.int .i64 (1), .string (⟨#[117, 110, 105, 116]⟩ : ByteArray), .int .i64 (w0), .bool false, .int .i64 (0), .int .i64 (0), .slice none 0 0]], fun ls => [.cells #[.int .i64 (1), .string (⟨#[117, 110, 105, 116]⟩ : ByteArray), .int .i64 (w0), .bool false, .int .i64 (0), .int .i64 (0), .slice none 0 0, .int .i64 (4), .string (⟨#[115]⟩ : ByteArray), .int .i64 (w1), .bool false, .int .i64 (0), .int .i64 (0), (rowV (lget ls 1) w2 3)] 25, rowO (lget ls 1) (esG c_Member w2 w3) 27 w2 3], 0, .normal, fun ls => [.bool false], fun ls => [.cells #[.int .i64 (1), .string (⟨#[117, 110, 105, 116]⟩ : ByteArray), .int .i64 (w0), .bool false, .int .i64 (0), .int .i64 (0), .slice none 0 0, .int .i64 (4), .string (⟨#[115]⟩ : ByteArray), .int .i64 (w1), .bool false, .int .i64 (0), .int .i64 (0), (rowV (lget ls 1) w2 3)] 25, rowO (lget ls 1) (esG c_Member w2 w3) 27 w2 3], fun ls => []⟩
theorem p0_btf_holdsFunction_v2 : SpcG Tryd.prog M B0 S (sq0_btf_holdsFunction_v2 w0 w1 w2 w3 ) :=
  fn_specG hU (P := Tryd.prog) Tryd.func19 (fun xs w => by kernel_rfl) 2 _ _ (fun _ => rfl) _ _ _ []
    [.o, .o, .o, .a 2, .o, .o, .o, .o, .a 2, .o, .o, .o, .o]
    [] (fun b => by kernel_rfl)
def sq0_btf_resolve_v2 (w0 : Int) (w1 : Int) (w2 : Nat) (w3 : Nat → Member)  : Spc := ⟨fun ls => .call 14 #[.slice (some ⟨(lget ls 0).n, 0, none⟩) 2 2, .int .i64 (1)], fun ls => [.cells #[.int .i64 (1), .string (⟨#[117, 110, 105, 116]⟩ : ByteArray), .int .i64 (w0), .bool false, .int .i64 (0), .int .i64 (0), .slice none 0 0, .int .i64 (4), .string (⟨#[115]⟩ : ByteArray), .int .i64 (w1), .bool false, .int .i64 (0), .int .i64 (0), (rowV (lget ls 1) w2 3)] 25, rowO (lget ls 1) (esG c_Member w2 w3) 27 w2 3], 0, .normal, fun ls => [.int .i64 (1)], fun ls => [.cells #[.int .i64 (1), .string (⟨#[117, 110, 105, 116]⟩ : ByteArray), .int .i64 (w0), .bool false, .int .i64 (0), .int .i64 (0), .slice none 0 0, .int .i64 (4), .string (⟨#[115]⟩ : ByteArray), .int .i64 (w1), .bool false, .int .i64 (0), .int .i64 (0), (rowV (lget ls 1) w2 3)] 25, rowO (lget ls 1) (esG c_Member w2 w3) 27 w2 3], fun ls => []⟩
theorem p0_btf_resolve_v2 : SpcG Tryd.prog M B0 S (sq0_btf_resolve_v2 w0 w1 w2 w3 ) :=
  fn_specG hU (P := Tryd.prog) Tryd.func14 (fun xs w => by kernel_rfl) 2 _ _ (fun _ => rfl) _ _ _ []
    [.o, .o, .o, .o, .o, .o, .a 0, .o, .o, .o]
    [] (fun b => by kernel_rfl)
def sq0_btf_isFunction_v1 (w0 : Int) (w1 : Int) (w2 : Nat) (w3 : Nat → Member)  : Spc := ⟨fun ls => .call 29 #[.slice (some ⟨(lget ls 0).n, 0, none⟩) 2 2, .int .i64 (1)], fun ls => [.cells #[.int .i64 (1), .string (⟨#[117, 110, 105, 116]⟩ : ByteArray), .int .i64 (w0), .bool false, .int .i64 (0), .int .i64 (0), .slice none 0 0, .int .i64 (4), .string (⟨#[115]⟩ : ByteArray), .int .i64 (w1), .bool false, .int .i64 (0), .int .i64 (0), (rowV (lget ls 1) w2 3)] 25, rowO (lget ls 1) (esG c_Member w2 w3) 27 w2 3], 0, .normal, fun ls => [.bool false], fun ls => [.cells #[.int .i64 (1), .string (⟨#[117, 110, 105, 116]⟩ : ByteArray), .int .i64 (w0), .bool false, .int .i64 (0), .int .i64 (0), .slice none 0 0, .int .i64 (4), .string (⟨#[115]⟩ : ByteArray), .int .i64 (w1), .bool false, .int .i64 (0), .int .i64 (0), (rowV (lget ls 1) w2 3)] 25, rowO (lget ls 1) (esG c_Member w2 w3) 27 w2 3], fun ls => []⟩
theorem p0_btf_isFunction_v1 : SpcG Tryd.prog M B0 S (sq0_btf_isFunction_v1 w0 w1 w2 w3 ) :=
  fn_specG hU (P := Tryd.prog) Tryd.func29 (fun xs w => by kernel_rfl) 2 _ _ (fun _ => rfl) _ _ _ []
    [.o, .o, .o, .o, .xg (p0_btf_resolve_v2 hU w0 w1 w2 w3 ) [0, 1], .o, .o, .o, .a 0, .o, .o]
    [] (fun b => by kernel_rfl)
inductive Sh_btf_holdsFunction_v3_L0 where
  | c0 (s0_0 : Int)
inductive Ex_btf_holdsFunction_v3_L0 where
  | e0 
noncomputable def st_btf_holdsFunction_v3_L0 (w1 : Nat) (w3 : Nat → Member) : Sh_btf_holdsFunction_v3_L0 → Option (Sh_btf_holdsFunction_v3_L0 ⊕ Ex_btf_holdsFunction_v3_L0)
  | .c0 s0_0 =>
    bif decide (s0_0 < (w1 : Int)) then
      (bif inR s0_0 w1 then
        (bif ((w3 (s0_0).toNat)).fType == 1 then
          (some (.inl (.c0 (IntKind.i64.wrap (s0_0 + 1)))))
        else (none))
      else (none))
    else (some (.inr (.e0 )))
noncomputable def bd_btf_holdsFunction_v3_L0 : Code := codeOf Tryd.f19 [1, 1, 0, 1, 0, 0]
def fl_btf_holdsFunction_v3_L0 (w0 : Int) (w1 : Nat) (w2 : Int) (w3 : Nat → Member) : Sh_btf_holdsFunction_v3_L0 → List L1 → List Value
  | .c0 s0_0, ls => [.slice (some ⟨(lget ls 0).n, 0, none⟩) 2 2, .bool false, (rowV (lget ls 1) w1 3), .int .i64 ((w1 : Int)), .int .i64 (s0_0)]
def mf_btf_holdsFunction_v3_L0 : Sh_btf_holdsFunction_v3_L0 → List (Nat × Nat)
  | .c0 _ => [(1, 3), (1, 12), (3, 8)]
noncomputable def fr_btf_holdsFunction_v3_L0 (w0 : Int) (w1 : Nat) (w2 : Int) (w3 : Nat → Member) (s : Sh_btf_holdsFunction_v3_L0) : List L1 → List Value := mrgF (mf_btf_holdsFunction_v3_L0 s) (fl_btf_holdsFunction_v3_L0 w0 w1 w2 w3 s) 3
def Hs_btf_holdsFunction_v3_L0 (w0 : Int) (w1 : Nat) (w2 : Int) (w3 : Nat → Member) : Sh_btf_holdsFunction_v3_L0 → List L1 → List Obj
  | .c0 s0_0, ls => [.cells #[.int .i64 (1), .string (⟨#[117, 110, 105, 116]⟩ : ByteArray), .int .i64 (w2), .bool false, .int .i64 (0), .int .i64 (0), .slice none 0 0, .int .i64 (4), .string (⟨#[115]⟩ : ByteArray), .int .i64 (w0), .bool false, .int .i64 (0), .int .i64 (0), (rowV (lget ls 1) w1 3)] 25, rowO (lget ls 1) (esG c_Member w1 w3) 27 w1 3, .cells #[.int .i64 (4), .string (⟨#[115]⟩ : ByteArray), .int .i64 (w0), .bool false, .int .i64 (0), .int .i64 (0), (rowV (lget ls 1) w1 3)] 25, unb]
def vl_btf_holdsFunction_v3_L0 (w0 : Int) (w1 : Nat) (w2 : Int) (w3 : Nat → Member) : Ex_btf_holdsFunction_v3_L0 → List L1 → List Value
  | .e0 , ls => [.slice (some ⟨(lget ls 0).n, 0, none⟩) 2 2, .bool false, (rowV (lget ls 1) w1 3), .int .i64 ((w1 : Int))]
def mk_btf_holdsFunction_v3_L0 : Ex_btf_holdsFunction_v3_L0 → List (Nat × Nat)
  | .e0  => [(1, 3), (1, 12), (2, 9)]
noncomputable def vf_btf_holdsFunction_v3_L0 (w0 : Int) (w1 : Nat) (w2 : Int) (w3 : Nat → Member) (r : Ex_btf_holdsFunction_v3_L0) : List L1 → List Value := mrgF (mk_btf_holdsFunction_v3_L0 r) (vl_btf_holdsFunction_v3_L0 w0 w1 w2 w3 r) 3
def Hf_btf_holdsFunction_v3_L0 (w0 : Int) (w1 : Nat) (w2 : Int) (w3 : Nat → Member) : Ex_btf_holdsFunction_v3_L0 → List L1 → List Obj
  | .e0 , ls => [.cells #[.int .i64 (1), .string (⟨#[117, 110, 105, 116]⟩ : ByteArray), .int .i64 (w2), .bool false, .int .i64 (0), .int .i64 (0), .slice none 0 0, .int .i64 (4), .string (⟨#[115]⟩ : ByteArray), .int .i64 (w0), .bool false, .int .i64 (0), .int .i64 (0), (rowV (lget ls 1) w1 3)] 25, rowO (lget ls 1) (esG c_Member w1 w3) 27 w1 3, .cells #[.int .i64 (4), .string (⟨#[115]⟩ : ByteArray), .int .i64 (w0), .bool false, .int .i64 (0), .int .i64 (0), (rowV (lget ls 1) w1 3)] 25, unb]
def ex_btf_holdsFunction_v3_L0 : Ex_btf_holdsFunction_v3_L0 → Ex
  | .e0  => (.exit 0)
end
section
variable {M : Nat → Prop} {B0 : Nat} {S : World → Prop} (hU : Up M B0 S) (w0 : Int) (w1 : Nat) (w2 : Int) (w3 : Nat → Member)
include hU w0 w1 w2 w3
theorem go_btf_holdsFunction_v3_L0 (s : Sh_btf_holdsFunction_v3_L0) (r : Ex_btf_holdsFunction_v3_L0) (h : lpO (st_btf_holdsFunction_v3_L0 w1 w3) s = some r) : GoesG Tryd.prog M B0 S (.loop bd_btf_holdsFunction_v3_L0) 4 (fr_btf_holdsFunction_v3_L0 w0 w1 w2 w3 s) (Hs_btf_holdsFunction_v3_L0 w0 w1 w2 w3 s) (ex_btf_holdsFunction_v3_L0 r) 3 (vf_btf_holdsFunction_v3_L0 w0 w1 w2 w3 r) (Hf_btf_holdsFunction_v3_L0 w0 w1 w2 w3 r) 4 :=
  goes_lpO (fun s q e => by
    cases s with
    | c0 s0_0 =>
      unfold st_btf_holdsFunction_v3_L0 at e
      dsimp only at e
      replace e := cond_eq_or e
      rcases e with ⟨hq0, e⟩ | ⟨hq0, e⟩
      · replace e := cond_eq_or e
        rcases e with ⟨hq1, e⟩ | ⟨hq1, e⟩
        · replace e := cond_eq_or e
          rcases e with ⟨hq2, e⟩ | ⟨hq2, e⟩
          · cases e; exact goes_runM hU [.b (z_lssT hq0), .q (ixM_ok (kd := .i64) (T := 23) (x := s0_0) (N := w1) (sz := 3) rfl (fun w => by kernel_rfl) hq1), .l (accG (i := 1) (f := c_Member) (A := w3) (k := (s0_0).toNat) 0 [.string ((w3 (s0_0).toNat)).fName, .int .i64 (1), .int .i64 (((w3 (s0_0).toNat)).fBits)] c_Member_len (inR_nat hq1) (congrArg (fun x : Int => ([.string ((w3 (s0_0).toNat)).fName, .int .i64 x, .int .i64 (((w3 (s0_0).toNat)).fBits)] : List Value)) (eq_of_beq hq2))), .o, .a 4, .o, .o, .a 4, .xg (p0_btf_isFunction_v1 hU w2 w0 w1 w3 ) [0, 1], .o, .o] [0, 1, 2] (fun b => rfl) (by decide) rfl rfl (fun b => by kernel_rfl)
          · exact none_some e
        · exact none_some e
      · cases e; exact ⟨ne_exit 0, goes_runM hU [.b (z_lssF hq0)] [0, 1, 2] (fun b => rfl) (by decide) rfl rfl (fun b => by kernel_rfl)⟩) s r h
noncomputable def t0_btf_holdsFunction_v3_L0_0 (w0 : Int) (w1 : Nat) (w2 : Int) (w3 : Nat → Member) (s0_0 : Int) (ls : List L1) : List Value := List.append [.slice (some ⟨(lget ls 0).n, 0, none⟩) 2 2, .agg #[.int .i64 (4), .string (⟨#[115]⟩ : ByteArray), .int .i64 (w0), .bool false, .int .i64 (0), .int .i64 (0), (rowV (lget ls 1) w1 3)], undef, .pointer (some ⟨(lget ls 2).n, 0, none⟩), .bool false, undef, undef, .pointer (some ⟨(lget ls 2).n, 0, none⟩), .int .i64 (4), .bool false, .bool false] (List.append (und 4) (List.append [.bool false, .pointer (some ⟨(lget ls 2).n, 6, none⟩), (rowV (lget ls 1) w1 3), .int .i64 ((w1 : Int)), .int .i64 (s0_0)] (und 8)))
def pre_btf_holdsFunction_v3_L0_0 (w0 : Int) (w1 : Nat) (w2 : Int) (w3 : Nat → Member) (s0_0 : Int) (ls : List L1) : List Obj := [.cells #[.int .i64 (1), .string (⟨#[117, 110, 105, 116]⟩ : ByteArray), .int .i64 (w2), .bool false, .int .i64 (0), .int .i64 (0), .slice none 0 0, .int .i64 (4), .string (⟨#[115]⟩ : ByteArray), .int .i64 (w0), .bool false, .int .i64 (0), .int .i64 (0), (rowV (lget ls 1) w1 3)] 25, rowO (lget ls 1) (esG c_Member w1 w3) 27 w1 3, .cells #[.int .i64 (4), .string (⟨#[115]⟩ : ByteArray), .int .i64 (w0), .bool false, .int .i64 (0), .int .i64 (0), (rowV (lget ls 1) w1 3)] 25]
theorem sp0_btf_holdsFunction_v3_L0_0_ok (s0_0 : Int) (h : lpO (st_btf_holdsFunction_v3_L0 w1 w3) (.c0 s0_0) = some (.e0 )) : SpcG Tryd.prog M B0 S ⟨fun ls => .code (.loop bd_btf_holdsFunction_v3_L0) (t0_btf_holdsFunction_v3_L0_0 w0 w1 w2 w3 s0_0 ls), pre_btf_holdsFunction_v3_L0_0 w0 w1 w2 w3 s0_0, 1, (.exit 0), fun ls => vf_btf_holdsFunction_v3_L0 w0 w1 w2 w3 (.e0 ) (ls.take 3 ++ ls.drop 3), fun ls => (Hf_btf_holdsFunction_v3_L0 w0 w1 w2 w3 (.e0 ) (ls.take 3 ++ ls.drop 3)).take 3 ++ List.replicate 0 unb, fun ls => (Hf_btf_holdsFunction_v3_L0 w0 w1 w2 w3 (.e0 ) (ls.take 3 ++ ls.drop 3)).drop 3⟩ :=
  spc_of_goesM hU 0 (k0 := 3) (go_btf_holdsFunction_v3_L0 hU w0 w1 w2 w3 _ _ h) (t0_btf_holdsFunction_v3_L0_0 w0 w1 w2 w3 s0_0) (pre_btf_holdsFunction_v3_L0_0 w0 w1 w2 w3 s0_0) (fun _ => rfl) (fun ls h => by match ls, h with | [l0, l1, l2], _ => exact ⟨by kernel_rfl, by kernel_rfl⟩) (fun ls h => by match ls, h with | [l0, l1, l2], _ => rfl) (by decide) (by decide) (fun ls => rfl)
inductive R_btf_holdsFunction_v3 where
  | e0 
noncomputable def m_btf_holdsFunction_v3 (w0 : Int) (w1 : Nat) (w2 : Int) (w3 : Nat → Member) : Option R_btf_holdsFunction_v3 :=
  (lpO (st_btf_holdsFunction_v3_L0 w1 w3) (.c0 0)).bind fun g0 => match g0 with
  | .e0 =>
  some (.e0)
def sq0_btf_holdsFunction_v3 (w0 : Int) (w1 : Nat) (w2 : Int) (w3 : Nat → Member)  : Spc := ⟨fun ls => .call 19 #[.slice (some ⟨(lget ls 0).n, 0, none⟩) 2 2, .agg #[.int .i64 (4), .string (⟨#[115]⟩ : ByteArray), .int .i64 (w0), .bool false, .int .i64 (0), .int .i64 (0), (rowV (lget ls 1) w1 3)]], fun ls => [.cells #[.int .i64 (1), .string (⟨#[117, 110, 105, 116]⟩ : ByteArray), .int .i64 (w2), .bool false, .int .i64 (0), .int .i64 (0), .slice none 0 0, .int .i64 (4), .string (⟨#[115]⟩ : ByteArray), .int .i64 (w0), .bool false, .int .i64 (0), .int .i64 (0), (rowV (lget ls 1) w1 3)] 25, rowO (lget ls 1) (esG c_Member w1 w3) 27 w1 3], 0, .normal, fun ls => [.bool false], fun ls => [.cells #[.int .i64 (1), .string (⟨#[117, 110, 105, 116]⟩ : ByteArray), .int .i64 (w2), .bool false, .int .i64 (0), .int .i64 (0), .slice none 0 0, .int .i64 (4), .string (⟨#[115]⟩ : ByteArray), .int .i64 (w0), .bool false, .int .i64 (0), .int .i64 (0), (rowV (lget ls 1) w1 3)] 25, rowO (lget ls 1) (esG c_Member w1 w3) 27 w1 3], fun ls => []⟩
theorem ok0_btf_holdsFunction_v3 (e : m_btf_holdsFunction_v3 w0 w1 w2 w3 = some (.e0 )) : SpcG Tryd.prog M B0 S (sq0_btf_holdsFunction_v3 w0 w1 w2 w3 ) := by
  unfold m_btf_holdsFunction_v3 at e
  replace e := bindO_eq e
  obtain ⟨g0, e_g0, e⟩ := e
  cases g0
  try dsimp only at e
  exact fn_specG hU (P := Tryd.prog) Tryd.func19 (fun xs w => by kernel_rfl) 2 _ _ (fun _ => rfl) _ _ _ [] [.o, .o, .o, .a 2, .o, .o, .o, .o, .a 2, .o, .o, .cp, .cx (sp0_btf_holdsFunction_v3_L0_0_ok hU w0 w1 w2 w3 0  e_g0) [0, 1, 2], .o] [] (fun b => by kernel_rfl)
def sq0_btf_fits_v2 (w0 : Int) (w1 : Int) (w2 : Nat) (w3 : Nat → Member)  : Spc := ⟨fun ls => .call 20 #[.slice (some ⟨(lget ls 0).n, 0, none⟩) 2 2, .int .i64 (1)], fun ls => [.cells #[.int .i64 (1), .string (⟨#[117, 110, 105, 116]⟩ : ByteArray), .int .i64 (w0), .bool false, .int .i64 (0), .int .i64 (0), .slice none 0 0, .int .i64 (4), .string (⟨#[115]⟩ : ByteArray), .int .i64 (w1), .bool false, .int .i64 (0), .int .i64 (0), (rowV (lget ls 1) w2 3)] 25, rowO (lget ls 1) (esG c_Member w2 w3) 27 w2 3], 0, .normal, fun ls => [.bool true], fun ls => [.cells #[.int .i64 (1), .string (⟨#[117, 110, 105, 116]⟩ : ByteArray), .int .i64 (w0), .bool false, .int .i64 (0), .int .i64 (0), .slice none 0 0, .int .i64 (4), .string (⟨#[115]⟩ : ByteArray), .int .i64 (w1), .bool false, .int .i64 (0), .int .i64 (0), (rowV (lget ls 1) w2 3)] 25, rowO (lget ls 1) (esG c_Member w2 w3) 27 w2 3], fun ls => []⟩
end
section
variable {M : Nat → Prop} {B0 : Nat} {S : World → Prop} (hU : Up M B0 S) (w0 : Int) (w1 : Int) (w2 : Nat) (w3 : Nat → Member)
include hU w0 w1 w2 w3
theorem p0_btf_fits_v2 : SpcG Tryd.prog M B0 S (sq0_btf_fits_v2 w0 w1 w2 w3 ) :=
  fn_specG hU (P := Tryd.prog) Tryd.func20 (fun xs w => by kernel_rfl) 2 _ _ (fun _ => rfl) _ _ _ []
    [.o, .o, .o, .o, .o, .a 0, .o, .a 2, .o, .a 2, .o, .o, .o, .o, .o]
    [] (fun b => by kernel_rfl)
def sq0_btf_sizeOf_v2 (w0 : Int) (w1 : Int) (w2 : Nat) (w3 : Nat → Member)  : Spc := ⟨fun ls => .call 10 #[.slice (some ⟨(lget ls 0).n, 0, none⟩) 2 2, .int .i64 (1)], fun ls => [.cells #[.int .i64 (1), .string (⟨#[117, 110, 105, 116]⟩ : ByteArray), .int .i64 (w0), .bool false, .int .i64 (0), .int .i64 (0), .slice none 0 0, .int .i64 (4), .string (⟨#[115]⟩ : ByteArray), .int .i64 (w1), .bool false, .int .i64 (0), .int .i64 (0), (rowV (lget ls 1) w2 3)] 25, rowO (lget ls 1) (esG c_Member w2 w3) 27 w2 3], 0, .normal, fun ls => [.int .i64 (w0)], fun ls => [.cells #[.int .i64 (1), .string (⟨#[117, 110, 105, 116]⟩ : ByteArray), .int .i64 (w0), .bool false, .int .i64 (0), .int .i64 (0), .slice none 0 0, .int .i64 (4), .string (⟨#[115]⟩ : ByteArray), .int .i64 (w1), .bool false, .int .i64 (0), .int .i64 (0), (rowV (lget ls 1) w2 3)] 25, rowO (lget ls 1) (esG c_Member w2 w3) 27 w2 3], fun ls => []⟩
theorem p0_btf_sizeOf_v2 : SpcG Tryd.prog M B0 S (sq0_btf_sizeOf_v2 w0 w1 w2 w3 ) :=
  fn_specG hU (P := Tryd.prog) Tryd.func10 (fun xs w => by kernel_rfl) 2 _ _ (fun _ => rfl) _ _ _ []
    [.o, .o, .o, .o, .o, .a 0, .o, .a 2, .o, .a 2, .o, .o, .o, .o, .o, .o, .o, .o, .o, .a 2, .o]
    [] (fun b => by kernel_rfl)
inductive Sh_btf_fits_v3_L0 where
  | c0 (s0_0 : Int) (s0_1 : Int)
inductive Ex_btf_fits_v3_L0 where
  | e0 
  | e1 
noncomputable def st_btf_fits_v3_L0 (w0 : Int) (w1 : Int) (w2 : Nat) (w3 : Nat → Member) : Sh_btf_fits_v3_L0 → Option (Sh_btf_fits_v3_L0 ⊕ Ex_btf_fits_v3_L0)
  | .c0 s0_0 s0_1 =>
    bif decide (s0_1 < (w2 : Int)) then
      (bif inR s0_1 w2 then
        (bif ((w3 (s0_1).toNat)).fType == 1 then
          (bif decide (((w3 (s0_1).toNat)).fBits < 0) then
            (some (.inr (.e1 )))
          else (bif (zrem ((w3 (s0_1).toNat)).fBits 8) == 0 then
            (bif decide ((zquo ((w3 (s0_1).toNat)).fBits 8) < s0_0) then
              (some (.inr (.e1 )))
            else (bif decide (w1 < (IntKind.i64.wrap ((zquo ((w3 (s0_1).toNat)).fBits 8) + w0))) then
              (some (.inr (.e1 )))
            else (some (.inl (.c0 (IntKind.i64.wrap ((zquo ((w3 (s0_1).toNat)).fBits 8) + w0)) (IntKind.i64.wrap (s0_1 + 1)))))))
          else (some (.inr (.e1 )))))
        else (none))
      else (none))
    else (some (.inr (.e0 )))
noncomputable def bd_btf_fits_v3_L0 : Code := codeOf Tryd.f20 [1, 1, 0, 1, 0, 1, 1, 1, 0, 1, 1, 0, 0]
def fl_btf_fits_v3_L0 (w0 : Int) (w1 : Int) (w2 : Nat) (w3 : Nat → Member) : Sh_btf_fits_v3_L0 → List L1 → List Value
  | .c0 s0_0 s0_1, ls => [.slice (some ⟨(lget ls 0).n, 0, none⟩) 2 2, .bool false, .pointer (some ⟨(lget ls 2).n, 0, none⟩), .int .i64 (s0_0), (rowV (lget ls 1) w2 3), .int .i64 ((w2 : Int)), .int .i64 (s0_1)]
def mf_btf_fits_v3_L0 : Sh_btf_fits_v3_L0 → List (Nat × Nat)
  | .c0 _ _ => [(1, 3), (3, 18), (3, 32)]
noncomputable def fr_btf_fits_v3_L0 (w0 : Int) (w1 : Int) (w2 : Nat) (w3 : Nat → Member) (s : Sh_btf_fits_v3_L0) : List L1 → List Value := mrgF (mf_btf_fits_v3_L0 s) (fl_btf_fits_v3_L0 w0 w1 w2 w3 s) 3
def Hs_btf_fits_v3_L0 (w0 : Int) (w1 : Int) (w2 : Nat) (w3 : Nat → Member) : Sh_btf_fits_v3_L0 → List L1 → List Obj
  | .c0 s0_0 s0_1, ls => [.cells #[.int .i64 (1), .string (⟨#[117, 110, 105, 116]⟩ : ByteArray), .int .i64 (w0), .bool false, .int .i64 (0), .int .i64 (0), .slice none 0 0, .int .i64 (4), .string (⟨#[115]⟩ : ByteArray), .int .i64 (w1), .bool false, .int .i64 (0), .int .i64 (0), (rowV (lget ls 1) w2 3)] 25, rowO (lget ls 1) (esG c_Member w2 w3) 27 w2 3, .cells #[.int .i64 (4), .string (⟨#[115]⟩ : ByteArray), .int .i64 (w1), .bool false, .int .i64 (0), .int .i64 (0), (rowV (lget ls 1) w2 3)] 25, unb]
def vl_btf_fits_v3_L0 (w0 : Int) (w1 : Int) (w2 : Nat) (w3 : Nat → Member) : Ex_btf_fits_v3_L0 → List L1 → List Value
  | .e0 , ls => [.slice (some ⟨(lget ls 0).n, 0, none⟩) 2 2, .bool false, .pointer (some ⟨(lget ls 2).n, 0, none⟩), (rowV (lget ls 1) w2 3), .int .i64 ((w2 : Int))]
  | .e1 , ls => [.slice (some ⟨(lget ls 0).n, 0, none⟩) 2 2, .bool false, .pointer (some ⟨(lget ls 2).n, 0, none⟩), (rowV (lget ls 1) w2 3), .int .i64 ((w2 : Int))]
def mk_btf_fits_v3_L0 : Ex_btf_fits_v3_L0 → List (Nat × Nat)
  | .e0  => [(1, 3), (2, 19), (2, 33)]
  | .e1  => [(1, 3), (2, 19), (2, 33)]
noncomputable def vf_btf_fits_v3_L0 (w0 : Int) (w1 : Int) (w2 : Nat) (w3 : Nat → Member) (r : Ex_btf_fits_v3_L0) : List L1 → List Value := mrgF (mk_btf_fits_v3_L0 r) (vl_btf_fits_v3_L0 w0 w1 w2 w3 r) 3
def Hf_btf_fits_v3_L0 (w0 : Int) (w1 : Int) (w2 : Nat) (w3 : Nat → Member) : Ex_btf_fits_v3_L0 → List L1 → List Obj
  | .e0 , ls => [.cells #[.int .i64 (1), .string (⟨#[117, 110, 105, 116]⟩ : ByteArray), .int .i64 (w0), .bool false, .int .i64 (0), .int .i64 (0), .slice none 0 0, .int .i64 (4), .string (⟨#[115]⟩ : ByteArray), .int .i64 (w1), .bool false, .int .i64 (0), .int .i64 (0), (rowV (lget ls 1) w2 3)] 25, rowO (lget ls 1) (esG c_Member w2 w3) 27 w2 3, .cells #[.int .i64 (4), .string (⟨#[115]⟩ : ByteArray), .int .i64 (w1), .bool false, .int .i64 (0), .int .i64 (0), (rowV (lget ls 1) w2 3)] 25, unb]
  | .e1 , ls => [.cells #[.int .i64 (1), .string (⟨#[117, 110, 105, 116]⟩ : ByteArray), .int .i64 (w0), .bool false, .int .i64 (0), .int .i64 (0), .slice none 0 0, .int .i64 (4), .string (⟨#[115]⟩ : ByteArray), .int .i64 (w1), .bool false, .int .i64 (0), .int .i64 (0), (rowV (lget ls 1) w2 3)] 25, rowO (lget ls 1) (esG c_Member w2 w3) 27 w2 3, .cells #[.int .i64 (4), .string (⟨#[115]⟩ : ByteArray), .int .i64 (w1), .bool false, .int .i64 (0), .int .i64 (0), (rowV (lget ls 1) w2 3)] 25, unb]
def ex_btf_fits_v3_L0 : Ex_btf_fits_v3_L0 → Ex
  | .e0  => (.exit 1)
  | .e1  => .ret
theorem go_btf_fits_v3_L0 (s : Sh_btf_fits_v3_L0) (r : Ex_btf_fits_v3_L0) (h : lpO (st_btf_fits_v3_L0 w0 w1 w2 w3) s = some r) : GoesG Tryd.prog M B0 S (.loop bd_btf_fits_v3_L0) 4 (fr_btf_fits_v3_L0 w0 w1 w2 w3 s) (Hs_btf_fits_v3_L0 w0 w1 w2 w3 s) (ex_btf_fits_v3_L0 r) 3 (vf_btf_fits_v3_L0 w0 w1 w2 w3 r) (Hf_btf_fits_v3_L0 w0 w1 w2 w3 r) 4 :=
  goes_lpO (fun s q e => by
    cases s with
    | c0 s0_0 s0_1 =>
      unfold st_btf_fits_v3_L0 at e
      dsimp only at e
      replace e := cond_eq_or e
      rcases e with ⟨hq0, e⟩ | ⟨hq0, e⟩
      · replace e := cond_eq_or e
        rcases e with ⟨hq1, e⟩ | ⟨hq1, e⟩
        · replace e := cond_eq_or e
          rcases e with ⟨hq2, e⟩ | ⟨hq2, e⟩
          · replace e := cond_eq_or e
            rcases e with ⟨hq3, e⟩ | ⟨hq3, e⟩
            · cases e; exact ⟨ne_ret, goes_runM hU [.b (z_lssT hq0), .q (ixM_ok (kd := .i64) (T := 23) (x := s0_1) (N := w2) (sz := 3) rfl (fun w => by kernel_rfl) hq1), .l (accG (i := 1) (f := c_Member) (A := w3) (k := (s0_1).toNat) 0 [.string ((w3 (s0_1).toNat)).fName, .int .i64 (1), .int .i64 (((w3 (s0_1).toNat)).fBits)] c_Member_len (inR_nat hq1) (congrArg (fun x : Int => ([.string ((w3 (s0_1).toNat)).fName, .int .i64 x, .int .i64 (((w3 (s0_1).toNat)).fBits)] : List Value)) (eq_of_beq hq2))), .o, .a 4, .o, .a 4, .b (z_lssT hq3), .o, .o, .o, .o, .o] [0, 1, 2] (fun b => rfl) (by decide) rfl rfl (fun b => by kernel_rfl)⟩
            · replace e := cond_eq_or e
              rcases e with ⟨hq4, e⟩ | ⟨hq4, e⟩
              · replace e := cond_eq_or e
                rcases e with ⟨hq5, e⟩ | ⟨hq5, e⟩
                · cases e; exact ⟨ne_ret, goes_runM hU [.b (z_lssT hq0), .q (ixM_ok (kd := .i64) (T := 23) (x := s0_1) (N := w2) (sz := 3) rfl (fun w => by kernel_rfl) hq1), .l (accG (i := 1) (f := c_Member) (A := w3) (k := (s0_1).toNat) 0 [.string ((w3 (s0_1).toNat)).fName, .int .i64 (1), .int .i64 (((w3 (s0_1).toNat)).fBits)] c_Member_len (inR_nat hq1) (congrArg (fun x : Int => ([.string ((w3 (s0_1).toNat)).fName, .int .i64 x, .int .i64 (((w3 (s0_1).toNat)).fBits)] : List Value)) (eq_of_beq hq2))), .o, .a 4, .o, .a 4, .b (z_lssF hq3), .o, .o, .a 4, .ov (z_rem Tryd.prog 3 (.tmp 36) (.const (.int .i64 (8))) ((w3 (s0_1).toNat)).fBits 8 (by decide)), .b (z_neqT hq4), .o, .o, .o, .a 4, .ov (z_quo Tryd.prog 3 (.tmp 42) (.const (.int .i64 (8))) ((w3 (s0_1).toNat)).fBits 8 (by decide)), .o, .b (z_lssT hq5), .o, .o] [0, 1, 2] (fun b => rfl) (by decide) rfl rfl (fun b => by kernel_rfl)⟩
                · replace e := cond_eq_or e
                  rcases e with ⟨hq6, e⟩ | ⟨hq6, e⟩
                  · cases e; exact ⟨ne_ret, goes_runM hU [.b (z_lssT hq0), .q (ixM_ok (kd := .i64) (T := 23) (x := s0_1) (N := w2) (sz := 3) rfl (fun w => by kernel_rfl) hq1), .l (accG (i := 1) (f := c_Member) (A := w3) (k := (s0_1).toNat) 0 [.string ((w3 (s0_1).toNat)).fName, .int .i64 (1), .int .i64 (((w3 (s0_1).toNat)).fBits)] c_Member_len (inR_nat hq1) (congrArg (fun x : Int => ([.string ((w3 (s0_1).toNat)).fName, .int .i64 x, .int .i64 (((w3 (s0_1).toNat)).fBits)] : List Value)) (eq_of_beq hq2))), .o, .a 4, .o, .a 4, .b (z_lssF hq3), .o, .o, .a 4, .ov (z_rem Tryd.prog 3 (.tmp 36) (.const (.int .i64 (8))) ((w3 (s0_1).toNat)).fBits 8 (by decide)), .b (z_neqT hq4), .o, .o, .o, .a 4, .ov (z_quo Tryd.prog 3 (.tmp 42) (.const (.int .i64 (8))) ((w3 (s0_1).toNat)).fBits 8 (by decide)), .o, .b (z_lssF hq5), .o, .r [0, 1, 2, 3, 4, 5] [] [6, 7, 8], .o, .a 4, .ov (z_quo Tryd.prog 3 (.tmp 48) (.const (.int .i64 (8))) ((w3 (s0_1).toNat)).fBits 8 (by decide)), .o, .o, .a 4, .xr (p0_btf_sizeOf_v2 hU w0 w1 w2 w3 ) (fun _ => rfl) rfl (fun _ => rfl) [0, 1], .o, .o, .o, .o, .a 2, .b (z_gtrT hq6), .o] [0, 1, 2] (fun b => rfl) (by decide) rfl rfl (fun b => by kernel_rfl)⟩
                  · cases e; exact goes_runM hU [.b (z_lssT hq0), .q (ixM_ok (kd := .i64) (T := 23) (x := s0_1) (N := w2) (sz := 3) rfl (fun w => by kernel_rfl) hq1), .l (accG (i := 1) (f := c_Member) (A := w3) (k := (s0_1).toNat) 0 [.string ((w3 (s0_1).toNat)).fName, .int .i64 (1), .int .i64 (((w3 (s0_1).toNat)).fBits)] c_Member_len (inR_nat hq1) (congrArg (fun x : Int => ([.string ((w3 (s0_1).toNat)).fName, .int .i64 x, .int .i64 (((w3 (s0_1).toNat)).fBits)] : List Value)) (eq_of_beq hq2))), .o, .a 4, .o, .a 4, .b (z_lssF hq3), .o, .o, .a 4, .ov (z_rem Tryd.prog 3 (.tmp 36) (.const (.int .i64 (8))) ((w3 (s0_1).toNat)).fBits 8 (by decide)), .b (z_neqT hq4), .o, .o, .o, .a 4, .ov (z_quo Tryd.prog 3 (.tmp 42) (.const (.int .i64 (8))) ((w3 (s0_1).toNat)).fBits 8 (by decide)), .o, .b (z_lssF hq5), .o, .r [0, 1, 2, 3, 4, 5] [] [6, 7, 8], .o, .a 4, .ov (z_quo Tryd.prog 3 (.tmp 48) (.const (.int .i64 (8))) ((w3 (s0_1).toNat)).fBits 8 (by decide)), .o, .o, .a 4, .xr (p0_btf_sizeOf_v2 hU w0 w1 w2 w3 ) (fun _ => rfl) rfl (fun _ => rfl) [0, 1], .o, .o, .o, .o, .a 2, .b (z_gtrF hq6), .o, .o] [0, 1, 2] (fun b => rfl) (by decide) rfl rfl (fun b => by kernel_rfl)
              · cases e; exact ⟨ne_ret, goes_runM hU [.b (z_lssT hq0), .q (ixM_ok (kd := .i64) (T := 23) (x := s0_1) (N := w2) (sz := 3) rfl (fun w => by kernel_rfl) hq1), .l (accG (i := 1) (f := c_Member) (A := w3) (k := (s0_1).toNat) 0 [.string ((w3 (s0_1).toNat)).fName, .int .i64 (1), .int .i64 (((w3 (s0_1).toNat)).fBits)] c_Member_len (inR_nat hq1) (congrArg (fun x : Int => ([.string ((w3 (s0_1).toNat)).fName, .int .i64 x, .int .i64 (((w3 (s0_1).toNat)).fBits)] : List Value)) (eq_of_beq hq2))), .o, .a 4, .o, .a 4, .b (z_lssF hq3), .o, .o, .a 4, .ov (z_rem Tryd.prog 3 (.tmp 36) (.const (.int .i64 (8))) ((w3 (s0_1).toNat)).fBits 8 (by decide)), .b (z_neqF hq4), .o, .o, .o, .o] [0, 1, 2] (fun b => rfl) (by decide) rfl rfl (fun b => by kernel_rfl)⟩
          · exact none_some e
        · exact none_some e
      · cases e; exact ⟨ne_exit 1, goes_runM hU [.b (z_lssF hq0)] [0, 1, 2] (fun b => rfl) (by decide) rfl rfl (fun b => by kernel_rfl)⟩) s r h
noncomputable def t0_btf_fits_v3_L0_0 (w0 : Int) (w1 : Int) (w2 : Nat) (w3 : Nat → Member) (s0_0 : Int) (s0_1 : Int) (ls : List L1) : List Value := List.append [.slice (some ⟨(lget ls 0).n, 0, none⟩) 2 2, .int .i64 (2), undef, undef, .bool false, .pointer (some ⟨(lget ls 2).n, 0, none⟩), .int .i64 (s0_0), undef, undef, .slice (some ⟨(lget ls 0).n, 0, none⟩) 2 2, .int .i64 (2), .int .i64 (1), .pointer (some ⟨(lget ls 0).n, 7, none⟩), .agg #[.int .i64 (4), .string (⟨#[115]⟩ : ByteArray), .int .i64 (w1), .bool false, .int .i64 (0), .int .i64 (0), (rowV (lget ls 1) w2 3)], .pointer (some ⟨(lget ls 2).n, 0, none⟩), .int .i64 (4), .bool false, .bool false] (List.append (und 4) (List.append [.bool true, .bool true, .pointer (some ⟨(lget ls 2).n, 6, none⟩), (rowV (lget ls 1) w2 3), .int .i64 ((w2 : Int)), .int .i64 (s0_1)] (und 32)))
def pre_btf_fits_v3_L0_0 (w0 : Int) (w1 : Int) (w2 : Nat) (w3 : Nat → Member) (s0_0 : Int) (s0_1 : Int) (ls : List L1) : List Obj := [.cells #[.int .i64 (1), .string (⟨#[117, 110, 105, 116]⟩ : ByteArray), .int .i64 (w0), .bool false, .int .i64 (0), .int .i64 (0), .slice none 0 0, .int .i64 (4), .string (⟨#[115]⟩ : ByteArray), .int .i64 (w1), .bool false, .int .i64 (0), .int .i64 (0), (rowV (lget ls 1) w2 3)] 25, rowO (lget ls 1) (esG c_Member w2 w3) 27 w2 3, .cells #[.int .i64 (4), .string (⟨#[115]⟩ : ByteArray), .int .i64 (w1), .bool false, .int .i64 (0), .int .i64 (0), (rowV (lget ls 1) w2 3)] 25]
theorem sp0_btf_fits_v3_L0_0_ok (s0_0 : Int) (s0_1 : Int) (h : lpO (st_btf_fits_v3_L0 w0 w1 w2 w3) (.c0 s0_0 s0_1) = some (.e0 )) : SpcG Tryd.prog M B0 S ⟨fun ls => .code (.loop bd_btf_fits_v3_L0) (t0_btf_fits_v3_L0_0 w0 w1 w2 w3 s0_0 s0_1 ls), pre_btf_fits_v3_L0_0 w0 w1 w2 w3 s0_0 s0_1, 1, (.exit 1), fun ls => vf_btf_fits_v3_L0 w0 w1 w2 w3 (.e0 ) (ls.take 3 ++ ls.drop 3), fun ls => (Hf_btf_fits_v3_L0 w0 w1 w2 w3 (.e0 ) (ls.take 3 ++ ls.drop 3)).take 3 ++ List.replicate 0 unb, fun ls => (Hf_btf_fits_v3_L0 w0 w1 w2 w3 (.e0 ) (ls.take 3 ++ ls.drop 3)).drop 3⟩ :=
  spc_of_goesM hU 0 (k0 := 3) (go_btf_fits_v3_L0 hU w0 w1 w2 w3 _ _ h) (t0_btf_fits_v3_L0_0 w0 w1 w2 w3 s0_0 s0_1) (pre_btf_fits_v3_L0_0 w0 w1 w2 w3 s0_0 s0_1) (fun _ => rfl) (fun ls h => by match ls, h with | [l0, l1, l2], _ => exact ⟨by kernel_rfl, by kernel_rfl⟩) (fun ls h => by match ls, h with | [l0, l1, l2], _ => rfl) (by decide) (by decide) (fun ls => rfl)
theorem sp1_btf_fits_v3_L0_0_ok (s0_0 : Int) (s0_1 : Int) (h : lpO (st_btf_fits_v3_L0 w0 w1 w2 w3) (.c0 s0_0 s0_1) = some (.e1 )) : SpcG Tryd.prog M B0 S ⟨fun ls => .code (.loop bd_btf_fits_v3_L0) (t0_btf_fits_v3_L0_0 w0 w1 w2 w3 s0_0 s0_1 ls), pre_btf_fits_v3_L0_0 w0 w1 w2 w3 s0_0 s0_1, 1, .ret, fun ls => vf_btf_fits_v3_L0 w0 w1 w2 w3 (.e1 ) (ls.take 3 ++ ls.drop 3), fun ls => (Hf_btf_fits_v3_L0 w0 w1 w2 w3 (.e1 ) (ls.take 3 ++ ls.drop 3)).take 3 ++ List.replicate 0 unb, fun ls => (Hf_btf_fits_v3_L0 w0 w1 w2 w3 (.e1 ) (ls.take 3 ++ ls.drop 3)).drop 3⟩ :=
  spc_of_goesM hU 0 (k0 := 3) (go_btf_fits_v3_L0 hU w0 w1 w2 w3 _ _ h) (t0_btf_fits_v3_L0_0 w0 w1 w2 w3 s0_0 s0_1) (pre_btf_fits_v3_L0_0 w0 w1 w2 w3 s0_0 s0_1) (fun _ => rfl) (fun ls h => by match ls, h with | [l0, l1, l2], _ => exact ⟨by kernel_rfl, by kernel_rfl⟩) (fun ls h => by match ls, h with | [l0, l1, l2], _ => rfl) (by decide) (by decide) (fun ls => rfl)
inductive R_btf_fits_v3 where
  | e0 (c0_0 : Bool)
noncomputable def m_btf_fits_v3 (w0 : Int) (w1 : Int) (w2 : Nat) (w3 : Nat → Member) : Option R_btf_fits_v3 :=
  (lpO (st_btf_fits_v3_L0 w0 w1 w2 w3) (.c0 0 0)).bind fun g0 => match g0 with
  | .e0  => (some (.e0 true))
  | .e1  => (some (.e0 false))
def sq0_btf_fits_v3 (w0 : Int) (w1 : Int) (w2 : Nat) (w3 : Nat → Member) (c0_0 : Bool) : Spc := ⟨fun ls => .call 20 #[.slice (some ⟨(lget ls 0).n, 0, none⟩) 2 2, .int .i64 (2)], fun ls => [.cells #[.int .i64 (1), .string (⟨#[117, 110, 105, 116]⟩ : ByteArray), .int .i64 (w0), .bool false, .int .i64 (0), .int .i64 (0), .slice none 0 0, .int .i64 (4), .string (⟨#[115]⟩ : ByteArray), .int .i64 (w1), .bool false, .int .i64 (0), .int .i64 (0), (rowV (lget ls 1) w2 3)] 25, rowO (lget ls 1) (esG c_Member w2 w3) 27 w2 3], 0, .normal, fun ls => [.bool (c0_0)], fun ls => [.cells #[.int .i64 (1), .string (⟨#[117, 110, 105, 116]⟩ : ByteArray), .int .i64 (w0), .bool false, .int .i64 (0), .int .i64 (0), .slice none 0 0, .int .i64 (4), .string (⟨#[115]⟩ : ByteArray), .int .i64 (w1), .bool false, .int .i64 (0), .int .i64 (0), (rowV (lget ls 1) w2 3)] 25, rowO (lget ls 1) (esG c_Member w2 w3) 27 w2 3], fun ls => []⟩
theorem ok0_btf_fits_v3 (c0_0 : Bool) (e : m_btf_fits_v3 w0 w1 w2 w3 = some (.e0 c0_0)) : SpcG Tryd.prog M B0 S (sq0_btf_fits_v3 w0 w1 w2 w3 c0_0) := by
  unfold m_btf_fits_v3 at e
  replace e := bindO_eq e
  obtain ⟨g0, e_g0, e⟩ := e
  rcases g0 with _ | _
  · try dsimp only at e
    injection e with e; injection e with i0; subst i0; exact fn_specG hU (P := Tryd.prog) Tryd.func20 (fun xs w => by kernel_rfl) 2 _ _ (fun _ => rfl) _ _ _ [] [.o, .o, .o, .o, .o, .a 0, .o, .a 2, .o, .a 2, .o, .o, .o, .o, .o, .o, .a 2, .o, .o, .cp, .cx (sp0_btf_fits_v3_L0_0_ok hU w0 w1 w2 w3 0 0  e_g0) [0, 1, 2], .o] [] (fun b => by kernel_rfl)
  · try dsimp only at e
    injection e with e; injection e with i0; subst i0; exact fn_specG hU (P := Tryd.prog) Tryd.func20 (fun xs w => by kernel_rfl) 2 _ _ (fun _ => rfl) _ _ _ [] [.o, .o, .o, .o, .o, .a 0, .o, .a 2, .o, .a 2, .o, .o, .o, .o, .o, .o, .a 2, .o, .o, .cp, .cx (sp1_btf_fits_v3_L0_0_ok hU w0 w1 w2 w3 0 0  e_g0) [0, 1, 2]] [] (fun b => by kernel_rfl)
inductive R_btf_Check_v1 where
  | e0 (c0_0 : Int) (c0_1 : Int)
noncomputable def m_btf_Check_v1 (w0 : Int) (w1 : Int) (w2 : Nat) (w3 : Nat → Member) : Option R_btf_Check_v1 :=
  (m_btf_tooMany_v1 w0 w1 w2 w3).bind fun g0 => match g0 with
  | .e0 g0_0 =>
  bif g0_0 then
    (some (.e0 0 45))
  else ((m_btf_checkType_v2 2 w0).bind fun g1 => match g1 with
  | .e0 g1_0 =>
  bif g1_0 == 0 then
    ((m_btf_checkType_v3 2 w1 w2 w3).bind fun g2 => match g2 with
    | .e0 g2_0 =>
    bif g2_0 == 0 then
      ((m_btf_holdsItself_v1 w0 w1 w2 w3).bind fun g3 => match g3 with
      | .e0 =>
      (m_btf_holdsFunction_v3 w1 w2 w0 w3).bind fun g4 => match g4 with
      | .e0 =>
      (m_btf_fits_v3 w0 w1 w2 w3).bind fun g5 => match g5 with
      | .e0 g5_0 =>
      bif g5_0 then
        (some (.e0 0 0))
      else (some (.e0 2 43)))
    else (some (.e0 2 g2_0)))
  else (some (.e0 1 g1_0)))
def sq0_btf_Check_v1 (w0 : Int) (w1 : Int) (w2 : Nat) (w3 : Nat → Member) (c0_0 : Int) (c0_1 : Int) : Spc := ⟨fun ls => .call 13 #[.slice (some ⟨(lget ls 0).n, 0, none⟩) 2 2], fun ls => [.cells #[.int .i64 (1), .string (⟨#[117, 110, 105, 116]⟩ : ByteArray), .int .i64 (w0), .bool false, .int .i64 (0), .int .i64 (0), .slice none 0 0, .int .i64 (4), .string (⟨#[115]⟩ : ByteArray), .int .i64 (w1), .bool false, .int .i64 (0), .int .i64 (0), (rowV (lget ls 1) w2 3)] 25, rowO (lget ls 1) (esG c_Member w2 w3) 27 w2 3], 0, .normal, fun ls => [.tuple #[.int .i64 (c0_0), .int .i64 (c0_1)]], fun ls => [.cells #[.int .i64 (1), .string (⟨#[117, 110, 105, 116]⟩ : ByteArray), .int .i64 (w0), .bool false, .int .i64 (0), .int .i64 (0), .slice none 0 0, .int .i64 (4), .string (⟨#[115]⟩ : ByteArray), .int .i64 (w1), .bool false, .int .i64 (0), .int .i64 (0), (rowV (lget ls 1) w2 3)] 25, rowO (lget ls 1) (esG c_Member w2 w3) 27 w2 3], fun ls => []⟩
theorem ok0_btf_Check_v1 (c0_0 : Int) (c0_1 : Int) (e : m_btf_Check_v1 w0 w1 w2 w3 = some (.e0 c0_0 c0_1)) : SpcG Tryd.prog M B0 S (sq0_btf_Check_v1 w0 w1 w2 w3 c0_0 c0_1) := by
  unfold m_btf_Check_v1 at e
  replace e := bindO_eq e
  obtain ⟨g0, e_g0, e⟩ := e
  obtain ⟨g0_0⟩ := g0
  try dsimp only at e
  replace e := cond_eq_or e
  rcases e with ⟨hq0, e⟩ | ⟨hq0, e⟩
  · subst hq0
    injection e with e; injection e with i0 i1; subst i0 i1; exact fn_specG hU (P := Tryd.prog) Tryd.func13 (fun xs w => by kernel_rfl) 2 _ _ (fun _ => rfl) _ _ _ [] [.o, .o, .o, .xg (ok0_btf_tooMany_v1 hU w0 w1 w2 w3 true e_g0) [0, 1], .o, .o] [] (fun b => by kernel_rfl)
  · subst hq0
    replace e := bindO_eq e
    obtain ⟨g1, e_g1, e⟩ := e
    obtain ⟨g1_0⟩ := g1
    try dsimp only at e
    replace e := cond_eq_or e
    rcases e with ⟨hq1, e⟩ | ⟨hq1, e⟩
    · replace e := bindO_eq e
      obtain ⟨g2, e_g2, e⟩ := e
      obtain ⟨g2_0⟩ := g2
      try dsimp only at e
      replace e := cond_eq_or e
      rcases e with ⟨hq2, e⟩ | ⟨hq2, e⟩
      · replace e := bindO_eq e
        obtain ⟨g3, e_g3, e⟩ := e
        cases g3
        try dsimp only at e
        replace e := bindO_eq e
        obtain ⟨g4, e_g4, e⟩ := e
        cases g4
        try dsimp only at e
        replace e := bindO_eq e
        obtain ⟨g5, e_g5, e⟩ := e
        obtain ⟨g5_0⟩ := g5
        try dsimp only at e
        replace e := cond_eq_or e
        rcases e with ⟨hq3, e⟩ | ⟨hq3, e⟩
        · subst hq3
          injection e with e; injection e with i0 i1; subst i0 i1; exact fn_specG hU (P := Tryd.prog) Tryd.func13 (fun xs w => by kernel_rfl) 2 _ _ (fun _ => rfl) _ _ _ [] [.o, .o, .o, .xg (ok0_btf_tooMany_v1 hU w0 w1 w2 w3 false e_g0) [0, 1], .o, .o, .o, .o, .o, .o, .o, .o, .a 0, .o, .o, .a 3, .a 3, .o, .o, .o, .xg (ok0_btf_checkType_v2 hU 2 w0 g1_0 e_g1) [2], .o, .o, .b (z_neqT hq1), .o, .o, .o, .o, .o, .a 0, .o, .o, .a 4, .a 4, .o, .o, .o, .xg (ok0_btf_checkType_v3 hU 2 w1 w2 w3 g2_0 e_g2) [1, 2], .o, .o, .b (z_neqT hq2), .o, .o, .o, .o, .xg (ok0_btf_holdsItself_v1 hU w0 w1 w2 w3  e_g3) [0, 1], .o, .o, .o, .o, .o, .o, .o, .o, .o, .a 0, .o, .o, .a 5, .o, .a 5, .xg (p0_btf_holdsFunction_v2 hU w0 w1 w2 w3 ) [0, 1], .o, .o, .o, .o, .o, .a 0, .o, .o, .a 6, .o, .a 6, .xg (ok0_btf_holdsFunction_v3 hU w1 w2 w0 w3  e_g4) [0, 1], .o, .o, .o, .o, .o, .o, .o, .o, .o, .o, .o, .o, .xg (p0_btf_fits_v2 hU w0 w1 w2 w3 ) [0, 1], .o, .o, .o, .o, .o, .o, .o, .o, .o, .xg (ok0_btf_fits_v3 hU w0 w1 w2 w3 true e_g5) [0, 1], .o, .o, .o, .o, .o, .o] [] (fun b => by kernel_rfl)
        · subst hq3
          injection e with e; injection e with i0 i1; subst i0 i1; exact fn_specG hU (P := Tryd.prog) Tryd.func13 (fun xs w => by kernel_rfl) 2 _ _ (fun _ => rfl) _ _ _ [] [.o, .o, .o, .xg (ok0_btf_tooMany_v1 hU w0 w1 w2 w3 false e_g0) [0, 1], .o, .o, .o, .o, .o, .o, .o, .o, .a 0, .o, .o, .a 3, .a 3, .o, .o, .o, .xg (ok0_btf_checkType_v2 hU 2 w0 g1_0 e_g1) [2], .o, .o, .b (z_neqT hq1), .o, .o, .o, .o, .o, .a 0, .o, .o, .a 4, .a 4, .o, .o, .o, .xg (ok0_btf_checkType_v3 hU 2 w1 w2 w3 g2_0 e_g2) [1, 2], .o, .o, .b (z_neqT hq2), .o, .o, .o, .o, .xg (ok0_btf_holdsItself_v1 hU w0 w1 w2 w3  e_g3) [0, 1], .o, .o, .o, .o, .o, .o, .o, .o, .o, .a 0, .o, .o, .a 5, .o, .a 5, .xg (p0_btf_holdsFunction_v2 hU w0 w1 w2 w3 ) [0, 1], .o, .o, .o, .o, .o, .a 0, .o, .o, .a 6, .o, .a 6, .xg (ok0_btf_holdsFunction_v3 hU w1 w2 w0 w3  e_g4) [0, 1], .o, .o, .o, .o, .o, .o, .o, .o, .o, .o, .o, .o, .xg (p0_btf_fits_v2 hU w0 w1 w2 w3 ) [0, 1], .o, .o, .o, .o, .o, .o, .o, .o, .o, .xg (ok0_btf_fits_v3 hU w0 w1 w2 w3 false e_g5) [0, 1], .o, .o, .o, .o, .o] [] (fun b => by kernel_rfl)
      · injection e with e; injection e with i0 i1; subst i0 i1; exact fn_specG hU (P := Tryd.prog) Tryd.func13 (fun xs w => by kernel_rfl) 2 _ _ (fun _ => rfl) _ _ _ [] [.o, .o, .o, .xg (ok0_btf_tooMany_v1 hU w0 w1 w2 w3 false e_g0) [0, 1], .o, .o, .o, .o, .o, .o, .o, .o, .a 0, .o, .o, .a 3, .a 3, .o, .o, .o, .xg (ok0_btf_checkType_v2 hU 2 w0 g1_0 e_g1) [2], .o, .o, .b (z_neqT hq1), .o, .o, .o, .o, .o, .a 0, .o, .o, .a 4, .a 4, .o, .o, .o, .xg (ok0_btf_checkType_v3 hU 2 w1 w2 w3 g2_0 e_g2) [1, 2], .o, .o, .b (z_neqF hq2), .o, .o, .o, .o, .o] [] (fun b => by kernel_rfl)
    · injection e with e; injection e with i0 i1; subst i0 i1; exact fn_specG hU (P := Tryd.prog) Tryd.func13 (fun xs w => by kernel_rfl) 2 _ _ (fun _ => rfl) _ _ _ [] [.o, .o, .o, .xg (ok0_btf_tooMany_v1 hU w0 w1 w2 w3 false e_g0) [0, 1], .o, .o, .o, .o, .o, .o, .o, .o, .a 0, .o, .o, .a 3, .a 3, .o, .o, .o, .xg (ok0_btf_checkType_v2 hU 2 w0 g1_0 e_g1) [2], .o, .o, .b (z_neqF hq1), .o, .o, .o, .o, .o] [] (fun b => by kernel_rfl)
def sq0_btf_resolve_v3 (w0 : Int) (w1 : Int) (w2 : Nat) (w3 : Nat → Member)  : Spc := ⟨fun ls => .call 14 #[.slice (some ⟨(lget ls 0).n, 0, none⟩) 2 2, .int .i64 (2)], fun ls => [.cells #[.int .i64 (1), .string (⟨#[117, 110, 105, 116]⟩ : ByteArray), .int .i64 (w0), .bool false, .int .i64 (0), .int .i64 (0), .slice none 0 0, .int .i64 (4), .string (⟨#[115]⟩ : ByteArray), .int .i64 (w1), .bool false, .int .i64 (0), .int .i64 (0), (rowV (lget ls 1) w2 3)] 25, rowO (lget ls 1) (esG c_Member w2 w3) 27 w2 3], 0, .normal, fun ls => [.int .i64 (2)], fun ls => [.cells #[.int .i64 (1), .string (⟨#[117, 110, 105, 116]⟩ : ByteArray), .int .i64 (w0), .bool false, .int .i64 (0), .int .i64 (0), .slice none 0 0, .int .i64 (4), .string (⟨#[115]⟩ : ByteArray), .int .i64 (w1), .bool false, .int .i64 (0), .int .i64 (0), (rowV (lget ls 1) w2 3)] 25, rowO (lget ls 1) (esG c_Member w2 w3) 27 w2 3], fun ls => []⟩
theorem p0_btf_resolve_v3 : SpcG Tryd.prog M B0 S (sq0_btf_resolve_v3 w0 w1 w2 w3 ) :=
  fn_specG hU (P := Tryd.prog) Tryd.func14 (fun xs w => by kernel_rfl) 2 _ _ (fun _ => rfl) _ _ _ []
    [.o, .o, .o, .o, .o, .o, .a 0, .o, .o, .o]
    [] (fun b => by kernel_rfl)
inductive R_btf_Resolve_v1 where
  | e0 (c0_0 : Int) (c0_1 : Int)
noncomputable def m_btf_Resolve_v1 (w0 : Int) (w1 : Int) (w2 : Nat) (w3 : Nat → Member) : Option R_btf_Resolve_v1 :=
  (m_btf_Check_v1 w0 w1 w2 w3).bind fun g0 => match g0 with
  | .e0 g0_0 g0_1 =>
  bif g0_1 == 0 then
    (some (.e0 2 0))
  else (some (.e0 0 g0_1))
def sq0_btf_Resolve_v1 (w0 : Int) (w1 : Int) (w2 : Nat) (w3 : Nat → Member) (c0_0 : Int) (c0_1 : Int) : Spc := ⟨fun ls => .call 9 #[.slice (some ⟨(lget ls 0).n, 0, none⟩) 2 2, .int .i64 (2)], fun ls => [.cells #[.int .i64 (1), .string (⟨#[117, 110, 105, 116]⟩ : ByteArray), .int .i64 (w0), .bool false, .int .i64 (0), .int .i64 (0), .slice none 0 0, .int .i64 (4), .string (⟨#[115]⟩ : ByteArray), .int .i64 (w1), .bool false, .int .i64 (0), .int .i64 (0), (rowV (lget ls 1) w2 3)] 25, rowO (lget ls 1) (esG c_Member w2 w3) 27 w2 3], 0, .normal, fun ls => [.tuple #[.int .i64 (c0_0), .int .i64 (c0_1)]], fun ls => [.cells #[.int .i64 (1), .string (⟨#[117, 110, 105, 116]⟩ : ByteArray), .int .i64 (w0), .bool false, .int .i64 (0), .int .i64 (0), .slice none 0 0, .int .i64 (4), .string (⟨#[115]⟩ : ByteArray), .int .i64 (w1), .bool false, .int .i64 (0), .int .i64 (0), (rowV (lget ls 1) w2 3)] 25, rowO (lget ls 1) (esG c_Member w2 w3) 27 w2 3], fun ls => []⟩
theorem ok0_btf_Resolve_v1 (c0_0 : Int) (c0_1 : Int) (e : m_btf_Resolve_v1 w0 w1 w2 w3 = some (.e0 c0_0 c0_1)) : SpcG Tryd.prog M B0 S (sq0_btf_Resolve_v1 w0 w1 w2 w3 c0_0 c0_1) := by
  unfold m_btf_Resolve_v1 at e
  replace e := bindO_eq e
  obtain ⟨g0, e_g0, e⟩ := e
  obtain ⟨g0_0, g0_1⟩ := g0
  try dsimp only at e
  replace e := cond_eq_or e
  rcases e with ⟨hq0, e⟩ | ⟨hq0, e⟩
  · injection e with e; injection e with i0 i1; subst i0 i1; exact fn_specG hU (P := Tryd.prog) Tryd.func9 (fun xs w => by kernel_rfl) 2 _ _ (fun _ => rfl) _ _ _ [] [.o, .o, .o, .xg (ok0_btf_Check_v1 hU w0 w1 w2 w3 g0_0 g0_1 e_g0) [0, 1], .o, .o, .o, .o, .o, .o, .b (z_neqT hq0), .o, .o, .o, .o, .o, .o, .o, .o, .o, .o, .xg (p0_btf_resolve_v3 hU w0 w1 w2 w3 ) [0, 1], .o, .o] [] (fun b => by kernel_rfl)
  · injection e with e; injection e with i0 i1; subst i0 i1; exact fn_specG hU (P := Tryd.prog) Tryd.func9 (fun xs w => by kernel_rfl) 2 _ _ (fun _ => rfl) _ _ _ [] [.o, .o, .o, .xg (ok0_btf_Check_v1 hU w0 w1 w2 w3 g0_0 g0_1 e_g0) [0, 1], .o, .o, .o, .o, .o, .o, .b (z_neqF hq0), .o, .o, .o] [] (fun b => by kernel_rfl)
def sq0_btf_sizeOf_v3 (w0 : Int) (w1 : Int) (w2 : Nat) (w3 : Nat → Member)  : Spc := ⟨fun ls => .call 10 #[.slice (some ⟨(lget ls 0).n, 0, none⟩) 2 2, .int .i64 (2)], fun ls => [.cells #[.int .i64 (1), .string (⟨#[117, 110, 105, 116]⟩ : ByteArray), .int .i64 (w0), .bool false, .int .i64 (0), .int .i64 (0), .slice none 0 0, .int .i64 (4), .string (⟨#[115]⟩ : ByteArray), .int .i64 (w1), .bool false, .int .i64 (0), .int .i64 (0), (rowV (lget ls 1) w2 3)] 25, rowO (lget ls 1) (esG c_Member w2 w3) 27 w2 3], 0, .normal, fun ls => [.int .i64 (w1)], fun ls => [.cells #[.int .i64 (1), .string (⟨#[117, 110, 105, 116]⟩ : ByteArray), .int .i64 (w0), .bool false, .int .i64 (0), .int .i64 (0), .slice none 0 0, .int .i64 (4), .string (⟨#[115]⟩ : ByteArray), .int .i64 (w1), .bool false, .int .i64 (0), .int .i64 (0), (rowV (lget ls 1) w2 3)] 25, rowO (lget ls 1) (esG c_Member w2 w3) 27 w2 3], fun ls => []⟩
theorem p0_btf_sizeOf_v3 : SpcG Tryd.prog M B0 S (sq0_btf_sizeOf_v3 w0 w1 w2 w3 ) :=
  fn_specG hU (P := Tryd.prog) Tryd.func10 (fun xs w => by kernel_rfl) 2 _ _ (fun _ => rfl) _ _ _ []
    [.o, .o, .o, .o, .o, .a 0, .o, .a 2, .o, .a 2, .o, .o, .o, .o, .o, .o, .o, .o, .o, .o, .o, .a 2, .o]
    [] (fun b => by kernel_rfl)
inductive R_btf_Size_v1 where
  | e0 (c0_0 : Int) (c0_1 : Int)
noncomputable def m_btf_Size_v1 (w0 : Int) (w1 : Int) (w2 : Nat) (w3 : Nat → Member) : Option R_btf_Size_v1 :=
  (m_btf_Resolve_v1 w0 w1 w2 w3).bind fun g0 => match g0 with
  | .e0 g0_0 g0_1 =>
  bif g0_0 == 2 then
    (bif g0_1 == 0 then
      (some (.e0 w1 0))
    else (some (.e0 0 g0_1)))
  else (none)
def sq0_btf_Size_v1 (w0 : Int) (w1 : Int) (w2 : Nat) (w3 : Nat → Member) (c0_0 : Int) (c0_1 : Int) : Spc := ⟨fun ls => .call 6 #[.slice (some ⟨(lget ls 0).n, 0, none⟩) 2 2, .int .i64 (2)], fun ls => [.cells #[.int .i64 (1), .string (⟨#[117, 110, 105, 116]⟩ : ByteArray), .int .i64 (w0), .bool false, .int .i64 (0), .int .i64 (0), .slice none 0 0, .int .i64 (4), .string (⟨#[115]⟩ : ByteArray), .int .i64 (w1), .bool false, .int .i64 (0), .int .i64 (0), (rowV (lget ls 1) w2 3)] 25, rowO (lget ls 1) (esG c_Member w2 w3) 27 w2 3], 0, .normal, fun ls => [.tuple #[.int .i64 (c0_0), .int .i64 (c0_1)]], fun ls => [.cells #[.int .i64 (1), .string (⟨#[117, 110, 105, 116]⟩ : ByteArray), .int .i64 (w0), .bool false, .int .i64 (0), .int .i64 (0), .slice none 0 0, .int .i64 (4), .string (⟨#[115]⟩ : ByteArray), .int .i64 (w1), .bool false, .int .i64 (0), .int .i64 (0), (rowV (lget ls 1) w2 3)] 25, rowO (lget ls 1) (esG c_Member w2 w3) 27 w2 3], fun ls => []⟩
theorem ok0_btf_Size_v1 (c0_0 : Int) (c0_1 : Int) (e : m_btf_Size_v1 w0 w1 w2 w3 = some (.e0 c0_0 c0_1)) : SpcG Tryd.prog M B0 S (sq0_btf_Size_v1 w0 w1 w2 w3 c0_0 c0_1) := by
  unfold m_btf_Size_v1 at e
  replace e := bindO_eq e
  obtain ⟨g0, e_g0, e⟩ := e
  obtain ⟨g0_0, g0_1⟩ := g0
  try dsimp only at e
  replace e := cond_eq_or e
  rcases e with ⟨hq0, e⟩ | ⟨hq0, e⟩
  · replace e := cond_eq_or e
    rcases e with ⟨hq1, e⟩ | ⟨hq1, e⟩
    · injection e with e; injection e with i0 i1; subst i0 i1; exact fn_specG hU (P := Tryd.prog) Tryd.func6 (fun xs w => by kernel_rfl) 2 _ _ (fun _ => rfl) _ _ _ [] [.o, .o, .o, .o, .xg (ok0_btf_Resolve_v1 hU w0 w1 w2 w3 g0_0 g0_1 e_g0) [0, 1], .o, .o, .o, .v .i64 (eq_of_beq hq0), .o, .o, .b (z_neqT hq1), .o, .o, .o, .o, .o, .a 0, .o, .o, .o, .xg (p0_btf_sizeOf_v3 hU w0 w1 w2 w3 ) [0, 1], .o, .o] [] (fun b => by kernel_rfl)
    · injection e with e; injection e with i0 i1; subst i0 i1; exact fn_specG hU (P := Tryd.prog) Tryd.func6 (fun xs w => by kernel_rfl) 2 _ _ (fun _ => rfl) _ _ _ [] [.o, .o, .o, .o, .xg (ok0_btf_Resolve_v1 hU w0 w1 w2 w3 g0_0 g0_1 e_g0) [0, 1], .o, .o, .o, .v .i64 (eq_of_beq hq0), .o, .o, .b (z_neqF hq1), .o, .o, .o] [] (fun b => by kernel_rfl)
  · exact none_some e
inductive Sh_btf_memberAt_v2_L0 where
  | c0 (s0_0 : Int)
inductive Ex_btf_memberAt_v2_L0 where
  | e0 
  | e1 (c1_0 : ByteArray) (c1_1 : Int)
noncomputable def st_btf_memberAt_v2_L0 (y2 : Int) (w1 : Nat) (w2 : Int) (w3 : Nat → Member) : Sh_btf_memberAt_v2_L0 → Option (Sh_btf_memberAt_v2_L0 ⊕ Ex_btf_memberAt_v2_L0)
  | .c0 s0_0 =>
    bif decide (s0_0 < (w1 : Int)) then
      (bif inR s0_0 w1 then
        (bif ((w3 (s0_0).toNat)).fType == 1 then
          (bif decide ((zquo ((w3 (s0_0).toNat)).fBits 8) ≤ y2) then
            (bif decide (y2 < (IntKind.i64.wrap ((zquo ((w3 (s0_0).toNat)).fBits 8) + w2))) then
              (some (.inr (.e1 ((w3 (s0_0).toNat)).fName ((w3 (s0_0).toNat)).fBits)))
            else (some (.inl (.c0 (IntKind.i64.wrap (s0_0 + 1))))))
          else (some (.inl (.c0 (IntKind.i64.wrap (s0_0 + 1))))))
        else (none))
      else (none))
    else (some (.inr (.e0 )))
noncomputable def bd_btf_memberAt_v2_L0 : Code := codeOf Tryd.f12 [1, 0, 1, 0, 0]
def fl_btf_memberAt_v2_L0 (y2 : Int) (w0 : Int) (w1 : Nat) (w2 : Int) (w3 : Nat → Member) : Sh_btf_memberAt_v2_L0 → List L1 → List Value
  | .c0 s0_0, ls => [.slice (some ⟨(lget ls 0).n, 0, none⟩) 2 2, .int .i64 (y2), .pointer (some ⟨(lget ls 3).n, 0, none⟩), .bool false, (rowV (lget ls 1) w1 3), .int .i64 ((w1 : Int)), .int .i64 (s0_0)]
def mf_btf_memberAt_v2_L0 : Sh_btf_memberAt_v2_L0 → List (Nat × Nat)
  | .c0 _ => [(1, 1), (1, 3), (2, 4), (3, 22)]
noncomputable def fr_btf_memberAt_v2_L0 (y2 : Int) (w0 : Int) (w1 : Nat) (w2 : Int) (w3 : Nat → Member) (s : Sh_btf_memberAt_v2_L0) : List L1 → List Value := mrgF (mf_btf_memberAt_v2_L0 s) (fl_btf_memberAt_v2_L0 y2 w0 w1 w2 w3 s) 4
def Hs_btf_memberAt_v2_L0 (y2 : Int) (w0 : Int) (w1 : Nat) (w2 : Int) (w3 : Nat → Member) : Sh_btf_memberAt_v2_L0 → List L1 → List Obj
  | .c0 s0_0, ls => [.cells #[.int .i64 (1), .string (⟨#[117, 110, 105, 116]⟩ : ByteArray), .int .i64 (w2), .bool false, .int .i64 (0), .int .i64 (0), .slice none 0 0, .int .i64 (4), .string (⟨#[115]⟩ : ByteArray), .int .i64 (w0), .bool false, .int .i64 (0), .int .i64 (0), (rowV (lget ls 1) w1 3)] 25, rowO (lget ls 1) (esG c_Member w1 w3) 27 w1 3, .cells #[.int .i64 (4), .string (⟨#[115]⟩ : ByteArray), .int .i64 (w0), .bool false, .int .i64 (0), .int .i64 (0), (rowV (lget ls 1) w1 3)] 25, .cells #[.string (⟨#[]⟩ : ByteArray), .int .i64 (0), .int .i64 (0)] 27, unb]
def vl_btf_memberAt_v2_L0 (y2 : Int) (w0 : Int) (w1 : Nat) (w2 : Int) (w3 : Nat → Member) : Ex_btf_memberAt_v2_L0 → List L1 → List Value
  | .e0 , ls => [.slice (some ⟨(lget ls 0).n, 0, none⟩) 2 2, .int .i64 (y2), .pointer (some ⟨(lget ls 3).n, 0, none⟩), .bool false, (rowV (lget ls 1) w1 3), .int .i64 ((w1 : Int))]
  | .e1 c1_0 c1_1, ls => [.slice (some ⟨(lget ls 0).n, 0, none⟩) 2 2, .int .i64 (y2), .pointer (some ⟨(lget ls 3).n, 0, none⟩), .bool true, (rowV (lget ls 1) w1 3), .int .i64 ((w1 : Int))]
def mk_btf_memberAt_v2_L0 : Ex_btf_memberAt_v2_L0 → List (Nat × Nat)
  | .e0  => [(1, 1), (1, 3), (2, 4), (2, 23)]
  | .e1 _ _ => [(1, 1), (1, 3), (2, 4), (2, 23)]
noncomputable def vf_btf_memberAt_v2_L0 (y2 : Int) (w0 : Int) (w1 : Nat) (w2 : Int) (w3 : Nat → Member) (r : Ex_btf_memberAt_v2_L0) : List L1 → List Value := mrgF (mk_btf_memberAt_v2_L0 r) (vl_btf_memberAt_v2_L0 y2 w0 w1 w2 w3 r) 4
def Hf_btf_memberAt_v2_L0 (y2 : Int) (w0 : Int) (w1 : Nat) (w2 : Int) (w3 : Nat → Member) : Ex_btf_memberAt_v2_L0 → List L1 → List Obj
  | .e0 , ls => [.cells #[.int .i64 (1), .string (⟨#[117, 110, 105, 116]⟩ : ByteArray), .int .i64 (w2), .bool false, .int .i64 (0), .int .i64 (0), .slice none 0 0, .int .i64 (4), .string (⟨#[115]⟩ : ByteArray), .int .i64 (w0), .bool false, .int .i64 (0), .int .i64 (0), (rowV (lget ls 1) w1 3)] 25, rowO (lget ls 1) (esG c_Member w1 w3) 27 w1 3, .cells #[.int .i64 (4), .string (⟨#[115]⟩ : ByteArray), .int .i64 (w0), .bool false, .int .i64 (0), .int .i64 (0), (rowV (lget ls 1) w1 3)] 25, .cells #[.string (⟨#[]⟩ : ByteArray), .int .i64 (0), .int .i64 (0)] 27, unb]
  | .e1 c1_0 c1_1, ls => [.cells #[.int .i64 (1), .string (⟨#[117, 110, 105, 116]⟩ : ByteArray), .int .i64 (w2), .bool false, .int .i64 (0), .int .i64 (0), .slice none 0 0, .int .i64 (4), .string (⟨#[115]⟩ : ByteArray), .int .i64 (w0), .bool false, .int .i64 (0), .int .i64 (0), (rowV (lget ls 1) w1 3)] 25, rowO (lget ls 1) (esG c_Member w1 w3) 27 w1 3, .cells #[.int .i64 (4), .string (⟨#[115]⟩ : ByteArray), .int .i64 (w0), .bool false, .int .i64 (0), .int .i64 (0), (rowV (lget ls 1) w1 3)] 25, .cells #[.string c1_0, .int .i64 (1), .int .i64 (c1_1)] 27, unb]
def ex_btf_memberAt_v2_L0 : Ex_btf_memberAt_v2_L0 → Ex
  | .e0  => (.exit 0)
  | .e1 _ _ => .ret
end
section
variable {M : Nat → Prop} {B0 : Nat} {S : World → Prop} (hU : Up M B0 S) (y2 : Int) (w0 : Int) (w1 : Nat) (w2 : Int) (w3 : Nat → Member)
include hU y2 w0 w1 w2 w3
theorem go_btf_memberAt_v2_L0 (s : Sh_btf_memberAt_v2_L0) (r : Ex_btf_memberAt_v2_L0) (h : lpO (st_btf_memberAt_v2_L0 y2 w1 w2 w3) s = some r) : GoesG Tryd.prog M B0 S (.loop bd_btf_memberAt_v2_L0) 5 (fr_btf_memberAt_v2_L0 y2 w0 w1 w2 w3 s) (Hs_btf_memberAt_v2_L0 y2 w0 w1 w2 w3 s) (ex_btf_memberAt_v2_L0 r) 4 (vf_btf_memberAt_v2_L0 y2 w0 w1 w2 w3 r) (Hf_btf_memberAt_v2_L0 y2 w0 w1 w2 w3 r) 5 :=
  goes_lpO (fun s q e => by
    cases s with
    | c0 s0_0 =>
      unfold st_btf_memberAt_v2_L0 at e
      dsimp only at e
      replace e := cond_eq_or e
      rcases e with ⟨hq0, e⟩ | ⟨hq0, e⟩
      · replace e := cond_eq_or e
        rcases e with ⟨hq1, e⟩ | ⟨hq1, e⟩
        · replace e := cond_eq_or e
          rcases e with ⟨hq2, e⟩ | ⟨hq2, e⟩
          · replace e := cond_eq_or e
            rcases e with ⟨hq3, e⟩ | ⟨hq3, e⟩
            · replace e := cond_eq_or e
              rcases e with ⟨hq4, e⟩ | ⟨hq4, e⟩
              · cases e; exact ⟨ne_ret, goes_runM hU [.b (z_lssT hq0), .q (ixM_ok (kd := .i64) (T := 23) (x := s0_0) (N := w1) (sz := 3) rfl (fun w => by kernel_rfl) hq1), .l (accG (i := 1) (f := c_Member) (A := w3) (k := (s0_0).toNat) 0 [.string ((w3 (s0_0).toNat)).fName, .int .i64 (1), .int .i64 (((w3 (s0_0).toNat)).fBits)] c_Member_len (inR_nat hq1) (congrArg (fun x : Int => ([.string ((w3 (s0_0).toNat)).fName, .int .i64 x, .int .i64 (((w3 (s0_0).toNat)).fBits)] : List Value)) (eq_of_beq hq2))), .o, .a 5, .o, .a 5, .ov (z_quo Tryd.prog 3 (.tmp 19) (.const (.int .i64 (8))) ((w3 (s0_0).toNat)).fBits 8 (by decide)), .o, .o, .o, .b (z_geqT hq3), .o, .o, .o, .o, .o, .a 5, .xg (p0_btf_sizeOf_v2 hU w2 w0 w1 w3 ) [0, 1], .o, .b (z_lssT hq4), .o, .a 5, .a 3, .o] [0, 1, 2, 3] (fun b => rfl) (by decide) rfl rfl (fun b => by kernel_rfl)⟩
              · cases e; exact goes_runM hU [.b (z_lssT hq0), .q (ixM_ok (kd := .i64) (T := 23) (x := s0_0) (N := w1) (sz := 3) rfl (fun w => by kernel_rfl) hq1), .l (accG (i := 1) (f := c_Member) (A := w3) (k := (s0_0).toNat) 0 [.string ((w3 (s0_0).toNat)).fName, .int .i64 (1), .int .i64 (((w3 (s0_0).toNat)).fBits)] c_Member_len (inR_nat hq1) (congrArg (fun x : Int => ([.string ((w3 (s0_0).toNat)).fName, .int .i64 x, .int .i64 (((w3 (s0_0).toNat)).fBits)] : List Value)) (eq_of_beq hq2))), .o, .a 5, .o, .a 5, .ov (z_quo Tryd.prog 3 (.tmp 19) (.const (.int .i64 (8))) ((w3 (s0_0).toNat)).fBits 8 (by decide)), .o, .o, .o, .b (z_geqT hq3), .o, .o, .o, .o, .o, .a 5, .xg (p0_btf_sizeOf_v2 hU w2 w0 w1 w3 ) [0, 1], .o, .b (z_lssF hq4), .o, .o, .o] [0, 1, 2, 3] (fun b => rfl) (by decide) rfl rfl (fun b => by kernel_rfl)
            · cases e; exact goes_runM hU [.b (z_lssT hq0), .q (ixM_ok (kd := .i64) (T := 23) (x := s0_0) (N := w1) (sz := 3) rfl (fun w => by kernel_rfl) hq1), .l (accG (i := 1) (f := c_Member) (A := w3) (k := (s0_0).toNat) 0 [.string ((w3 (s0_0).toNat)).fName, .int .i64 (1), .int .i64 (((w3 (s0_0).toNat)).fBits)] c_Member_len (inR_nat hq1) (congrArg (fun x : Int => ([.string ((w3 (s0_0).toNat)).fName, .int .i64 x, .int .i64 (((w3 (s0_0).toNat)).fBits)] : List Value)) (eq_of_beq hq2))), .o, .a 5, .o, .a 5, .ov (z_quo Tryd.prog 3 (.tmp 19) (.const (.int .i64 (8))) ((w3 (s0_0).toNat)).fBits 8 (by decide)), .o, .o, .o, .b (z_geqF hq3), .o, .o, .o, .o] [0, 1, 2, 3] (fun b => rfl) (by decide) rfl rfl (fun b => by kernel_rfl)
          · exact none_some e
        · exact none_some e
      · cases e; exact ⟨ne_exit 0, goes_runM hU [.b (z_lssF hq0)] [0, 1, 2, 3] (fun b => rfl) (by decide) rfl rfl (fun b => by kernel_rfl)⟩) s r h
noncomputable def t0_btf_memberAt_v2_L0_0 (y2 : Int) (w0 : Int) (w1 : Nat) (w2 : Int) (w3 : Nat → Member) (s0_0 : Int) (ls : List L1) : List Value := List.append [.slice (some ⟨(lget ls 0).n, 0, none⟩) 2 2, .agg #[.int .i64 (4), .string (⟨#[115]⟩ : ByteArray), .int .i64 (w0), .bool false, .int .i64 (0), .int .i64 (0), (rowV (lget ls 1) w1 3)], .int .i64 (y2), undef, .pointer (some ⟨(lget ls 2).n, 0, none⟩), undef, .pointer (some ⟨(lget ls 3).n, 0, none⟩), .bool false, undef, undef, undef, .pointer (some ⟨(lget ls 2).n, 6, none⟩), (rowV (lget ls 1) w1 3), .int .i64 ((w1 : Int)), .int .i64 (s0_0)] (und 22)
def pre_btf_memberAt_v2_L0_0 (y2 : Int) (w0 : Int) (w1 : Nat) (w2 : Int) (w3 : Nat → Member) (s0_0 : Int) (ls : List L1) : List Obj := [.cells #[.int .i64 (1), .string (⟨#[117, 110, 105, 116]⟩ : ByteArray), .int .i64 (w2), .bool false, .int .i64 (0), .int .i64 (0), .slice none 0 0, .int .i64 (4), .string (⟨#[115]⟩ : ByteArray), .int .i64 (w0), .bool false, .int .i64 (0), .int .i64 (0), (rowV (lget ls 1) w1 3)] 25, rowO (lget ls 1) (esG c_Member w1 w3) 27 w1 3, .cells #[.int .i64 (4), .string (⟨#[115]⟩ : ByteArray), .int .i64 (w0), .bool false, .int .i64 (0), .int .i64 (0), (rowV (lget ls 1) w1 3)] 25, .cells #[.string (⟨#[]⟩ : ByteArray), .int .i64 (0), .int .i64 (0)] 27]
theorem sp0_btf_memberAt_v2_L0_0_ok (s0_0 : Int) (h : lpO (st_btf_memberAt_v2_L0 y2 w1 w2 w3) (.c0 s0_0) = some (.e0 )) : SpcG Tryd.prog M B0 S ⟨fun ls => .code (.loop bd_btf_memberAt_v2_L0) (t0_btf_memberAt_v2_L0_0 y2 w0 w1 w2 w3 s0_0 ls), pre_btf_memberAt_v2_L0_0 y2 w0 w1 w2 w3 s0_0, 1, (.exit 0), fun ls => vf_btf_memberAt_v2_L0 y2 w0 w1 w2 w3 (.e0 ) (ls.take 4 ++ ls.drop 4), fun ls => (Hf_btf_memberAt_v2_L0 y2 w0 w1 w2 w3 (.e0 ) (ls.take 4 ++ ls.drop 4)).take 4 ++ List.replicate 0 unb, fun ls => (Hf_btf_memberAt_v2_L0 y2 w0 w1 w2 w3 (.e0 ) (ls.take 4 ++ ls.drop 4)).drop 4⟩ :=
  spc_of_goesM hU 0 (k0 := 4) (go_btf_memberAt_v2_L0 hU y2 w0 w1 w2 w3 _ _ h) (t0_btf_memberAt_v2_L0_0 y2 w0 w1 w2 w3 s0_0) (pre_btf_memberAt_v2_L0_0 y2 w0 w1 w2 w3 s0_0) (fun _ => rfl) (fun ls h => by match ls, h with | [l0, l1, l2, l3], _ => exact ⟨by kernel_rfl, by kernel_rfl⟩) (fun ls h => by match ls, h with | [l0, l1, l2, l3], _ => rfl) (by decide) (by decide) (fun ls => rfl)
theorem sp1_btf_memberAt_v2_L0_0_ok (s0_0 : Int) (c1_0 : ByteArray) (c1_1 : Int) (h : lpO (st_btf_memberAt_v2_L0 y2 w1 w2 w3) (.c0 s0_0) = some (.e1 c1_0 c1_1)) : SpcG Tryd.prog M B0 S ⟨fun ls => .code (.loop bd_btf_memberAt_v2_L0) (t0_btf_memberAt_v2_L0_0 y2 w0 w1 w2 w3 s0_0 ls), pre_btf_memberAt_v2_L0_0 y2 w0 w1 w2 w3 s0_0, 1, .ret, fun ls => vf_btf_memberAt_v2_L0 y2 w0 w1 w2 w3 (.e1 c1_0 c1_1) (ls.take 4 ++ ls.drop 4), fun ls => (Hf_btf_memberAt_v2_L0 y2 w0 w1 w2 w3 (.e1 c1_0 c1_1) (ls.take 4 ++ ls.drop 4)).take 4 ++ List.replicate 0 unb, fun ls => (Hf_btf_memberAt_v2_L0 y2 w0 w1 w2 w3 (.e1 c1_0 c1_1) (ls.take 4 ++ ls.drop 4)).drop 4⟩ :=
  spc_of_goesM hU 0 (k0 := 4) (go_btf_memberAt_v2_L0 hU y2 w0 w1 w2 w3 _ _ h) (t0_btf_memberAt_v2_L0_0 y2 w0 w1 w2 w3 s0_0) (pre_btf_memberAt_v2_L0_0 y2 w0 w1 w2 w3 s0_0) (fun _ => rfl) (fun ls h => by match ls, h with | [l0, l1, l2, l3], _ => exact ⟨by kernel_rfl, by kernel_rfl⟩) (fun ls h => by match ls, h with | [l0, l1, l2, l3], _ => rfl) (by decide) (by decide) (fun ls => rfl)
inductive R_btf_memberAt_v2 where
  | e0 (c0_0 : ByteArray) (c0_1 : Int) (c0_2 : Int) (c0_3 : Bool)
noncomputable def m_btf_memberAt_v2 (y2 : Int) (w0 : Int) (w1 : Nat) (w2 : Int) (w3 : Nat → Member) : Option R_btf_memberAt_v2 :=
  (lpO (st_btf_memberAt_v2_L0 y2 w1 w2 w3) (.c0 0)).bind fun g0 => match g0 with
  | .e0  => (some (.e0 (⟨#[]⟩ : ByteArray) 0 0 false))
  | .e1 g0_0 g0_1 => (some (.e0 g0_0 1 g0_1 true))
def sq0_btf_memberAt_v2 (y2 : Int) (w0 : Int) (w1 : Nat) (w2 : Int) (w3 : Nat → Member) (c0_0 : ByteArray) (c0_1 : Int) (c0_2 : Int) (c0_3 : Bool) : Spc := ⟨fun ls => .call 12 #[.slice (some ⟨(lget ls 0).n, 0, none⟩) 2 2, .agg #[.int .i64 (4), .string (⟨#[115]⟩ : ByteArray), .int .i64 (w0), .bool false, .int .i64 (0), .int .i64 (0), (rowV (lget ls 1) w1 3)], .int .i64 (y2)], fun ls => [.cells #[.int .i64 (1), .string (⟨#[117, 110, 105, 116]⟩ : ByteArray), .int .i64 (w2), .bool false, .int .i64 (0), .int .i64 (0), .slice none 0 0, .int .i64 (4), .string (⟨#[115]⟩ : ByteArray), .int .i64 (w0), .bool false, .int .i64 (0), .int .i64 (0), (rowV (lget ls 1) w1 3)] 25, rowO (lget ls 1) (esG c_Member w1 w3) 27 w1 3], 0, .normal, fun ls => [.tuple #[.agg #[.string c0_0, .int .i64 (c0_1), .int .i64 (c0_2)], .bool (c0_3)]], fun ls => [.cells #[.int .i64 (1), .string (⟨#[117, 110, 105, 116]⟩ : ByteArray), .int .i64 (w2), .bool false, .int .i64 (0), .int .i64 (0), .slice none 0 0, .int .i64 (4), .string (⟨#[115]⟩ : ByteArray), .int .i64 (w0), .bool false, .int .i64 (0), .int .i64 (0), (rowV (lget ls 1) w1 3)] 25, rowO (lget ls 1) (esG c_Member w1 w3) 27 w1 3], fun ls => []⟩
theorem ok0_btf_memberAt_v2 (c0_0 : ByteArray) (c0_1 : Int) (c0_2 : Int) (c0_3 : Bool) (e : m_btf_memberAt_v2 y2 w0 w1 w2 w3 = some (.e0 c0_0 c0_1 c0_2 c0_3)) : SpcG Tryd.prog M B0 S (sq0_btf_memberAt_v2 y2 w0 w1 w2 w3 c0_0 c0_1 c0_2 c0_3) := by
  unfold m_btf_memberAt_v2 at e
  replace e := bindO_eq e
  obtain ⟨g0, e_g0, e⟩ := e
  rcases g0 with _ | ⟨g0_0, g0_1⟩
  · try dsimp only at e
    injection e with e; injection e with i0 i1 i2 i3; subst i0 i1 i2 i3; exact fn_specG hU (P := Tryd.prog) Tryd.func12 (fun xs w => by kernel_rfl) 2 _ _ (fun _ => rfl) _ _ _ [] [.o, .o, .o, .o, .a 2, .o, .o, .cp, .cx (sp0_btf_memberAt_v2_L0_0_ok hU y2 w0 w1 w2 w3 0  e_g0) [0, 1, 2, 3], .o, .a 3, .o] [3, 3, 3] (fun b => by kernel_rfl)
  · try dsimp only at e
    injection e with e; injection e with i0 i1 i2 i3; subst i0 i1 i2 i3; exact fn_specG hU (P := Tryd.prog) Tryd.func12 (fun xs w => by kernel_rfl) 2 _ _ (fun _ => rfl) _ _ _ [] [.o, .o, .o, .o, .a 2, .o, .o, .cp, .cx (sp1_btf_memberAt_v2_L0_0_ok hU y2 w0 w1 w2 w3 0 g0_0 g0_1 e_g0) [0, 1, 2, 3]] [3, 3, 3] (fun b => by kernel_rfl)
inductive R_btf_wayTo_v2 where
  | e0 (c0_0 : ByteArray) (c0_1 : Bool)
noncomputable def m_btf_wayTo_v2 (y2 : Int) (w0 : Int) (w1 : Int) (w2 : Nat) (w3 : Nat → Member) : Option R_btf_wayTo_v2 :=
  (m_btf_memberAt_v2 y2 w1 w2 w0 w3).bind fun g0 => match g0 with
  | .e0 g0_0 g0_1 g0_2 g0_3 =>
  bif g0_3 then
    (bif decide ((⟨#[46]⟩ : ByteArray).size + g0_0.size ≤ 9223372036854775807) then
      (bif decide ((⟨#[]⟩ : ByteArray).size + ((⟨#[46]⟩ : ByteArray) ++ g0_0).size ≤ 9223372036854775807) then
        (bif g0_1 == 1 then
          (some (.e0 ((⟨#[]⟩ : ByteArray) ++ ((⟨#[46]⟩ : ByteArray) ++ g0_0)) (decide ((IntKind.i64.wrap ((IntKind.i64.wrap (y2 - (zquo g0_2 8))) + 1)) ≤ w0))))
        else (none))
      else (none))
    else (none))
  else (some (.e0 (⟨#[]⟩ : ByteArray) false))
def sq0_btf_wayTo_v2 (y2 : Int) (w0 : Int) (w1 : Int) (w2 : Nat) (w3 : Nat → Member) (c0_0 : ByteArray) (c0_1 : Bool) : Spc := ⟨fun ls => .call 8 #[.slice (some ⟨(lget ls 0).n, 0, none⟩) 2 2, .int .i64 (2), .int .i64 (y2), .int .i64 (1)], fun ls => [.cells #[.int .i64 (1), .string (⟨#[117, 110, 105, 116]⟩ : ByteArray), .int .i64 (w0), .bool false, .int .i64 (0), .int .i64 (0), .slice none 0 0, .int .i64 (4), .string (⟨#[115]⟩ : ByteArray), .int .i64 (w1), .bool false, .int .i64 (0), .int .i64 (0), (rowV (lget ls 1) w2 3)] 25, rowO (lget ls 1) (esG c_Member w2 w3) 27 w2 3], 0, .normal, fun ls => [.tuple #[.string c0_0, .bool (c0_1)]], fun ls => [.cells #[.int .i64 (1), .string (⟨#[117, 110, 105, 116]⟩ : ByteArray), .int .i64 (w0), .bool false, .int .i64 (0), .int .i64 (0), .slice none 0 0, .int .i64 (4), .string (⟨#[115]⟩ : ByteArray), .int .i64 (w1), .bool false, .int .i64 (0), .int .i64 (0), (rowV (lget ls 1) w2 3)] 25, rowO (lget ls 1) (esG c_Member w2 w3) 27 w2 3], fun ls => []⟩
end
section
variable {M : Nat → Prop} {B0 : Nat} {S : World → Prop} (hU : Up M B0 S) (y2 : Int) (w0 : Int) (w1 : Int) (w2 : Nat) (w3 : Nat → Member) (c0_0 : ByteArray)
include hU y2 w0 w1 w2 w3 c0_0
theorem ok0_btf_wayTo_v2 (c0_1 : Bool) (e : m_btf_wayTo_v2 y2 w0 w1 w2 w3 = some (.e0 c0_0 c0_1)) : SpcG Tryd.prog M B0 S (sq0_btf_wayTo_v2 y2 w0 w1 w2 w3 c0_0 c0_1) := by
  unfold m_btf_wayTo_v2 at e
  replace e := bindO_eq e
  obtain ⟨g0, e_g0, e⟩ := e
  obtain ⟨g0_0, g0_1, g0_2, g0_3⟩ := g0
  try dsimp only at e
  replace e := cond_eq_or e
  rcases e with ⟨hq0, e⟩ | ⟨hq0, e⟩
  · replace e := cond_eq_or e
    rcases e with ⟨hq1, e⟩ | ⟨hq1, e⟩
    · replace e := cond_eq_or e
      rcases e with ⟨hq2, e⟩ | ⟨hq2, e⟩
      · replace e := cond_eq_or e
        rcases e with ⟨hq3, e⟩ | ⟨hq3, e⟩
        · injection e with e; injection e with i0 i1; subst i0 i1; exact fn_specG hU (P := Tryd.prog) Tryd.func8 (fun xs w => by kernel_rfl) 2 _ _ (fun _ => rfl) _ _ _ [] [.o, .o, .o, .o, .o, .o, .o, .a 0, .o, .a 2, .o, .a 2, .o, .o, .o, .o, .o, .o, .o, .a 2, .o, .xg (ok0_btf_memberAt_v2 hU y2 w1 w2 w0 w3 g0_0 g0_1 g0_2 g0_3 e_g0) [0, 1], .o, .o, .b hq0, .o, .a 3, .o, .o, .o, .o, .o, .a 3, .ov (catS_ok 9 (⟨#[46]⟩ : ByteArray) g0_0 (.const (.string (⟨#[46]⟩ : ByteArray))) (.tmp 66) (by kernel_rfl) hq1), .ov (catS_ok 9 (⟨#[]⟩ : ByteArray) ((⟨#[46]⟩ : ByteArray) ++ g0_0) (.tmp 64) (.tmp 67) (by kernel_rfl) hq2), .o, .r [0, 1, 2, 3, 4, 5, 6, 7, 8] [] [], .o, .a 3, .o, .o, .a 3, .ov (z_quo Tryd.prog 3 (.tmp 73) (.const (.int .i64 (8))) g0_2 8 (by decide)), .o, .v .i64 (eq_of_beq hq3), .o, .o, .o, .o, .o, .a 0, .o, .a 4, .o, .a 4, .o, .o, .o, .o, .o, .o, .o, .o, .o, .o, .o, .o, .xg (p0_btf_sizeOf_v2 hU w0 w1 w2 w3 ) [0, 1], .o, .o, .o] [] (fun b => by kernel_rfl)
        · exact none_some e
      · exact none_some e
    · exact none_some e
  · injection e with e; injection e with i0 i1; subst i0 i1; exact fn_specG hU (P := Tryd.prog) Tryd.func8 (fun xs w => by kernel_rfl) 2 _ _ (fun _ => rfl) _ _ _ [] [.o, .o, .o, .o, .o, .o, .o, .a 0, .o, .a 2, .o, .a 2, .o, .o, .o, .o, .o, .o, .o, .a 2, .o, .xg (ok0_btf_memberAt_v2 hU y2 w1 w2 w0 w3 g0_0 g0_1 g0_2 g0_3 e_g0) [0, 1], .o, .o, .b hq0, .o, .a 3, .o, .o, .o, .o, .o] [] (fun b => by kernel_rfl)
inductive R_btf_Field_v2 where
  | e0 (c0_0 : ByteArray) (c0_1 : Int)
noncomputable def m_btf_Field_v2 (y2 : Int) (w0 : Int) (w1 : Int) (w2 : Nat) (w3 : Nat → Member) : Option R_btf_Field_v2 :=
  (m_btf_Size_v1 w0 w1 w2 w3).bind fun g0 => match g0 with
  | .e0 g0_0 g0_1 =>
  bif g0_1 == 0 then
    (bif decide (y2 < 0) then
      (some (.e0 (⟨#[]⟩ : ByteArray) 43))
    else (bif decide ((IntKind.i64.wrap (g0_0 - 1)) < y2) then
      (some (.e0 (⟨#[]⟩ : ByteArray) 43))
    else ((m_btf_wayTo_v2 y2 w0 w1 w2 w3).bind fun g1 => match g1 with
    | .e0 g1_0 g1_1 =>
    bif g1_1 then
      (some (.e0 g1_0 0))
    else (some (.e0 (⟨#[]⟩ : ByteArray) 41)))))
  else (some (.e0 (⟨#[]⟩ : ByteArray) g0_1))
def sq0_btf_Field_v2 (y2 : Int) (w0 : Int) (w1 : Int) (w2 : Nat) (w3 : Nat → Member) (c0_0 : ByteArray) (c0_1 : Int) : Spc := ⟨fun ls => .call 5 #[.slice (some ⟨(lget ls 0).n, 0, none⟩) 2 2, .int .i64 (2), .int .i64 (y2), .int .i64 (1)], fun ls => [.cells #[.int .i64 (1), .string (⟨#[117, 110, 105, 116]⟩ : ByteArray), .int .i64 (w0), .bool false, .int .i64 (0), .int .i64 (0), .slice none 0 0, .int .i64 (4), .string (⟨#[115]⟩ : ByteArray), .int .i64 (w1), .bool false, .int .i64 (0), .int .i64 (0), (rowV (lget ls 1) w2 3)] 25, rowO (lget ls 1) (esG c_Member w2 w3) 27 w2 3], 0, .normal, fun ls => [.tuple #[.string c0_0, .int .i64 (c0_1)]], fun ls => [.cells #[.int .i64 (1), .string (⟨#[117, 110, 105, 116]⟩ : ByteArray), .int .i64 (w0), .bool false, .int .i64 (0), .int .i64 (0), .slice none 0 0, .int .i64 (4), .string (⟨#[115]⟩ : ByteArray), .int .i64 (w1), .bool false, .int .i64 (0), .int .i64 (0), (rowV (lget ls 1) w2 3)] 25, rowO (lget ls 1) (esG c_Member w2 w3) 27 w2 3], fun ls => []⟩
theorem ok0_btf_Field_v2 (c0_1 : Int) (e : m_btf_Field_v2 y2 w0 w1 w2 w3 = some (.e0 c0_0 c0_1)) : SpcG Tryd.prog M B0 S (sq0_btf_Field_v2 y2 w0 w1 w2 w3 c0_0 c0_1) := by
  unfold m_btf_Field_v2 at e
  replace e := bindO_eq e
  obtain ⟨g0, e_g0, e⟩ := e
  obtain ⟨g0_0, g0_1⟩ := g0
  try dsimp only at e
  replace e := cond_eq_or e
  rcases e with ⟨hq0, e⟩ | ⟨hq0, e⟩
  · replace e := cond_eq_or e
    rcases e with ⟨hq1, e⟩ | ⟨hq1, e⟩
    · injection e with e; injection e with i0 i1; subst i0 i1; exact fn_specG hU (P := Tryd.prog) Tryd.func5 (fun xs w => by kernel_rfl) 2 _ _ (fun _ => rfl) _ _ _ [] [.o, .o, .o, .o, .xg (ok0_btf_Size_v1 hU w0 w1 w2 w3 g0_0 g0_1 e_g0) [0, 1], .o, .o, .o, .o, .o, .o, .b (z_neqT hq0), .o, .o, .o, .o, .b (z_lssT hq1), .o, .o, .o, .o] [] (fun b => by kernel_rfl)
    · replace e := cond_eq_or e
      rcases e with ⟨hq2, e⟩ | ⟨hq2, e⟩
      · injection e with e; injection e with i0 i1; subst i0 i1; exact fn_specG hU (P := Tryd.prog) Tryd.func5 (fun xs w => by kernel_rfl) 2 _ _ (fun _ => rfl) _ _ _ [] [.o, .o, .o, .o, .xg (ok0_btf_Size_v1 hU w0 w1 w2 w3 g0_0 g0_1 e_g0) [0, 1], .o, .o, .o, .o, .o, .o, .b (z_neqT hq0), .o, .o, .o, .o, .b (z_lssF hq1), .o, .o, .o, .o, .o, .b (z_gtrT hq2), .o, .o, .o] [] (fun b => by kernel_rfl)
      · replace e := bindO_eq e
        obtain ⟨g1, e_g1, e⟩ := e
        obtain ⟨g1_0, g1_1⟩ := g1
        try dsimp only at e
        replace e := cond_eq_or e
        rcases e with ⟨hq3, e⟩ | ⟨hq3, e⟩
        · injection e with e; injection e with i0 i1; subst i0 i1; exact fn_specG hU (P := Tryd.prog) Tryd.func5 (fun xs w => by kernel_rfl) 2 _ _ (fun _ => rfl) _ _ _ [] [.o, .o, .o, .o, .xg (ok0_btf_Size_v1 hU w0 w1 w2 w3 g0_0 g0_1 e_g0) [0, 1], .o, .o, .o, .o, .o, .o, .b (z_neqT hq0), .o, .o, .o, .o, .b (z_lssF hq1), .o, .o, .o, .o, .o, .b (z_gtrF hq2), .o, .o, .o, .o, .o, .xg (ok0_btf_wayTo_v2 hU y2 w0 w1 w2 w3 g1_0 g1_1 e_g1) [0, 1], .o, .o, .b hq3, .o, .o, .o, .o, .o, .o, .o] [] (fun b => by kernel_rfl)
        · injection e with e; injection e with i0 i1; subst i0 i1; exact fn_specG hU (P := Tryd.prog) Tryd.func5 (fun xs w => by kernel_rfl) 2 _ _ (fun _ => rfl) _ _ _ [] [.o, .o, .o, .o, .xg (ok0_btf_Size_v1 hU w0 w1 w2 w3 g0_0 g0_1 e_g0) [0, 1], .o, .o, .o, .o, .o, .o, .b (z_neqT hq0), .o, .o, .o, .o, .b (z_lssF hq1), .o, .o, .o, .o, .o, .b (z_gtrF hq2), .o, .o, .o, .o, .o, .xg (ok0_btf_wayTo_v2 hU y2 w0 w1 w2 w3 g1_0 g1_1 e_g1) [0, 1], .o, .o, .b hq3, .o, .o, .o, .o, .o, .o] [] (fun b => by kernel_rfl)
  · injection e with e; injection e with i0 i1; subst i0 i1; exact fn_specG hU (P := Tryd.prog) Tryd.func5 (fun xs w => by kernel_rfl) 2 _ _ (fun _ => rfl) _ _ _ [] [.o, .o, .o, .o, .xg (ok0_btf_Size_v1 hU w0 w1 w2 w3 g0_0 g0_1 e_g0) [0, 1], .o, .o, .o, .o, .o, .o, .b (z_neqF hq0), .o, .o, .o] [] (fun b => by kernel_rfl)
end

end Go.Proofs.YtfphpdhjcbhehaaDoor
