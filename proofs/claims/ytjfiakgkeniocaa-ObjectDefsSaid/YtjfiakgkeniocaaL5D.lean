/-
  Objects: definitions of maps, by the program's text.
-/
import Derived.Test.YtjfiakgkeniocaaL5K
namespace Go.Proofs.Ytjfiakgkeniocaa
open Go.RowKit
set_option linter.unusedVariables false
set_option linter.unusedSimpArgs false
set_option linter.unusedSectionVars false
set_option maxRecDepth 100000
set_option maxHeartbeats 4000000
noncomputable def m_object_within (y0 : Int) (y1 : Int) (y2 : Int) : Bool :=
  bif decide (y1 ≤ y0) then
    ((decide (y0 ≤ y2)))
  else (false)
section
variable {M : Nat → Prop} {B0 : Nat} {S : World → Prop} (hU : Up M B0 S)
include hU
theorem ok_object_within (y0 : Int) (y1 : Int) (y2 : Int) (r : Bool) (e : m_object_within y0 y1 y2 = r) : ConG Try.prog S 28 #[.int .i64 (y0), .int .i64 (y1), .int .i64 (y2)] (.bool (r)) := by
  unfold m_object_within at e
  replace e := cond_eq_or e
  rcases e with ⟨hq0, e⟩ | ⟨hq0, e⟩
  · subst e; exact fn_conG hU (P := Try.prog) Try.func28 (fun xs w => by kernel_rfl) _ _ [.o, .o, .o, .b (z_geqT hq0), .o, .o, .o, .o, .o, .o] [] (fun b => by kernel_rfl)
  · subst e; exact fn_conG hU (P := Try.prog) Try.func28 (fun xs w => by kernel_rfl) _ _ [.o, .o, .o, .b (z_geqF hq0), .o, .o, .o] [] (fun b => by kernel_rfl)
noncomputable def m_object_rightValue (w0 : Int) (w1 : Int) (w2 : Int) (w3 : Int) (w4 : Bool) : Bool :=
  bif m_object_within w2 1 256 then
    (bif w4 then
      (bif decide (w2 < 16) then
        (false)
      else (bif m_object_within w3 1 64 then
        (true)
      else (false)))
    else (bif m_object_within w3 1 64 then
      (true)
    else (false)))
  else (false)
end
section
variable {M : Nat → Prop} {B0 : Nat} {S : World → Prop} (hU : Up M B0 S) (w0 : Int) (w1 : Int) (w2 : Int) (w3 : Int) (w4 : Bool) (r : Bool)
include hU w0 w1 w2 w3 w4 r
theorem ok_object_rightValue (e : m_object_rightValue w0 w1 w2 w3 w4 = r) : ConG Try.prog S 27 #[.agg #[.int .i64 (w0), .int .i64 (w1), .int .i64 (w2), .int .i64 (w3), .bool (w4), .int .i64 (0)], .slice none 0 0] (.bool (r)) := by
  unfold m_object_rightValue at e
  replace e := cond_eq_or e
  rcases e with ⟨hq0, e⟩ | ⟨hq0, e⟩
  · replace e := cond_eq_or e
    rcases e with ⟨hq1, e⟩ | ⟨hq1, e⟩
    · subst hq1
      replace e := cond_eq_or e
      rcases e with ⟨hq2, e⟩ | ⟨hq2, e⟩
      · subst e; exact fn_conG hU (P := Try.prog) Try.func27 (fun xs w => by kernel_rfl) _ _ [.o, .o, .o, .a 0, .cg (ok_object_within hU w2 1 256 true hq0), .o, .o, .o, .a 0, .o, .o, .a 0, .b (z_lssT hq2), .o, .o, .o, .o, .o] [] (fun b => by kernel_rfl)
      · replace e := cond_eq_or e
        rcases e with ⟨hq3, e⟩ | ⟨hq3, e⟩
        · subst e; exact fn_conG hU (P := Try.prog) Try.func27 (fun xs w => by kernel_rfl) _ _ [.o, .o, .o, .a 0, .cg (ok_object_within hU w2 1 256 true hq0), .o, .o, .o, .a 0, .o, .o, .a 0, .b (z_lssF hq2), .o, .o, .o, .o, .a 0, .cg (ok_object_within hU w3 1 64 true hq3), .o, .o, .o, .a 0, .o, .o] [] (fun b => by kernel_rfl)
        · subst e; exact fn_conG hU (P := Try.prog) Try.func27 (fun xs w => by kernel_rfl) _ _ [.o, .o, .o, .a 0, .cg (ok_object_within hU w2 1 256 true hq0), .o, .o, .o, .a 0, .o, .o, .a 0, .b (z_lssF hq2), .o, .o, .o, .o, .a 0, .cg (ok_object_within hU w3 1 64 false hq3), .o, .o, .o] [] (fun b => by kernel_rfl)
    · subst hq1
      replace e := cond_eq_or e
      rcases e with ⟨hq2, e⟩ | ⟨hq2, e⟩
      · subst e; exact fn_conG hU (P := Try.prog) Try.func27 (fun xs w => by kernel_rfl) _ _ [.o, .o, .o, .a 0, .cg (ok_object_within hU w2 1 256 true hq0), .o, .o, .o, .a 0, .o, .o, .o, .o, .o, .a 0, .cg (ok_object_within hU w3 1 64 true hq2), .o, .o, .o, .a 0, .o, .o] [] (fun b => by kernel_rfl)
      · subst e; exact fn_conG hU (P := Try.prog) Try.func27 (fun xs w => by kernel_rfl) _ _ [.o, .o, .o, .a 0, .cg (ok_object_within hU w2 1 256 true hq0), .o, .o, .o, .a 0, .o, .o, .o, .o, .o, .a 0, .cg (ok_object_within hU w3 1 64 false hq2), .o, .o, .o] [] (fun b => by kernel_rfl)
  · subst e; exact fn_conG hU (P := Try.prog) Try.func27 (fun xs w => by kernel_rfl) _ _ [.o, .o, .o, .a 0, .cg (ok_object_within hU w2 1 256 false hq0), .o, .o, .o, .o, .o, .o] [] (fun b => by kernel_rfl)
noncomputable def m_object_plain (w0 : Int) (w1 : Int) (w2 : Int) (w3 : Int) (w4 : Bool) : Bool :=
  bif w4 then
    (false)
  else (true)
theorem ok_object_plain (e : m_object_plain w0 w1 w2 w3 w4 = r) : ConG Try.prog S 29 #[.agg #[.int .i64 (w0), .int .i64 (w1), .int .i64 (w2), .int .i64 (w3), .bool (w4), .int .i64 (0)]] (.bool (r)) := by
  unfold m_object_plain at e
  replace e := cond_eq_or e
  rcases e with ⟨hq0, e⟩ | ⟨hq0, e⟩
  · subst hq0
    subst e; exact fn_conG hU (P := Try.prog) Try.func29 (fun xs w => by kernel_rfl) _ _ [.o, .o, .o, .a 0, .o, .o, .o, .o] [] (fun b => by kernel_rfl)
  · subst hq0
    subst e; exact fn_conG hU (P := Try.prog) Try.func29 (fun xs w => by kernel_rfl) _ _ [.o, .o, .o, .a 0, .o, .o, .o, .a 0, .o, .o, .o] [] (fun b => by kernel_rfl)
noncomputable def m_object_Def (w0 : Int) (w1 : Int) (w2 : Int) (w3 : Int) (w4 : Bool) : Int :=
  bif w0 == 1 then
    (bif w1 == 4 then
      (bif m_object_rightValue w0 w1 w2 w3 w4 then
        (0)
      else (51))
    else (51))
  else (bif w0 == 2 then
    (bif m_object_within w1 1 16 then
      (bif m_object_rightValue w0 w1 w2 w3 w4 then
        (0)
      else (51))
    else (51))
  else (bif w0 == 3 then
    (bif w1 == 4 then
      (bif w2 == 4 then
        (bif m_object_within w3 1 64 then
          (bif m_object_plain w0 w1 w2 w3 w4 then
            (0)
          else (51))
        else (51))
      else (51))
    else (51))
  else (bif w0 == 4 then
    (bif w1 == 0 then
      (bif w2 == 0 then
        (bif m_object_within w3 8 4096 then
          (bif (zrem w3 8) == 0 then
            (bif m_object_plain w0 w1 w2 w3 w4 then
              (0)
            else (51))
          else (51))
        else (51))
      else (51))
    else (51))
  else (51))))
end
section
variable {M : Nat → Prop} {B0 : Nat} {S : World → Prop} (hU : Up M B0 S)
include hU
theorem ok_object_Def (w0 : Int) (w1 : Int) (w2 : Int) (w3 : Int) (w4 : Bool) (r : Int) (e : m_object_Def w0 w1 w2 w3 w4 = r) : ConG Try.prog S 13 #[.agg #[.int .i64 (w0), .int .i64 (w1), .int .i64 (w2), .int .i64 (w3), .bool (w4), .int .i64 (0)], .slice none 0 0] (.int .i64 (r)) := by
  unfold m_object_Def at e
  replace e := cond_eq_or e
  rcases e with ⟨hq0, e⟩ | ⟨hq0, e⟩
  · replace e := cond_eq_or e
    rcases e with ⟨hq1, e⟩ | ⟨hq1, e⟩
    · replace e := cond_eq_or e
      rcases e with ⟨hq2, e⟩ | ⟨hq2, e⟩
      · subst e; exact fn_conG hU (P := Try.prog) Try.func13 (fun xs w => by kernel_rfl) _ _ [.o, .o, .o, .o, .a 0, .b (z_eqlT hq0), .o, .o, .a 0, .b (z_eqlT hq1), .o, .a 0, .o, .cg (ok_object_rightValue hU w0 w1 w2 w3 w4 true hq2), .o, .o, .o, .o, .o] [] (fun b => by kernel_rfl)
      · subst e; exact fn_conG hU (P := Try.prog) Try.func13 (fun xs w => by kernel_rfl) _ _ [.o, .o, .o, .o, .a 0, .b (z_eqlT hq0), .o, .o, .a 0, .b (z_eqlT hq1), .o, .a 0, .o, .cg (ok_object_rightValue hU w0 w1 w2 w3 w4 false hq2), .o, .o, .o, .o, .o] [] (fun b => by kernel_rfl)
    · subst e; exact fn_conG hU (P := Try.prog) Try.func13 (fun xs w => by kernel_rfl) _ _ [.o, .o, .o, .o, .a 0, .b (z_eqlT hq0), .o, .o, .a 0, .b (z_eqlF hq1), .o, .o, .o, .o, .o, .o] [] (fun b => by kernel_rfl)
  · replace e := cond_eq_or e
    rcases e with ⟨hq1, e⟩ | ⟨hq1, e⟩
    · replace e := cond_eq_or e
      rcases e with ⟨hq2, e⟩ | ⟨hq2, e⟩
      · replace e := cond_eq_or e
        rcases e with ⟨hq3, e⟩ | ⟨hq3, e⟩
        · subst e; exact fn_conG hU (P := Try.prog) Try.func13 (fun xs w => by kernel_rfl) _ _ [.o, .o, .o, .o, .a 0, .b (z_eqlF hq0), .o, .b (z_eqlT hq1), .o, .o, .a 0, .cg (ok_object_within hU w1 1 16 true hq2), .o, .a 0, .o, .cg (ok_object_rightValue hU w0 w1 w2 w3 w4 true hq3), .o, .o, .o, .o, .o] [] (fun b => by kernel_rfl)
        · subst e; exact fn_conG hU (P := Try.prog) Try.func13 (fun xs w => by kernel_rfl) _ _ [.o, .o, .o, .o, .a 0, .b (z_eqlF hq0), .o, .b (z_eqlT hq1), .o, .o, .a 0, .cg (ok_object_within hU w1 1 16 true hq2), .o, .a 0, .o, .cg (ok_object_rightValue hU w0 w1 w2 w3 w4 false hq3), .o, .o, .o, .o, .o] [] (fun b => by kernel_rfl)
      · subst e; exact fn_conG hU (P := Try.prog) Try.func13 (fun xs w => by kernel_rfl) _ _ [.o, .o, .o, .o, .a 0, .b (z_eqlF hq0), .o, .b (z_eqlT hq1), .o, .o, .a 0, .cg (ok_object_within hU w1 1 16 false hq2), .o, .o, .o, .o, .o, .o] [] (fun b => by kernel_rfl)
    · replace e := cond_eq_or e
      rcases e with ⟨hq2, e⟩ | ⟨hq2, e⟩
      · replace e := cond_eq_or e
        rcases e with ⟨hq3, e⟩ | ⟨hq3, e⟩
        · replace e := cond_eq_or e
          rcases e with ⟨hq4, e⟩ | ⟨hq4, e⟩
          · replace e := cond_eq_or e
            rcases e with ⟨hq5, e⟩ | ⟨hq5, e⟩
            · replace e := cond_eq_or e
              rcases e with ⟨hq6, e⟩ | ⟨hq6, e⟩
              · subst e; exact fn_conG hU (P := Try.prog) Try.func13 (fun xs w => by kernel_rfl) _ _ [.o, .o, .o, .o, .a 0, .b (z_eqlF hq0), .o, .b (z_eqlF hq1), .o, .b (z_eqlT hq2), .o, .o, .a 0, .b (z_eqlT hq3), .o, .o, .a 0, .b (z_eqlT hq4), .o, .o, .o, .a 0, .cg (ok_object_within hU w3 1 64 true hq5), .o, .o, .a 0, .cg (ok_object_plain hU w0 w1 w2 w3 w4 true hq6), .o, .o, .o, .o, .o] [] (fun b => by kernel_rfl)
              · subst e; exact fn_conG hU (P := Try.prog) Try.func13 (fun xs w => by kernel_rfl) _ _ [.o, .o, .o, .o, .a 0, .b (z_eqlF hq0), .o, .b (z_eqlF hq1), .o, .b (z_eqlT hq2), .o, .o, .a 0, .b (z_eqlT hq3), .o, .o, .a 0, .b (z_eqlT hq4), .o, .o, .o, .a 0, .cg (ok_object_within hU w3 1 64 true hq5), .o, .o, .a 0, .cg (ok_object_plain hU w0 w1 w2 w3 w4 false hq6), .o, .o, .o, .o, .o] [] (fun b => by kernel_rfl)
            · subst e; exact fn_conG hU (P := Try.prog) Try.func13 (fun xs w => by kernel_rfl) _ _ [.o, .o, .o, .o, .a 0, .b (z_eqlF hq0), .o, .b (z_eqlF hq1), .o, .b (z_eqlT hq2), .o, .o, .a 0, .b (z_eqlT hq3), .o, .o, .a 0, .b (z_eqlT hq4), .o, .o, .o, .a 0, .cg (ok_object_within hU w3 1 64 false hq5), .o, .o, .o, .o, .o, .o, .o] [] (fun b => by kernel_rfl)
          · subst e; exact fn_conG hU (P := Try.prog) Try.func13 (fun xs w => by kernel_rfl) _ _ [.o, .o, .o, .o, .a 0, .b (z_eqlF hq0), .o, .b (z_eqlF hq1), .o, .b (z_eqlT hq2), .o, .o, .a 0, .b (z_eqlT hq3), .o, .o, .a 0, .b (z_eqlF hq4), .o, .o, .o, .o, .o, .o, .o, .o, .o] [] (fun b => by kernel_rfl)
        · subst e; exact fn_conG hU (P := Try.prog) Try.func13 (fun xs w => by kernel_rfl) _ _ [.o, .o, .o, .o, .a 0, .b (z_eqlF hq0), .o, .b (z_eqlF hq1), .o, .b (z_eqlT hq2), .o, .o, .a 0, .b (z_eqlF hq3), .o, .o, .o, .o, .o, .o, .o, .o, .o, .o] [] (fun b => by kernel_rfl)
      · replace e := cond_eq_or e
        rcases e with ⟨hq3, e⟩ | ⟨hq3, e⟩
        · replace e := cond_eq_or e
          rcases e with ⟨hq4, e⟩ | ⟨hq4, e⟩
          · replace e := cond_eq_or e
            rcases e with ⟨hq5, e⟩ | ⟨hq5, e⟩
            · replace e := cond_eq_or e
              rcases e with ⟨hq6, e⟩ | ⟨hq6, e⟩
              · replace e := cond_eq_or e
                rcases e with ⟨hq7, e⟩ | ⟨hq7, e⟩
                · replace e := cond_eq_or e
                  rcases e with ⟨hq8, e⟩ | ⟨hq8, e⟩
                  · subst e; exact fn_conG hU (P := Try.prog) Try.func13 (fun xs w => by kernel_rfl) _ _ [.o, .o, .o, .o, .a 0, .b (z_eqlF hq0), .o, .b (z_eqlF hq1), .o, .b (z_eqlF hq2), .o, .b (z_eqlT hq3), .o, .o, .a 0, .b (z_eqlT hq4), .o, .o, .a 0, .b (z_eqlT hq5), .o, .o, .o, .a 0, .cg (ok_object_within hU w3 8 4096 true hq6), .o, .o, .o, .a 0, .ov (z_rem Try.prog 3 (.tmp 64) (.const (.int .i64 (8))) w3 8 (by decide)), .b (z_eqlT hq7), .o, .o, .a 0, .cg (ok_object_plain hU w0 w1 w2 w3 w4 true hq8), .o, .o, .o, .o, .o] [] (fun b => by kernel_rfl)
                  · subst e; exact fn_conG hU (P := Try.prog) Try.func13 (fun xs w => by kernel_rfl) _ _ [.o, .o, .o, .o, .a 0, .b (z_eqlF hq0), .o, .b (z_eqlF hq1), .o, .b (z_eqlF hq2), .o, .b (z_eqlT hq3), .o, .o, .a 0, .b (z_eqlT hq4), .o, .o, .a 0, .b (z_eqlT hq5), .o, .o, .o, .a 0, .cg (ok_object_within hU w3 8 4096 true hq6), .o, .o, .o, .a 0, .ov (z_rem Try.prog 3 (.tmp 64) (.const (.int .i64 (8))) w3 8 (by decide)), .b (z_eqlT hq7), .o, .o, .a 0, .cg (ok_object_plain hU w0 w1 w2 w3 w4 false hq8), .o, .o, .o, .o, .o] [] (fun b => by kernel_rfl)
                · subst e; exact fn_conG hU (P := Try.prog) Try.func13 (fun xs w => by kernel_rfl) _ _ [.o, .o, .o, .o, .a 0, .b (z_eqlF hq0), .o, .b (z_eqlF hq1), .o, .b (z_eqlF hq2), .o, .b (z_eqlT hq3), .o, .o, .a 0, .b (z_eqlT hq4), .o, .o, .a 0, .b (z_eqlT hq5), .o, .o, .o, .a 0, .cg (ok_object_within hU w3 8 4096 true hq6), .o, .o, .o, .a 0, .ov (z_rem Try.prog 3 (.tmp 64) (.const (.int .i64 (8))) w3 8 (by decide)), .b (z_eqlF hq7), .o, .o, .o, .o, .o, .o, .o] [] (fun b => by kernel_rfl)
              · subst e; exact fn_conG hU (P := Try.prog) Try.func13 (fun xs w => by kernel_rfl) _ _ [.o, .o, .o, .o, .a 0, .b (z_eqlF hq0), .o, .b (z_eqlF hq1), .o, .b (z_eqlF hq2), .o, .b (z_eqlT hq3), .o, .o, .a 0, .b (z_eqlT hq4), .o, .o, .a 0, .b (z_eqlT hq5), .o, .o, .o, .a 0, .cg (ok_object_within hU w3 8 4096 false hq6), .o, .o, .o, .o, .o, .o, .o, .o, .o] [] (fun b => by kernel_rfl)
            · subst e; exact fn_conG hU (P := Try.prog) Try.func13 (fun xs w => by kernel_rfl) _ _ [.o, .o, .o, .o, .a 0, .b (z_eqlF hq0), .o, .b (z_eqlF hq1), .o, .b (z_eqlF hq2), .o, .b (z_eqlT hq3), .o, .o, .a 0, .b (z_eqlT hq4), .o, .o, .a 0, .b (z_eqlF hq5), .o, .o, .o, .o, .o, .o, .o, .o, .o, .o, .o] [] (fun b => by kernel_rfl)
          · subst e; exact fn_conG hU (P := Try.prog) Try.func13 (fun xs w => by kernel_rfl) _ _ [.o, .o, .o, .o, .a 0, .b (z_eqlF hq0), .o, .b (z_eqlF hq1), .o, .b (z_eqlF hq2), .o, .b (z_eqlT hq3), .o, .o, .a 0, .b (z_eqlF hq4), .o, .o, .o, .o, .o, .o, .o, .o, .o, .o, .o, .o] [] (fun b => by kernel_rfl)
        · subst e; exact fn_conG hU (P := Try.prog) Try.func13 (fun xs w => by kernel_rfl) _ _ [.o, .o, .o, .o, .a 0, .b (z_eqlF hq0), .o, .b (z_eqlF hq1), .o, .b (z_eqlF hq2), .o, .b (z_eqlF hq3), .o, .o, .o, .o] [] (fun b => by kernel_rfl)
noncomputable def m_barbicanlaw5_ObjectDefs (y0 : Int) (y1 : Int) (y2 : Int) (y3 : Int) (y4 : Bool) : Bool :=
  bif y0 == 1 then
    (bif y1 == 4 then
      (bif decide (1 ≤ y2) then
        (bif decide (y2 ≤ 256) then
          (bif decide (1 ≤ y3) then
            (bif decide (y3 ≤ 64) then
              (bif y4 then
                (bindT (m_object_Def y0 y1 y2 y3 y4) fun r0 =>
                ((r0 == 0) == (decide (16 ≤ y2))))
              else (bindT (m_object_Def y0 y1 y2 y3 y4) fun r0 =>
              ((r0 == 0) == true)))
            else (bindT (m_object_Def y0 y1 y2 y3 y4) fun r0 =>
            ((r0 == 0) == false)))
          else (bindT (m_object_Def y0 y1 y2 y3 y4) fun r0 =>
          ((r0 == 0) == false)))
        else (bindT (m_object_Def y0 y1 y2 y3 y4) fun r0 =>
        ((r0 == 0) == false)))
      else (bindT (m_object_Def y0 y1 y2 y3 y4) fun r0 =>
      ((r0 == 0) == false)))
    else (bindT (m_object_Def y0 y1 y2 y3 y4) fun r0 =>
    ((r0 == 0) == false)))
  else (bif y0 == 2 then
    (bif decide (1 ≤ y1) then
      (bif decide (y1 ≤ 16) then
        (bif decide (1 ≤ y2) then
          (bif decide (y2 ≤ 256) then
            (bif decide (1 ≤ y3) then
              (bif decide (y3 ≤ 64) then
                (bif y4 then
                  (bindT (m_object_Def y0 y1 y2 y3 y4) fun r0 =>
                  ((r0 == 0) == (decide (16 ≤ y2))))
                else (bindT (m_object_Def y0 y1 y2 y3 y4) fun r0 =>
                ((r0 == 0) == true)))
              else (bindT (m_object_Def y0 y1 y2 y3 y4) fun r0 =>
              ((r0 == 0) == false)))
            else (bindT (m_object_Def y0 y1 y2 y3 y4) fun r0 =>
            ((r0 == 0) == false)))
          else (bindT (m_object_Def y0 y1 y2 y3 y4) fun r0 =>
          ((r0 == 0) == false)))
        else (bindT (m_object_Def y0 y1 y2 y3 y4) fun r0 =>
        ((r0 == 0) == false)))
      else (bindT (m_object_Def y0 y1 y2 y3 y4) fun r0 =>
      ((r0 == 0) == false)))
    else (bindT (m_object_Def y0 y1 y2 y3 y4) fun r0 =>
    ((r0 == 0) == false)))
  else (bif y0 == 3 then
    (bif y1 == 4 then
      (bif y2 == 4 then
        (bif decide (1 ≤ y3) then
          (bif decide (y3 ≤ 64) then
            (bif y4 then
              (bindT (m_object_Def y0 y1 y2 y3 y4) fun r0 =>
              ((r0 == 0) == false))
            else (bindT (m_object_Def y0 y1 y2 y3 y4) fun r0 =>
            ((r0 == 0) == true)))
          else (bindT (m_object_Def y0 y1 y2 y3 y4) fun r0 =>
          ((r0 == 0) == false)))
        else (bindT (m_object_Def y0 y1 y2 y3 y4) fun r0 =>
        ((r0 == 0) == false)))
      else (bindT (m_object_Def y0 y1 y2 y3 y4) fun r0 =>
      ((r0 == 0) == false)))
    else (bindT (m_object_Def y0 y1 y2 y3 y4) fun r0 =>
    ((r0 == 0) == false)))
  else (bif y0 == 4 then
    (bif y1 == 0 then
      (bif y2 == 0 then
        (bif decide (8 ≤ y3) then
          (bif decide (y3 ≤ 4096) then
            (bif (zrem y3 8) == 0 then
              (bif y4 then
                (bindT (m_object_Def y0 y1 y2 y3 y4) fun r0 =>
                ((r0 == 0) == false))
              else (bindT (m_object_Def y0 y1 y2 y3 y4) fun r0 =>
              ((r0 == 0) == true)))
            else (bindT (m_object_Def y0 y1 y2 y3 y4) fun r0 =>
            ((r0 == 0) == false)))
          else (bindT (m_object_Def y0 y1 y2 y3 y4) fun r0 =>
          ((r0 == 0) == false)))
        else (bindT (m_object_Def y0 y1 y2 y3 y4) fun r0 =>
        ((r0 == 0) == false)))
      else (bindT (m_object_Def y0 y1 y2 y3 y4) fun r0 =>
      ((r0 == 0) == false)))
    else (bindT (m_object_Def y0 y1 y2 y3 y4) fun r0 =>
    ((r0 == 0) == false)))
  else (bindT (m_object_Def y0 y1 y2 y3 y4) fun r0 =>
  ((r0 == 0) == false)))))
theorem ok_barbicanlaw5_ObjectDefs (y0 : Int) (y1 : Int) (y2 : Int) (y3 : Int) (y4 : Bool) (r : Bool) (e : m_barbicanlaw5_ObjectDefs y0 y1 y2 y3 y4 = r) : ConG Try.prog S 5 #[.int .i64 (y0), .int .i64 (y1), .int .i64 (y2), .int .i64 (y3), .bool (y4)] (.bool (r)) := by
  unfold m_barbicanlaw5_ObjectDefs at e
  replace e := cond_eq_or e
  rcases e with ⟨hq0, e⟩ | ⟨hq0, e⟩
  · replace e := cond_eq_or e
    rcases e with ⟨hq1, e⟩ | ⟨hq1, e⟩
    · replace e := cond_eq_or e
      rcases e with ⟨hq2, e⟩ | ⟨hq2, e⟩
      · replace e := cond_eq_or e
        rcases e with ⟨hq3, e⟩ | ⟨hq3, e⟩
        · replace e := cond_eq_or e
          rcases e with ⟨hq4, e⟩ | ⟨hq4, e⟩
          · replace e := cond_eq_or e
            rcases e with ⟨hq5, e⟩ | ⟨hq5, e⟩
            · replace e := cond_eq_or e
              rcases e with ⟨hq6, e⟩ | ⟨hq6, e⟩
              · replace e := bindT_eq e
                obtain ⟨r0, e_r0, e⟩ := e
                try dsimp only at e
                subst e; exact fn_conG hU (P := Try.prog) Try.func5 (fun xs w => by kernel_rfl) _ _ [.o, .cg (ok_barbicanlaw5_known hU  ), .o, .o, .o, .b (z_eqlT hq0), .o, .o, .b (z_eqlT hq1), .o, .o, .b (z_geqT hq2), .o, .o, .o, .b (z_leqT hq3), .o, .o, .o, .b (z_geqT hq4), .o, .o, .o, .b (z_leqT hq5), .o, .o, .b hq6, .o, .o, .o, .o, .o, .o, .o, .o, .o, .o, .o, .o, .o, .cg (ok_object_Def hU y0 y1 y2 y3 y4 r0 e_r0), .o, .o, .o, .o] [] (fun b => by kernel_rfl)
              · replace e := bindT_eq e
                obtain ⟨r0, e_r0, e⟩ := e
                try dsimp only at e
                subst e; exact fn_conG hU (P := Try.prog) Try.func5 (fun xs w => by kernel_rfl) _ _ [.o, .cg (ok_barbicanlaw5_known hU  ), .o, .o, .o, .b (z_eqlT hq0), .o, .o, .b (z_eqlT hq1), .o, .o, .b (z_geqT hq2), .o, .o, .o, .b (z_leqT hq3), .o, .o, .o, .b (z_geqT hq4), .o, .o, .o, .b (z_leqT hq5), .o, .o, .b hq6, .o, .o, .o, .o, .o, .o, .o, .o, .o, .o, .o, .cg (ok_object_Def hU y0 y1 y2 y3 y4 r0 e_r0), .o, .o, .o, .o] [] (fun b => by kernel_rfl)
            · replace e := bindT_eq e
              obtain ⟨r0, e_r0, e⟩ := e
              try dsimp only at e
              subst e; exact fn_conG hU (P := Try.prog) Try.func5 (fun xs w => by kernel_rfl) _ _ [.o, .cg (ok_barbicanlaw5_known hU  ), .o, .o, .o, .b (z_eqlT hq0), .o, .o, .b (z_eqlT hq1), .o, .o, .b (z_geqT hq2), .o, .o, .o, .b (z_leqT hq3), .o, .o, .o, .b (z_geqT hq4), .o, .o, .o, .b (z_leqF hq5), .o, .o, .o, .o, .o, .o, .o, .o, .o, .o, .cg (ok_object_Def hU y0 y1 y2 y3 y4 r0 e_r0), .o, .o, .o, .o] [] (fun b => by kernel_rfl)
          · replace e := bindT_eq e
            obtain ⟨r0, e_r0, e⟩ := e
            try dsimp only at e
            subst e; exact fn_conG hU (P := Try.prog) Try.func5 (fun xs w => by kernel_rfl) _ _ [.o, .cg (ok_barbicanlaw5_known hU  ), .o, .o, .o, .b (z_eqlT hq0), .o, .o, .b (z_eqlT hq1), .o, .o, .b (z_geqT hq2), .o, .o, .o, .b (z_leqT hq3), .o, .o, .o, .b (z_geqF hq4), .o, .o, .o, .o, .o, .o, .o, .o, .o, .o, .o, .o, .cg (ok_object_Def hU y0 y1 y2 y3 y4 r0 e_r0), .o, .o, .o, .o] [] (fun b => by kernel_rfl)
        · replace e := bindT_eq e
          obtain ⟨r0, e_r0, e⟩ := e
          try dsimp only at e
          subst e; exact fn_conG hU (P := Try.prog) Try.func5 (fun xs w => by kernel_rfl) _ _ [.o, .cg (ok_barbicanlaw5_known hU  ), .o, .o, .o, .b (z_eqlT hq0), .o, .o, .b (z_eqlT hq1), .o, .o, .b (z_geqT hq2), .o, .o, .o, .b (z_leqF hq3), .o, .o, .o, .o, .o, .o, .o, .o, .o, .o, .o, .o, .o, .o, .cg (ok_object_Def hU y0 y1 y2 y3 y4 r0 e_r0), .o, .o, .o, .o] [] (fun b => by kernel_rfl)
      · replace e := bindT_eq e
        obtain ⟨r0, e_r0, e⟩ := e
        try dsimp only at e
        subst e; exact fn_conG hU (P := Try.prog) Try.func5 (fun xs w => by kernel_rfl) _ _ [.o, .cg (ok_barbicanlaw5_known hU  ), .o, .o, .o, .b (z_eqlT hq0), .o, .o, .b (z_eqlT hq1), .o, .o, .b (z_geqF hq2), .o, .o, .o, .o, .o, .o, .o, .o, .o, .o, .o, .o, .o, .o, .o, .o, .cg (ok_object_Def hU y0 y1 y2 y3 y4 r0 e_r0), .o, .o, .o, .o] [] (fun b => by kernel_rfl)
    · replace e := bindT_eq e
      obtain ⟨r0, e_r0, e⟩ := e
      try dsimp only at e
      subst e; exact fn_conG hU (P := Try.prog) Try.func5 (fun xs w => by kernel_rfl) _ _ [.o, .cg (ok_barbicanlaw5_known hU  ), .o, .o, .o, .b (z_eqlT hq0), .o, .o, .b (z_eqlF hq1), .o, .o, .o, .o, .o, .o, .o, .o, .o, .o, .o, .o, .o, .o, .o, .o, .o, .cg (ok_object_Def hU y0 y1 y2 y3 y4 r0 e_r0), .o, .o, .o, .o] [] (fun b => by kernel_rfl)
  · replace e := cond_eq_or e
    rcases e with ⟨hq1, e⟩ | ⟨hq1, e⟩
    · replace e := cond_eq_or e
      rcases e with ⟨hq2, e⟩ | ⟨hq2, e⟩
      · replace e := cond_eq_or e
        rcases e with ⟨hq3, e⟩ | ⟨hq3, e⟩
        · replace e := cond_eq_or e
          rcases e with ⟨hq4, e⟩ | ⟨hq4, e⟩
          · replace e := cond_eq_or e
            rcases e with ⟨hq5, e⟩ | ⟨hq5, e⟩
            · replace e := cond_eq_or e
              rcases e with ⟨hq6, e⟩ | ⟨hq6, e⟩
              · replace e := cond_eq_or e
                rcases e with ⟨hq7, e⟩ | ⟨hq7, e⟩
                · replace e := cond_eq_or e
                  rcases e with ⟨hq8, e⟩ | ⟨hq8, e⟩
                  · replace e := bindT_eq e
                    obtain ⟨r0, e_r0, e⟩ := e
                    try dsimp only at e
                    subst e; exact fn_conG hU (P := Try.prog) Try.func5 (fun xs w => by kernel_rfl) _ _ [.o, .cg (ok_barbicanlaw5_known hU  ), .o, .o, .o, .b (z_eqlF hq0), .o, .b (z_eqlT hq1), .o, .o, .b (z_geqT hq2), .o, .o, .b (z_leqT hq3), .o, .o, .o, .b (z_geqT hq4), .o, .o, .o, .b (z_leqT hq5), .o, .o, .o, .b (z_geqT hq6), .o, .o, .o, .b (z_leqT hq7), .o, .o, .b hq8, .o, .o, .o, .o, .o, .o, .o, .o, .o, .o, .o, .o, .o, .cg (ok_object_Def hU y0 y1 y2 y3 y4 r0 e_r0), .o, .o, .o, .o] [] (fun b => by kernel_rfl)
                  · replace e := bindT_eq e
                    obtain ⟨r0, e_r0, e⟩ := e
                    try dsimp only at e
                    subst e; exact fn_conG hU (P := Try.prog) Try.func5 (fun xs w => by kernel_rfl) _ _ [.o, .cg (ok_barbicanlaw5_known hU  ), .o, .o, .o, .b (z_eqlF hq0), .o, .b (z_eqlT hq1), .o, .o, .b (z_geqT hq2), .o, .o, .b (z_leqT hq3), .o, .o, .o, .b (z_geqT hq4), .o, .o, .o, .b (z_leqT hq5), .o, .o, .o, .b (z_geqT hq6), .o, .o, .o, .b (z_leqT hq7), .o, .o, .b hq8, .o, .o, .o, .o, .o, .o, .o, .o, .o, .o, .o, .cg (ok_object_Def hU y0 y1 y2 y3 y4 r0 e_r0), .o, .o, .o, .o] [] (fun b => by kernel_rfl)
                · replace e := bindT_eq e
                  obtain ⟨r0, e_r0, e⟩ := e
                  try dsimp only at e
                  subst e; exact fn_conG hU (P := Try.prog) Try.func5 (fun xs w => by kernel_rfl) _ _ [.o, .cg (ok_barbicanlaw5_known hU  ), .o, .o, .o, .b (z_eqlF hq0), .o, .b (z_eqlT hq1), .o, .o, .b (z_geqT hq2), .o, .o, .b (z_leqT hq3), .o, .o, .o, .b (z_geqT hq4), .o, .o, .o, .b (z_leqT hq5), .o, .o, .o, .b (z_geqT hq6), .o, .o, .o, .b (z_leqF hq7), .o, .o, .o, .o, .o, .o, .o, .o, .o, .o, .cg (ok_object_Def hU y0 y1 y2 y3 y4 r0 e_r0), .o, .o, .o, .o] [] (fun b => by kernel_rfl)
              · replace e := bindT_eq e
                obtain ⟨r0, e_r0, e⟩ := e
                try dsimp only at e
                subst e; exact fn_conG hU (P := Try.prog) Try.func5 (fun xs w => by kernel_rfl) _ _ [.o, .cg (ok_barbicanlaw5_known hU  ), .o, .o, .o, .b (z_eqlF hq0), .o, .b (z_eqlT hq1), .o, .o, .b (z_geqT hq2), .o, .o, .b (z_leqT hq3), .o, .o, .o, .b (z_geqT hq4), .o, .o, .o, .b (z_leqT hq5), .o, .o, .o, .b (z_geqF hq6), .o, .o, .o, .o, .o, .o, .o, .o, .o, .o, .o, .o, .cg (ok_object_Def hU y0 y1 y2 y3 y4 r0 e_r0), .o, .o, .o, .o] [] (fun b => by kernel_rfl)
            · replace e := bindT_eq e
              obtain ⟨r0, e_r0, e⟩ := e
              try dsimp only at e
              subst e; exact fn_conG hU (P := Try.prog) Try.func5 (fun xs w => by kernel_rfl) _ _ [.o, .cg (ok_barbicanlaw5_known hU  ), .o, .o, .o, .b (z_eqlF hq0), .o, .b (z_eqlT hq1), .o, .o, .b (z_geqT hq2), .o, .o, .b (z_leqT hq3), .o, .o, .o, .b (z_geqT hq4), .o, .o, .o, .b (z_leqF hq5), .o, .o, .o, .o, .o, .o, .o, .o, .o, .o, .o, .o, .o, .o, .cg (ok_object_Def hU y0 y1 y2 y3 y4 r0 e_r0), .o, .o, .o, .o] [] (fun b => by kernel_rfl)
          · replace e := bindT_eq e
            obtain ⟨r0, e_r0, e⟩ := e
            try dsimp only at e
            subst e; exact fn_conG hU (P := Try.prog) Try.func5 (fun xs w => by kernel_rfl) _ _ [.o, .cg (ok_barbicanlaw5_known hU  ), .o, .o, .o, .b (z_eqlF hq0), .o, .b (z_eqlT hq1), .o, .o, .b (z_geqT hq2), .o, .o, .b (z_leqT hq3), .o, .o, .o, .b (z_geqF hq4), .o, .o, .o, .o, .o, .o, .o, .o, .o, .o, .o, .o, .o, .o, .o, .o, .cg (ok_object_Def hU y0 y1 y2 y3 y4 r0 e_r0), .o, .o, .o, .o] [] (fun b => by kernel_rfl)
        · replace e := bindT_eq e
          obtain ⟨r0, e_r0, e⟩ := e
          try dsimp only at e
          subst e; exact fn_conG hU (P := Try.prog) Try.func5 (fun xs w => by kernel_rfl) _ _ [.o, .cg (ok_barbicanlaw5_known hU  ), .o, .o, .o, .b (z_eqlF hq0), .o, .b (z_eqlT hq1), .o, .o, .b (z_geqT hq2), .o, .o, .b (z_leqF hq3), .o, .o, .o, .o, .o, .o, .o, .o, .o, .o, .o, .o, .o, .o, .o, .o, .o, .o, .cg (ok_object_Def hU y0 y1 y2 y3 y4 r0 e_r0), .o, .o, .o, .o] [] (fun b => by kernel_rfl)
      · replace e := bindT_eq e
        obtain ⟨r0, e_r0, e⟩ := e
        try dsimp only at e
        subst e; exact fn_conG hU (P := Try.prog) Try.func5 (fun xs w => by kernel_rfl) _ _ [.o, .cg (ok_barbicanlaw5_known hU  ), .o, .o, .o, .b (z_eqlF hq0), .o, .b (z_eqlT hq1), .o, .o, .b (z_geqF hq2), .o, .o, .o, .o, .o, .o, .o, .o, .o, .o, .o, .o, .o, .o, .o, .o, .o, .o, .o, .cg (ok_object_Def hU y0 y1 y2 y3 y4 r0 e_r0), .o, .o, .o, .o] [] (fun b => by kernel_rfl)
    · replace e := cond_eq_or e
      rcases e with ⟨hq2, e⟩ | ⟨hq2, e⟩
      · replace e := cond_eq_or e
        rcases e with ⟨hq3, e⟩ | ⟨hq3, e⟩
        · replace e := cond_eq_or e
          rcases e with ⟨hq4, e⟩ | ⟨hq4, e⟩
          · replace e := cond_eq_or e
            rcases e with ⟨hq5, e⟩ | ⟨hq5, e⟩
            · replace e := cond_eq_or e
              rcases e with ⟨hq6, e⟩ | ⟨hq6, e⟩
              · replace e := cond_eq_or e
                rcases e with ⟨hq7, e⟩ | ⟨hq7, e⟩
                · replace e := bindT_eq e
                  obtain ⟨r0, e_r0, e⟩ := e
                  try dsimp only at e
                  subst e; exact fn_conG hU (P := Try.prog) Try.func5 (fun xs w => by kernel_rfl) _ _ [.o, .cg (ok_barbicanlaw5_known hU  ), .o, .o, .o, .b (z_eqlF hq0), .o, .b (z_eqlF hq1), .o, .b (z_eqlT hq2), .o, .o, .b (z_eqlT hq3), .o, .o, .b (z_eqlT hq4), .o, .o, .o, .b (z_geqT hq5), .o, .o, .o, .b (z_leqT hq6), .o, .o, .b hq7, .o, .o, .o, .o, .o, .o, .o, .o, .o, .cg (ok_object_Def hU y0 y1 y2 y3 y4 r0 e_r0), .o, .o, .o, .o] [] (fun b => by kernel_rfl)
                · replace e := bindT_eq e
                  obtain ⟨r0, e_r0, e⟩ := e
                  try dsimp only at e
                  subst e; exact fn_conG hU (P := Try.prog) Try.func5 (fun xs w => by kernel_rfl) _ _ [.o, .cg (ok_barbicanlaw5_known hU  ), .o, .o, .o, .b (z_eqlF hq0), .o, .b (z_eqlF hq1), .o, .b (z_eqlT hq2), .o, .o, .b (z_eqlT hq3), .o, .o, .b (z_eqlT hq4), .o, .o, .o, .b (z_geqT hq5), .o, .o, .o, .b (z_leqT hq6), .o, .o, .b hq7, .o, .o, .o, .o, .o, .o, .o, .o, .o, .cg (ok_object_Def hU y0 y1 y2 y3 y4 r0 e_r0), .o, .o, .o, .o] [] (fun b => by kernel_rfl)
              · replace e := bindT_eq e
                obtain ⟨r0, e_r0, e⟩ := e
                try dsimp only at e
                subst e; exact fn_conG hU (P := Try.prog) Try.func5 (fun xs w => by kernel_rfl) _ _ [.o, .cg (ok_barbicanlaw5_known hU  ), .o, .o, .o, .b (z_eqlF hq0), .o, .b (z_eqlF hq1), .o, .b (z_eqlT hq2), .o, .o, .b (z_eqlT hq3), .o, .o, .b (z_eqlT hq4), .o, .o, .o, .b (z_geqT hq5), .o, .o, .o, .b (z_leqF hq6), .o, .o, .o, .o, .o, .o, .o, .o, .o, .o, .cg (ok_object_Def hU y0 y1 y2 y3 y4 r0 e_r0), .o, .o, .o, .o] [] (fun b => by kernel_rfl)
            · replace e := bindT_eq e
              obtain ⟨r0, e_r0, e⟩ := e
              try dsimp only at e
              subst e; exact fn_conG hU (P := Try.prog) Try.func5 (fun xs w => by kernel_rfl) _ _ [.o, .cg (ok_barbicanlaw5_known hU  ), .o, .o, .o, .b (z_eqlF hq0), .o, .b (z_eqlF hq1), .o, .b (z_eqlT hq2), .o, .o, .b (z_eqlT hq3), .o, .o, .b (z_eqlT hq4), .o, .o, .o, .b (z_geqF hq5), .o, .o, .o, .o, .o, .o, .o, .o, .o, .o, .o, .o, .cg (ok_object_Def hU y0 y1 y2 y3 y4 r0 e_r0), .o, .o, .o, .o] [] (fun b => by kernel_rfl)
          · replace e := bindT_eq e
            obtain ⟨r0, e_r0, e⟩ := e
            try dsimp only at e
            subst e; exact fn_conG hU (P := Try.prog) Try.func5 (fun xs w => by kernel_rfl) _ _ [.o, .cg (ok_barbicanlaw5_known hU  ), .o, .o, .o, .b (z_eqlF hq0), .o, .b (z_eqlF hq1), .o, .b (z_eqlT hq2), .o, .o, .b (z_eqlT hq3), .o, .o, .b (z_eqlF hq4), .o, .o, .o, .o, .o, .o, .o, .o, .o, .o, .o, .o, .o, .o, .cg (ok_object_Def hU y0 y1 y2 y3 y4 r0 e_r0), .o, .o, .o, .o] [] (fun b => by kernel_rfl)
        · replace e := bindT_eq e
          obtain ⟨r0, e_r0, e⟩ := e
          try dsimp only at e
          subst e; exact fn_conG hU (P := Try.prog) Try.func5 (fun xs w => by kernel_rfl) _ _ [.o, .cg (ok_barbicanlaw5_known hU  ), .o, .o, .o, .b (z_eqlF hq0), .o, .b (z_eqlF hq1), .o, .b (z_eqlT hq2), .o, .o, .b (z_eqlF hq3), .o, .o, .o, .o, .o, .o, .o, .o, .o, .o, .o, .o, .o, .o, .o, .cg (ok_object_Def hU y0 y1 y2 y3 y4 r0 e_r0), .o, .o, .o, .o] [] (fun b => by kernel_rfl)
      · replace e := cond_eq_or e
        rcases e with ⟨hq3, e⟩ | ⟨hq3, e⟩
        · replace e := cond_eq_or e
          rcases e with ⟨hq4, e⟩ | ⟨hq4, e⟩
          · replace e := cond_eq_or e
            rcases e with ⟨hq5, e⟩ | ⟨hq5, e⟩
            · replace e := cond_eq_or e
              rcases e with ⟨hq6, e⟩ | ⟨hq6, e⟩
              · replace e := cond_eq_or e
                rcases e with ⟨hq7, e⟩ | ⟨hq7, e⟩
                · replace e := cond_eq_or e
                  rcases e with ⟨hq8, e⟩ | ⟨hq8, e⟩
                  · replace e := cond_eq_or e
                    rcases e with ⟨hq9, e⟩ | ⟨hq9, e⟩
                    · replace e := bindT_eq e
                      obtain ⟨r0, e_r0, e⟩ := e
                      try dsimp only at e
                      subst e; exact fn_conG hU (P := Try.prog) Try.func5 (fun xs w => by kernel_rfl) _ _ [.o, .cg (ok_barbicanlaw5_known hU  ), .o, .o, .o, .b (z_eqlF hq0), .o, .b (z_eqlF hq1), .o, .b (z_eqlF hq2), .o, .b (z_eqlT hq3), .o, .o, .b (z_eqlT hq4), .o, .o, .b (z_eqlT hq5), .o, .o, .o, .b (z_geqT hq6), .o, .o, .o, .b (z_leqT hq7), .o, .o, .o, .ov (z_rem Try.prog 3 (.tmp 112) (.const (.int .i64 (8))) y3 8 (by decide)), .b (z_eqlT hq8), .o, .o, .b hq9, .o, .o, .o, .o, .o, .o, .o, .o, .o, .cg (ok_object_Def hU y0 y1 y2 y3 y4 r0 e_r0), .o, .o, .o, .o] [] (fun b => by kernel_rfl)
                    · replace e := bindT_eq e
                      obtain ⟨r0, e_r0, e⟩ := e
                      try dsimp only at e
                      subst e; exact fn_conG hU (P := Try.prog) Try.func5 (fun xs w => by kernel_rfl) _ _ [.o, .cg (ok_barbicanlaw5_known hU  ), .o, .o, .o, .b (z_eqlF hq0), .o, .b (z_eqlF hq1), .o, .b (z_eqlF hq2), .o, .b (z_eqlT hq3), .o, .o, .b (z_eqlT hq4), .o, .o, .b (z_eqlT hq5), .o, .o, .o, .b (z_geqT hq6), .o, .o, .o, .b (z_leqT hq7), .o, .o, .o, .ov (z_rem Try.prog 3 (.tmp 112) (.const (.int .i64 (8))) y3 8 (by decide)), .b (z_eqlT hq8), .o, .o, .b hq9, .o, .o, .o, .o, .o, .o, .o, .o, .o, .cg (ok_object_Def hU y0 y1 y2 y3 y4 r0 e_r0), .o, .o, .o, .o] [] (fun b => by kernel_rfl)
                  · replace e := bindT_eq e
                    obtain ⟨r0, e_r0, e⟩ := e
                    try dsimp only at e
                    subst e; exact fn_conG hU (P := Try.prog) Try.func5 (fun xs w => by kernel_rfl) _ _ [.o, .cg (ok_barbicanlaw5_known hU  ), .o, .o, .o, .b (z_eqlF hq0), .o, .b (z_eqlF hq1), .o, .b (z_eqlF hq2), .o, .b (z_eqlT hq3), .o, .o, .b (z_eqlT hq4), .o, .o, .b (z_eqlT hq5), .o, .o, .o, .b (z_geqT hq6), .o, .o, .o, .b (z_leqT hq7), .o, .o, .o, .ov (z_rem Try.prog 3 (.tmp 112) (.const (.int .i64 (8))) y3 8 (by decide)), .b (z_eqlF hq8), .o, .o, .o, .o, .o, .o, .o, .o, .o, .o, .cg (ok_object_Def hU y0 y1 y2 y3 y4 r0 e_r0), .o, .o, .o, .o] [] (fun b => by kernel_rfl)
                · replace e := bindT_eq e
                  obtain ⟨r0, e_r0, e⟩ := e
                  try dsimp only at e
                  subst e; exact fn_conG hU (P := Try.prog) Try.func5 (fun xs w => by kernel_rfl) _ _ [.o, .cg (ok_barbicanlaw5_known hU  ), .o, .o, .o, .b (z_eqlF hq0), .o, .b (z_eqlF hq1), .o, .b (z_eqlF hq2), .o, .b (z_eqlT hq3), .o, .o, .b (z_eqlT hq4), .o, .o, .b (z_eqlT hq5), .o, .o, .o, .b (z_geqT hq6), .o, .o, .o, .b (z_leqF hq7), .o, .o, .o, .o, .o, .o, .o, .o, .o, .o, .o, .o, .cg (ok_object_Def hU y0 y1 y2 y3 y4 r0 e_r0), .o, .o, .o, .o] [] (fun b => by kernel_rfl)
              · replace e := bindT_eq e
                obtain ⟨r0, e_r0, e⟩ := e
                try dsimp only at e
                subst e; exact fn_conG hU (P := Try.prog) Try.func5 (fun xs w => by kernel_rfl) _ _ [.o, .cg (ok_barbicanlaw5_known hU  ), .o, .o, .o, .b (z_eqlF hq0), .o, .b (z_eqlF hq1), .o, .b (z_eqlF hq2), .o, .b (z_eqlT hq3), .o, .o, .b (z_eqlT hq4), .o, .o, .b (z_eqlT hq5), .o, .o, .o, .b (z_geqF hq6), .o, .o, .o, .o, .o, .o, .o, .o, .o, .o, .o, .o, .o, .o, .cg (ok_object_Def hU y0 y1 y2 y3 y4 r0 e_r0), .o, .o, .o, .o] [] (fun b => by kernel_rfl)
            · replace e := bindT_eq e
              obtain ⟨r0, e_r0, e⟩ := e
              try dsimp only at e
              subst e; exact fn_conG hU (P := Try.prog) Try.func5 (fun xs w => by kernel_rfl) _ _ [.o, .cg (ok_barbicanlaw5_known hU  ), .o, .o, .o, .b (z_eqlF hq0), .o, .b (z_eqlF hq1), .o, .b (z_eqlF hq2), .o, .b (z_eqlT hq3), .o, .o, .b (z_eqlT hq4), .o, .o, .b (z_eqlF hq5), .o, .o, .o, .o, .o, .o, .o, .o, .o, .o, .o, .o, .o, .o, .o, .o, .cg (ok_object_Def hU y0 y1 y2 y3 y4 r0 e_r0), .o, .o, .o, .o] [] (fun b => by kernel_rfl)
          · replace e := bindT_eq e
            obtain ⟨r0, e_r0, e⟩ := e
            try dsimp only at e
            subst e; exact fn_conG hU (P := Try.prog) Try.func5 (fun xs w => by kernel_rfl) _ _ [.o, .cg (ok_barbicanlaw5_known hU  ), .o, .o, .o, .b (z_eqlF hq0), .o, .b (z_eqlF hq1), .o, .b (z_eqlF hq2), .o, .b (z_eqlT hq3), .o, .o, .b (z_eqlF hq4), .o, .o, .o, .o, .o, .o, .o, .o, .o, .o, .o, .o, .o, .o, .o, .o, .o, .cg (ok_object_Def hU y0 y1 y2 y3 y4 r0 e_r0), .o, .o, .o, .o] [] (fun b => by kernel_rfl)
        · replace e := bindT_eq e
          obtain ⟨r0, e_r0, e⟩ := e
          try dsimp only at e
          subst e; exact fn_conG hU (P := Try.prog) Try.func5 (fun xs w => by kernel_rfl) _ _ [.o, .cg (ok_barbicanlaw5_known hU  ), .o, .o, .o, .b (z_eqlF hq0), .o, .b (z_eqlF hq1), .o, .b (z_eqlF hq2), .o, .b (z_eqlF hq3), .o, .o, .o, .o, .o, .o, .o, .cg (ok_object_Def hU y0 y1 y2 y3 y4 r0 e_r0), .o, .o, .o, .o] [] (fun b => by kernel_rfl)
end

end Go.Proofs.Ytjfiakgkeniocaa
