/-
  Package tnum and the rules of package scalar, by the program's own text (written by rxgen.py).
-/
import Derived.Test.YtmhiiahfjoijgaaGreatL7Len
namespace Go.Proofs.YtmhiiahfjoijgaaGreat
open Go.RowKit
set_option linter.unusedVariables false
set_option linter.unusedSimpArgs false
set_option maxRecDepth 100000
-- barbican/tnum.Is
def m_tnum_Is (x0 : T) : Bool :=
  ((x0.v &&& x0.m) == 0#64)
theorem p0_tnum_Is (x0 : T) (h0 : ((x0.v &&& x0.m) == 0#64) = true) : Con Tryz.prog 54 #[(tv (x0))] (.bool (true)) :=
  fn_con (P := Tryz.prog) Tryz.func54 (fun xs w => by kernel_rfl) [(tv (x0))] (.bool (true))
    [.o, .o, .o, .a 0, .o, .a 0, .w (.int .u64 (bits .and .u64 (nn (x0.v)) (nn (x0.m)))) (.int .u64 (nn ((x0.v &&& x0.m)))), .w (.bool (nn ((x0.v &&& x0.m)) == (0))) (.bool true), .o]
    [] (by simp only [AllOk]; exact ⟨congrArg (Value.int .u64) (u64_and x0.v x0.m), congrArg Value.bool ((u_eq (x0.v &&& x0.m) 0#64).trans (by rw [h0])), trivial⟩)
    (fun b => by kernel_rfl)
theorem p1_tnum_Is (x0 : T) (h0 : ((x0.v &&& x0.m) == 0#64) = false) : Con Tryz.prog 54 #[(tv (x0))] (.bool (false)) :=
  fn_con (P := Tryz.prog) Tryz.func54 (fun xs w => by kernel_rfl) [(tv (x0))] (.bool (false))
    [.o, .o, .o, .a 0, .o, .a 0, .w (.int .u64 (bits .and .u64 (nn (x0.v)) (nn (x0.m)))) (.int .u64 (nn ((x0.v &&& x0.m)))), .w (.bool (nn ((x0.v &&& x0.m)) == (0))) (.bool false), .o]
    [] (by simp only [AllOk]; exact ⟨congrArg (Value.int .u64) (u64_and x0.v x0.m), congrArg Value.bool ((u_eq (x0.v &&& x0.m) 0#64).trans (by rw [h0])), trivial⟩)
    (fun b => by kernel_rfl)
theorem ok_tnum_Is (x0 : T) : Con Tryz.prog 54 #[(tv (x0))] (.bool (m_tnum_Is x0)) := by
  unfold m_tnum_Is
  cases h0 : ((x0.v &&& x0.m) == 0#64)
  · exact p1_tnum_Is x0 h0
  · exact p0_tnum_Is x0 h0
-- barbican/tnum.Has
def m_tnum_Has (x0 : T) (x1 : BitVec 64) : Bool :=
  (bif m_tnum_Is x0 then
    ((x1 &&& ~~~x0.m) == x0.v)
    else (false))
theorem p0_tnum_Has (x0 : T) (x1 : BitVec 64) (h0 : (m_tnum_Is x0) = true) (h1 : ((x1 &&& ~~~x0.m) == x0.v) = true) : Con Tryz.prog 34 #[(tv (x0)), (.int .u64 (nn (x1)))] (.bool (true)) :=
  fn_con (P := Tryz.prog) Tryz.func34 (fun xs w => by kernel_rfl) [(tv (x0)), (.int .u64 (nn (x1)))] (.bool (true))
    [.o, .o, .a 0, .c 54 #[(tv (x0))] (.bool true), .o, .o, .o, .a 0, .w (.int .u64 (bits .andNot .u64 (nn (x1)) (nn (x0.m)))) (.int .u64 (nn ((x1 &&& ~~~x0.m)))), .o, .a 0, .w (.bool (nn ((x1 &&& ~~~x0.m)) == nn (x0.v))) (.bool true), .o, .o]
    [] (by simp only [AllOk]; exact ⟨(ok_tnum_Is (x0)).val (congrArg Value.bool h0), congrArg (Value.int .u64) (u64_not x1 x0.m), congrArg Value.bool ((u_eq (x1 &&& ~~~x0.m) x0.v).trans (by rw [h1])), trivial⟩)
    (fun b => by kernel_rfl)
theorem p1_tnum_Has (x0 : T) (x1 : BitVec 64) (h0 : (m_tnum_Is x0) = true) (h1 : ((x1 &&& ~~~x0.m) == x0.v) = false) : Con Tryz.prog 34 #[(tv (x0)), (.int .u64 (nn (x1)))] (.bool (false)) :=
  fn_con (P := Tryz.prog) Tryz.func34 (fun xs w => by kernel_rfl) [(tv (x0)), (.int .u64 (nn (x1)))] (.bool (false))
    [.o, .o, .a 0, .c 54 #[(tv (x0))] (.bool true), .o, .o, .o, .a 0, .w (.int .u64 (bits .andNot .u64 (nn (x1)) (nn (x0.m)))) (.int .u64 (nn ((x1 &&& ~~~x0.m)))), .o, .a 0, .w (.bool (nn ((x1 &&& ~~~x0.m)) == nn (x0.v))) (.bool false), .o, .o]
    [] (by simp only [AllOk]; exact ⟨(ok_tnum_Is (x0)).val (congrArg Value.bool h0), congrArg (Value.int .u64) (u64_not x1 x0.m), congrArg Value.bool ((u_eq (x1 &&& ~~~x0.m) x0.v).trans (by rw [h1])), trivial⟩)
    (fun b => by kernel_rfl)
theorem p2_tnum_Has (x0 : T) (x1 : BitVec 64) (h0 : (m_tnum_Is x0) = false) : Con Tryz.prog 34 #[(tv (x0)), (.int .u64 (nn (x1)))] (.bool (false)) :=
  fn_con (P := Tryz.prog) Tryz.func34 (fun xs w => by kernel_rfl) [(tv (x0)), (.int .u64 (nn (x1)))] (.bool (false))
    [.o, .o, .a 0, .c 54 #[(tv (x0))] (.bool false), .o, .o, .o]
    [] (by simp only [AllOk]; exact ⟨(ok_tnum_Is (x0)).val (congrArg Value.bool h0), trivial⟩)
    (fun b => by kernel_rfl)
theorem ok_tnum_Has (x0 : T) (x1 : BitVec 64) : Con Tryz.prog 34 #[(tv (x0)), (.int .u64 (nn (x1)))] (.bool (m_tnum_Has x0 x1)) := by
  unfold m_tnum_Has
  cases h0 : (m_tnum_Is x0)
  · exact p2_tnum_Has x0 x1 h0
  · cases h1 : ((x1 &&& ~~~x0.m) == x0.v)
    · exact p1_tnum_Has x0 x1 h0 h1
    · exact p0_tnum_Has x0 x1 h0 h1
-- barbican/tnum.Const
def m_tnum_Const (x0 : BitVec 64) : T :=
  ((⟨x0, 0#64⟩ : T))
theorem p0_tnum_Const (x0 : BitVec 64) : Con Tryz.prog 29 #[(.int .u64 (nn (x0)))] (tv ((⟨x0, 0#64⟩ : T))) :=
  fn_con (P := Tryz.prog) Tryz.func29 (fun xs w => by kernel_rfl) [(.int .u64 (nn (x0)))] (tv ((⟨x0, 0#64⟩ : T)))
    [.o, .o, .o, .a 0]
    [0, 0] (by simp only [AllOk])
    (fun b => by kernel_rfl)
theorem ok_tnum_Const (x0 : BitVec 64) : Con Tryz.prog 29 #[(.int .u64 (nn (x0)))] (tv (m_tnum_Const x0)) := by
  unfold m_tnum_Const
  exact p0_tnum_Const x0 
-- barbican/tnum.Unknown
def m_tnum_Unknown  : T :=
  ((⟨0#64, 18446744073709551615#64⟩ : T))
theorem p0_tnum_Unknown  : Con Tryz.prog 31 #[] (tv ((⟨0#64, 18446744073709551615#64⟩ : T))) :=
  fn_con (P := Tryz.prog) Tryz.func31 (fun xs w => by kernel_rfl) [] (tv ((⟨0#64, 18446744073709551615#64⟩ : T)))
    [.o, .o, .a 0]
    [0, 0] (by simp only [AllOk])
    (fun b => by kernel_rfl)
theorem ok_tnum_Unknown  : Con Tryz.prog 31 #[] (tv (m_tnum_Unknown )) := by
  unfold m_tnum_Unknown
  exact p0_tnum_Unknown  
-- barbican/tnum.known
def m_tnum_known (x0 : T) : T :=
  (bif m_tnum_Is x0 then
    (x0)
    else ((m_tnum_Unknown )))
theorem p0_tnum_known (x0 : T) (h0 : (m_tnum_Is x0) = true) : Con Tryz.prog 96 #[(tv (x0))] (tv (x0)) :=
  fn_con (P := Tryz.prog) Tryz.func96 (fun xs w => by kernel_rfl) [(tv (x0))] (tv (x0))
    [.o, .o, .a 0, .c 54 #[(tv (x0))] (.bool true), .o, .a 0, .a 1]
    [1, 1] (by simp only [AllOk]; exact ⟨(ok_tnum_Is (x0)).val (congrArg Value.bool h0), trivial⟩)
    (fun b => by kernel_rfl)
theorem p1_tnum_known (x0 : T) (h0 : (m_tnum_Is x0) = false) : Con Tryz.prog 96 #[(tv (x0))] (tv ((m_tnum_Unknown ))) :=
  fn_con (P := Tryz.prog) Tryz.func96 (fun xs w => by kernel_rfl) [(tv (x0))] (tv ((m_tnum_Unknown )))
    [.o, .o, .a 0, .c 54 #[(tv (x0))] (.bool false), .o, .c 31 #[] (tv (m_tnum_Unknown )), .a 1]
    [1, 1] (by simp only [AllOk]; exact ⟨(ok_tnum_Is (x0)).val (congrArg Value.bool h0), ok_tnum_Unknown , trivial⟩)
    (fun b => by kernel_rfl)
theorem ok_tnum_known (x0 : T) : Con Tryz.prog 96 #[(tv (x0))] (tv (m_tnum_known x0)) := by
  unfold m_tnum_known
  cases h0 : (m_tnum_Is x0)
  · exact p1_tnum_known x0 h0
  · exact p0_tnum_known x0 h0
-- barbican/tnum.Least
def m_tnum_Least (x0 : T) : BitVec 64 :=
  ((m_tnum_known x0).v)
theorem p0_tnum_Least (x0 : T) : Con Tryz.prog 149 #[(tv (x0))] (.int .u64 (nn ((m_tnum_known x0).v))) :=
  fn_con (P := Tryz.prog) Tryz.func149 (fun xs w => by kernel_rfl) [(tv (x0))] (.int .u64 (nn ((m_tnum_known x0).v)))
    [.o, .o, .a 0, .c 96 #[(tv (x0))] (tv (m_tnum_known x0)), .o, .o]
    [] (by simp only [AllOk]; exact ⟨ok_tnum_known (x0), trivial⟩)
    (fun b => by kernel_rfl)
theorem ok_tnum_Least (x0 : T) : Con Tryz.prog 149 #[(tv (x0))] (.int .u64 (nn (m_tnum_Least x0))) := by
  unfold m_tnum_Least
  exact p0_tnum_Least x0 
-- barbican/tnum.Most
def m_tnum_Most (x0 : T) : BitVec 64 :=
  (((m_tnum_known x0).v ||| (m_tnum_known x0).m))
theorem p0_tnum_Most (x0 : T) : Con Tryz.prog 145 #[(tv (x0))] (.int .u64 (nn (((m_tnum_known x0).v ||| (m_tnum_known x0).m)))) :=
  fn_con (P := Tryz.prog) Tryz.func145 (fun xs w => by kernel_rfl) [(tv (x0))] (.int .u64 (nn (((m_tnum_known x0).v ||| (m_tnum_known x0).m))))
    [.o, .o, .a 0, .c 96 #[(tv (x0))] (tv (m_tnum_known x0)), .a 0, .o, .a 0, .o, .a 0, .w (.int .u64 (bits .or .u64 (nn ((m_tnum_known x0).v)) (nn ((m_tnum_known x0).m)))) (.int .u64 (nn (((m_tnum_known x0).v ||| (m_tnum_known x0).m)))), .o]
    [] (by simp only [AllOk]; exact ⟨ok_tnum_known (x0), congrArg (Value.int .u64) (u64_or (m_tnum_known x0).v (m_tnum_known x0).m), trivial⟩)
    (fun b => by kernel_rfl)
theorem ok_tnum_Most (x0 : T) : Con Tryz.prog 145 #[(tv (x0))] (.int .u64 (nn (m_tnum_Most x0))) := by
  unfold m_tnum_Most
  exact p0_tnum_Most x0 
-- barbican/tnum.Meet
def m_tnum_Meet (x0 : T) (x1 : T) : (T) × (Bool) :=
  (bif (((m_tnum_known x0).v ^^^ (m_tnum_known x1).v) &&& ~~~((m_tnum_known x0).m ||| (m_tnum_known x1).m)) == 0#64 then
    (((⟨((m_tnum_known x0).v ||| (m_tnum_known x1).v), ((m_tnum_known x0).m &&& (m_tnum_known x1).m)⟩ : T), true))
    else (((⟨0#64, 0#64⟩ : T), false)))
theorem p0_tnum_Meet (x0 : T) (x1 : T) (h0 : ((((m_tnum_known x0).v ^^^ (m_tnum_known x1).v) &&& ~~~((m_tnum_known x0).m ||| (m_tnum_known x1).m)) == 0#64) = true) : Con Tryz.prog 45 #[(tv (x0)), (tv (x1))] (.tuple #[(tv ((((⟨((m_tnum_known x0).v ||| (m_tnum_known x1).v), ((m_tnum_known x0).m &&& (m_tnum_known x1).m)⟩ : T), true)).1)), (.bool ((((⟨((m_tnum_known x0).v ||| (m_tnum_known x1).v), ((m_tnum_known x0).m &&& (m_tnum_known x1).m)⟩ : T), true)).2))]) :=
  fn_con (P := Tryz.prog) Tryz.func45 (fun xs w => by kernel_rfl) [(tv (x0)), (tv (x1))] (.tuple #[(tv ((((⟨((m_tnum_known x0).v ||| (m_tnum_known x1).v), ((m_tnum_known x0).m &&& (m_tnum_known x1).m)⟩ : T), true)).1)), (.bool ((((⟨((m_tnum_known x0).v ||| (m_tnum_known x1).v), ((m_tnum_known x0).m &&& (m_tnum_known x1).m)⟩ : T), true)).2))])
    [.o, .o, .o, .o, .r [0, 1, 2, 3] [] [4, 5], .a 0, .c 96 #[(tv (x0))] (tv (m_tnum_known x0)), .a 1, .c 96 #[(tv (x1))] (tv (m_tnum_known x1)), .a 0, .a 1, .o, .a 0, .o, .a 1, .w (.int .u64 (bits .xor .u64 (nn ((m_tnum_known x0).v)) (nn ((m_tnum_known x1).v)))) (.int .u64 (nn (((m_tnum_known x0).v ^^^ (m_tnum_known x1).v)))), .o, .a 0, .o, .a 1, .w (.int .u64 (bits .or .u64 (nn ((m_tnum_known x0).m)) (nn ((m_tnum_known x1).m)))) (.int .u64 (nn (((m_tnum_known x0).m ||| (m_tnum_known x1).m)))), .w (.int .u64 (bits .andNot .u64 (nn (((m_tnum_known x0).v ^^^ (m_tnum_known x1).v))) (nn (((m_tnum_known x0).m ||| (m_tnum_known x1).m))))) (.int .u64 (nn ((((m_tnum_known x0).v ^^^ (m_tnum_known x1).v) &&& ~~~((m_tnum_known x0).m ||| (m_tnum_known x1).m))))), .w (.bool (nn ((((m_tnum_known x0).v ^^^ (m_tnum_known x1).v) &&& ~~~((m_tnum_known x0).m ||| (m_tnum_known x1).m))) != (0))) (.bool false), .o, .a 0, .o, .a 1, .w (.int .u64 (bits .or .u64 (nn ((m_tnum_known x0).v)) (nn ((m_tnum_known x1).v)))) (.int .u64 (nn (((m_tnum_known x0).v ||| (m_tnum_known x1).v)))), .o, .a 0, .o, .a 1, .w (.int .u64 (bits .and .u64 (nn ((m_tnum_known x0).m)) (nn ((m_tnum_known x1).m)))) (.int .u64 (nn (((m_tnum_known x0).m &&& (m_tnum_known x1).m)))), .o, .a 2, .o]
    [2, 2] (by simp only [AllOk]; exact ⟨ok_tnum_known (x0), ok_tnum_known (x1), congrArg (Value.int .u64) (u64_xor (m_tnum_known x0).v (m_tnum_known x1).v), congrArg (Value.int .u64) (u64_or (m_tnum_known x0).m (m_tnum_known x1).m), congrArg (Value.int .u64) (u64_not ((m_tnum_known x0).v ^^^ (m_tnum_known x1).v) ((m_tnum_known x0).m ||| (m_tnum_known x1).m)), congrArg Value.bool ((u_ne (((m_tnum_known x0).v ^^^ (m_tnum_known x1).v) &&& ~~~((m_tnum_known x0).m ||| (m_tnum_known x1).m)) 0#64).trans (by rw [h0]; rfl)), congrArg (Value.int .u64) (u64_or (m_tnum_known x0).v (m_tnum_known x1).v), congrArg (Value.int .u64) (u64_and (m_tnum_known x0).m (m_tnum_known x1).m), trivial⟩)
    (fun b => by kernel_rfl)
theorem p1_tnum_Meet (x0 : T) (x1 : T) (h0 : ((((m_tnum_known x0).v ^^^ (m_tnum_known x1).v) &&& ~~~((m_tnum_known x0).m ||| (m_tnum_known x1).m)) == 0#64) = false) : Con Tryz.prog 45 #[(tv (x0)), (tv (x1))] (.tuple #[(tv ((((⟨0#64, 0#64⟩ : T), false)).1)), (.bool ((((⟨0#64, 0#64⟩ : T), false)).2))]) :=
  fn_con (P := Tryz.prog) Tryz.func45 (fun xs w => by kernel_rfl) [(tv (x0)), (tv (x1))] (.tuple #[(tv ((((⟨0#64, 0#64⟩ : T), false)).1)), (.bool ((((⟨0#64, 0#64⟩ : T), false)).2))])
    [.o, .o, .o, .o, .r [0, 1, 2, 3] [] [4, 5], .a 0, .c 96 #[(tv (x0))] (tv (m_tnum_known x0)), .a 1, .c 96 #[(tv (x1))] (tv (m_tnum_known x1)), .a 0, .a 1, .o, .a 0, .o, .a 1, .w (.int .u64 (bits .xor .u64 (nn ((m_tnum_known x0).v)) (nn ((m_tnum_known x1).v)))) (.int .u64 (nn (((m_tnum_known x0).v ^^^ (m_tnum_known x1).v)))), .o, .a 0, .o, .a 1, .w (.int .u64 (bits .or .u64 (nn ((m_tnum_known x0).m)) (nn ((m_tnum_known x1).m)))) (.int .u64 (nn (((m_tnum_known x0).m ||| (m_tnum_known x1).m)))), .w (.int .u64 (bits .andNot .u64 (nn (((m_tnum_known x0).v ^^^ (m_tnum_known x1).v))) (nn (((m_tnum_known x0).m ||| (m_tnum_known x1).m))))) (.int .u64 (nn ((((m_tnum_known x0).v ^^^ (m_tnum_known x1).v) &&& ~~~((m_tnum_known x0).m ||| (m_tnum_known x1).m))))), .w (.bool (nn ((((m_tnum_known x0).v ^^^ (m_tnum_known x1).v) &&& ~~~((m_tnum_known x0).m ||| (m_tnum_known x1).m))) != (0))) (.bool true), .o, .a 2, .o]
    [2, 2] (by simp only [AllOk]; exact ⟨ok_tnum_known (x0), ok_tnum_known (x1), congrArg (Value.int .u64) (u64_xor (m_tnum_known x0).v (m_tnum_known x1).v), congrArg (Value.int .u64) (u64_or (m_tnum_known x0).m (m_tnum_known x1).m), congrArg (Value.int .u64) (u64_not ((m_tnum_known x0).v ^^^ (m_tnum_known x1).v) ((m_tnum_known x0).m ||| (m_tnum_known x1).m)), congrArg Value.bool ((u_ne (((m_tnum_known x0).v ^^^ (m_tnum_known x1).v) &&& ~~~((m_tnum_known x0).m ||| (m_tnum_known x1).m)) 0#64).trans (by rw [h0]; rfl)), trivial⟩)
    (fun b => by kernel_rfl)
theorem ok_tnum_Meet (x0 : T) (x1 : T) : Con Tryz.prog 45 #[(tv (x0)), (tv (x1))] (.tuple #[(tv ((m_tnum_Meet x0 x1).1)), (.bool ((m_tnum_Meet x0 x1).2))]) := by
  unfold m_tnum_Meet
  cases h0 : ((((m_tnum_known x0).v ^^^ (m_tnum_known x1).v) &&& ~~~((m_tnum_known x0).m ||| (m_tnum_known x1).m)) == 0#64)
  · exact p1_tnum_Meet x0 x1 h0
  · exact p0_tnum_Meet x0 x1 h0
-- barbican/tnum.without
def m_tnum_without (x0 : BitVec 64) (x1 : BitVec 64) : T :=
  ((⟨(x0 &&& ~~~x1), x1⟩ : T))
theorem p0_tnum_without (x0 : BitVec 64) (x1 : BitVec 64) : Con Tryz.prog 157 #[(.int .u64 (nn (x0))), (.int .u64 (nn (x1)))] (tv ((⟨(x0 &&& ~~~x1), x1⟩ : T))) :=
  fn_con (P := Tryz.prog) Tryz.func157 (fun xs w => by kernel_rfl) [(.int .u64 (nn (x0))), (.int .u64 (nn (x1)))] (tv ((⟨(x0 &&& ~~~x1), x1⟩ : T)))
    [.o, .o, .o, .w (.int .u64 (bits .andNot .u64 (nn (x0)) (nn (x1)))) (.int .u64 (nn ((x0 &&& ~~~x1)))), .o, .o, .a 0]
    [0, 0] (by simp only [AllOk]; exact ⟨congrArg (Value.int .u64) (u64_not x0 x1), trivial⟩)
    (fun b => by kernel_rfl)
theorem ok_tnum_without (x0 : BitVec 64) (x1 : BitVec 64) : Con Tryz.prog 157 #[(.int .u64 (nn (x0))), (.int .u64 (nn (x1)))] (tv (m_tnum_without x0 x1)) := by
  unfold m_tnum_without
  exact p0_tnum_without x0 x1 
-- (barbican/tnum.pair).join
def m_tnum_pair_join (x0 : TT) : T :=
  ((m_tnum_without x0.a.v ((x0.a.m ||| x0.b.m) ||| (x0.a.v ^^^ x0.b.v))))
theorem p0_tnum_pair_join (x0 : TT) : Con Tryz.prog 142 #[(ttv (x0))] (tv ((m_tnum_without x0.a.v ((x0.a.m ||| x0.b.m) ||| (x0.a.v ^^^ x0.b.v))))) :=
  fn_con (P := Tryz.prog) Tryz.func142 (fun xs w => by kernel_rfl) [(ttv (x0))] (tv ((m_tnum_without x0.a.v ((x0.a.m ||| x0.b.m) ||| (x0.a.v ^^^ x0.b.v)))))
    [.o, .o, .o, .o, .a 0, .o, .o, .a 0, .o, .o, .a 0, .w (.int .u64 (bits .or .u64 (nn (x0.a.m)) (nn (x0.b.m)))) (.int .u64 (nn ((x0.a.m ||| x0.b.m)))), .o, .o, .a 0, .o, .o, .a 0, .w (.int .u64 (bits .xor .u64 (nn (x0.a.v)) (nn (x0.b.v)))) (.int .u64 (nn ((x0.a.v ^^^ x0.b.v)))), .w (.int .u64 (bits .or .u64 (nn ((x0.a.m ||| x0.b.m))) (nn ((x0.a.v ^^^ x0.b.v))))) (.int .u64 (nn (((x0.a.m ||| x0.b.m) ||| (x0.a.v ^^^ x0.b.v))))), .c 157 #[(.int .u64 (nn (x0.a.v))), (.int .u64 (nn (((x0.a.m ||| x0.b.m) ||| (x0.a.v ^^^ x0.b.v)))))] (tv (m_tnum_without x0.a.v ((x0.a.m ||| x0.b.m) ||| (x0.a.v ^^^ x0.b.v)))), .a 1]
    [1, 1] (by simp only [AllOk]; exact ⟨congrArg (Value.int .u64) (u64_or x0.a.m x0.b.m), congrArg (Value.int .u64) (u64_xor x0.a.v x0.b.v), congrArg (Value.int .u64) (u64_or (x0.a.m ||| x0.b.m) (x0.a.v ^^^ x0.b.v)), ok_tnum_without (x0.a.v) (((x0.a.m ||| x0.b.m) ||| (x0.a.v ^^^ x0.b.v))), trivial⟩)
    (fun b => by kernel_rfl)
theorem ok_tnum_pair_join (x0 : TT) : Con Tryz.prog 142 #[(ttv (x0))] (tv (m_tnum_pair_join x0)) := by
  unfold m_tnum_pair_join
  exact p0_tnum_pair_join x0 
-- barbican/tnum.of
def m_tnum_of_142 (x1 : T) (x2 : T) : T :=
  ((m_tnum_pair_join (⟨(m_tnum_known x1), (m_tnum_known x2)⟩ : TT)))
theorem p0_tnum_of_142 (x1 : T) (x2 : T) : Con Tryz.prog 140 #[.func (.func 142) #[] #[], (tv (x1)), (tv (x2))] (tv ((m_tnum_pair_join (⟨(m_tnum_known x1), (m_tnum_known x2)⟩ : TT)))) :=
  fn_con (P := Tryz.prog) Tryz.func140 (fun xs w => by kernel_rfl) [.func (.func 142) #[] #[], (tv (x1)), (tv (x2))] (tv ((m_tnum_pair_join (⟨(m_tnum_known x1), (m_tnum_known x2)⟩ : TT))))
    [.o, .o, .o, .r [0, 1, 2, 3, 4, 5, 6] [] [7], .o, .a 0, .c 96 #[(tv (x1))] (tv (m_tnum_known x1)), .a 1, .c 96 #[(tv (x2))] (tv (m_tnum_known x2)), .o, .c 142 #[(ttv ((⟨(m_tnum_known x1), (m_tnum_known x2)⟩ : TT)))] (tv (m_tnum_pair_join (⟨(m_tnum_known x1), (m_tnum_known x2)⟩ : TT))), .a 2]
    [2, 2] (by simp only [AllOk]; exact ⟨ok_tnum_known (x1), ok_tnum_known (x2), ok_tnum_pair_join ((⟨(m_tnum_known x1), (m_tnum_known x2)⟩ : TT)), trivial⟩)
    (fun b => by kernel_rfl)
theorem ok_tnum_of_142 (x1 : T) (x2 : T) : Con Tryz.prog 140 #[.func (.func 142) #[] #[], (tv (x1)), (tv (x2))] (tv (m_tnum_of_142 x1 x2)) := by
  unfold m_tnum_of_142
  exact p0_tnum_of_142 x1 x2 
-- barbican/tnum.Join
def m_tnum_Join (x0 : T) (x1 : T) : T :=
  ((m_tnum_of_142 x0 x1))
theorem p0_tnum_Join (x0 : T) (x1 : T) : Con Tryz.prog 97 #[(tv (x0)), (tv (x1))] (tv ((m_tnum_of_142 x0 x1))) :=
  fn_con (P := Tryz.prog) Tryz.func97 (fun xs w => by kernel_rfl) [(tv (x0)), (tv (x1))] (tv ((m_tnum_of_142 x0 x1)))
    [.o, .o, .o, .a 0, .a 1, .c 140 #[.func (.func 142) #[] #[], (tv (x0)), (tv (x1))] (tv (m_tnum_of_142 x0 x1)), .a 2]
    [2, 2] (by simp only [AllOk]; exact ⟨ok_tnum_of_142 (x0) (x1), trivial⟩)
    (fun b => by kernel_rfl)
theorem ok_tnum_Join (x0 : T) (x1 : T) : Con Tryz.prog 97 #[(tv (x0)), (tv (x1))] (tv (m_tnum_Join x0 x1)) := by
  unfold m_tnum_Join
  exact p0_tnum_Join x0 x1 
-- barbican/tnum.In
def m_tnum_In (x0 : T) (x1 : T) : Bool :=
  (decide ((m_tnum_Join x0 x1) = (m_tnum_known x1)))
theorem p0_tnum_In (x0 : T) (x1 : T) (h0 : (decide ((m_tnum_Join x0 x1) = (m_tnum_known x1))) = true) : Con Tryz.prog 47 #[(tv (x0)), (tv (x1))] (.bool (true)) :=
  fn_con (P := Tryz.prog) Tryz.func47 (fun xs w => by kernel_rfl) [(tv (x0)), (tv (x1))] (.bool (true))
    [.o, .o, .o, .r [0, 1, 2, 3, 4, 5, 6] [] [], .a 0, .a 1, .c 97 #[(tv (x0)), (tv (x1))] (tv (m_tnum_Join x0 x1)), .a 1, .c 96 #[(tv (x1))] (tv (m_tnum_known x1)), .ov (.bin .eql 25 (.tmp 7) (.tmp 9) (tv ((m_tnum_Join x0 x1))) (tv ((m_tnum_known x1)))) (.bool true), .o]
    [] (by simp only [AllOk]; exact ⟨ok_tnum_Join (x0) (x1), ok_tnum_known (x1), (fun w => (eq25 ((m_tnum_Join x0 x1)) ((m_tnum_known x1)) true h0 (.tmp 7) (.tmp 9) w).1), trivial⟩)
    (fun b => by kernel_rfl)
theorem p1_tnum_In (x0 : T) (x1 : T) (h0 : (decide ((m_tnum_Join x0 x1) = (m_tnum_known x1))) = false) : Con Tryz.prog 47 #[(tv (x0)), (tv (x1))] (.bool (false)) :=
  fn_con (P := Tryz.prog) Tryz.func47 (fun xs w => by kernel_rfl) [(tv (x0)), (tv (x1))] (.bool (false))
    [.o, .o, .o, .r [0, 1, 2, 3, 4, 5, 6] [] [], .a 0, .a 1, .c 97 #[(tv (x0)), (tv (x1))] (tv (m_tnum_Join x0 x1)), .a 1, .c 96 #[(tv (x1))] (tv (m_tnum_known x1)), .ov (.bin .eql 25 (.tmp 7) (.tmp 9) (tv ((m_tnum_Join x0 x1))) (tv ((m_tnum_known x1)))) (.bool false), .o]
    [] (by simp only [AllOk]; exact ⟨ok_tnum_Join (x0) (x1), ok_tnum_known (x1), (fun w => (eq25 ((m_tnum_Join x0 x1)) ((m_tnum_known x1)) false h0 (.tmp 7) (.tmp 9) w).1), trivial⟩)
    (fun b => by kernel_rfl)
theorem ok_tnum_In (x0 : T) (x1 : T) : Con Tryz.prog 47 #[(tv (x0)), (tv (x1))] (.bool (m_tnum_In x0 x1)) := by
  unfold m_tnum_In
  cases h0 : (decide ((m_tnum_Join x0 x1) = (m_tnum_known x1)))
  · exact p1_tnum_In x0 x1 h0
  · exact p0_tnum_In x0 x1 h0
-- (barbican/tnum.pair).add
def m_tnum_pair_add (x0 : TT) : T :=
  ((m_tnum_without (x0.a.v + x0.b.v) ((((x0.a.v + x0.b.v) ^^^ (((x0.a.v + x0.b.v) + x0.a.m) + x0.b.m)) ||| x0.a.m) ||| x0.b.m)))
theorem p0_tnum_pair_add (x0 : TT) : Con Tryz.prog 151 #[(ttv (x0))] (tv ((m_tnum_without (x0.a.v + x0.b.v) ((((x0.a.v + x0.b.v) ^^^ (((x0.a.v + x0.b.v) + x0.a.m) + x0.b.m)) ||| x0.a.m) ||| x0.b.m)))) :=
  fn_con (P := Tryz.prog) Tryz.func151 (fun xs w => by kernel_rfl) [(ttv (x0))] (tv ((m_tnum_without (x0.a.v + x0.b.v) ((((x0.a.v + x0.b.v) ^^^ (((x0.a.v + x0.b.v) + x0.a.m) + x0.b.m)) ||| x0.a.m) ||| x0.b.m))))
    [.o, .o, .o, .o, .a 0, .o, .o, .a 0, .w (.int .u64 (IntKind.u64.wrap (nn (x0.a.v) + nn (x0.b.v)))) (.int .u64 (nn ((x0.a.v + x0.b.v)))), .o, .o, .o, .o, .a 0, .w (.int .u64 (IntKind.u64.wrap (nn ((x0.a.v + x0.b.v)) + nn (x0.a.m)))) (.int .u64 (nn (((x0.a.v + x0.b.v) + x0.a.m)))), .o, .o, .a 0, .w (.int .u64 (IntKind.u64.wrap (nn (((x0.a.v + x0.b.v) + x0.a.m)) + nn (x0.b.m)))) (.int .u64 (nn ((((x0.a.v + x0.b.v) + x0.a.m) + x0.b.m)))), .o, .o, .o, .o, .w (.int .u64 (bits .xor .u64 (nn ((x0.a.v + x0.b.v))) (nn ((((x0.a.v + x0.b.v) + x0.a.m) + x0.b.m))))) (.int .u64 (nn (((x0.a.v + x0.b.v) ^^^ (((x0.a.v + x0.b.v) + x0.a.m) + x0.b.m))))), .o, .o, .a 0, .w (.int .u64 (bits .or .u64 (nn (((x0.a.v + x0.b.v) ^^^ (((x0.a.v + x0.b.v) + x0.a.m) + x0.b.m)))) (nn (x0.a.m)))) (.int .u64 (nn ((((x0.a.v + x0.b.v) ^^^ (((x0.a.v + x0.b.v) + x0.a.m) + x0.b.m)) ||| x0.a.m)))), .o, .o, .a 0, .w (.int .u64 (bits .or .u64 (nn ((((x0.a.v + x0.b.v) ^^^ (((x0.a.v + x0.b.v) + x0.a.m) + x0.b.m)) ||| x0.a.m))) (nn (x0.b.m)))) (.int .u64 (nn (((((x0.a.v + x0.b.v) ^^^ (((x0.a.v + x0.b.v) + x0.a.m) + x0.b.m)) ||| x0.a.m) ||| x0.b.m)))), .c 157 #[(.int .u64 (nn ((x0.a.v + x0.b.v)))), (.int .u64 (nn (((((x0.a.v + x0.b.v) ^^^ (((x0.a.v + x0.b.v) + x0.a.m) + x0.b.m)) ||| x0.a.m) ||| x0.b.m))))] (tv (m_tnum_without (x0.a.v + x0.b.v) ((((x0.a.v + x0.b.v) ^^^ (((x0.a.v + x0.b.v) + x0.a.m) + x0.b.m)) ||| x0.a.m) ||| x0.b.m))), .a 1]
    [1, 1] (by simp only [AllOk]; exact ⟨congrArg (Value.int .u64) (u64_add x0.a.v x0.b.v), congrArg (Value.int .u64) (u64_add (x0.a.v + x0.b.v) x0.a.m), congrArg (Value.int .u64) (u64_add ((x0.a.v + x0.b.v) + x0.a.m) x0.b.m), congrArg (Value.int .u64) (u64_xor (x0.a.v + x0.b.v) (((x0.a.v + x0.b.v) + x0.a.m) + x0.b.m)), congrArg (Value.int .u64) (u64_or ((x0.a.v + x0.b.v) ^^^ (((x0.a.v + x0.b.v) + x0.a.m) + x0.b.m)) x0.a.m), congrArg (Value.int .u64) (u64_or (((x0.a.v + x0.b.v) ^^^ (((x0.a.v + x0.b.v) + x0.a.m) + x0.b.m)) ||| x0.a.m) x0.b.m), ok_tnum_without ((x0.a.v + x0.b.v)) (((((x0.a.v + x0.b.v) ^^^ (((x0.a.v + x0.b.v) + x0.a.m) + x0.b.m)) ||| x0.a.m) ||| x0.b.m)), trivial⟩)
    (fun b => by kernel_rfl)
theorem ok_tnum_pair_add (x0 : TT) : Con Tryz.prog 151 #[(ttv (x0))] (tv (m_tnum_pair_add x0)) := by
  unfold m_tnum_pair_add
  exact p0_tnum_pair_add x0 
-- barbican/tnum.of
def m_tnum_of_151 (x1 : T) (x2 : T) : T :=
  ((m_tnum_pair_add (⟨(m_tnum_known x1), (m_tnum_known x2)⟩ : TT)))
theorem p0_tnum_of_151 (x1 : T) (x2 : T) : Con Tryz.prog 140 #[.func (.func 151) #[] #[], (tv (x1)), (tv (x2))] (tv ((m_tnum_pair_add (⟨(m_tnum_known x1), (m_tnum_known x2)⟩ : TT)))) :=
  fn_con (P := Tryz.prog) Tryz.func140 (fun xs w => by kernel_rfl) [.func (.func 151) #[] #[], (tv (x1)), (tv (x2))] (tv ((m_tnum_pair_add (⟨(m_tnum_known x1), (m_tnum_known x2)⟩ : TT))))
    [.o, .o, .o, .r [0, 1, 2, 3, 4, 5, 6] [] [7], .o, .a 0, .c 96 #[(tv (x1))] (tv (m_tnum_known x1)), .a 1, .c 96 #[(tv (x2))] (tv (m_tnum_known x2)), .o, .c 151 #[(ttv ((⟨(m_tnum_known x1), (m_tnum_known x2)⟩ : TT)))] (tv (m_tnum_pair_add (⟨(m_tnum_known x1), (m_tnum_known x2)⟩ : TT))), .a 2]
    [2, 2] (by simp only [AllOk]; exact ⟨ok_tnum_known (x1), ok_tnum_known (x2), ok_tnum_pair_add ((⟨(m_tnum_known x1), (m_tnum_known x2)⟩ : TT)), trivial⟩)
    (fun b => by kernel_rfl)
theorem ok_tnum_of_151 (x1 : T) (x2 : T) : Con Tryz.prog 140 #[.func (.func 151) #[] #[], (tv (x1)), (tv (x2))] (tv (m_tnum_of_151 x1 x2)) := by
  unfold m_tnum_of_151
  exact p0_tnum_of_151 x1 x2 
-- barbican/tnum.Add
def m_tnum_Add (x0 : T) (x1 : T) : T :=
  ((m_tnum_of_151 x0 x1))
theorem p0_tnum_Add (x0 : T) (x1 : T) : Con Tryz.prog 124 #[(tv (x0)), (tv (x1))] (tv ((m_tnum_of_151 x0 x1))) :=
  fn_con (P := Tryz.prog) Tryz.func124 (fun xs w => by kernel_rfl) [(tv (x0)), (tv (x1))] (tv ((m_tnum_of_151 x0 x1)))
    [.o, .o, .o, .a 0, .a 1, .c 140 #[.func (.func 151) #[] #[], (tv (x0)), (tv (x1))] (tv (m_tnum_of_151 x0 x1)), .a 2]
    [2, 2] (by simp only [AllOk]; exact ⟨ok_tnum_of_151 (x0) (x1), trivial⟩)
    (fun b => by kernel_rfl)
theorem ok_tnum_Add (x0 : T) (x1 : T) : Con Tryz.prog 124 #[(tv (x0)), (tv (x1))] (tv (m_tnum_Add x0 x1)) := by
  unfold m_tnum_Add
  exact p0_tnum_Add x0 x1 
-- (barbican/tnum.pair).sub
def m_tnum_pair_sub (x0 : TT) : T :=
  ((m_tnum_without (x0.a.v - x0.b.v) (((((x0.a.v - x0.b.v) - x0.b.m) ^^^ ((x0.a.v - x0.b.v) + x0.a.m)) ||| x0.a.m) ||| x0.b.m)))
theorem p0_tnum_pair_sub (x0 : TT) : Con Tryz.prog 152 #[(ttv (x0))] (tv ((m_tnum_without (x0.a.v - x0.b.v) (((((x0.a.v - x0.b.v) - x0.b.m) ^^^ ((x0.a.v - x0.b.v) + x0.a.m)) ||| x0.a.m) ||| x0.b.m)))) :=
  fn_con (P := Tryz.prog) Tryz.func152 (fun xs w => by kernel_rfl) [(ttv (x0))] (tv ((m_tnum_without (x0.a.v - x0.b.v) (((((x0.a.v - x0.b.v) - x0.b.m) ^^^ ((x0.a.v - x0.b.v) + x0.a.m)) ||| x0.a.m) ||| x0.b.m))))
    [.o, .o, .o, .o, .a 0, .o, .o, .a 0, .w (.int .u64 (IntKind.u64.wrap (nn (x0.a.v) - nn (x0.b.v)))) (.int .u64 (nn ((x0.a.v - x0.b.v)))), .o, .r [0, 1, 2, 3, 4, 5, 6, 7, 8, 9, 10, 11] [] [], .o, .o, .o, .a 0, .w (.int .u64 (IntKind.u64.wrap (nn ((x0.a.v - x0.b.v)) + nn (x0.a.m)))) (.int .u64 (nn (((x0.a.v - x0.b.v) + x0.a.m)))), .o, .o, .o, .a 0, .w (.int .u64 (IntKind.u64.wrap (nn ((x0.a.v - x0.b.v)) - nn (x0.b.m)))) (.int .u64 (nn (((x0.a.v - x0.b.v) - x0.b.m)))), .o, .o, .o, .o, .o, .w (.int .u64 (bits .xor .u64 (nn (((x0.a.v - x0.b.v) - x0.b.m))) (nn (((x0.a.v - x0.b.v) + x0.a.m))))) (.int .u64 (nn ((((x0.a.v - x0.b.v) - x0.b.m) ^^^ ((x0.a.v - x0.b.v) + x0.a.m))))), .o, .o, .a 0, .w (.int .u64 (bits .or .u64 (nn ((((x0.a.v - x0.b.v) - x0.b.m) ^^^ ((x0.a.v - x0.b.v) + x0.a.m)))) (nn (x0.a.m)))) (.int .u64 (nn (((((x0.a.v - x0.b.v) - x0.b.m) ^^^ ((x0.a.v - x0.b.v) + x0.a.m)) ||| x0.a.m)))), .o, .o, .a 0, .w (.int .u64 (bits .or .u64 (nn (((((x0.a.v - x0.b.v) - x0.b.m) ^^^ ((x0.a.v - x0.b.v) + x0.a.m)) ||| x0.a.m))) (nn (x0.b.m)))) (.int .u64 (nn ((((((x0.a.v - x0.b.v) - x0.b.m) ^^^ ((x0.a.v - x0.b.v) + x0.a.m)) ||| x0.a.m) ||| x0.b.m)))), .c 157 #[(.int .u64 (nn ((x0.a.v - x0.b.v)))), (.int .u64 (nn ((((((x0.a.v - x0.b.v) - x0.b.m) ^^^ ((x0.a.v - x0.b.v) + x0.a.m)) ||| x0.a.m) ||| x0.b.m))))] (tv (m_tnum_without (x0.a.v - x0.b.v) (((((x0.a.v - x0.b.v) - x0.b.m) ^^^ ((x0.a.v - x0.b.v) + x0.a.m)) ||| x0.a.m) ||| x0.b.m))), .a 1]
    [1, 1] (by simp only [AllOk]; exact ⟨congrArg (Value.int .u64) (u64_sub x0.a.v x0.b.v), congrArg (Value.int .u64) (u64_add (x0.a.v - x0.b.v) x0.a.m), congrArg (Value.int .u64) (u64_sub (x0.a.v - x0.b.v) x0.b.m), congrArg (Value.int .u64) (u64_xor ((x0.a.v - x0.b.v) - x0.b.m) ((x0.a.v - x0.b.v) + x0.a.m)), congrArg (Value.int .u64) (u64_or (((x0.a.v - x0.b.v) - x0.b.m) ^^^ ((x0.a.v - x0.b.v) + x0.a.m)) x0.a.m), congrArg (Value.int .u64) (u64_or ((((x0.a.v - x0.b.v) - x0.b.m) ^^^ ((x0.a.v - x0.b.v) + x0.a.m)) ||| x0.a.m) x0.b.m), ok_tnum_without ((x0.a.v - x0.b.v)) ((((((x0.a.v - x0.b.v) - x0.b.m) ^^^ ((x0.a.v - x0.b.v) + x0.a.m)) ||| x0.a.m) ||| x0.b.m)), trivial⟩)
    (fun b => by kernel_rfl)
theorem ok_tnum_pair_sub (x0 : TT) : Con Tryz.prog 152 #[(ttv (x0))] (tv (m_tnum_pair_sub x0)) := by
  unfold m_tnum_pair_sub
  exact p0_tnum_pair_sub x0 
-- barbican/tnum.of
def m_tnum_of_152 (x1 : T) (x2 : T) : T :=
  ((m_tnum_pair_sub (⟨(m_tnum_known x1), (m_tnum_known x2)⟩ : TT)))
theorem p0_tnum_of_152 (x1 : T) (x2 : T) : Con Tryz.prog 140 #[.func (.func 152) #[] #[], (tv (x1)), (tv (x2))] (tv ((m_tnum_pair_sub (⟨(m_tnum_known x1), (m_tnum_known x2)⟩ : TT)))) :=
  fn_con (P := Tryz.prog) Tryz.func140 (fun xs w => by kernel_rfl) [.func (.func 152) #[] #[], (tv (x1)), (tv (x2))] (tv ((m_tnum_pair_sub (⟨(m_tnum_known x1), (m_tnum_known x2)⟩ : TT))))
    [.o, .o, .o, .r [0, 1, 2, 3, 4, 5, 6] [] [7], .o, .a 0, .c 96 #[(tv (x1))] (tv (m_tnum_known x1)), .a 1, .c 96 #[(tv (x2))] (tv (m_tnum_known x2)), .o, .c 152 #[(ttv ((⟨(m_tnum_known x1), (m_tnum_known x2)⟩ : TT)))] (tv (m_tnum_pair_sub (⟨(m_tnum_known x1), (m_tnum_known x2)⟩ : TT))), .a 2]
    [2, 2] (by simp only [AllOk]; exact ⟨ok_tnum_known (x1), ok_tnum_known (x2), ok_tnum_pair_sub ((⟨(m_tnum_known x1), (m_tnum_known x2)⟩ : TT)), trivial⟩)
    (fun b => by kernel_rfl)
theorem ok_tnum_of_152 (x1 : T) (x2 : T) : Con Tryz.prog 140 #[.func (.func 152) #[] #[], (tv (x1)), (tv (x2))] (tv (m_tnum_of_152 x1 x2)) := by
  unfold m_tnum_of_152
  exact p0_tnum_of_152 x1 x2 
-- barbican/tnum.Sub
def m_tnum_Sub (x0 : T) (x1 : T) : T :=
  ((m_tnum_of_152 x0 x1))
theorem p0_tnum_Sub (x0 : T) (x1 : T) : Con Tryz.prog 127 #[(tv (x0)), (tv (x1))] (tv ((m_tnum_of_152 x0 x1))) :=
  fn_con (P := Tryz.prog) Tryz.func127 (fun xs w => by kernel_rfl) [(tv (x0)), (tv (x1))] (tv ((m_tnum_of_152 x0 x1)))
    [.o, .o, .o, .a 0, .a 1, .c 140 #[.func (.func 152) #[] #[], (tv (x0)), (tv (x1))] (tv (m_tnum_of_152 x0 x1)), .a 2]
    [2, 2] (by simp only [AllOk]; exact ⟨ok_tnum_of_152 (x0) (x1), trivial⟩)
    (fun b => by kernel_rfl)
theorem ok_tnum_Sub (x0 : T) (x1 : T) : Con Tryz.prog 127 #[(tv (x0)), (tv (x1))] (tv (m_tnum_Sub x0 x1)) := by
  unfold m_tnum_Sub
  exact p0_tnum_Sub x0 x1 
-- (barbican/tnum.pair).and
def m_tnum_pair_and (x0 : TT) : T :=
  ((m_tnum_without (x0.a.v &&& x0.b.v) (((x0.a.v ||| x0.a.m) &&& (x0.b.v ||| x0.b.m)) &&& ~~~(x0.a.v &&& x0.b.v))))
theorem p0_tnum_pair_and (x0 : TT) : Con Tryz.prog 141 #[(ttv (x0))] (tv ((m_tnum_without (x0.a.v &&& x0.b.v) (((x0.a.v ||| x0.a.m) &&& (x0.b.v ||| x0.b.m)) &&& ~~~(x0.a.v &&& x0.b.v))))) :=
  fn_con (P := Tryz.prog) Tryz.func141 (fun xs w => by kernel_rfl) [(ttv (x0))] (tv ((m_tnum_without (x0.a.v &&& x0.b.v) (((x0.a.v ||| x0.a.m) &&& (x0.b.v ||| x0.b.m)) &&& ~~~(x0.a.v &&& x0.b.v)))))
    [.o, .o, .o, .o, .a 0, .o, .o, .a 0, .w (.int .u64 (bits .and .u64 (nn (x0.a.v)) (nn (x0.b.v)))) (.int .u64 (nn ((x0.a.v &&& x0.b.v)))), .o, .o, .o, .o, .a 0, .o, .o, .a 0, .w (.int .u64 (bits .or .u64 (nn (x0.a.v)) (nn (x0.a.m)))) (.int .u64 (nn ((x0.a.v ||| x0.a.m)))), .o, .o, .a 0, .o, .o, .a 0, .w (.int .u64 (bits .or .u64 (nn (x0.b.v)) (nn (x0.b.m)))) (.int .u64 (nn ((x0.b.v ||| x0.b.m)))), .w (.int .u64 (bits .and .u64 (nn ((x0.a.v ||| x0.a.m))) (nn ((x0.b.v ||| x0.b.m))))) (.int .u64 (nn (((x0.a.v ||| x0.a.m) &&& (x0.b.v ||| x0.b.m))))), .o, .w (.int .u64 (bits .andNot .u64 (nn (((x0.a.v ||| x0.a.m) &&& (x0.b.v ||| x0.b.m)))) (nn ((x0.a.v &&& x0.b.v))))) (.int .u64 (nn ((((x0.a.v ||| x0.a.m) &&& (x0.b.v ||| x0.b.m)) &&& ~~~(x0.a.v &&& x0.b.v))))), .c 157 #[(.int .u64 (nn ((x0.a.v &&& x0.b.v)))), (.int .u64 (nn ((((x0.a.v ||| x0.a.m) &&& (x0.b.v ||| x0.b.m)) &&& ~~~(x0.a.v &&& x0.b.v)))))] (tv (m_tnum_without (x0.a.v &&& x0.b.v) (((x0.a.v ||| x0.a.m) &&& (x0.b.v ||| x0.b.m)) &&& ~~~(x0.a.v &&& x0.b.v)))), .a 1]
    [1, 1] (by simp only [AllOk]; exact ⟨congrArg (Value.int .u64) (u64_and x0.a.v x0.b.v), congrArg (Value.int .u64) (u64_or x0.a.v x0.a.m), congrArg (Value.int .u64) (u64_or x0.b.v x0.b.m), congrArg (Value.int .u64) (u64_and (x0.a.v ||| x0.a.m) (x0.b.v ||| x0.b.m)), congrArg (Value.int .u64) (u64_not ((x0.a.v ||| x0.a.m) &&& (x0.b.v ||| x0.b.m)) (x0.a.v &&& x0.b.v)), ok_tnum_without ((x0.a.v &&& x0.b.v)) ((((x0.a.v ||| x0.a.m) &&& (x0.b.v ||| x0.b.m)) &&& ~~~(x0.a.v &&& x0.b.v))), trivial⟩)
    (fun b => by kernel_rfl)
theorem ok_tnum_pair_and (x0 : TT) : Con Tryz.prog 141 #[(ttv (x0))] (tv (m_tnum_pair_and x0)) := by
  unfold m_tnum_pair_and
  exact p0_tnum_pair_and x0 
-- barbican/tnum.of
def m_tnum_of_141 (x1 : T) (x2 : T) : T :=
  ((m_tnum_pair_and (⟨(m_tnum_known x1), (m_tnum_known x2)⟩ : TT)))
theorem p0_tnum_of_141 (x1 : T) (x2 : T) : Con Tryz.prog 140 #[.func (.func 141) #[] #[], (tv (x1)), (tv (x2))] (tv ((m_tnum_pair_and (⟨(m_tnum_known x1), (m_tnum_known x2)⟩ : TT)))) :=
  fn_con (P := Tryz.prog) Tryz.func140 (fun xs w => by kernel_rfl) [.func (.func 141) #[] #[], (tv (x1)), (tv (x2))] (tv ((m_tnum_pair_and (⟨(m_tnum_known x1), (m_tnum_known x2)⟩ : TT))))
    [.o, .o, .o, .r [0, 1, 2, 3, 4, 5, 6] [] [7], .o, .a 0, .c 96 #[(tv (x1))] (tv (m_tnum_known x1)), .a 1, .c 96 #[(tv (x2))] (tv (m_tnum_known x2)), .o, .c 141 #[(ttv ((⟨(m_tnum_known x1), (m_tnum_known x2)⟩ : TT)))] (tv (m_tnum_pair_and (⟨(m_tnum_known x1), (m_tnum_known x2)⟩ : TT))), .a 2]
    [2, 2] (by simp only [AllOk]; exact ⟨ok_tnum_known (x1), ok_tnum_known (x2), ok_tnum_pair_and ((⟨(m_tnum_known x1), (m_tnum_known x2)⟩ : TT)), trivial⟩)
    (fun b => by kernel_rfl)
theorem ok_tnum_of_141 (x1 : T) (x2 : T) : Con Tryz.prog 140 #[.func (.func 141) #[] #[], (tv (x1)), (tv (x2))] (tv (m_tnum_of_141 x1 x2)) := by
  unfold m_tnum_of_141
  exact p0_tnum_of_141 x1 x2 
-- barbican/tnum.And
def m_tnum_And (x0 : T) (x1 : T) : T :=
  ((m_tnum_of_141 x0 x1))
theorem p0_tnum_And (x0 : T) (x1 : T) : Con Tryz.prog 95 #[(tv (x0)), (tv (x1))] (tv ((m_tnum_of_141 x0 x1))) :=
  fn_con (P := Tryz.prog) Tryz.func95 (fun xs w => by kernel_rfl) [(tv (x0)), (tv (x1))] (tv ((m_tnum_of_141 x0 x1)))
    [.o, .o, .o, .a 0, .a 1, .c 140 #[.func (.func 141) #[] #[], (tv (x0)), (tv (x1))] (tv (m_tnum_of_141 x0 x1)), .a 2]
    [2, 2] (by simp only [AllOk]; exact ⟨ok_tnum_of_141 (x0) (x1), trivial⟩)
    (fun b => by kernel_rfl)
theorem ok_tnum_And (x0 : T) (x1 : T) : Con Tryz.prog 95 #[(tv (x0)), (tv (x1))] (tv (m_tnum_And x0 x1)) := by
  unfold m_tnum_And
  exact p0_tnum_And x0 x1 
-- (barbican/tnum.pair).or
def m_tnum_pair_or (x0 : TT) : T :=
  ((⟨(x0.a.v ||| x0.b.v), ((x0.a.m ||| x0.b.m) &&& ~~~(x0.a.v ||| x0.b.v))⟩ : T))
theorem p0_tnum_pair_or (x0 : TT) : Con Tryz.prog 154 #[(ttv (x0))] (tv ((⟨(x0.a.v ||| x0.b.v), ((x0.a.m ||| x0.b.m) &&& ~~~(x0.a.v ||| x0.b.v))⟩ : T))) :=
  fn_con (P := Tryz.prog) Tryz.func154 (fun xs w => by kernel_rfl) [(ttv (x0))] (tv ((⟨(x0.a.v ||| x0.b.v), ((x0.a.m ||| x0.b.m) &&& ~~~(x0.a.v ||| x0.b.v))⟩ : T)))
    [.o, .o, .o, .o, .a 0, .o, .o, .a 0, .w (.int .u64 (bits .or .u64 (nn (x0.a.v)) (nn (x0.b.v)))) (.int .u64 (nn ((x0.a.v ||| x0.b.v)))), .o, .o, .o, .o, .a 0, .o, .o, .a 0, .w (.int .u64 (bits .or .u64 (nn (x0.a.m)) (nn (x0.b.m)))) (.int .u64 (nn ((x0.a.m ||| x0.b.m)))), .o, .w (.int .u64 (bits .andNot .u64 (nn ((x0.a.m ||| x0.b.m))) (nn ((x0.a.v ||| x0.b.v))))) (.int .u64 (nn (((x0.a.m ||| x0.b.m) &&& ~~~(x0.a.v ||| x0.b.v))))), .o, .a 1]
    [1, 1] (by simp only [AllOk]; exact ⟨congrArg (Value.int .u64) (u64_or x0.a.v x0.b.v), congrArg (Value.int .u64) (u64_or x0.a.m x0.b.m), congrArg (Value.int .u64) (u64_not (x0.a.m ||| x0.b.m) (x0.a.v ||| x0.b.v)), trivial⟩)
    (fun b => by kernel_rfl)
theorem ok_tnum_pair_or (x0 : TT) : Con Tryz.prog 154 #[(ttv (x0))] (tv (m_tnum_pair_or x0)) := by
  unfold m_tnum_pair_or
  exact p0_tnum_pair_or x0 
-- barbican/tnum.of
def m_tnum_of_154 (x1 : T) (x2 : T) : T :=
  ((m_tnum_pair_or (⟨(m_tnum_known x1), (m_tnum_known x2)⟩ : TT)))
theorem p0_tnum_of_154 (x1 : T) (x2 : T) : Con Tryz.prog 140 #[.func (.func 154) #[] #[], (tv (x1)), (tv (x2))] (tv ((m_tnum_pair_or (⟨(m_tnum_known x1), (m_tnum_known x2)⟩ : TT)))) :=
  fn_con (P := Tryz.prog) Tryz.func140 (fun xs w => by kernel_rfl) [.func (.func 154) #[] #[], (tv (x1)), (tv (x2))] (tv ((m_tnum_pair_or (⟨(m_tnum_known x1), (m_tnum_known x2)⟩ : TT))))
    [.o, .o, .o, .r [0, 1, 2, 3, 4, 5, 6] [] [7], .o, .a 0, .c 96 #[(tv (x1))] (tv (m_tnum_known x1)), .a 1, .c 96 #[(tv (x2))] (tv (m_tnum_known x2)), .o, .c 154 #[(ttv ((⟨(m_tnum_known x1), (m_tnum_known x2)⟩ : TT)))] (tv (m_tnum_pair_or (⟨(m_tnum_known x1), (m_tnum_known x2)⟩ : TT))), .a 2]
    [2, 2] (by simp only [AllOk]; exact ⟨ok_tnum_known (x1), ok_tnum_known (x2), ok_tnum_pair_or ((⟨(m_tnum_known x1), (m_tnum_known x2)⟩ : TT)), trivial⟩)
    (fun b => by kernel_rfl)
theorem ok_tnum_of_154 (x1 : T) (x2 : T) : Con Tryz.prog 140 #[.func (.func 154) #[] #[], (tv (x1)), (tv (x2))] (tv (m_tnum_of_154 x1 x2)) := by
  unfold m_tnum_of_154
  exact p0_tnum_of_154 x1 x2 
-- barbican/tnum.Or
def m_tnum_Or (x0 : T) (x1 : T) : T :=
  ((m_tnum_of_154 x0 x1))
theorem p0_tnum_Or (x0 : T) (x1 : T) : Con Tryz.prog 132 #[(tv (x0)), (tv (x1))] (tv ((m_tnum_of_154 x0 x1))) :=
  fn_con (P := Tryz.prog) Tryz.func132 (fun xs w => by kernel_rfl) [(tv (x0)), (tv (x1))] (tv ((m_tnum_of_154 x0 x1)))
    [.o, .o, .o, .a 0, .a 1, .c 140 #[.func (.func 154) #[] #[], (tv (x0)), (tv (x1))] (tv (m_tnum_of_154 x0 x1)), .a 2]
    [2, 2] (by simp only [AllOk]; exact ⟨ok_tnum_of_154 (x0) (x1), trivial⟩)
    (fun b => by kernel_rfl)
theorem ok_tnum_Or (x0 : T) (x1 : T) : Con Tryz.prog 132 #[(tv (x0)), (tv (x1))] (tv (m_tnum_Or x0 x1)) := by
  unfold m_tnum_Or
  exact p0_tnum_Or x0 x1 
-- (barbican/tnum.pair).xor
def m_tnum_pair_xor (x0 : TT) : T :=
  ((m_tnum_without (x0.a.v ^^^ x0.b.v) (x0.a.m ||| x0.b.m)))
theorem p0_tnum_pair_xor (x0 : TT) : Con Tryz.prog 156 #[(ttv (x0))] (tv ((m_tnum_without (x0.a.v ^^^ x0.b.v) (x0.a.m ||| x0.b.m)))) :=
  fn_con (P := Tryz.prog) Tryz.func156 (fun xs w => by kernel_rfl) [(ttv (x0))] (tv ((m_tnum_without (x0.a.v ^^^ x0.b.v) (x0.a.m ||| x0.b.m))))
    [.o, .o, .o, .o, .a 0, .o, .o, .a 0, .w (.int .u64 (bits .xor .u64 (nn (x0.a.v)) (nn (x0.b.v)))) (.int .u64 (nn ((x0.a.v ^^^ x0.b.v)))), .o, .o, .a 0, .o, .o, .a 0, .w (.int .u64 (bits .or .u64 (nn (x0.a.m)) (nn (x0.b.m)))) (.int .u64 (nn ((x0.a.m ||| x0.b.m)))), .c 157 #[(.int .u64 (nn ((x0.a.v ^^^ x0.b.v)))), (.int .u64 (nn ((x0.a.m ||| x0.b.m))))] (tv (m_tnum_without (x0.a.v ^^^ x0.b.v) (x0.a.m ||| x0.b.m))), .a 1]
    [1, 1] (by simp only [AllOk]; exact ⟨congrArg (Value.int .u64) (u64_xor x0.a.v x0.b.v), congrArg (Value.int .u64) (u64_or x0.a.m x0.b.m), ok_tnum_without ((x0.a.v ^^^ x0.b.v)) ((x0.a.m ||| x0.b.m)), trivial⟩)
    (fun b => by kernel_rfl)
theorem ok_tnum_pair_xor (x0 : TT) : Con Tryz.prog 156 #[(ttv (x0))] (tv (m_tnum_pair_xor x0)) := by
  unfold m_tnum_pair_xor
  exact p0_tnum_pair_xor x0 
-- barbican/tnum.of
def m_tnum_of_156 (x1 : T) (x2 : T) : T :=
  ((m_tnum_pair_xor (⟨(m_tnum_known x1), (m_tnum_known x2)⟩ : TT)))
theorem p0_tnum_of_156 (x1 : T) (x2 : T) : Con Tryz.prog 140 #[.func (.func 156) #[] #[], (tv (x1)), (tv (x2))] (tv ((m_tnum_pair_xor (⟨(m_tnum_known x1), (m_tnum_known x2)⟩ : TT)))) :=
  fn_con (P := Tryz.prog) Tryz.func140 (fun xs w => by kernel_rfl) [.func (.func 156) #[] #[], (tv (x1)), (tv (x2))] (tv ((m_tnum_pair_xor (⟨(m_tnum_known x1), (m_tnum_known x2)⟩ : TT))))
    [.o, .o, .o, .r [0, 1, 2, 3, 4, 5, 6] [] [7], .o, .a 0, .c 96 #[(tv (x1))] (tv (m_tnum_known x1)), .a 1, .c 96 #[(tv (x2))] (tv (m_tnum_known x2)), .o, .c 156 #[(ttv ((⟨(m_tnum_known x1), (m_tnum_known x2)⟩ : TT)))] (tv (m_tnum_pair_xor (⟨(m_tnum_known x1), (m_tnum_known x2)⟩ : TT))), .a 2]
    [2, 2] (by simp only [AllOk]; exact ⟨ok_tnum_known (x1), ok_tnum_known (x2), ok_tnum_pair_xor ((⟨(m_tnum_known x1), (m_tnum_known x2)⟩ : TT)), trivial⟩)
    (fun b => by kernel_rfl)
theorem ok_tnum_of_156 (x1 : T) (x2 : T) : Con Tryz.prog 140 #[.func (.func 156) #[] #[], (tv (x1)), (tv (x2))] (tv (m_tnum_of_156 x1 x2)) := by
  unfold m_tnum_of_156
  exact p0_tnum_of_156 x1 x2 
-- barbican/tnum.Xor
def m_tnum_Xor (x0 : T) (x1 : T) : T :=
  ((m_tnum_of_156 x0 x1))
theorem p0_tnum_Xor (x0 : T) (x1 : T) : Con Tryz.prog 136 #[(tv (x0)), (tv (x1))] (tv ((m_tnum_of_156 x0 x1))) :=
  fn_con (P := Tryz.prog) Tryz.func136 (fun xs w => by kernel_rfl) [(tv (x0)), (tv (x1))] (tv ((m_tnum_of_156 x0 x1)))
    [.o, .o, .o, .a 0, .a 1, .c 140 #[.func (.func 156) #[] #[], (tv (x0)), (tv (x1))] (tv (m_tnum_of_156 x0 x1)), .a 2]
    [2, 2] (by simp only [AllOk]; exact ⟨ok_tnum_of_156 (x0) (x1), trivial⟩)
    (fun b => by kernel_rfl)
theorem ok_tnum_Xor (x0 : T) (x1 : T) : Con Tryz.prog 136 #[(tv (x0)), (tv (x1))] (tv (m_tnum_Xor x0 x1)) := by
  unfold m_tnum_Xor
  exact p0_tnum_Xor x0 x1 
-- barbican/tnum.Lsh
def m_tnum_Lsh (x0 : T) (x1 : BitVec 64) : T :=
  ((⟨((m_tnum_known x0).v <<< ((x1 &&& 63#64)).toNat), ((m_tnum_known x0).m <<< ((x1 &&& 63#64)).toNat)⟩ : T))
theorem p0_tnum_Lsh (x0 : T) (x1 : BitVec 64) : Con Tryz.prog 148 #[(tv (x0)), (.int .i64 (ii (x1)))] (tv ((⟨((m_tnum_known x0).v <<< ((x1 &&& 63#64)).toNat), ((m_tnum_known x0).m <<< ((x1 &&& 63#64)).toNat)⟩ : T))) :=
  fn_con (P := Tryz.prog) Tryz.func148 (fun xs w => by kernel_rfl) [(tv (x0)), (.int .i64 (ii (x1)))] (tv ((⟨((m_tnum_known x0).v <<< ((x1 &&& 63#64)).toNat), ((m_tnum_known x0).m <<< ((x1 &&& 63#64)).toNat)⟩ : T)))
    [.o, .o, .a 0, .c 96 #[(tv (x0))] (tv (m_tnum_known x0)), .a 0, .r [0, 1, 2, 3, 4, 5, 6, 7, 8, 9, 10] [] [11], .o, .a 0, .o, .w (.int .i64 (bits .and .i64 (ii (x1)) ((63)))) (.int .i64 (ii ((x1 &&& 63#64)))), .ov (.bin .shl 22 (.tmp 8) (.tmp 10) (.int .u64 (nn ((m_tnum_known x0).v))) (.int .i64 (ii ((x1 &&& 63#64))))) (.int .u64 (nn (((m_tnum_known x0).v <<< ((x1 &&& 63#64)).toNat)))), .o, .a 0, .o, .w (.int .i64 (bits .and .i64 (ii (x1)) ((63)))) (.int .i64 (ii ((x1 &&& 63#64)))), .ov (.bin .shl 22 (.tmp 13) (.tmp 15) (.int .u64 (nn ((m_tnum_known x0).m))) (.int .i64 (ii ((x1 &&& 63#64))))) (.int .u64 (nn (((m_tnum_known x0).m <<< ((x1 &&& 63#64)).toNat)))), .o, .a 1]
    [1, 1] (by simp only [AllOk]; exact ⟨ok_tnum_known (x0), congrArg (Value.int .i64) (i64_and x1 63#64), (fun w => u64_shl Tryz.prog 22 (.tmp 8) (.tmp 10) ((m_tnum_known x0).v) ((x1 &&& 63#64)).toNat .i64 (ii_mask (x1) 63#64 (by decide)) w), congrArg (Value.int .i64) (i64_and x1 63#64), (fun w => u64_shl Tryz.prog 22 (.tmp 13) (.tmp 15) ((m_tnum_known x0).m) ((x1 &&& 63#64)).toNat .i64 (ii_mask (x1) 63#64 (by decide)) w), trivial⟩)
    (fun b => by kernel_rfl)
theorem ok_tnum_Lsh (x0 : T) (x1 : BitVec 64) : Con Tryz.prog 148 #[(tv (x0)), (.int .i64 (ii (x1)))] (tv (m_tnum_Lsh x0 x1)) := by
  unfold m_tnum_Lsh
  exact p0_tnum_Lsh x0 x1 
-- barbican/tnum.Rsh
def m_tnum_Rsh (x0 : T) (x1 : BitVec 64) : T :=
  ((⟨((m_tnum_known x0).v >>> ((x1 &&& 63#64)).toNat), ((m_tnum_known x0).m >>> ((x1 &&& 63#64)).toNat)⟩ : T))
theorem p0_tnum_Rsh (x0 : T) (x1 : BitVec 64) : Con Tryz.prog 155 #[(tv (x0)), (.int .i64 (ii (x1)))] (tv ((⟨((m_tnum_known x0).v >>> ((x1 &&& 63#64)).toNat), ((m_tnum_known x0).m >>> ((x1 &&& 63#64)).toNat)⟩ : T))) :=
  fn_con (P := Tryz.prog) Tryz.func155 (fun xs w => by kernel_rfl) [(tv (x0)), (.int .i64 (ii (x1)))] (tv ((⟨((m_tnum_known x0).v >>> ((x1 &&& 63#64)).toNat), ((m_tnum_known x0).m >>> ((x1 &&& 63#64)).toNat)⟩ : T)))
    [.o, .o, .a 0, .c 96 #[(tv (x0))] (tv (m_tnum_known x0)), .a 0, .r [0, 1, 2, 3, 4, 5, 6, 7, 8, 9, 10] [] [11], .o, .a 0, .o, .w (.int .i64 (bits .and .i64 (ii (x1)) ((63)))) (.int .i64 (ii ((x1 &&& 63#64)))), .ov (.bin .shr 22 (.tmp 8) (.tmp 10) (.int .u64 (nn ((m_tnum_known x0).v))) (.int .i64 (ii ((x1 &&& 63#64))))) (.int .u64 (nn (((m_tnum_known x0).v >>> ((x1 &&& 63#64)).toNat)))), .o, .a 0, .o, .w (.int .i64 (bits .and .i64 (ii (x1)) ((63)))) (.int .i64 (ii ((x1 &&& 63#64)))), .ov (.bin .shr 22 (.tmp 13) (.tmp 15) (.int .u64 (nn ((m_tnum_known x0).m))) (.int .i64 (ii ((x1 &&& 63#64))))) (.int .u64 (nn (((m_tnum_known x0).m >>> ((x1 &&& 63#64)).toNat)))), .o, .a 1]
    [1, 1] (by simp only [AllOk]; exact ⟨ok_tnum_known (x0), congrArg (Value.int .i64) (i64_and x1 63#64), (fun w => u64_shr Tryz.prog 22 (.tmp 8) (.tmp 10) ((m_tnum_known x0).v) ((x1 &&& 63#64)).toNat .i64 (ii_mask (x1) 63#64 (by decide)) w), congrArg (Value.int .i64) (i64_and x1 63#64), (fun w => u64_shr Tryz.prog 22 (.tmp 13) (.tmp 15) ((m_tnum_known x0).m) ((x1 &&& 63#64)).toNat .i64 (ii_mask (x1) 63#64 (by decide)) w), trivial⟩)
    (fun b => by kernel_rfl)
theorem ok_tnum_Rsh (x0 : T) (x1 : BitVec 64) : Con Tryz.prog 155 #[(tv (x0)), (.int .i64 (ii (x1)))] (tv (m_tnum_Rsh x0 x1)) := by
  unfold m_tnum_Rsh
  exact p0_tnum_Rsh x0 x1 
-- barbican/tnum.Arsh
def m_tnum_Arsh (x0 : T) (x1 : BitVec 64) (x2 : Bool) : T :=
  (bif x2 then
    ((⟨((m_tnum_known x0).v.sshiftRight ((x1 &&& 63#64)).toNat), ((m_tnum_known x0).m.sshiftRight ((x1 &&& 63#64)).toNat)⟩ : T))
    else ((⟨((((m_tnum_known x0).v.setWidth 32).sshiftRight ((x1 &&& 31#64)).toNat).setWidth 64), ((((m_tnum_known x0).m.setWidth 32).sshiftRight ((x1 &&& 31#64)).toNat).setWidth 64)⟩ : T)))
theorem p0_tnum_Arsh (x0 : T) (x1 : BitVec 64) : Con Tryz.prog 147 #[(tv (x0)), (.int .i64 (ii (x1))), (.bool (true))] (tv ((⟨((m_tnum_known x0).v.sshiftRight ((x1 &&& 63#64)).toNat), ((m_tnum_known x0).m.sshiftRight ((x1 &&& 63#64)).toNat)⟩ : T))) :=
  fn_con (P := Tryz.prog) Tryz.func147 (fun xs w => by kernel_rfl) [(tv (x0)), (.int .i64 (ii (x1))), (.bool (true))] (tv ((⟨((m_tnum_known x0).v.sshiftRight ((x1 &&& 63#64)).toNat), ((m_tnum_known x0).m.sshiftRight ((x1 &&& 63#64)).toNat)⟩ : T)))
    [.o, .o, .a 0, .c 96 #[(tv (x0))] (tv (m_tnum_known x0)), .a 0, .o, .r [0, 1, 2, 3, 4, 5, 6, 7, 8, 9, 10, 11, 12, 13, 14] [] [15], .o, .a 0, .w (.int .i64 (IntKind.i64.wrap (nn ((m_tnum_known x0).v)))) (.int .i64 (ii ((m_tnum_known x0).v))), .o, .w (.int .i64 (bits .and .i64 (ii (x1)) ((63)))) (.int .i64 (ii ((x1 &&& 63#64)))), .ov (.bin .shr 2 (.tmp 12) (.tmp 14) (.int .i64 (ii ((m_tnum_known x0).v))) (.int .i64 (ii ((x1 &&& 63#64))))) (.int .i64 (ii (((m_tnum_known x0).v.sshiftRight ((x1 &&& 63#64)).toNat)))), .w (.int .u64 (IntKind.u64.wrap (ii (((m_tnum_known x0).v.sshiftRight ((x1 &&& 63#64)).toNat))))) (.int .u64 (nn (((m_tnum_known x0).v.sshiftRight ((x1 &&& 63#64)).toNat)))), .o, .a 0, .w (.int .i64 (IntKind.i64.wrap (nn ((m_tnum_known x0).m)))) (.int .i64 (ii ((m_tnum_known x0).m))), .o, .w (.int .i64 (bits .and .i64 (ii (x1)) ((63)))) (.int .i64 (ii ((x1 &&& 63#64)))), .ov (.bin .shr 2 (.tmp 19) (.tmp 21) (.int .i64 (ii ((m_tnum_known x0).m))) (.int .i64 (ii ((x1 &&& 63#64))))) (.int .i64 (ii (((m_tnum_known x0).m.sshiftRight ((x1 &&& 63#64)).toNat)))), .w (.int .u64 (IntKind.u64.wrap (ii (((m_tnum_known x0).m.sshiftRight ((x1 &&& 63#64)).toNat))))) (.int .u64 (nn (((m_tnum_known x0).m.sshiftRight ((x1 &&& 63#64)).toNat)))), .o, .a 1]
    [1, 1] (by simp only [AllOk]; exact ⟨ok_tnum_known (x0), congrArg (Value.int .i64) (i64_of_u64 ((m_tnum_known x0).v)), congrArg (Value.int .i64) (i64_and x1 63#64), (fun w => i64_shr Tryz.prog 2 (.tmp 12) (.tmp 14) ((m_tnum_known x0).v) ((x1 &&& 63#64)).toNat .i64 (mask_lt (x1) 63#64 (by decide)) (ii_mask (x1) 63#64 (by decide)) w), congrArg (Value.int .u64) (u64_of_i64 (((m_tnum_known x0).v.sshiftRight ((x1 &&& 63#64)).toNat))), congrArg (Value.int .i64) (i64_of_u64 ((m_tnum_known x0).m)), congrArg (Value.int .i64) (i64_and x1 63#64), (fun w => i64_shr Tryz.prog 2 (.tmp 19) (.tmp 21) ((m_tnum_known x0).m) ((x1 &&& 63#64)).toNat .i64 (mask_lt (x1) 63#64 (by decide)) (ii_mask (x1) 63#64 (by decide)) w), congrArg (Value.int .u64) (u64_of_i64 (((m_tnum_known x0).m.sshiftRight ((x1 &&& 63#64)).toNat))), trivial⟩)
    (fun b => by kernel_rfl)
theorem p1_tnum_Arsh (x0 : T) (x1 : BitVec 64) : Con Tryz.prog 147 #[(tv (x0)), (.int .i64 (ii (x1))), (.bool (false))] (tv ((⟨((((m_tnum_known x0).v.setWidth 32).sshiftRight ((x1 &&& 31#64)).toNat).setWidth 64), ((((m_tnum_known x0).m.setWidth 32).sshiftRight ((x1 &&& 31#64)).toNat).setWidth 64)⟩ : T))) :=
  fn_con (P := Tryz.prog) Tryz.func147 (fun xs w => by kernel_rfl) [(tv (x0)), (.int .i64 (ii (x1))), (.bool (false))] (tv ((⟨((((m_tnum_known x0).v.setWidth 32).sshiftRight ((x1 &&& 31#64)).toNat).setWidth 64), ((((m_tnum_known x0).m.setWidth 32).sshiftRight ((x1 &&& 31#64)).toNat).setWidth 64)⟩ : T)))
    [.o, .o, .a 0, .c 96 #[(tv (x0))] (tv (m_tnum_known x0)), .a 0, .o, .r [0, 1, 2, 3, 4, 5, 6, 7, 8, 9, 10, 11, 12, 13, 14, 15, 16] [] [17], .o, .a 0, .w (.int .i32 (IntKind.i32.wrap (nn ((m_tnum_known x0).v)))) (.int .i32 (ii (((m_tnum_known x0).v.setWidth 32)))), .o, .w (.int .i64 (bits .and .i64 (ii (x1)) ((31)))) (.int .i64 (ii ((x1 &&& 31#64)))), .ov (.bin .shr 21 (.tmp 27) (.tmp 29) (.int .i32 (ii (((m_tnum_known x0).v.setWidth 32)))) (.int .i64 (ii ((x1 &&& 31#64))))) (.int .i32 (ii ((((m_tnum_known x0).v.setWidth 32).sshiftRight ((x1 &&& 31#64)).toNat)))), .w (.int .u32 (IntKind.u32.wrap (ii ((((m_tnum_known x0).v.setWidth 32).sshiftRight ((x1 &&& 31#64)).toNat))))) (.int .u32 (nn ((((m_tnum_known x0).v.setWidth 32).sshiftRight ((x1 &&& 31#64)).toNat)))), .w (.int .u64 (IntKind.u64.wrap (nn ((((m_tnum_known x0).v.setWidth 32).sshiftRight ((x1 &&& 31#64)).toNat))))) (.int .u64 (nn (((((m_tnum_known x0).v.setWidth 32).sshiftRight ((x1 &&& 31#64)).toNat).setWidth 64)))), .o, .a 0, .w (.int .i32 (IntKind.i32.wrap (nn ((m_tnum_known x0).m)))) (.int .i32 (ii (((m_tnum_known x0).m.setWidth 32)))), .o, .w (.int .i64 (bits .and .i64 (ii (x1)) ((31)))) (.int .i64 (ii ((x1 &&& 31#64)))), .ov (.bin .shr 21 (.tmp 35) (.tmp 37) (.int .i32 (ii (((m_tnum_known x0).m.setWidth 32)))) (.int .i64 (ii ((x1 &&& 31#64))))) (.int .i32 (ii ((((m_tnum_known x0).m.setWidth 32).sshiftRight ((x1 &&& 31#64)).toNat)))), .w (.int .u32 (IntKind.u32.wrap (ii ((((m_tnum_known x0).m.setWidth 32).sshiftRight ((x1 &&& 31#64)).toNat))))) (.int .u32 (nn ((((m_tnum_known x0).m.setWidth 32).sshiftRight ((x1 &&& 31#64)).toNat)))), .w (.int .u64 (IntKind.u64.wrap (nn ((((m_tnum_known x0).m.setWidth 32).sshiftRight ((x1 &&& 31#64)).toNat))))) (.int .u64 (nn (((((m_tnum_known x0).m.setWidth 32).sshiftRight ((x1 &&& 31#64)).toNat).setWidth 64)))), .o, .a 1]
    [1, 1] (by simp only [AllOk]; exact ⟨ok_tnum_known (x0), congrArg (Value.int .i32) (i32_of_u64 ((m_tnum_known x0).v)), congrArg (Value.int .i64) (i64_and x1 31#64), (fun w => i32_shr Tryz.prog 21 (.tmp 27) (.tmp 29) (((m_tnum_known x0).v.setWidth 32)) ((x1 &&& 31#64)).toNat .i64 (mask_lt (x1) 31#64 (by decide)) (ii_mask (x1) 31#64 (by decide)) w), congrArg (Value.int .u32) (u32_of_i32 ((((m_tnum_known x0).v.setWidth 32).sshiftRight ((x1 &&& 31#64)).toNat))), congrArg (Value.int .u64) (u64_of_u32 ((((m_tnum_known x0).v.setWidth 32).sshiftRight ((x1 &&& 31#64)).toNat))), congrArg (Value.int .i32) (i32_of_u64 ((m_tnum_known x0).m)), congrArg (Value.int .i64) (i64_and x1 31#64), (fun w => i32_shr Tryz.prog 21 (.tmp 35) (.tmp 37) (((m_tnum_known x0).m.setWidth 32)) ((x1 &&& 31#64)).toNat .i64 (mask_lt (x1) 31#64 (by decide)) (ii_mask (x1) 31#64 (by decide)) w), congrArg (Value.int .u32) (u32_of_i32 ((((m_tnum_known x0).m.setWidth 32).sshiftRight ((x1 &&& 31#64)).toNat))), congrArg (Value.int .u64) (u64_of_u32 ((((m_tnum_known x0).m.setWidth 32).sshiftRight ((x1 &&& 31#64)).toNat))), trivial⟩)
    (fun b => by kernel_rfl)
theorem ok_tnum_Arsh (x0 : T) (x1 : BitVec 64) (x2 : Bool) : Con Tryz.prog 147 #[(tv (x0)), (.int .i64 (ii (x1))), (.bool (x2))] (tv (m_tnum_Arsh x0 x1 x2)) := by
  unfold m_tnum_Arsh
  cases x2
  · exact p1_tnum_Arsh x0 x1 
  · exact p0_tnum_Arsh x0 x1 
-- barbican/tnum.Range
def m_tnum_Range (x0 : BitVec 64) (x1 : BitVec 64) : T :=
  (bif BitVec.ult x1 x0 then
    ((m_tnum_Unknown ))
    else ((⟨(x0 &&& ~~~((1#64 <<< (m_Len64 (x0 ^^^ x1)).toNat) - 1#64)), ((1#64 <<< (m_Len64 (x0 ^^^ x1)).toNat) - 1#64)⟩ : T)))
theorem p0_tnum_Range (x0 : BitVec 64) (x1 : BitVec 64) (h0 : (BitVec.ult x1 x0) = true) : Con Tryz.prog 150 #[(.int .u64 (nn (x0))), (.int .u64 (nn (x1)))] (tv ((m_tnum_Unknown ))) :=
  fn_con (P := Tryz.prog) Tryz.func150 (fun xs w => by kernel_rfl) [(.int .u64 (nn (x0))), (.int .u64 (nn (x1)))] (tv ((m_tnum_Unknown )))
    [.o, .o, .o, .w (.bool (decide (nn (x0) > nn (x1)))) (.bool true), .c 31 #[] (tv (m_tnum_Unknown )), .a 0]
    [0, 0] (by simp only [AllOk]; exact ⟨congrArg Value.bool ((u_gt x0 x1).trans (by rw [h0])), ok_tnum_Unknown , trivial⟩)
    (fun b => by kernel_rfl)
theorem p1_tnum_Range (x0 : BitVec 64) (x1 : BitVec 64) (h0 : (BitVec.ult x1 x0) = false) : Con Tryz.prog 150 #[(.int .u64 (nn (x0))), (.int .u64 (nn (x1)))] (tv ((⟨(x0 &&& ~~~((1#64 <<< (m_Len64 (x0 ^^^ x1)).toNat) - 1#64)), ((1#64 <<< (m_Len64 (x0 ^^^ x1)).toNat) - 1#64)⟩ : T))) :=
  fn_con (P := Tryz.prog) Tryz.func150 (fun xs w => by kernel_rfl) [(.int .u64 (nn (x0))), (.int .u64 (nn (x1)))] (tv ((⟨(x0 &&& ~~~((1#64 <<< (m_Len64 (x0 ^^^ x1)).toNat) - 1#64)), ((1#64 <<< (m_Len64 (x0 ^^^ x1)).toNat) - 1#64)⟩ : T)))
    [.o, .o, .o, .w (.bool (decide (nn (x0) > nn (x1)))) (.bool false), .o, .o, .w (.int .u64 (bits .xor .u64 (nn (x0)) (nn (x1)))) (.int .u64 (nn ((x0 ^^^ x1)))), .c 158 #[(.int .u64 (nn ((x0 ^^^ x1))))] (.int .i64 (ii (m_Len64 (x0 ^^^ x1)))), .ov (.bin .shl 22 (.const (.int .u64 ((1)))) (.tmp 13) (.int .u64 ((1))) (.int .i64 (ii ((m_Len64 (x0 ^^^ x1)))))) (.int .u64 (nn ((1#64 <<< (m_Len64 (x0 ^^^ x1)).toNat)))), .w (.int .u64 (IntKind.u64.wrap (nn ((1#64 <<< (m_Len64 (x0 ^^^ x1)).toNat)) - (1)))) (.int .u64 (nn (((1#64 <<< (m_Len64 (x0 ^^^ x1)).toNat) - 1#64)))), .o, .o, .o, .w (.int .u64 (bits .andNot .u64 (nn (x0)) (nn (((1#64 <<< (m_Len64 (x0 ^^^ x1)).toNat) - 1#64))))) (.int .u64 (nn ((x0 &&& ~~~((1#64 <<< (m_Len64 (x0 ^^^ x1)).toNat) - 1#64))))), .o, .o, .a 0]
    [0, 0] (by simp only [AllOk]; exact ⟨congrArg Value.bool ((u_gt x0 x1).trans (by rw [h0])), congrArg (Value.int .u64) (u64_xor x0 x1), ok_Len64 ((x0 ^^^ x1)), (fun w => u64_shl Tryz.prog 22 (.const (.int .u64 ((1)))) (.tmp 13) (1#64) (m_Len64 (x0 ^^^ x1)).toNat .i64 (len_nat _) w), congrArg (Value.int .u64) (u64_sub (1#64 <<< (m_Len64 (x0 ^^^ x1)).toNat) 1#64), congrArg (Value.int .u64) (u64_not x0 ((1#64 <<< (m_Len64 (x0 ^^^ x1)).toNat) - 1#64)), trivial⟩)
    (fun b => by kernel_rfl)
theorem ok_tnum_Range (x0 : BitVec 64) (x1 : BitVec 64) : Con Tryz.prog 150 #[(.int .u64 (nn (x0))), (.int .u64 (nn (x1)))] (tv (m_tnum_Range x0 x1)) := by
  unfold m_tnum_Range
  cases h0 : (BitVec.ult x1 x0)
  · exact p1_tnum_Range x0 x1 h0
  · exact p0_tnum_Range x0 x1 h0
-- (barbican/scalar.facts).none
def m_scalar_facts_none (x0 : S) : Bool :=
  (bif BitVec.ult x0.umax x0.umin then
    (true)
    else (bif BitVec.slt x0.smax x0.smin then
      (true)
      else (!(m_tnum_Is x0.t))))
theorem p0_scalar_facts_none (x0 : S) (h0 : (BitVec.ult x0.umax x0.umin) = true) : Con Tryz.prog 52 #[(sv (x0))] (.bool (true)) :=
  fn_con (P := Tryz.prog) Tryz.func52 (fun xs w => by kernel_rfl) [(sv (x0))] (.bool (true))
    [.o, .o, .o, .o, .a 0, .o, .o, .a 0, .w (.bool (decide (nn (x0.umin) > nn (x0.umax)))) (.bool true), .o, .o, .o, .o, .o]
    [] (by simp only [AllOk]; exact ⟨congrArg Value.bool ((u_gt x0.umin x0.umax).trans (by rw [h0])), trivial⟩)
    (fun b => by kernel_rfl)
theorem p1_scalar_facts_none (x0 : S) (h0 : (BitVec.ult x0.umax x0.umin) = false) (h1 : (BitVec.slt x0.smax x0.smin) = true) : Con Tryz.prog 52 #[(sv (x0))] (.bool (true)) :=
  fn_con (P := Tryz.prog) Tryz.func52 (fun xs w => by kernel_rfl) [(sv (x0))] (.bool (true))
    [.o, .o, .o, .o, .a 0, .o, .o, .a 0, .w (.bool (decide (nn (x0.umin) > nn (x0.umax)))) (.bool false), .o, .o, .o, .a 0, .o, .o, .a 0, .w (.bool (decide (ii (x0.smin) > ii (x0.smax)))) (.bool true), .o, .o, .o, .o]
    [] (by simp only [AllOk]; exact ⟨congrArg Value.bool ((u_gt x0.umin x0.umax).trans (by rw [h0])), congrArg Value.bool ((i_gt x0.smin x0.smax).trans (by rw [h1])), trivial⟩)
    (fun b => by kernel_rfl)
theorem p2_scalar_facts_none (x0 : S) (h0 : (BitVec.ult x0.umax x0.umin) = false) (h1 : (BitVec.slt x0.smax x0.smin) = false) (h2 : (m_tnum_Is x0.t) = true) : Con Tryz.prog 52 #[(sv (x0))] (.bool (false)) :=
  fn_con (P := Tryz.prog) Tryz.func52 (fun xs w => by kernel_rfl) [(sv (x0))] (.bool (false))
    [.o, .o, .o, .o, .a 0, .o, .o, .a 0, .w (.bool (decide (nn (x0.umin) > nn (x0.umax)))) (.bool false), .o, .o, .o, .a 0, .o, .o, .a 0, .w (.bool (decide (ii (x0.smin) > ii (x0.smax)))) (.bool false), .o, .o, .o, .o, .a 0, .c 54 #[(tv (x0.t))] (.bool true), .o, .o, .o]
    [] (by simp only [AllOk]; exact ⟨congrArg Value.bool ((u_gt x0.umin x0.umax).trans (by rw [h0])), congrArg Value.bool ((i_gt x0.smin x0.smax).trans (by rw [h1])), (ok_tnum_Is (x0.t)).val (congrArg Value.bool h2), trivial⟩)
    (fun b => by kernel_rfl)
theorem p3_scalar_facts_none (x0 : S) (h0 : (BitVec.ult x0.umax x0.umin) = false) (h1 : (BitVec.slt x0.smax x0.smin) = false) (h2 : (m_tnum_Is x0.t) = false) : Con Tryz.prog 52 #[(sv (x0))] (.bool (true)) :=
  fn_con (P := Tryz.prog) Tryz.func52 (fun xs w => by kernel_rfl) [(sv (x0))] (.bool (true))
    [.o, .o, .o, .o, .a 0, .o, .o, .a 0, .w (.bool (decide (nn (x0.umin) > nn (x0.umax)))) (.bool false), .o, .o, .o, .a 0, .o, .o, .a 0, .w (.bool (decide (ii (x0.smin) > ii (x0.smax)))) (.bool false), .o, .o, .o, .o, .a 0, .c 54 #[(tv (x0.t))] (.bool false), .o, .o, .o]
    [] (by simp only [AllOk]; exact ⟨congrArg Value.bool ((u_gt x0.umin x0.umax).trans (by rw [h0])), congrArg Value.bool ((i_gt x0.smin x0.smax).trans (by rw [h1])), (ok_tnum_Is (x0.t)).val (congrArg Value.bool h2), trivial⟩)
    (fun b => by kernel_rfl)
theorem ok_scalar_facts_none (x0 : S) : Con Tryz.prog 52 #[(sv (x0))] (.bool (m_scalar_facts_none x0)) := by
  unfold m_scalar_facts_none
  cases h0 : (BitVec.ult x0.umax x0.umin)
  · cases h1 : (BitVec.slt x0.smax x0.smin)
    · cases h2 : (m_tnum_Is x0.t)
      · exact p3_scalar_facts_none x0 h0 h1 h2
      · exact p2_scalar_facts_none x0 h0 h1 h2
    · exact p1_scalar_facts_none x0 h0 h1
  · exact p0_scalar_facts_none x0 h0
-- barbican/scalar.rules
def m_scalar_rules  : Unit :=
  (())
theorem p0_scalar_rules  : Con Tryz.prog 53 #[] (.agg #[.func (.func 120) #[] #[], .func (.func 121) #[] #[], .func (.func 122) #[] #[], .func (.func 123) #[] #[]]) :=
  fn_con (P := Tryz.prog) Tryz.func53 (fun xs w => by kernel_rfl) [] (.agg #[.func (.func 120) #[] #[], .func (.func 121) #[] #[], .func (.func 122) #[] #[], .func (.func 123) #[] #[]])
    [.o, .o, .a 0]
    [0, 0, 0, 0] (by simp only [AllOk])
    (fun b => by kernel_rfl)
theorem ok_scalar_rules  : Con Tryz.prog 53 #[] (.agg #[.func (.func 120) #[] #[], .func (.func 121) #[] #[], .func (.func 122) #[] #[], .func (.func 123) #[] #[]]) := by
  exact p0_scalar_rules  
-- (barbican/scalar.facts).endsByBits
def m_scalar_facts_endsByBits (x0 : S) : S :=
  ((⟨x0.t, (uMax x0.umin (m_tnum_Least x0.t)), (uMin x0.umax (m_tnum_Most x0.t)), x0.smin, x0.smax⟩ : S))
theorem p0_scalar_facts_endsByBits (x0 : S) : Con Tryz.prog 120 #[(sv (x0))] (sv ((⟨x0.t, (uMax x0.umin (m_tnum_Least x0.t)), (uMin x0.umax (m_tnum_Most x0.t)), x0.smin, x0.smax⟩ : S))) :=
  fn_con (P := Tryz.prog) Tryz.func120 (fun xs w => by kernel_rfl) [(sv (x0))] (sv ((⟨x0.t, (uMax x0.umin (m_tnum_Least x0.t)), (uMin x0.umax (m_tnum_Most x0.t)), x0.smin, x0.smax⟩ : S)))
    [.o, .o, .r [0, 1, 2, 3, 4, 5, 6, 7, 8, 9] [] [10], .o, .o, .a 0, .o, .o, .a 0, .c 149 #[(tv (x0.t))] (.int .u64 (nn (m_tnum_Least x0.t))), .w (.int .u64 (if nn (x0.umin) < nn ((m_tnum_Least x0.t)) then nn ((m_tnum_Least x0.t)) else nn (x0.umin))) (.int .u64 (nn ((uMax x0.umin (m_tnum_Least x0.t))))), .o, .o, .a 0, .r [0, 1, 2, 3, 4, 5, 6, 7, 8, 9] [] [10], .o, .o, .a 0, .o, .o, .a 0, .c 145 #[(tv (x0.t))] (.int .u64 (nn (m_tnum_Most x0.t))), .w (.int .u64 (if nn ((m_tnum_Most x0.t)) < nn (x0.umax) then nn ((m_tnum_Most x0.t)) else nn (x0.umax))) (.int .u64 (nn ((uMin x0.umax (m_tnum_Most x0.t))))), .o, .o, .a 0, .a 0, .a 1]
    [1, 1, 1, 1, 1, 1] (by simp only [AllOk]; exact ⟨ok_tnum_Least (x0.t), congrArg (Value.int .u64) (u_max x0.umin (m_tnum_Least x0.t)), ok_tnum_Most (x0.t), congrArg (Value.int .u64) (u_min x0.umax (m_tnum_Most x0.t)), trivial⟩)
    (fun b => by kernel_rfl)
theorem ok_scalar_facts_endsByBits (x0 : S) : Con Tryz.prog 120 #[(sv (x0))] (sv (m_scalar_facts_endsByBits x0)) := by
  unfold m_scalar_facts_endsByBits
  exact p0_scalar_facts_endsByBits x0 
-- (barbican/scalar.facts).bitsByEnds
def m_scalar_facts_bitsByEnds (x0 : S) : S :=
  (bif (m_tnum_Meet x0.t (m_tnum_Range x0.umin x0.umax)).2 then
    ((⟨(m_tnum_Meet x0.t (m_tnum_Range x0.umin x0.umax)).1, x0.umin, x0.umax, x0.smin, x0.smax⟩ : S))
    else ((⟨(⟨1#64, 1#64⟩ : T), x0.umin, x0.umax, x0.smin, x0.smax⟩ : S)))
theorem p0_scalar_facts_bitsByEnds (x0 : S) (h0 : ((m_tnum_Meet x0.t (m_tnum_Range x0.umin x0.umax)).2) = true) : Con Tryz.prog 121 #[(sv (x0))] (sv ((⟨(m_tnum_Meet x0.t (m_tnum_Range x0.umin x0.umax)).1, x0.umin, x0.umax, x0.smin, x0.smax⟩ : S))) :=
  fn_con (P := Tryz.prog) Tryz.func121 (fun xs w => by kernel_rfl) [(sv (x0))] (sv ((⟨(m_tnum_Meet x0.t (m_tnum_Range x0.umin x0.umax)).1, x0.umin, x0.umax, x0.smin, x0.smax⟩ : S)))
    [.o, .o, .r [0, 1, 2, 3, 4, 5, 6, 7, 8, 9, 10, 11, 12, 13] [14] [15, 16], .o, .o, .a 0, .o, .o, .a 0, .o, .o, .a 0, .c 150 #[(.int .u64 (nn (x0.umin))), (.int .u64 (nn (x0.umax)))] (tv (m_tnum_Range x0.umin x0.umax)), .c 45 #[(tv (x0.t)), (tv ((m_tnum_Range x0.umin x0.umax)))] (.tuple #[(tv ((m_tnum_Meet x0.t (m_tnum_Range x0.umin x0.umax)).1)), (.bool ((m_tnum_Meet x0.t (m_tnum_Range x0.umin x0.umax)).2))]), .o, .o, .w (.bool ((m_tnum_Meet x0.t (m_tnum_Range x0.umin x0.umax)).2)) (.bool true), .a 2, .o, .o, .o, .a 2, .o, .o, .a 0, .a 0, .a 1]
    [1, 1, 1, 1, 1, 1] (by simp only [AllOk]; exact ⟨ok_tnum_Range (x0.umin) (x0.umax), ok_tnum_Meet (x0.t) ((m_tnum_Range x0.umin x0.umax)), congrArg Value.bool (by rw [h0]), trivial⟩)
    (fun b => by kernel_rfl)
theorem p1_scalar_facts_bitsByEnds (x0 : S) (h0 : ((m_tnum_Meet x0.t (m_tnum_Range x0.umin x0.umax)).2) = false) : Con Tryz.prog 121 #[(sv (x0))] (sv ((⟨(⟨1#64, 1#64⟩ : T), x0.umin, x0.umax, x0.smin, x0.smax⟩ : S))) :=
  fn_con (P := Tryz.prog) Tryz.func121 (fun xs w => by kernel_rfl) [(sv (x0))] (sv ((⟨(⟨1#64, 1#64⟩ : T), x0.umin, x0.umax, x0.smin, x0.smax⟩ : S)))
    [.o, .o, .r [0, 1, 2, 3, 4, 5, 6, 7, 8, 9, 10, 11, 12, 13] [14] [15, 16], .o, .o, .a 0, .o, .o, .a 0, .o, .o, .a 0, .c 150 #[(.int .u64 (nn (x0.umin))), (.int .u64 (nn (x0.umax)))] (tv (m_tnum_Range x0.umin x0.umax)), .c 45 #[(tv (x0.t)), (tv ((m_tnum_Range x0.umin x0.umax)))] (.tuple #[(tv ((m_tnum_Meet x0.t (m_tnum_Range x0.umin x0.umax)).1)), (.bool ((m_tnum_Meet x0.t (m_tnum_Range x0.umin x0.umax)).2))]), .o, .o, .w (.bool ((m_tnum_Meet x0.t (m_tnum_Range x0.umin x0.umax)).2)) (.bool false), .a 2, .o, .o, .o, .o, .a 2, .a 2, .o, .o, .a 0, .a 0, .a 1]
    [1, 1, 1, 1, 1, 1] (by simp only [AllOk]; exact ⟨ok_tnum_Range (x0.umin) (x0.umax), ok_tnum_Meet (x0.t) ((m_tnum_Range x0.umin x0.umax)), congrArg Value.bool (by rw [h0]), trivial⟩)
    (fun b => by kernel_rfl)
theorem ok_scalar_facts_bitsByEnds (x0 : S) : Con Tryz.prog 121 #[(sv (x0))] (sv (m_scalar_facts_bitsByEnds x0)) := by
  unfold m_scalar_facts_bitsByEnds
  cases h0 : ((m_tnum_Meet x0.t (m_tnum_Range x0.umin x0.umax)).2)
  · exact p1_scalar_facts_bitsByEnds x0 h0
  · exact p0_scalar_facts_bitsByEnds x0 h0
-- (barbican/scalar.facts).signedByUnsigned
def m_scalar_facts_signedByUnsigned (x0 : S) : S :=
  (bif (x0.umin >>> 63) == (x0.umax >>> 63) then
    ((⟨x0.t, x0.umin, x0.umax, (sMax x0.smin x0.umin), (sMin x0.smax x0.umax)⟩ : S))
    else (x0))
theorem p0_scalar_facts_signedByUnsigned (x0 : S) (h0 : ((x0.umin >>> 63) == (x0.umax >>> 63)) = true) : Con Tryz.prog 122 #[(sv (x0))] (sv ((⟨x0.t, x0.umin, x0.umax, (sMax x0.smin x0.umin), (sMin x0.smax x0.umax)⟩ : S))) :=
  fn_con (P := Tryz.prog) Tryz.func122 (fun xs w => by kernel_rfl) [(sv (x0))] (sv ((⟨x0.t, x0.umin, x0.umax, (sMax x0.smin x0.umin), (sMin x0.smax x0.umax)⟩ : S)))
    [.o, .o, .o, .o, .a 0, .ov (.bin .shr 22 (.tmp 5) (.const (.int .u64 ((63)))) (.int .u64 (nn (x0.umin))) (.int .u64 ((63)))) (.int .u64 (nn ((x0.umin >>> 63)))), .o, .o, .a 0, .ov (.bin .shr 22 (.tmp 9) (.const (.int .u64 ((63)))) (.int .u64 (nn (x0.umax))) (.int .u64 ((63)))) (.int .u64 (nn ((x0.umax >>> 63)))), .w (.bool (nn ((x0.umin >>> 63)) == nn ((x0.umax >>> 63)))) (.bool true), .o, .o, .a 0, .o, .o, .a 0, .w (.int .i64 (IntKind.i64.wrap (nn (x0.umin)))) (.int .i64 (ii (x0.umin))), .w (.int .i64 (if ii (x0.smin) < ii (x0.umin) then ii (x0.umin) else ii (x0.smin))) (.int .i64 (ii ((sMax x0.smin x0.umin)))), .o, .o, .a 0, .o, .o, .a 0, .o, .o, .a 0, .w (.int .i64 (IntKind.i64.wrap (nn (x0.umax)))) (.int .i64 (ii (x0.umax))), .w (.int .i64 (if ii (x0.umax) < ii (x0.smax) then ii (x0.umax) else ii (x0.smax))) (.int .i64 (ii ((sMin x0.smax x0.umax)))), .o, .o, .a 0, .a 0, .a 1]
    [1, 1, 1, 1, 1, 1] (by simp only [AllOk]; exact ⟨(fun w => u64_shr Tryz.prog 22 (.tmp 5) (.const (.int .u64 ((63)))) (x0.umin) 63 .u64 rfl w), (fun w => u64_shr Tryz.prog 22 (.tmp 9) (.const (.int .u64 ((63)))) (x0.umax) 63 .u64 rfl w), congrArg Value.bool ((u_eq (x0.umin >>> 63) (x0.umax >>> 63)).trans (by rw [h0])), congrArg (Value.int .i64) (i64_of_u64 (x0.umin)), congrArg (Value.int .i64) (i_max x0.smin x0.umin), congrArg (Value.int .i64) (i64_of_u64 (x0.umax)), congrArg (Value.int .i64) (i_min x0.smax x0.umax), trivial⟩)
    (fun b => by kernel_rfl)
theorem p1_scalar_facts_signedByUnsigned (x0 : S) (h0 : ((x0.umin >>> 63) == (x0.umax >>> 63)) = false) : Con Tryz.prog 122 #[(sv (x0))] (sv (x0)) :=
  fn_con (P := Tryz.prog) Tryz.func122 (fun xs w => by kernel_rfl) [(sv (x0))] (sv (x0))
    [.o, .o, .o, .o, .a 0, .ov (.bin .shr 22 (.tmp 5) (.const (.int .u64 ((63)))) (.int .u64 (nn (x0.umin))) (.int .u64 ((63)))) (.int .u64 (nn ((x0.umin >>> 63)))), .o, .o, .a 0, .ov (.bin .shr 22 (.tmp 9) (.const (.int .u64 ((63)))) (.int .u64 (nn (x0.umax))) (.int .u64 ((63)))) (.int .u64 (nn ((x0.umax >>> 63)))), .w (.bool (nn ((x0.umin >>> 63)) == nn ((x0.umax >>> 63)))) (.bool false), .a 0, .a 1]
    [1, 1, 1, 1, 1, 1] (by simp only [AllOk]; exact ⟨(fun w => u64_shr Tryz.prog 22 (.tmp 5) (.const (.int .u64 ((63)))) (x0.umin) 63 .u64 rfl w), (fun w => u64_shr Tryz.prog 22 (.tmp 9) (.const (.int .u64 ((63)))) (x0.umax) 63 .u64 rfl w), congrArg Value.bool ((u_eq (x0.umin >>> 63) (x0.umax >>> 63)).trans (by rw [h0])), trivial⟩)
    (fun b => by kernel_rfl)
theorem ok_scalar_facts_signedByUnsigned (x0 : S) : Con Tryz.prog 122 #[(sv (x0))] (sv (m_scalar_facts_signedByUnsigned x0)) := by
  unfold m_scalar_facts_signedByUnsigned
  cases h0 : ((x0.umin >>> 63) == (x0.umax >>> 63))
  · exact p1_scalar_facts_signedByUnsigned x0 h0
  · exact p0_scalar_facts_signedByUnsigned x0 h0
-- (barbican/scalar.facts).unsignedBySigned
def m_scalar_facts_unsignedBySigned (x0 : S) : S :=
  (bif BitVec.slt x0.smin 0#64 then
    (bif BitVec.slt x0.smax 0#64 then
      ((⟨x0.t, (uMax x0.umin x0.smin), (uMin x0.umax x0.smax), x0.smin, x0.smax⟩ : S))
      else (x0))
    else (bif BitVec.slt x0.smax 0#64 then
      (x0)
      else ((⟨x0.t, (uMax x0.umin x0.smin), (uMin x0.umax x0.smax), x0.smin, x0.smax⟩ : S))))
theorem p0_scalar_facts_unsignedBySigned (x0 : S) (h0 : (BitVec.slt x0.smin 0#64) = true) (h1 : (BitVec.slt x0.smax 0#64) = true) : Con Tryz.prog 123 #[(sv (x0))] (sv ((⟨x0.t, (uMax x0.umin x0.smin), (uMin x0.umax x0.smax), x0.smin, x0.smax⟩ : S))) :=
  fn_con (P := Tryz.prog) Tryz.func123 (fun xs w => by kernel_rfl) [(sv (x0))] (sv ((⟨x0.t, (uMax x0.umin x0.smin), (uMin x0.umax x0.smax), x0.smin, x0.smax⟩ : S)))
    [.o, .o, .o, .o, .a 0, .w (.bool (decide (ii (x0.smin) < (0)))) (.bool true), .o, .o, .a 0, .w (.bool (decide (ii (x0.smax) < (0)))) (.bool true), .o, .o, .o, .a 0, .o, .o, .a 0, .w (.int .u64 (IntKind.u64.wrap (ii (x0.smin)))) (.int .u64 (nn (x0.smin))), .w (.int .u64 (if nn (x0.umin) < nn (x0.smin) then nn (x0.smin) else nn (x0.umin))) (.int .u64 (nn ((uMax x0.umin x0.smin)))), .o, .o, .a 0, .o, .o, .a 0, .o, .o, .a 0, .w (.int .u64 (IntKind.u64.wrap (ii (x0.smax)))) (.int .u64 (nn (x0.smax))), .w (.int .u64 (if nn (x0.smax) < nn (x0.umax) then nn (x0.smax) else nn (x0.umax))) (.int .u64 (nn ((uMin x0.umax x0.smax)))), .o, .o, .a 0, .a 0, .a 1]
    [1, 1, 1, 1, 1, 1] (by simp only [AllOk]; exact ⟨congrArg Value.bool ((i_lt x0.smin 0#64).trans (by rw [h0])), congrArg Value.bool ((i_lt x0.smax 0#64).trans (by rw [h1])), congrArg (Value.int .u64) (u64_of_i64 (x0.smin)), congrArg (Value.int .u64) (u_max x0.umin x0.smin), congrArg (Value.int .u64) (u64_of_i64 (x0.smax)), congrArg (Value.int .u64) (u_min x0.umax x0.smax), trivial⟩)
    (fun b => by kernel_rfl)
theorem p1_scalar_facts_unsignedBySigned (x0 : S) (h0 : (BitVec.slt x0.smin 0#64) = true) (h1 : (BitVec.slt x0.smax 0#64) = false) : Con Tryz.prog 123 #[(sv (x0))] (sv (x0)) :=
  fn_con (P := Tryz.prog) Tryz.func123 (fun xs w => by kernel_rfl) [(sv (x0))] (sv (x0))
    [.o, .o, .o, .o, .a 0, .w (.bool (decide (ii (x0.smin) < (0)))) (.bool true), .o, .o, .a 0, .w (.bool (decide (ii (x0.smax) < (0)))) (.bool false), .o, .a 0, .a 1]
    [1, 1, 1, 1, 1, 1] (by simp only [AllOk]; exact ⟨congrArg Value.bool ((i_lt x0.smin 0#64).trans (by rw [h0])), congrArg Value.bool ((i_lt x0.smax 0#64).trans (by rw [h1])), trivial⟩)
    (fun b => by kernel_rfl)
theorem p2_scalar_facts_unsignedBySigned (x0 : S) (h0 : (BitVec.slt x0.smin 0#64) = false) (h1 : (BitVec.slt x0.smax 0#64) = true) : Con Tryz.prog 123 #[(sv (x0))] (sv (x0)) :=
  fn_con (P := Tryz.prog) Tryz.func123 (fun xs w => by kernel_rfl) [(sv (x0))] (sv (x0))
    [.o, .o, .o, .o, .a 0, .w (.bool (decide (ii (x0.smin) < (0)))) (.bool false), .o, .o, .a 0, .w (.bool (decide (ii (x0.smax) < (0)))) (.bool true), .o, .a 0, .a 1]
    [1, 1, 1, 1, 1, 1] (by simp only [AllOk]; exact ⟨congrArg Value.bool ((i_lt x0.smin 0#64).trans (by rw [h0])), congrArg Value.bool ((i_lt x0.smax 0#64).trans (by rw [h1])), trivial⟩)
    (fun b => by kernel_rfl)
theorem p3_scalar_facts_unsignedBySigned (x0 : S) (h0 : (BitVec.slt x0.smin 0#64) = false) (h1 : (BitVec.slt x0.smax 0#64) = false) : Con Tryz.prog 123 #[(sv (x0))] (sv ((⟨x0.t, (uMax x0.umin x0.smin), (uMin x0.umax x0.smax), x0.smin, x0.smax⟩ : S))) :=
  fn_con (P := Tryz.prog) Tryz.func123 (fun xs w => by kernel_rfl) [(sv (x0))] (sv ((⟨x0.t, (uMax x0.umin x0.smin), (uMin x0.umax x0.smax), x0.smin, x0.smax⟩ : S)))
    [.o, .o, .o, .o, .a 0, .w (.bool (decide (ii (x0.smin) < (0)))) (.bool false), .o, .o, .a 0, .w (.bool (decide (ii (x0.smax) < (0)))) (.bool false), .o, .o, .o, .a 0, .o, .o, .a 0, .w (.int .u64 (IntKind.u64.wrap (ii (x0.smin)))) (.int .u64 (nn (x0.smin))), .w (.int .u64 (if nn (x0.umin) < nn (x0.smin) then nn (x0.smin) else nn (x0.umin))) (.int .u64 (nn ((uMax x0.umin x0.smin)))), .o, .o, .a 0, .o, .o, .a 0, .o, .o, .a 0, .w (.int .u64 (IntKind.u64.wrap (ii (x0.smax)))) (.int .u64 (nn (x0.smax))), .w (.int .u64 (if nn (x0.smax) < nn (x0.umax) then nn (x0.smax) else nn (x0.umax))) (.int .u64 (nn ((uMin x0.umax x0.smax)))), .o, .o, .a 0, .a 0, .a 1]
    [1, 1, 1, 1, 1, 1] (by simp only [AllOk]; exact ⟨congrArg Value.bool ((i_lt x0.smin 0#64).trans (by rw [h0])), congrArg Value.bool ((i_lt x0.smax 0#64).trans (by rw [h1])), congrArg (Value.int .u64) (u64_of_i64 (x0.smin)), congrArg (Value.int .u64) (u_max x0.umin x0.smin), congrArg (Value.int .u64) (u64_of_i64 (x0.smax)), congrArg (Value.int .u64) (u_min x0.umax x0.smax), trivial⟩)
    (fun b => by kernel_rfl)
theorem ok_scalar_facts_unsignedBySigned (x0 : S) : Con Tryz.prog 123 #[(sv (x0))] (sv (m_scalar_facts_unsignedBySigned x0)) := by
  unfold m_scalar_facts_unsignedBySigned
  cases h0 : (BitVec.slt x0.smin 0#64)
  · cases h1 : (BitVec.slt x0.smax 0#64)
    · exact p3_scalar_facts_unsignedBySigned x0 h0 h1
    · exact p2_scalar_facts_unsignedBySigned x0 h0 h1
  · cases h1 : (BitVec.slt x0.smax 0#64)
    · exact p1_scalar_facts_unsignedBySigned x0 h0 h1
    · exact p0_scalar_facts_unsignedBySigned x0 h0 h1
end Go.Proofs.YtmhiiahfjoijgaaGreat
