/-
  The law on numbers that go from register to register, by the program's text.
-/
import Derived.Test.YtjfiakgkeniocaaL16K
namespace Go.Proofs.Ytjfiakgkeniocaa
open Go.RowKit
set_option linter.unusedVariables false
set_option linter.unusedSimpArgs false
set_option linter.unusedSectionVars false
set_option maxRecDepth 100000
set_option maxHeartbeats 4000000
abbrev cu8 (x : BitVec 8) : List Value := [.int .u8 (nn x)]
theorem cu8_len (x : BitVec 8) : (cu8 x).length = 1 := rfl
noncomputable def zr22 : Value := (Try.prog.info? 26).bind TypeInfo.zero |>.getD undef
theorem rt22 : RowT Try.prog 22 26 ((Try.prog.info? 26).getD default) zr22 5 12 := ⟨by kernel_rfl, by kernel_rfl, by kernel_rfl, by kernel_rfl, by kernel_rfl, by kernel_rfl, by decide⟩
abbrev cu16 (x : BitVec 16) : List Value := [.int .u16 (nn x)]
theorem cu16_len (x : BitVec 16) : (cu16 x).length = 1 := rfl
theorem cu16_one (x : BitVec 16) : ((cu16 x).all fun u => u.oneCell') = true := rfl
structure Arr123 where
  x0 : Int
  x1 : Int
  x2 : Int
  x3 : Int
  x4 : Int
abbrev c_Arr123 (x : Arr123) : List Value := [.int .i64 (x.x0), .int .i64 (x.x1), .int .i64 (x.x2), .int .i64 (x.x3), .int .i64 (x.x4)]
structure Proto where
  fName : ByteArray
  fArgs : Arr123
  fRet : Int
  fMaps : Int
  fAcquire : Bool
  fRelease : Bool
def v_Proto (x : Proto) : Value := .agg #[.string x.fName, .int .i64 (x.fArgs.x0), .int .i64 (x.fArgs.x1), .int .i64 (x.fArgs.x2), .int .i64 (x.fArgs.x3), .int .i64 (x.fArgs.x4), .int .i64 (x.fRet), .int .i64 (x.fMaps), .bool (x.fAcquire), .bool (x.fRelease)]
structure Arr142 where
  x0 : Proto
  x1 : Proto
  x2 : Proto
  x3 : Proto
  x4 : Proto
  x5 : Proto
  x6 : Proto
  x7 : Proto
  x8 : Proto
  x9 : Proto
  x10 : Proto
  x11 : Proto
  x12 : Proto
  x13 : Proto
  x14 : Proto
  x15 : Proto
  x16 : Proto
  x17 : Proto
  x18 : Proto
  x19 : Proto
  x20 : Proto
  x21 : Proto
  x22 : Proto
  x23 : Proto
  x24 : Proto
  x25 : Proto
  x26 : Proto
  x27 : Proto
  x28 : Proto
def tb0_c : List Value := [.string (⟨#[]⟩ : ByteArray), .int .i64 (0), .int .i64 (0), .int .i64 (0), .int .i64 (0), .int .i64 (0), .int .i64 (0), .int .i64 (0), .bool false, .bool false, .string (⟨#[109, 97, 112, 95, 108, 111, 111, 107, 117, 112]⟩ : ByteArray), .int .i64 (2), .int .i64 (3), .int .i64 (0), .int .i64 (0), .int .i64 (0), .int .i64 (1), .int .i64 (6), .bool false, .bool false, .string (⟨#[109, 97, 112, 95, 117, 112, 100, 97, 116, 101]⟩ : ByteArray), .int .i64 (2), .int .i64 (3), .int .i64 (4), .int .i64 (1), .int .i64 (0), .int .i64 (0), .int .i64 (6), .bool false, .bool false, .string (⟨#[109, 97, 112, 95, 100, 101, 108, 101, 116, 101]⟩ : ByteArray), .int .i64 (2), .int .i64 (3), .int .i64 (0), .int .i64 (0), .int .i64 (0), .int .i64 (0), .int .i64 (6), .bool false, .bool false, .string (⟨#[99, 108, 111, 99, 107]⟩ : ByteArray), .int .i64 (0), .int .i64 (0), .int .i64 (0), .int .i64 (0), .int .i64 (0), .int .i64 (0), .int .i64 (0), .bool false, .bool false, .string (⟨#[114, 97, 110, 100, 111, 109]⟩ : ByteArray), .int .i64 (0), .int .i64 (0), .int .i64 (0), .int .i64 (0), .int .i64 (0), .int .i64 (0), .int .i64 (0), .bool false, .bool false, .string (⟨#[116, 97, 105, 108, 95, 99, 97, 108, 108]⟩ : ByteArray), .int .i64 (8), .int .i64 (2), .int .i64 (1), .int .i64 (0), .int .i64 (0), .int .i64 (0), .int .i64 (8), .bool false, .bool false, .string (⟨#[108, 111, 111, 112]⟩ : ByteArray), .int .i64 (1), .int .i64 (9), .int .i64 (17), .int .i64 (0), .int .i64 (0), .int .i64 (0), .int .i64 (0), .bool false, .bool false, .string (⟨#[114, 105, 110, 103, 95, 111, 117, 116, 112, 117, 116]⟩ : ByteArray), .int .i64 (2), .int .i64 (5), .int .i64 (7), .int .i64 (0), .int .i64 (0), .int .i64 (0), .int .i64 (16), .bool false, .bool false, .string (⟨#[114, 105, 110, 103, 95, 114, 101, 115, 101, 114, 118, 101]⟩ : ByteArray), .int .i64 (2), .int .i64 (1), .int .i64 (0), .int .i64 (0), .int .i64 (0), .int .i64 (2), .int .i64 (16), .bool true, .bool false, .string (⟨#[114, 105, 110, 103, 95, 115, 117, 98, 109, 105, 116]⟩ : ByteArray), .int .i64 (10), .int .i64 (0), .int .i64 (0), .int .i64 (0), .int .i64 (0), .int .i64 (0), .int .i64 (0), .bool false, .bool true, .string (⟨#[114, 105, 110, 103, 95, 100, 105, 115, 99, 97, 114, 100]⟩ : ByteArray), .int .i64 (10), .int .i64 (0), .int .i64 (0), .int .i64 (0), .int .i64 (0), .int .i64 (0), .int .i64 (0), .bool false, .bool true, .string (⟨#[114, 105, 110, 103, 95, 113, 117, 101, 114, 121]⟩ : ByteArray), .int .i64 (2), .int .i64 (0), .int .i64 (0), .int .i64 (0), .int .i64 (0), .int .i64 (0), .int .i64 (16), .bool false, .bool false, .string (⟨#[115, 111, 99, 107, 95, 108, 111, 111, 107, 117, 112]⟩ : ByteArray), .int .i64 (8), .int .i64 (5), .int .i64 (7), .int .i64 (0), .int .i64 (0), .int .i64 (3), .int .i64 (0), .bool true, .bool false, .string (⟨#[115, 111, 99, 107, 95, 114, 101, 108, 101, 97, 115, 101]⟩ : ByteArray), .int .i64 (11), .int .i64 (0), .int .i64 (0), .int .i64 (0), .int .i64 (0), .int .i64 (0), .int .i64 (0), .bool false, .bool true, .string (⟨#[116, 105, 109, 101, 114, 95, 105, 110, 105, 116]⟩ : ByteArray), .int .i64 (12), .int .i64 (2), .int .i64 (0), .int .i64 (0), .int .i64 (0), .int .i64 (0), .int .i64 (6), .bool false, .bool false, .string (⟨#[116, 105, 109, 101, 114, 95, 99, 97, 108, 108, 98, 97, 99, 107]⟩ : ByteArray), .int .i64 (12), .int .i64 (9), .int .i64 (0), .int .i64 (0), .int .i64 (0), .int .i64 (0), .int .i64 (0), .bool false, .bool false, .string (⟨#[116, 105, 109, 101, 114, 95, 115, 116, 97, 114, 116]⟩ : ByteArray), .int .i64 (12), .int .i64 (1), .int .i64 (0), .int .i64 (0), .int .i64 (0), .int .i64 (0), .int .i64 (0), .bool false, .bool false, .string (⟨#[116, 105, 109, 101, 114, 95, 99, 97, 110, 99, 101, 108]⟩ : ByteArray), .int .i64 (12), .int .i64 (0), .int .i64 (0), .int .i64 (0), .int .i64 (0), .int .i64 (0), .int .i64 (0), .bool false, .bool false, .string (⟨#[100, 121, 110, 95, 114, 101, 115, 101, 114, 118, 101]⟩ : ByteArray), .int .i64 (2), .int .i64 (1), .int .i64 (13), .int .i64 (0), .int .i64 (0), .int .i64 (0), .int .i64 (16), .bool true, .bool false, .string (⟨#[100, 121, 110, 95, 115, 117, 98, 109, 105, 116]⟩ : ByteArray), .int .i64 (14), .int .i64 (0), .int .i64 (0), .int .i64 (0), .int .i64 (0), .int .i64 (0), .int .i64 (0), .bool false, .bool true, .string (⟨#[100, 121, 110, 95, 100, 105, 115, 99, 97, 114, 100]⟩ : ByteArray), .int .i64 (14), .int .i64 (0), .int .i64 (0), .int .i64 (0), .int .i64 (0), .int .i64 (0), .int .i64 (0), .bool false, .bool true, .string (⟨#[100, 121, 110, 95, 109, 101, 109]⟩ : ByteArray), .int .i64 (5), .int .i64 (7), .int .i64 (13), .int .i64 (0), .int .i64 (0), .int .i64 (0), .int .i64 (0), .bool false, .bool false, .string (⟨#[100, 121, 110, 95, 114, 101, 97, 100]⟩ : ByteArray), .int .i64 (6), .int .i64 (7), .int .i64 (14), .int .i64 (1), .int .i64 (0), .int .i64 (0), .int .i64 (0), .bool false, .bool false, .string (⟨#[100, 121, 110, 95, 119, 114, 105, 116, 101]⟩ : ByteArray), .int .i64 (14), .int .i64 (1), .int .i64 (5), .int .i64 (7), .int .i64 (0), .int .i64 (0), .int .i64 (0), .bool false, .bool false, .string (⟨#[100, 121, 110, 95, 100, 97, 116, 97]⟩ : ByteArray), .int .i64 (14), .int .i64 (1), .int .i64 (1), .int .i64 (0), .int .i64 (0), .int .i64 (4), .int .i64 (0), .bool false, .bool false, .string (⟨#[105, 116, 101, 114, 95, 110, 101, 119]⟩ : ByteArray), .int .i64 (15), .int .i64 (1), .int .i64 (1), .int .i64 (0), .int .i64 (0), .int .i64 (0), .int .i64 (0), .bool true, .bool false, .string (⟨#[105, 116, 101, 114, 95, 110, 101, 120, 116]⟩ : ByteArray), .int .i64 (16), .int .i64 (0), .int .i64 (0), .int .i64 (0), .int .i64 (0), .int .i64 (5), .int .i64 (0), .bool false, .bool false, .string (⟨#[105, 116, 101, 114, 95, 100, 114, 111, 112]⟩ : ByteArray), .int .i64 (16), .int .i64 (0), .int .i64 (0), .int .i64 (0), .int .i64 (0), .int .i64 (0), .int .i64 (0), .bool false, .bool true]
def tb0 (j : Nat) : Proto := match j with
  | 0 => (⟨(⟨#[]⟩ : ByteArray), (⟨0, 0, 0, 0, 0⟩ : Arr123), 0, 0, false, false⟩ : Proto)
  | 1 => (⟨(⟨#[109, 97, 112, 95, 108, 111, 111, 107, 117, 112]⟩ : ByteArray), (⟨2, 3, 0, 0, 0⟩ : Arr123), 1, 6, false, false⟩ : Proto)
  | 2 => (⟨(⟨#[109, 97, 112, 95, 117, 112, 100, 97, 116, 101]⟩ : ByteArray), (⟨2, 3, 4, 1, 0⟩ : Arr123), 0, 6, false, false⟩ : Proto)
  | 3 => (⟨(⟨#[109, 97, 112, 95, 100, 101, 108, 101, 116, 101]⟩ : ByteArray), (⟨2, 3, 0, 0, 0⟩ : Arr123), 0, 6, false, false⟩ : Proto)
  | 4 => (⟨(⟨#[99, 108, 111, 99, 107]⟩ : ByteArray), (⟨0, 0, 0, 0, 0⟩ : Arr123), 0, 0, false, false⟩ : Proto)
  | 5 => (⟨(⟨#[114, 97, 110, 100, 111, 109]⟩ : ByteArray), (⟨0, 0, 0, 0, 0⟩ : Arr123), 0, 0, false, false⟩ : Proto)
  | 6 => (⟨(⟨#[116, 97, 105, 108, 95, 99, 97, 108, 108]⟩ : ByteArray), (⟨8, 2, 1, 0, 0⟩ : Arr123), 0, 8, false, false⟩ : Proto)
  | 7 => (⟨(⟨#[108, 111, 111, 112]⟩ : ByteArray), (⟨1, 9, 17, 0, 0⟩ : Arr123), 0, 0, false, false⟩ : Proto)
  | 8 => (⟨(⟨#[114, 105, 110, 103, 95, 111, 117, 116, 112, 117, 116]⟩ : ByteArray), (⟨2, 5, 7, 0, 0⟩ : Arr123), 0, 16, false, false⟩ : Proto)
  | 9 => (⟨(⟨#[114, 105, 110, 103, 95, 114, 101, 115, 101, 114, 118, 101]⟩ : ByteArray), (⟨2, 1, 0, 0, 0⟩ : Arr123), 2, 16, true, false⟩ : Proto)
  | 10 => (⟨(⟨#[114, 105, 110, 103, 95, 115, 117, 98, 109, 105, 116]⟩ : ByteArray), (⟨10, 0, 0, 0, 0⟩ : Arr123), 0, 0, false, true⟩ : Proto)
  | 11 => (⟨(⟨#[114, 105, 110, 103, 95, 100, 105, 115, 99, 97, 114, 100]⟩ : ByteArray), (⟨10, 0, 0, 0, 0⟩ : Arr123), 0, 0, false, true⟩ : Proto)
  | 12 => (⟨(⟨#[114, 105, 110, 103, 95, 113, 117, 101, 114, 121]⟩ : ByteArray), (⟨2, 0, 0, 0, 0⟩ : Arr123), 0, 16, false, false⟩ : Proto)
  | 13 => (⟨(⟨#[115, 111, 99, 107, 95, 108, 111, 111, 107, 117, 112]⟩ : ByteArray), (⟨8, 5, 7, 0, 0⟩ : Arr123), 3, 0, true, false⟩ : Proto)
  | 14 => (⟨(⟨#[115, 111, 99, 107, 95, 114, 101, 108, 101, 97, 115, 101]⟩ : ByteArray), (⟨11, 0, 0, 0, 0⟩ : Arr123), 0, 0, false, true⟩ : Proto)
  | 15 => (⟨(⟨#[116, 105, 109, 101, 114, 95, 105, 110, 105, 116]⟩ : ByteArray), (⟨12, 2, 0, 0, 0⟩ : Arr123), 0, 6, false, false⟩ : Proto)
  | 16 => (⟨(⟨#[116, 105, 109, 101, 114, 95, 99, 97, 108, 108, 98, 97, 99, 107]⟩ : ByteArray), (⟨12, 9, 0, 0, 0⟩ : Arr123), 0, 0, false, false⟩ : Proto)
  | 17 => (⟨(⟨#[116, 105, 109, 101, 114, 95, 115, 116, 97, 114, 116]⟩ : ByteArray), (⟨12, 1, 0, 0, 0⟩ : Arr123), 0, 0, false, false⟩ : Proto)
  | 18 => (⟨(⟨#[116, 105, 109, 101, 114, 95, 99, 97, 110, 99, 101, 108]⟩ : ByteArray), (⟨12, 0, 0, 0, 0⟩ : Arr123), 0, 0, false, false⟩ : Proto)
  | 19 => (⟨(⟨#[100, 121, 110, 95, 114, 101, 115, 101, 114, 118, 101]⟩ : ByteArray), (⟨2, 1, 13, 0, 0⟩ : Arr123), 0, 16, true, false⟩ : Proto)
  | 20 => (⟨(⟨#[100, 121, 110, 95, 115, 117, 98, 109, 105, 116]⟩ : ByteArray), (⟨14, 0, 0, 0, 0⟩ : Arr123), 0, 0, false, true⟩ : Proto)
  | 21 => (⟨(⟨#[100, 121, 110, 95, 100, 105, 115, 99, 97, 114, 100]⟩ : ByteArray), (⟨14, 0, 0, 0, 0⟩ : Arr123), 0, 0, false, true⟩ : Proto)
  | 22 => (⟨(⟨#[100, 121, 110, 95, 109, 101, 109]⟩ : ByteArray), (⟨5, 7, 13, 0, 0⟩ : Arr123), 0, 0, false, false⟩ : Proto)
  | 23 => (⟨(⟨#[100, 121, 110, 95, 114, 101, 97, 100]⟩ : ByteArray), (⟨6, 7, 14, 1, 0⟩ : Arr123), 0, 0, false, false⟩ : Proto)
  | 24 => (⟨(⟨#[100, 121, 110, 95, 119, 114, 105, 116, 101]⟩ : ByteArray), (⟨14, 1, 5, 7, 0⟩ : Arr123), 0, 0, false, false⟩ : Proto)
  | 25 => (⟨(⟨#[100, 121, 110, 95, 100, 97, 116, 97]⟩ : ByteArray), (⟨14, 1, 1, 0, 0⟩ : Arr123), 4, 0, false, false⟩ : Proto)
  | 26 => (⟨(⟨#[105, 116, 101, 114, 95, 110, 101, 119]⟩ : ByteArray), (⟨15, 1, 1, 0, 0⟩ : Arr123), 0, 0, true, false⟩ : Proto)
  | 27 => (⟨(⟨#[105, 116, 101, 114, 95, 110, 101, 120, 116]⟩ : ByteArray), (⟨16, 0, 0, 0, 0⟩ : Arr123), 5, 0, false, false⟩ : Proto)
  | 28 => (⟨(⟨#[105, 116, 101, 114, 95, 100, 114, 111, 112]⟩ : ByteArray), (⟨16, 0, 0, 0, 0⟩ : Arr123), 0, 0, false, true⟩ : Proto)
  | _ => (⟨(⟨#[105, 116, 101, 114, 95, 100, 114, 111, 112]⟩ : ByteArray), (⟨16, 0, 0, 0, 0⟩ : Arr123), 0, 0, false, true⟩ : Proto)
theorem tb0_at {j : Nat} (h : j < 29) : Value.agg ((⟨tb0_c⟩ : Array Value).extract (j * 10) (j * 10 + 10)) = (v_Proto (tb0 j)) := by
  match j, h with
  | 0, _ => show _ = _; kernel_rfl
  | 1, _ => show _ = _; kernel_rfl
  | 2, _ => show _ = _; kernel_rfl
  | 3, _ => show _ = _; kernel_rfl
  | 4, _ => show _ = _; kernel_rfl
  | 5, _ => show _ = _; kernel_rfl
  | 6, _ => show _ = _; kernel_rfl
  | 7, _ => show _ = _; kernel_rfl
  | 8, _ => show _ = _; kernel_rfl
  | 9, _ => show _ = _; kernel_rfl
  | 10, _ => show _ = _; kernel_rfl
  | 11, _ => show _ = _; kernel_rfl
  | 12, _ => show _ = _; kernel_rfl
  | 13, _ => show _ = _; kernel_rfl
  | 14, _ => show _ = _; kernel_rfl
  | 15, _ => show _ = _; kernel_rfl
  | 16, _ => show _ = _; kernel_rfl
  | 17, _ => show _ = _; kernel_rfl
  | 18, _ => show _ = _; kernel_rfl
  | 19, _ => show _ = _; kernel_rfl
  | 20, _ => show _ = _; kernel_rfl
  | 21, _ => show _ = _; kernel_rfl
  | 22, _ => show _ = _; kernel_rfl
  | 23, _ => show _ = _; kernel_rfl
  | 24, _ => show _ = _; kernel_rfl
  | 25, _ => show _ = _; kernel_rfl
  | 26, _ => show _ = _; kernel_rfl
  | 27, _ => show _ = _; kernel_rfl
  | 28, _ => show _ = _; kernel_rfl
  | j + 29, h => omega
def vt5 (r : (Proto) × (Int)) : Value := .tuple #[((v_Proto r.1)), (.int .i64 (r.2))]
def g_Arr123 (x : Arr123) (j : Nat) : Int := if j = 0 then x.x0 else if j = 1 then x.x1 else if j = 2 then x.x2 else if j = 3 then x.x3 else x.x4
theorem g_Arr123_at (x : Arr123) {j : Nat} (h : j < 5) : ((c_Arr123 x).drop (j * 1)).take 1 = [.int .i64 ((g_Arr123 x j))] := by
  match j, h with
  | 0, _ => rfl
  | 1, _ => rfl
  | 2, _ => rfl
  | 3, _ => rfl
  | 4, _ => rfl
  | j + 5, h => omega
def vt7 (r : (BitVec 16) × (Bool)) : Value := .tuple #[(.int .u16 (nn r.1)), (.bool (r.2))]
noncomputable def zr64 : Value := (Try.prog.info? 4).bind TypeInfo.zero |>.getD undef
theorem rt64 : RowT Try.prog 64 4 ((Try.prog.info? 4).getD default) zr64 1 1 := ⟨by kernel_rfl, by kernel_rfl, by kernel_rfl, by kernel_rfl, by kernel_rfl, by kernel_rfl, by decide⟩
noncomputable def m_flow_program_isSecond_v3 (n0 : Nat) (A0 : Nat → Insn) (y1 : Int) : Option (Bool) :=
  bif decide (0 < y1) then
    (bif inR (IntKind.i64.wrap (y1 - 1)) n0 then
      (some (((A0 ((IntKind.i64.wrap (y1 - 1))).toNat)).fOp == 24#8))
    else (none))
  else (some false)
section
variable {M : Nat → Prop} {B0 : Nat} {S : World → Prop} (hU : Up M B0 S) (a0 : Option Addr) (p0 : Nat) (q0 : Nat) (n0 : Nat) (k0 : Nat) (A0 : Nat → Insn) (hR0 : Ro S c_Insn 5 a0 p0 q0 n0 A0) (y1 : Int)
include hU a0 p0 q0 n0 k0 A0 hR0 y1
theorem ok_flow_program_isSecond_v3 (r : Bool) (e : m_flow_program_isSecond_v3 n0 A0 y1 = some r) : ConG Try.prog S 62 #[.slice a0 n0 (n0 + k0), .int .i64 (y1)] (.bool (r)) := by
  unfold m_flow_program_isSecond_v3 at e
  replace e := cond_eq_or e
  rcases e with ⟨hq0, e⟩ | ⟨hq0, e⟩
  · replace e := cond_eq_or e
    rcases e with ⟨hq1, e⟩ | ⟨hq1, e⟩
    · injection e with e; subst e; exact fn_conG hU (P := Try.prog) Try.func62 (fun xs w => by kernel_rfl) _ _ [.o, .o, .b (z_gtrT hq0), .o, .o, .o, .o, .q (ixRo_ok (kd := .i64) (T := 89) (x := (IntKind.i64.wrap (y1 - 1))) (sz := 5) rfl (fun w => by kernel_rfl) hR0 hq1), .o, .l (accRo hR0 c_Insn_len (inR_nat hq1) 0 [.int .u8 (nn ((A0 ((IntKind.i64.wrap (y1 - 1))).toNat)).fOp)] rfl), .t (u_eq ((A0 ((IntKind.i64.wrap (y1 - 1))).toNat)).fOp (24#8)) rfl, .o, .o] [] (fun b => by kernel_rfl)
    · exact none_some e
  · injection e with e; subst e; exact fn_conG hU (P := Try.prog) Try.func62 (fun xs w => by kernel_rfl) _ _ [.o, .o, .b (z_gtrF hq0), .o, .o, .o] [] (fun b => by kernel_rfl)
inductive R_flow_program_next_v3 where
  | e0 
  | e1 (c1_0 : Int)
  | e2 (c2_0 : Int) (c2_1 : Int)
noncomputable def m_flow_program_next_v3 (n0 : Nat) (A0 : Nat → Insn) (y1 : Int) : Option R_flow_program_next_v3 :=
  bif inR y1 n0 then
    (bindT (m_op_Width ((A0 (y1).toNat))) fun r0 =>
    bif ((A0 (y1).toNat)).fOp == 149#8 then
      (some (.e0))
    else (bif m_op_Jumps ((A0 (y1).toNat)) then
      ((m_insn_Target n0 A0 y1).bind fun r1 =>
      bif ((A0 (y1).toNat)).fOp == 5#8 then
        (some (.e1 r1.1))
      else (bif r1.1 == (IntKind.i64.wrap (y1 + r0)) then
        (some (.e1 r1.1))
      else (some (.e2 (IntKind.i64.wrap (y1 + r0)) r1.1))))
    else (some (.e1 (IntKind.i64.wrap (y1 + r0))))))
  else (none)
def sq0_flow_program_next_v3 (a0 : Option Addr) (p0 : Nat) (q0 : Nat) (n0 : Nat) (k0 : Nat) (A0 : Nat → Insn) (y1 : Int)  : Spc := ⟨fun ls => .call 63 #[.slice a0 n0 (n0 + k0), .int .i64 (y1)], fun ls => [], 0, .normal, fun ls => [.slice none 0 0], fun ls => [], fun ls => []⟩
def sq1_flow_program_next_v3 (a0 : Option Addr) (p0 : Nat) (q0 : Nat) (n0 : Nat) (k0 : Nat) (A0 : Nat → Insn) (y1 : Int) (c1_0 : Int) : Spc := ⟨fun ls => .call 63 #[.slice a0 n0 (n0 + k0), .int .i64 (y1)], fun ls => [], 1, .normal, fun ls => [.slice (some ⟨(lget ls 0).n, 0, none⟩) 1 1], fun ls => [], fun ls => [.cells #[.int .i64 (c1_0)] 3]⟩
def sq2_flow_program_next_v3 (a0 : Option Addr) (p0 : Nat) (q0 : Nat) (n0 : Nat) (k0 : Nat) (A0 : Nat → Insn) (y1 : Int) (c2_0 : Int) (c2_1 : Int) : Spc := ⟨fun ls => .call 63 #[.slice a0 n0 (n0 + k0), .int .i64 (y1)], fun ls => [], 1, .normal, fun ls => [.slice (some ⟨(lget ls 0).n, 0, none⟩) 2 2], fun ls => [], fun ls => [.cells #[.int .i64 (c2_0), .int .i64 (c2_1)] 3]⟩
theorem ok0_flow_program_next_v3 (e : m_flow_program_next_v3 n0 A0 y1 = some (.e0 )) : SpcG Try.prog M B0 S (sq0_flow_program_next_v3 a0 p0 q0 n0 k0 A0 y1 ) := by
  unfold m_flow_program_next_v3 at e
  replace e := cond_eq_or e
  rcases e with ⟨hq0, e⟩ | ⟨hq0, e⟩
  · replace e := bindT_eq e
    obtain ⟨r0, e_r0, e⟩ := e
    try dsimp only at e
    replace e := cond_eq_or e
    rcases e with ⟨hq1, e⟩ | ⟨hq1, e⟩
    · exact fn_specG hU (P := Try.prog) Try.func63 (fun xs w => by kernel_rfl) 0 _ _ (fun _ => rfl) _ _ _ [] [.o, .o, .o, .o, .q (ixRo_ok (kd := .i64) (T := 89) (x := y1) (sz := 5) rfl (fun w => by kernel_rfl) hR0 hq0), .l (accRo hR0 c_Insn_len (inR_nat hq0) 0 [.int .u8 (nn ((A0 (y1).toNat)).fOp), .int .u8 (nn ((A0 (y1).toNat)).fDst), .int .u8 (nn ((A0 (y1).toNat)).fSrc), .int .i16 (ii ((A0 (y1).toNat)).fOff), .int .i32 (ii ((A0 (y1).toNat)).fImm)] rfl), .cg (ok_op_Width hU ((A0 (y1).toNat)) r0 e_r0), .o, .o, .o, .o, .q (ixRo_ok (kd := .i64) (T := 89) (x := y1) (sz := 5) rfl (fun w => by kernel_rfl) hR0 hq0), .o, .l (accRo hR0 c_Insn_len (inR_nat hq0) 0 [.int .u8 (nn ((A0 (y1).toNat)).fOp)] rfl), .t (u_eq ((A0 (y1).toNat)).fOp (149#8)) hq1, .o] [] (fun b => by kernel_rfl)
    · replace e := cond_eq_or e
      rcases e with ⟨hq2, e⟩ | ⟨hq2, e⟩
      · replace e := bindO_eq e
        obtain ⟨r1, e_r1, e⟩ := e
        try dsimp only at e
        replace e := cond_eq_or e
        rcases e with ⟨hq3, e⟩ | ⟨hq3, e⟩
        · cases e
        · replace e := cond_eq_or e
          rcases e with ⟨hq4, e⟩ | ⟨hq4, e⟩
          · cases e
          · cases e
      · cases e
  · exact none_some e
theorem ok1_flow_program_next_v3 (c1_0 : Int) (e : m_flow_program_next_v3 n0 A0 y1 = some (.e1 c1_0)) : SpcG Try.prog M B0 S (sq1_flow_program_next_v3 a0 p0 q0 n0 k0 A0 y1 c1_0) := by
  unfold m_flow_program_next_v3 at e
  replace e := cond_eq_or e
  rcases e with ⟨hq0, e⟩ | ⟨hq0, e⟩
  · replace e := bindT_eq e
    obtain ⟨r0, e_r0, e⟩ := e
    try dsimp only at e
    replace e := cond_eq_or e
    let P1 : List (PG Try.prog M B0 S) := [.o, .o, .o, .o, .q (ixRo_ok (kd := .i64) (T := 89) (x := y1) (sz := 5) rfl (fun w => by kernel_rfl) hR0 hq0), .l (accRo hR0 c_Insn_len (inR_nat hq0) 0 [.int .u8 (nn ((A0 (y1).toNat)).fOp), .int .u8 (nn ((A0 (y1).toNat)).fDst), .int .u8 (nn ((A0 (y1).toNat)).fSrc), .int .i16 (ii ((A0 (y1).toNat)).fOff), .int .i32 (ii ((A0 (y1).toNat)).fImm)] rfl), .cg (ok_op_Width hU ((A0 (y1).toNat)) r0 e_r0), .o, .o, .o, .o, .q (ixRo_ok (kd := .i64) (T := 89) (x := y1) (sz := 5) rfl (fun w => by kernel_rfl) hR0 hq0), .o, .l (accRo hR0 c_Insn_len (inR_nat hq0) 0 [.int .u8 (nn ((A0 (y1).toNat)).fOp)] rfl)]
    rcases e with ⟨hq1, e⟩ | ⟨hq1, e⟩
    · cases e
    · replace e := cond_eq_or e
      let P2 : List (PG Try.prog M B0 S) := P1 ++ [.t (u_eq ((A0 (y1).toNat)).fOp (149#8)) hq1, .o, .o, .q (ixRo_ok (kd := .i64) (T := 89) (x := y1) (sz := 5) rfl (fun w => by kernel_rfl) hR0 hq0), .l (accRo hR0 c_Insn_len (inR_nat hq0) 0 [.int .u8 (nn ((A0 (y1).toNat)).fOp), .int .u8 (nn ((A0 (y1).toNat)).fDst), .int .u8 (nn ((A0 (y1).toNat)).fSrc), .int .i16 (ii ((A0 (y1).toNat)).fOff), .int .i32 (ii ((A0 (y1).toNat)).fImm)] rfl)]
      rcases e with ⟨hq2, e⟩ | ⟨hq2, e⟩
      · replace e := bindO_eq e
        obtain ⟨r1, e_r1, e⟩ := e
        try dsimp only at e
        replace e := cond_eq_or e
        let P3 : List (PG Try.prog M B0 S) := P2 ++ [.cg (ok_op_Jumps hU ((A0 (y1).toNat)) true hq2), .o, .o, .o, .cg (ok_insn_Target hU a0 p0 q0 n0 k0 A0 hR0 y1 r1 e_r1), .o, .o, .o, .o, .o, .o, .o, .q (ixRo_ok (kd := .i64) (T := 89) (x := y1) (sz := 5) rfl (fun w => by kernel_rfl) hR0 hq0), .o, .l (accRo hR0 c_Insn_len (inR_nat hq0) 0 [.int .u8 (nn ((A0 (y1).toNat)).fOp)] rfl)]
        rcases e with ⟨hq3, e⟩ | ⟨hq3, e⟩
        · injection e with e; injection e with i0; subst i0; exact fn_specG hU (P := Try.prog) Try.func63 (fun xs w => by kernel_rfl) 0 _ _ (fun _ => rfl) _ _ _ [0] (P3 ++ [.t (u_eq ((A0 (y1).toNat)).fOp (5#8)) hq3, .o, .o, .o, .o, .o]) [] (fun b => by kernel_rfl)
        · replace e := cond_eq_or e
          rcases e with ⟨hq4, e⟩ | ⟨hq4, e⟩
          · injection e with e; injection e with i0; subst i0; exact fn_specG hU (P := Try.prog) Try.func63 (fun xs w => by kernel_rfl) 0 _ _ (fun _ => rfl) _ _ _ [0] (P3 ++ [.t (u_eq ((A0 (y1).toNat)).fOp (5#8)) hq3, .o, .o, .o, .b (z_eqlT hq4), .o, .o, .o, .o]) [] (fun b => by kernel_rfl)
          · cases e
      · injection e with e; injection e with i0; subst i0; exact fn_specG hU (P := Try.prog) Try.func63 (fun xs w => by kernel_rfl) 0 _ _ (fun _ => rfl) _ _ _ [0] (P2 ++ [.cg (ok_op_Jumps hU ((A0 (y1).toNat)) false hq2), .o, .o, .o, .o]) [] (fun b => by kernel_rfl)
  · exact none_some e
theorem ok2_flow_program_next_v3 (c2_0 : Int) (c2_1 : Int) (e : m_flow_program_next_v3 n0 A0 y1 = some (.e2 c2_0 c2_1)) : SpcG Try.prog M B0 S (sq2_flow_program_next_v3 a0 p0 q0 n0 k0 A0 y1 c2_0 c2_1) := by
  unfold m_flow_program_next_v3 at e
  replace e := cond_eq_or e
  rcases e with ⟨hq0, e⟩ | ⟨hq0, e⟩
  · replace e := bindT_eq e
    obtain ⟨r0, e_r0, e⟩ := e
    try dsimp only at e
    replace e := cond_eq_or e
    rcases e with ⟨hq1, e⟩ | ⟨hq1, e⟩
    · cases e
    · replace e := cond_eq_or e
      rcases e with ⟨hq2, e⟩ | ⟨hq2, e⟩
      · replace e := bindO_eq e
        obtain ⟨r1, e_r1, e⟩ := e
        try dsimp only at e
        replace e := cond_eq_or e
        rcases e with ⟨hq3, e⟩ | ⟨hq3, e⟩
        · cases e
        · replace e := cond_eq_or e
          rcases e with ⟨hq4, e⟩ | ⟨hq4, e⟩
          · cases e
          · injection e with e; injection e with i0 i1; subst i0 i1; exact fn_specG hU (P := Try.prog) Try.func63 (fun xs w => by kernel_rfl) 0 _ _ (fun _ => rfl) _ _ _ [0] [.o, .o, .o, .o, .q (ixRo_ok (kd := .i64) (T := 89) (x := y1) (sz := 5) rfl (fun w => by kernel_rfl) hR0 hq0), .l (accRo hR0 c_Insn_len (inR_nat hq0) 0 [.int .u8 (nn ((A0 (y1).toNat)).fOp), .int .u8 (nn ((A0 (y1).toNat)).fDst), .int .u8 (nn ((A0 (y1).toNat)).fSrc), .int .i16 (ii ((A0 (y1).toNat)).fOff), .int .i32 (ii ((A0 (y1).toNat)).fImm)] rfl), .cg (ok_op_Width hU ((A0 (y1).toNat)) r0 e_r0), .o, .o, .o, .o, .q (ixRo_ok (kd := .i64) (T := 89) (x := y1) (sz := 5) rfl (fun w => by kernel_rfl) hR0 hq0), .o, .l (accRo hR0 c_Insn_len (inR_nat hq0) 0 [.int .u8 (nn ((A0 (y1).toNat)).fOp)] rfl), .t (u_eq ((A0 (y1).toNat)).fOp (149#8)) hq1, .o, .o, .q (ixRo_ok (kd := .i64) (T := 89) (x := y1) (sz := 5) rfl (fun w => by kernel_rfl) hR0 hq0), .l (accRo hR0 c_Insn_len (inR_nat hq0) 0 [.int .u8 (nn ((A0 (y1).toNat)).fOp), .int .u8 (nn ((A0 (y1).toNat)).fDst), .int .u8 (nn ((A0 (y1).toNat)).fSrc), .int .i16 (ii ((A0 (y1).toNat)).fOff), .int .i32 (ii ((A0 (y1).toNat)).fImm)] rfl), .cg (ok_op_Jumps hU ((A0 (y1).toNat)) true hq2), .o, .o, .o, .cg (ok_insn_Target hU a0 p0 q0 n0 k0 A0 hR0 y1 r1 e_r1), .o, .o, .o, .o, .o, .o, .o, .q (ixRo_ok (kd := .i64) (T := 89) (x := y1) (sz := 5) rfl (fun w => by kernel_rfl) hR0 hq0), .o, .l (accRo hR0 c_Insn_len (inR_nat hq0) 0 [.int .u8 (nn ((A0 (y1).toNat)).fOp)] rfl), .t (u_eq ((A0 (y1).toNat)).fOp (5#8)) hq3, .o, .o, .o, .b (z_eqlF hq4), .o, .o, .o, .o, .o] [] (fun b => by kernel_rfl)
      · cases e
  · exact none_some e
inductive R_flow_Next_v3 where
  | e0 (c0_0 : Int)
  | e1 (c1_0 : Int)
  | e2 (c2_0 : Int) (c2_1 : Int)
noncomputable def m_flow_Next_v3 (n0 : Nat) (A0 : Nat → Insn) (y1 : Int) : Option R_flow_Next_v3 :=
  (m_insn_Check n0 A0).bind fun r0 =>
  bif r0.2 == 0 then
    (bif decide (y1 < 0) then
      (some (.e0 150))
    else (bif decide ((n0 : Int) ≤ y1) then
      (some (.e0 150))
    else ((m_flow_program_isSecond_v3 n0 A0 y1).bind fun r1 =>
    bif r1 then
      (some (.e0 150))
    else ((m_flow_program_next_v3 n0 A0 y1).bind fun g2 => match g2 with
    | .e0  => (some (.e0 0))
    | .e1 g2_0 => (some (.e1 g2_0))
    | .e2 g2_0 g2_1 => (some (.e2 g2_0 g2_1))))))
  else (some (.e0 r0.2))
def sq0_flow_Next_v3 (a0 : Option Addr) (p0 : Nat) (q0 : Nat) (n0 : Nat) (k0 : Nat) (A0 : Nat → Insn) (y1 : Int) (c0_0 : Int) : Spc := ⟨fun ls => .call 35 #[.slice a0 n0 (n0 + k0), .int .i64 (y1)], fun ls => [], 0, .normal, fun ls => [.tuple #[.slice none 0 0, .int .i64 (c0_0)]], fun ls => [], fun ls => []⟩
def sq1_flow_Next_v3 (a0 : Option Addr) (p0 : Nat) (q0 : Nat) (n0 : Nat) (k0 : Nat) (A0 : Nat → Insn) (y1 : Int) (c1_0 : Int) : Spc := ⟨fun ls => .call 35 #[.slice a0 n0 (n0 + k0), .int .i64 (y1)], fun ls => [], 1, .normal, fun ls => [.tuple #[.slice (some ⟨(lget ls 0).n, 0, none⟩) 1 1, .int .i64 (0)]], fun ls => [], fun ls => [.cells #[.int .i64 (c1_0)] 3]⟩
def sq2_flow_Next_v3 (a0 : Option Addr) (p0 : Nat) (q0 : Nat) (n0 : Nat) (k0 : Nat) (A0 : Nat → Insn) (y1 : Int) (c2_0 : Int) (c2_1 : Int) : Spc := ⟨fun ls => .call 35 #[.slice a0 n0 (n0 + k0), .int .i64 (y1)], fun ls => [], 1, .normal, fun ls => [.tuple #[.slice (some ⟨(lget ls 0).n, 0, none⟩) 2 2, .int .i64 (0)]], fun ls => [], fun ls => [.cells #[.int .i64 (c2_0), .int .i64 (c2_1)] 3]⟩
theorem ok0_flow_Next_v3 (c0_0 : Int) (e : m_flow_Next_v3 n0 A0 y1 = some (.e0 c0_0)) : SpcG Try.prog M B0 S (sq0_flow_Next_v3 a0 p0 q0 n0 k0 A0 y1 c0_0) := by
  unfold m_flow_Next_v3 at e
  replace e := bindO_eq e
  obtain ⟨r0, e_r0, e⟩ := e
  try dsimp only at e
  replace e := cond_eq_or e
  let P1 : List (PG Try.prog M B0 S) := [.o, .o, .o, .cg (ok_insn_Check hU a0 p0 q0 n0 k0 A0 hR0 r0 e_r0), .o, .o, .o, .o, .o, .o]
  rcases e with ⟨hq0, e⟩ | ⟨hq0, e⟩
  · replace e := cond_eq_or e
    rcases e with ⟨hq1, e⟩ | ⟨hq1, e⟩
    · injection e with e; injection e with i0; subst i0; exact fn_specG hU (P := Try.prog) Try.func35 (fun xs w => by kernel_rfl) 0 _ _ (fun _ => rfl) _ _ _ [] (P1 ++ [.b (z_neqT hq0), .o, .b (z_lssT hq1), .o, .o, .o, .o, .o, .o]) [] (fun b => by kernel_rfl)
    · replace e := cond_eq_or e
      let P2 : List (PG Try.prog M B0 S) := P1 ++ [.b (z_neqT hq0), .o, .b (z_lssF hq1), .o, .o, .o, .o]
      rcases e with ⟨hq2, e⟩ | ⟨hq2, e⟩
      · injection e with e; injection e with i0; subst i0; exact fn_specG hU (P := Try.prog) Try.func35 (fun xs w => by kernel_rfl) 0 _ _ (fun _ => rfl) _ _ _ [] (P2 ++ [.b (z_geqT hq2), .o, .o, .o, .o, .o]) [] (fun b => by kernel_rfl)
      · replace e := bindO_eq e
        obtain ⟨r1, e_r1, e⟩ := e
        try dsimp only at e
        replace e := cond_eq_or e
        rcases e with ⟨hq3, e⟩ | ⟨hq3, e⟩
        · subst hq3
          injection e with e; injection e with i0; subst i0; exact fn_specG hU (P := Try.prog) Try.func35 (fun xs w => by kernel_rfl) 0 _ _ (fun _ => rfl) _ _ _ [] (P2 ++ [.b (z_geqF hq2), .o, .o, .o, .o, .cg (ok_flow_program_isSecond_v3 hU a0 p0 q0 n0 k0 A0 hR0 y1 true e_r1), .o, .o, .o]) [] (fun b => by kernel_rfl)
        · subst hq3
          replace e := bindO_eq e
          obtain ⟨g2, e_g2, e⟩ := e
          rcases g2 with _ | ⟨g2_0⟩ | ⟨g2_0, g2_1⟩
          · try dsimp only at e
            injection e with e; injection e with i0; subst i0; exact fn_specG hU (P := Try.prog) Try.func35 (fun xs w => by kernel_rfl) 0 _ _ (fun _ => rfl) _ _ _ [] (P2 ++ [.b (z_geqF hq2), .o, .o, .o, .o, .cg (ok_flow_program_isSecond_v3 hU a0 p0 q0 n0 k0 A0 hR0 y1 false e_r1), .o, .o, .o, .xg (ok0_flow_program_next_v3 hU a0 p0 q0 n0 k0 A0 hR0 y1  e_g2) [], .o, .o]) [] (fun b => by kernel_rfl)
          · try dsimp only at e
            cases e
          · try dsimp only at e
            cases e
  · injection e with e; injection e with i0; subst i0; exact fn_specG hU (P := Try.prog) Try.func35 (fun xs w => by kernel_rfl) 0 _ _ (fun _ => rfl) _ _ _ [] (P1 ++ [.b (z_neqF hq0), .o, .o, .o]) [] (fun b => by kernel_rfl)
theorem ok1_flow_Next_v3 (c1_0 : Int) (e : m_flow_Next_v3 n0 A0 y1 = some (.e1 c1_0)) : SpcG Try.prog M B0 S (sq1_flow_Next_v3 a0 p0 q0 n0 k0 A0 y1 c1_0) := by
  unfold m_flow_Next_v3 at e
  replace e := bindO_eq e
  obtain ⟨r0, e_r0, e⟩ := e
  try dsimp only at e
  replace e := cond_eq_or e
  rcases e with ⟨hq0, e⟩ | ⟨hq0, e⟩
  · replace e := cond_eq_or e
    rcases e with ⟨hq1, e⟩ | ⟨hq1, e⟩
    · cases e
    · replace e := cond_eq_or e
      rcases e with ⟨hq2, e⟩ | ⟨hq2, e⟩
      · cases e
      · replace e := bindO_eq e
        obtain ⟨r1, e_r1, e⟩ := e
        try dsimp only at e
        replace e := cond_eq_or e
        rcases e with ⟨hq3, e⟩ | ⟨hq3, e⟩
        · subst hq3
          cases e
        · subst hq3
          replace e := bindO_eq e
          obtain ⟨g2, e_g2, e⟩ := e
          rcases g2 with _ | ⟨g2_0⟩ | ⟨g2_0, g2_1⟩
          · try dsimp only at e
            cases e
          · try dsimp only at e
            injection e with e; injection e with i0; subst i0; exact fn_specG hU (P := Try.prog) Try.func35 (fun xs w => by kernel_rfl) 0 _ _ (fun _ => rfl) _ _ _ [0] [.o, .o, .o, .cg (ok_insn_Check hU a0 p0 q0 n0 k0 A0 hR0 r0 e_r0), .o, .o, .o, .o, .o, .o, .b (z_neqT hq0), .o, .b (z_lssF hq1), .o, .o, .o, .o, .b (z_geqF hq2), .o, .o, .o, .o, .cg (ok_flow_program_isSecond_v3 hU a0 p0 q0 n0 k0 A0 hR0 y1 false e_r1), .o, .o, .o, .xg (ok1_flow_program_next_v3 hU a0 p0 q0 n0 k0 A0 hR0 y1 g2_0 e_g2) [], .o, .o] [] (fun b => by kernel_rfl)
          · try dsimp only at e
            cases e
  · cases e
theorem ok2_flow_Next_v3 (c2_0 : Int) (c2_1 : Int) (e : m_flow_Next_v3 n0 A0 y1 = some (.e2 c2_0 c2_1)) : SpcG Try.prog M B0 S (sq2_flow_Next_v3 a0 p0 q0 n0 k0 A0 y1 c2_0 c2_1) := by
  unfold m_flow_Next_v3 at e
  replace e := bindO_eq e
  obtain ⟨r0, e_r0, e⟩ := e
  try dsimp only at e
  replace e := cond_eq_or e
  rcases e with ⟨hq0, e⟩ | ⟨hq0, e⟩
  · replace e := cond_eq_or e
    rcases e with ⟨hq1, e⟩ | ⟨hq1, e⟩
    · cases e
    · replace e := cond_eq_or e
      rcases e with ⟨hq2, e⟩ | ⟨hq2, e⟩
      · cases e
      · replace e := bindO_eq e
        obtain ⟨r1, e_r1, e⟩ := e
        try dsimp only at e
        replace e := cond_eq_or e
        rcases e with ⟨hq3, e⟩ | ⟨hq3, e⟩
        · subst hq3
          cases e
        · subst hq3
          replace e := bindO_eq e
          obtain ⟨g2, e_g2, e⟩ := e
          rcases g2 with _ | ⟨g2_0⟩ | ⟨g2_0, g2_1⟩
          · try dsimp only at e
            cases e
          · try dsimp only at e
            cases e
          · try dsimp only at e
            injection e with e; injection e with i0 i1; subst i0 i1; exact fn_specG hU (P := Try.prog) Try.func35 (fun xs w => by kernel_rfl) 0 _ _ (fun _ => rfl) _ _ _ [0] [.o, .o, .o, .cg (ok_insn_Check hU a0 p0 q0 n0 k0 A0 hR0 r0 e_r0), .o, .o, .o, .o, .o, .o, .b (z_neqT hq0), .o, .b (z_lssF hq1), .o, .o, .o, .o, .b (z_geqF hq2), .o, .o, .o, .o, .cg (ok_flow_program_isSecond_v3 hU a0 p0 q0 n0 k0 A0 hR0 y1 false e_r1), .o, .o, .o, .xg (ok2_flow_program_next_v3 hU a0 p0 q0 n0 k0 A0 hR0 y1 g2_0 g2_1 e_g2) [], .o, .o] [] (fun b => by kernel_rfl)
  · cases e
noncomputable def m_live_known_v3 (y0 : Insn) : Option (Bool) :=
  (m_insn_Check 1 (fun _ => y0)).bind fun r0 =>
  bif r0.2 == 11 then
    (some false)
  else (bif BitVec.ult (10#8) y0.fDst then
    (some false)
  else (some (!(BitVec.ult (10#8) y0.fSrc))))
end
section
variable {M : Nat → Prop} {B0 : Nat} {S : World → Prop} (hU : Up M B0 S)
include hU
theorem ok_live_known_v3 (y0 : Insn) (r : Bool) (e : m_live_known_v3 y0 = some r) : ConG Try.prog S 17 #[(v_Insn y0)] (.bool (r)) := by
  unfold m_live_known_v3 at e
  replace e := bindO_eq e
  obtain ⟨r0, e_r0, e⟩ := e
  try dsimp only at e
  replace e := cond_eq_or e
  let P1 : List (PG Try.prog M B0 S) := [.o, .o, .a 0, .o, .xg (SpcG.own hU (f := c_Insn) c_Insn_len 1 (fun _ => y0) 26 (fun _ => []) (fun _ => 0) _ 0 .normal (by intros; rfl) (by intros; rfl) (by intros; rfl) (fun M0 B0 S0 x0 u0 v0 z0 hU0 hs0 hr0 => ConG.sp (ok_insn_Check hU0 x0 u0 v0 1 z0 (fun _ => y0) hr0 r0 e_r0))) [1], .o, .o, .o, .o, .o, .o]
  rcases e with ⟨hq0, e⟩ | ⟨hq0, e⟩
  · injection e with e; subst e; exact fn_conG hU (P := Try.prog) Try.func17 (fun xs w => by kernel_rfl) _ _ (P1 ++ [.b (z_neqT hq0), .o, .o, .o, .o, .o]) [] (fun b => by kernel_rfl)
  · replace e := cond_eq_or e
    rcases e with ⟨hq1, e⟩ | ⟨hq1, e⟩
    · injection e with e; subst e; exact fn_conG hU (P := Try.prog) Try.func17 (fun xs w => by kernel_rfl) _ _ (P1 ++ [.b (z_neqF hq0), .o, .o, .a 0, .tn (u_le y0.fDst (10#8)) hq1, .o, .o, .o, .o]) [] (fun b => by kernel_rfl)
    · injection e with e; subst e; exact fn_conG hU (P := Try.prog) Try.func17 (fun xs w => by kernel_rfl) _ _ (P1 ++ [.b (z_neqF hq0), .o, .o, .a 0, .tn (u_le y0.fDst (10#8)) hq1, .o, .o, .o, .a 0, .tn (u_le y0.fSrc (10#8)) rfl, .o, .o]) [] (fun b => by kernel_rfl)
noncomputable def m_live_bit_v2 (y0 : BitVec 8) : BitVec 16 :=
  (1#16 <<< (y0).toNat)
theorem ok_live_bit_v2 (y0 : BitVec 8) (r : BitVec 16) (e : m_live_bit_v2 y0 = r) : ConG Try.prog S 18 #[.int .u8 (nn y0)] (.int .u16 (nn r)) := by
  unfold m_live_bit_v2 at e
  subst e; exact fn_conG hU (P := Try.prog) Try.func18 (fun xs w => by kernel_rfl) _ _ [.o, .o, .ov (u16_shl Try.prog 31 (.const (.int .u16 (1))) (.tmp 3) (1#16) (y0).toNat .u8 rfl), .o] [] (fun b => by kernel_rfl)
noncomputable def m_live_operand_v2 (y0 : Insn) : BitVec 16 :=
  bif (y0.fOp &&& 8#8) == 0#8 then
    (0#16)
  else (bindT (m_live_bit_v2 y0.fSrc) fun r0 =>
  r0)
end
section
variable {M : Nat → Prop} {B0 : Nat} {S : World → Prop} (hU : Up M B0 S) (y0 : Insn) (r : BitVec 16)
include hU y0 r
theorem ok_live_operand_v2 (e : m_live_operand_v2 y0 = r) : ConG Try.prog S 38 #[(v_Insn y0)] (.int .u16 (nn r)) := by
  unfold m_live_operand_v2 at e
  replace e := cond_eq_or e
  rcases e with ⟨hq0, e⟩ | ⟨hq0, e⟩
  · subst e; exact fn_conG hU (P := Try.prog) Try.func38 (fun xs w => by kernel_rfl) _ _ [.o, .o, .o, .a 0, .v .u8 (u8_and y0.fOp (8#8)), .t (u_eq (y0.fOp &&& 8#8) (0#8)) hq0, .o] [] (fun b => by kernel_rfl)
  · replace e := bindT_eq e
    obtain ⟨r0, e_r0, e⟩ := e
    try dsimp only at e
    subst e; exact fn_conG hU (P := Try.prog) Try.func38 (fun xs w => by kernel_rfl) _ _ [.o, .o, .o, .a 0, .v .u8 (u8_and y0.fOp (8#8)), .t (u_eq (y0.fOp &&& 8#8) (0#8)) hq0, .o, .a 0, .cg (ok_live_bit_v2 hU y0.fSrc r0 e_r0), .o] [] (fun b => by kernel_rfl)
noncomputable def m_live_aluReads_v2 (y0 : Insn) : BitVec 16 :=
  bif (y0.fOp >>> 4) == 11#8 then
    (bindT (m_live_operand_v2 y0) fun r0 =>
    r0)
  else (bif (y0.fOp >>> 4) == 13#8 then
    (bindT (m_live_bit_v2 y0.fDst) fun r0 =>
    r0)
  else (bindT (m_live_bit_v2 y0.fDst) fun r0 =>
  bindT (m_live_operand_v2 y0) fun r1 =>
  (r0 ||| r1)))
theorem ok_live_aluReads_v2 (e : m_live_aluReads_v2 y0 = r) : ConG Try.prog S 19 #[(v_Insn y0)] (.int .u16 (nn r)) := by
  unfold m_live_aluReads_v2 at e
  replace e := cond_eq_or e
  let P1 : List (PG Try.prog M B0 S) := [.o, .o, .o, .a 0, .ov (u8_shr Try.prog 5 (.tmp 4) (.const (.int .u64 (4))) y0.fOp 4 .u64 rfl)]
  rcases e with ⟨hq0, e⟩ | ⟨hq0, e⟩
  · replace e := bindT_eq e
    obtain ⟨r0, e_r0, e⟩ := e
    try dsimp only at e
    subst e; exact fn_conG hU (P := Try.prog) Try.func19 (fun xs w => by kernel_rfl) _ _ (P1 ++ [.t (u_eq (y0.fOp >>> 4) (11#8)) hq0, .o, .a 0, .cg (ok_live_operand_v2 hU y0 r0 e_r0), .o]) [] (fun b => by kernel_rfl)
  · replace e := cond_eq_or e
    rcases e with ⟨hq1, e⟩ | ⟨hq1, e⟩
    · replace e := bindT_eq e
      obtain ⟨r0, e_r0, e⟩ := e
      try dsimp only at e
      subst e; exact fn_conG hU (P := Try.prog) Try.func19 (fun xs w => by kernel_rfl) _ _ (P1 ++ [.t (u_eq (y0.fOp >>> 4) (11#8)) hq0, .o, .t (u_eq (y0.fOp >>> 4) (13#8)) hq1, .o, .o, .a 0, .cg (ok_live_bit_v2 hU y0.fDst r0 e_r0), .o]) [] (fun b => by kernel_rfl)
    · replace e := bindT_eq e
      obtain ⟨r0, e_r0, e⟩ := e
      try dsimp only at e
      replace e := bindT_eq e
      obtain ⟨r1, e_r1, e⟩ := e
      try dsimp only at e
      subst e; exact fn_conG hU (P := Try.prog) Try.func19 (fun xs w => by kernel_rfl) _ _ (P1 ++ [.t (u_eq (y0.fOp >>> 4) (11#8)) hq0, .o, .t (u_eq (y0.fOp >>> 4) (13#8)) hq1, .o, .r [0, 1, 2, 3, 4, 5, 6] [] [], .o, .a 0, .cg (ok_live_bit_v2 hU y0.fDst r0 e_r0), .a 0, .cg (ok_live_operand_v2 hU y0 r1 e_r1), .v .u16 (u16_or r0 r1), .o]) [] (fun b => by kernel_rfl)
def sq0_proto_plain   : Spc := ⟨fun ls => .call 106 #[.string (⟨#[109, 97, 112, 95, 108, 111, 111, 107, 117, 112]⟩ : ByteArray), .int .i64 (1), .slice (some ⟨(lget ls 0).n, 0, none⟩) 2 2], fun ls => [.cells #[.int .i64 (2), .int .i64 (3)] 3], 0, .normal, fun ls => [.agg #[.string (⟨#[109, 97, 112, 95, 108, 111, 111, 107, 117, 112]⟩ : ByteArray), .int .i64 (2), .int .i64 (3), .int .i64 (0), .int .i64 (0), .int .i64 (0), .int .i64 (1), .int .i64 (0), .bool false, .bool false]], fun ls => [.cells #[.int .i64 (2), .int .i64 (3)] 3], fun ls => []⟩
end
section
variable {M : Nat → Prop} {B0 : Nat} {S : World → Prop} (hU : Up M B0 S)
include hU
theorem p0_proto_plain : SpcG Try.prog M B0 S (sq0_proto_plain  ) :=
  fn_specG hU (P := Try.prog) Try.func106 (fun xs w => by kernel_rfl) 1 _ _ (fun _ => rfl) _ _ _ []
    [.o, .o, .o, .o, .o, .a 2, .o, .o, .o, .l (AccOk.blks [0, 0, 2, 2]), .a 2, .a 1]
    [1, 1, 1, 1, 1, 1, 1, 1, 1, 1] (fun b => by kernel_rfl)
def sq0_proto_mapped   : Spc := ⟨fun ls => .call 105 #[.int .i64 (6), .string (⟨#[109, 97, 112, 95, 108, 111, 111, 107, 117, 112]⟩ : ByteArray), .int .i64 (1), .slice (some ⟨(lget ls 0).n, 0, none⟩) 2 2], fun ls => [.cells #[.int .i64 (2), .int .i64 (3)] 3], 0, .normal, fun ls => [.agg #[.string (⟨#[109, 97, 112, 95, 108, 111, 111, 107, 117, 112]⟩ : ByteArray), .int .i64 (2), .int .i64 (3), .int .i64 (0), .int .i64 (0), .int .i64 (0), .int .i64 (1), .int .i64 (6), .bool false, .bool false]], fun ls => [.cells #[.int .i64 (2), .int .i64 (3)] 3], fun ls => []⟩
theorem p0_proto_mapped : SpcG Try.prog M B0 S (sq0_proto_mapped  ) :=
  fn_specG hU (P := Try.prog) Try.func105 (fun xs w => by kernel_rfl) 1 _ _ (fun _ => rfl) _ _ _ []
    [.o, .o, .o, .o, .xg (p0_proto_plain hU  ) [0], .o, .a 2, .o, .o, .a 2, .a 2, .a 1]
    [1, 1, 1, 1, 1, 1, 1, 1, 1, 1] (fun b => by kernel_rfl)
def sq0_proto_plain_v1   : Spc := ⟨fun ls => .call 106 #[.string (⟨#[109, 97, 112, 95, 117, 112, 100, 97, 116, 101]⟩ : ByteArray), .int .i64 (0), .slice (some ⟨(lget ls 0).n, 0, none⟩) 4 4], fun ls => [.cells #[.int .i64 (2), .int .i64 (3), .int .i64 (4), .int .i64 (1)] 3], 0, .normal, fun ls => [.agg #[.string (⟨#[109, 97, 112, 95, 117, 112, 100, 97, 116, 101]⟩ : ByteArray), .int .i64 (2), .int .i64 (3), .int .i64 (4), .int .i64 (1), .int .i64 (0), .int .i64 (0), .int .i64 (0), .bool false, .bool false]], fun ls => [.cells #[.int .i64 (2), .int .i64 (3), .int .i64 (4), .int .i64 (1)] 3], fun ls => []⟩
theorem p0_proto_plain_v1 : SpcG Try.prog M B0 S (sq0_proto_plain_v1  ) :=
  fn_specG hU (P := Try.prog) Try.func106 (fun xs w => by kernel_rfl) 1 _ _ (fun _ => rfl) _ _ _ []
    [.o, .o, .o, .o, .o, .a 2, .o, .o, .o, .l (AccOk.blks [0, 0, 0, 0, 2, 2, 2, 2]), .a 2, .a 1]
    [1, 1, 1, 1, 1, 1, 1, 1, 1, 1] (fun b => by kernel_rfl)
def sq0_proto_mapped_v1   : Spc := ⟨fun ls => .call 105 #[.int .i64 (6), .string (⟨#[109, 97, 112, 95, 117, 112, 100, 97, 116, 101]⟩ : ByteArray), .int .i64 (0), .slice (some ⟨(lget ls 0).n, 0, none⟩) 4 4], fun ls => [.cells #[.int .i64 (2), .int .i64 (3), .int .i64 (4), .int .i64 (1)] 3], 0, .normal, fun ls => [.agg #[.string (⟨#[109, 97, 112, 95, 117, 112, 100, 97, 116, 101]⟩ : ByteArray), .int .i64 (2), .int .i64 (3), .int .i64 (4), .int .i64 (1), .int .i64 (0), .int .i64 (0), .int .i64 (6), .bool false, .bool false]], fun ls => [.cells #[.int .i64 (2), .int .i64 (3), .int .i64 (4), .int .i64 (1)] 3], fun ls => []⟩
theorem p0_proto_mapped_v1 : SpcG Try.prog M B0 S (sq0_proto_mapped_v1  ) :=
  fn_specG hU (P := Try.prog) Try.func105 (fun xs w => by kernel_rfl) 1 _ _ (fun _ => rfl) _ _ _ []
    [.o, .o, .o, .o, .xg (p0_proto_plain_v1 hU  ) [0], .o, .a 2, .o, .o, .a 2, .a 2, .a 1]
    [1, 1, 1, 1, 1, 1, 1, 1, 1, 1] (fun b => by kernel_rfl)
def sq0_proto_plain_v2   : Spc := ⟨fun ls => .call 106 #[.string (⟨#[109, 97, 112, 95, 100, 101, 108, 101, 116, 101]⟩ : ByteArray), .int .i64 (0), .slice (some ⟨(lget ls 0).n, 0, none⟩) 2 2], fun ls => [.cells #[.int .i64 (2), .int .i64 (3)] 3], 0, .normal, fun ls => [.agg #[.string (⟨#[109, 97, 112, 95, 100, 101, 108, 101, 116, 101]⟩ : ByteArray), .int .i64 (2), .int .i64 (3), .int .i64 (0), .int .i64 (0), .int .i64 (0), .int .i64 (0), .int .i64 (0), .bool false, .bool false]], fun ls => [.cells #[.int .i64 (2), .int .i64 (3)] 3], fun ls => []⟩
theorem p0_proto_plain_v2 : SpcG Try.prog M B0 S (sq0_proto_plain_v2  ) :=
  fn_specG hU (P := Try.prog) Try.func106 (fun xs w => by kernel_rfl) 1 _ _ (fun _ => rfl) _ _ _ []
    [.o, .o, .o, .o, .o, .a 2, .o, .o, .o, .l (AccOk.blks [0, 0, 2, 2]), .a 2, .a 1]
    [1, 1, 1, 1, 1, 1, 1, 1, 1, 1] (fun b => by kernel_rfl)
def sq0_proto_mapped_v2   : Spc := ⟨fun ls => .call 105 #[.int .i64 (6), .string (⟨#[109, 97, 112, 95, 100, 101, 108, 101, 116, 101]⟩ : ByteArray), .int .i64 (0), .slice (some ⟨(lget ls 0).n, 0, none⟩) 2 2], fun ls => [.cells #[.int .i64 (2), .int .i64 (3)] 3], 0, .normal, fun ls => [.agg #[.string (⟨#[109, 97, 112, 95, 100, 101, 108, 101, 116, 101]⟩ : ByteArray), .int .i64 (2), .int .i64 (3), .int .i64 (0), .int .i64 (0), .int .i64 (0), .int .i64 (0), .int .i64 (6), .bool false, .bool false]], fun ls => [.cells #[.int .i64 (2), .int .i64 (3)] 3], fun ls => []⟩
theorem p0_proto_mapped_v2 : SpcG Try.prog M B0 S (sq0_proto_mapped_v2  ) :=
  fn_specG hU (P := Try.prog) Try.func105 (fun xs w => by kernel_rfl) 1 _ _ (fun _ => rfl) _ _ _ []
    [.o, .o, .o, .o, .xg (p0_proto_plain_v2 hU  ) [0], .o, .a 2, .o, .o, .a 2, .a 2, .a 1]
    [1, 1, 1, 1, 1, 1, 1, 1, 1, 1] (fun b => by kernel_rfl)
theorem ok_proto_plain_v3 : ConG Try.prog S 106 #[.string (⟨#[99, 108, 111, 99, 107]⟩ : ByteArray), .int .i64 (0), .slice none 0 0] (.agg #[.string (⟨#[99, 108, 111, 99, 107]⟩ : ByteArray), .int .i64 (0), .int .i64 (0), .int .i64 (0), .int .i64 (0), .int .i64 (0), .int .i64 (0), .int .i64 (0), .bool false, .bool false]) :=
  fn_conG hU (P := Try.prog) Try.func106 (fun xs w => by kernel_rfl) [.string (⟨#[99, 108, 111, 99, 107]⟩ : ByteArray), .int .i64 (0), .slice none 0 0] (.agg #[.string (⟨#[99, 108, 111, 99, 107]⟩ : ByteArray), .int .i64 (0), .int .i64 (0), .int .i64 (0), .int .i64 (0), .int .i64 (0), .int .i64 (0), .int .i64 (0), .bool false, .bool false])
    [.o, .o, .o, .o, .o, .a 1, .o, .o, .o, .o, .a 1, .a 0]
    [0, 0, 0, 0, 0, 0, 0, 0, 0, 0] (fun b => by kernel_rfl)
theorem ok_proto_plain_v4 : ConG Try.prog S 106 #[.string (⟨#[114, 97, 110, 100, 111, 109]⟩ : ByteArray), .int .i64 (0), .slice none 0 0] (.agg #[.string (⟨#[114, 97, 110, 100, 111, 109]⟩ : ByteArray), .int .i64 (0), .int .i64 (0), .int .i64 (0), .int .i64 (0), .int .i64 (0), .int .i64 (0), .int .i64 (0), .bool false, .bool false]) :=
  fn_conG hU (P := Try.prog) Try.func106 (fun xs w => by kernel_rfl) [.string (⟨#[114, 97, 110, 100, 111, 109]⟩ : ByteArray), .int .i64 (0), .slice none 0 0] (.agg #[.string (⟨#[114, 97, 110, 100, 111, 109]⟩ : ByteArray), .int .i64 (0), .int .i64 (0), .int .i64 (0), .int .i64 (0), .int .i64 (0), .int .i64 (0), .int .i64 (0), .bool false, .bool false])
    [.o, .o, .o, .o, .o, .a 1, .o, .o, .o, .o, .a 1, .a 0]
    [0, 0, 0, 0, 0, 0, 0, 0, 0, 0] (fun b => by kernel_rfl)
def sq0_proto_plain_v5   : Spc := ⟨fun ls => .call 106 #[.string (⟨#[116, 97, 105, 108, 95, 99, 97, 108, 108]⟩ : ByteArray), .int .i64 (0), .slice (some ⟨(lget ls 0).n, 0, none⟩) 3 3], fun ls => [.cells #[.int .i64 (8), .int .i64 (2), .int .i64 (1)] 3], 0, .normal, fun ls => [.agg #[.string (⟨#[116, 97, 105, 108, 95, 99, 97, 108, 108]⟩ : ByteArray), .int .i64 (8), .int .i64 (2), .int .i64 (1), .int .i64 (0), .int .i64 (0), .int .i64 (0), .int .i64 (0), .bool false, .bool false]], fun ls => [.cells #[.int .i64 (8), .int .i64 (2), .int .i64 (1)] 3], fun ls => []⟩
theorem p0_proto_plain_v5 : SpcG Try.prog M B0 S (sq0_proto_plain_v5  ) :=
  fn_specG hU (P := Try.prog) Try.func106 (fun xs w => by kernel_rfl) 1 _ _ (fun _ => rfl) _ _ _ []
    [.o, .o, .o, .o, .o, .a 2, .o, .o, .o, .l (AccOk.blks [0, 0, 0, 2, 2, 2]), .a 2, .a 1]
    [1, 1, 1, 1, 1, 1, 1, 1, 1, 1] (fun b => by kernel_rfl)
def sq0_proto_mapped_v3   : Spc := ⟨fun ls => .call 105 #[.int .i64 (8), .string (⟨#[116, 97, 105, 108, 95, 99, 97, 108, 108]⟩ : ByteArray), .int .i64 (0), .slice (some ⟨(lget ls 0).n, 0, none⟩) 3 3], fun ls => [.cells #[.int .i64 (8), .int .i64 (2), .int .i64 (1)] 3], 0, .normal, fun ls => [.agg #[.string (⟨#[116, 97, 105, 108, 95, 99, 97, 108, 108]⟩ : ByteArray), .int .i64 (8), .int .i64 (2), .int .i64 (1), .int .i64 (0), .int .i64 (0), .int .i64 (0), .int .i64 (8), .bool false, .bool false]], fun ls => [.cells #[.int .i64 (8), .int .i64 (2), .int .i64 (1)] 3], fun ls => []⟩
theorem p0_proto_mapped_v3 : SpcG Try.prog M B0 S (sq0_proto_mapped_v3  ) :=
  fn_specG hU (P := Try.prog) Try.func105 (fun xs w => by kernel_rfl) 1 _ _ (fun _ => rfl) _ _ _ []
    [.o, .o, .o, .o, .xg (p0_proto_plain_v5 hU  ) [0], .o, .a 2, .o, .o, .a 2, .a 2, .a 1]
    [1, 1, 1, 1, 1, 1, 1, 1, 1, 1] (fun b => by kernel_rfl)
def sq0_proto_plain_v6   : Spc := ⟨fun ls => .call 106 #[.string (⟨#[108, 111, 111, 112]⟩ : ByteArray), .int .i64 (0), .slice (some ⟨(lget ls 0).n, 0, none⟩) 3 3], fun ls => [.cells #[.int .i64 (1), .int .i64 (9), .int .i64 (17)] 3], 0, .normal, fun ls => [.agg #[.string (⟨#[108, 111, 111, 112]⟩ : ByteArray), .int .i64 (1), .int .i64 (9), .int .i64 (17), .int .i64 (0), .int .i64 (0), .int .i64 (0), .int .i64 (0), .bool false, .bool false]], fun ls => [.cells #[.int .i64 (1), .int .i64 (9), .int .i64 (17)] 3], fun ls => []⟩
theorem p0_proto_plain_v6 : SpcG Try.prog M B0 S (sq0_proto_plain_v6  ) :=
  fn_specG hU (P := Try.prog) Try.func106 (fun xs w => by kernel_rfl) 1 _ _ (fun _ => rfl) _ _ _ []
    [.o, .o, .o, .o, .o, .a 2, .o, .o, .o, .l (AccOk.blks [0, 0, 0, 2, 2, 2]), .a 2, .a 1]
    [1, 1, 1, 1, 1, 1, 1, 1, 1, 1] (fun b => by kernel_rfl)
def sq0_proto_plain_v7   : Spc := ⟨fun ls => .call 106 #[.string (⟨#[114, 105, 110, 103, 95, 111, 117, 116, 112, 117, 116]⟩ : ByteArray), .int .i64 (0), .slice (some ⟨(lget ls 0).n, 0, none⟩) 3 3], fun ls => [.cells #[.int .i64 (2), .int .i64 (5), .int .i64 (7)] 3], 0, .normal, fun ls => [.agg #[.string (⟨#[114, 105, 110, 103, 95, 111, 117, 116, 112, 117, 116]⟩ : ByteArray), .int .i64 (2), .int .i64 (5), .int .i64 (7), .int .i64 (0), .int .i64 (0), .int .i64 (0), .int .i64 (0), .bool false, .bool false]], fun ls => [.cells #[.int .i64 (2), .int .i64 (5), .int .i64 (7)] 3], fun ls => []⟩
theorem p0_proto_plain_v7 : SpcG Try.prog M B0 S (sq0_proto_plain_v7  ) :=
  fn_specG hU (P := Try.prog) Try.func106 (fun xs w => by kernel_rfl) 1 _ _ (fun _ => rfl) _ _ _ []
    [.o, .o, .o, .o, .o, .a 2, .o, .o, .o, .l (AccOk.blks [0, 0, 0, 2, 2, 2]), .a 2, .a 1]
    [1, 1, 1, 1, 1, 1, 1, 1, 1, 1] (fun b => by kernel_rfl)
def sq0_proto_mapped_v4   : Spc := ⟨fun ls => .call 105 #[.int .i64 (16), .string (⟨#[114, 105, 110, 103, 95, 111, 117, 116, 112, 117, 116]⟩ : ByteArray), .int .i64 (0), .slice (some ⟨(lget ls 0).n, 0, none⟩) 3 3], fun ls => [.cells #[.int .i64 (2), .int .i64 (5), .int .i64 (7)] 3], 0, .normal, fun ls => [.agg #[.string (⟨#[114, 105, 110, 103, 95, 111, 117, 116, 112, 117, 116]⟩ : ByteArray), .int .i64 (2), .int .i64 (5), .int .i64 (7), .int .i64 (0), .int .i64 (0), .int .i64 (0), .int .i64 (16), .bool false, .bool false]], fun ls => [.cells #[.int .i64 (2), .int .i64 (5), .int .i64 (7)] 3], fun ls => []⟩
theorem p0_proto_mapped_v4 : SpcG Try.prog M B0 S (sq0_proto_mapped_v4  ) :=
  fn_specG hU (P := Try.prog) Try.func105 (fun xs w => by kernel_rfl) 1 _ _ (fun _ => rfl) _ _ _ []
    [.o, .o, .o, .o, .xg (p0_proto_plain_v7 hU  ) [0], .o, .a 2, .o, .o, .a 2, .a 2, .a 1]
    [1, 1, 1, 1, 1, 1, 1, 1, 1, 1] (fun b => by kernel_rfl)
def sq0_proto_plain_v8   : Spc := ⟨fun ls => .call 106 #[.string (⟨#[114, 105, 110, 103, 95, 114, 101, 115, 101, 114, 118, 101]⟩ : ByteArray), .int .i64 (2), .slice (some ⟨(lget ls 0).n, 0, none⟩) 2 2], fun ls => [.cells #[.int .i64 (2), .int .i64 (1)] 3], 0, .normal, fun ls => [.agg #[.string (⟨#[114, 105, 110, 103, 95, 114, 101, 115, 101, 114, 118, 101]⟩ : ByteArray), .int .i64 (2), .int .i64 (1), .int .i64 (0), .int .i64 (0), .int .i64 (0), .int .i64 (2), .int .i64 (0), .bool false, .bool false]], fun ls => [.cells #[.int .i64 (2), .int .i64 (1)] 3], fun ls => []⟩
theorem p0_proto_plain_v8 : SpcG Try.prog M B0 S (sq0_proto_plain_v8  ) :=
  fn_specG hU (P := Try.prog) Try.func106 (fun xs w => by kernel_rfl) 1 _ _ (fun _ => rfl) _ _ _ []
    [.o, .o, .o, .o, .o, .a 2, .o, .o, .o, .l (AccOk.blks [0, 0, 2, 2]), .a 2, .a 1]
    [1, 1, 1, 1, 1, 1, 1, 1, 1, 1] (fun b => by kernel_rfl)
def sq0_proto_mapped_v5   : Spc := ⟨fun ls => .call 105 #[.int .i64 (16), .string (⟨#[114, 105, 110, 103, 95, 114, 101, 115, 101, 114, 118, 101]⟩ : ByteArray), .int .i64 (2), .slice (some ⟨(lget ls 0).n, 0, none⟩) 2 2], fun ls => [.cells #[.int .i64 (2), .int .i64 (1)] 3], 0, .normal, fun ls => [.agg #[.string (⟨#[114, 105, 110, 103, 95, 114, 101, 115, 101, 114, 118, 101]⟩ : ByteArray), .int .i64 (2), .int .i64 (1), .int .i64 (0), .int .i64 (0), .int .i64 (0), .int .i64 (2), .int .i64 (16), .bool false, .bool false]], fun ls => [.cells #[.int .i64 (2), .int .i64 (1)] 3], fun ls => []⟩
theorem p0_proto_mapped_v5 : SpcG Try.prog M B0 S (sq0_proto_mapped_v5  ) :=
  fn_specG hU (P := Try.prog) Try.func105 (fun xs w => by kernel_rfl) 1 _ _ (fun _ => rfl) _ _ _ []
    [.o, .o, .o, .o, .xg (p0_proto_plain_v8 hU  ) [0], .o, .a 2, .o, .o, .a 2, .a 2, .a 1]
    [1, 1, 1, 1, 1, 1, 1, 1, 1, 1] (fun b => by kernel_rfl)
theorem ok_proto_acquires : ConG Try.prog S 107 #[.agg #[.string (⟨#[114, 105, 110, 103, 95, 114, 101, 115, 101, 114, 118, 101]⟩ : ByteArray), .int .i64 (2), .int .i64 (1), .int .i64 (0), .int .i64 (0), .int .i64 (0), .int .i64 (2), .int .i64 (16), .bool false, .bool false]] (.agg #[.string (⟨#[114, 105, 110, 103, 95, 114, 101, 115, 101, 114, 118, 101]⟩ : ByteArray), .int .i64 (2), .int .i64 (1), .int .i64 (0), .int .i64 (0), .int .i64 (0), .int .i64 (2), .int .i64 (16), .bool true, .bool false]) :=
  fn_conG hU (P := Try.prog) Try.func107 (fun xs w => by kernel_rfl) [.agg #[.string (⟨#[114, 105, 110, 103, 95, 114, 101, 115, 101, 114, 118, 101]⟩ : ByteArray), .int .i64 (2), .int .i64 (1), .int .i64 (0), .int .i64 (0), .int .i64 (0), .int .i64 (2), .int .i64 (16), .bool false, .bool false]] (.agg #[.string (⟨#[114, 105, 110, 103, 95, 114, 101, 115, 101, 114, 118, 101]⟩ : ByteArray), .int .i64 (2), .int .i64 (1), .int .i64 (0), .int .i64 (0), .int .i64 (0), .int .i64 (2), .int .i64 (16), .bool true, .bool false])
    [.o, .o, .o, .a 0, .a 0, .a 1]
    [1, 1, 1, 1, 1, 1, 1, 1, 1, 1] (fun b => by kernel_rfl)
def sq0_proto_plain_v9   : Spc := ⟨fun ls => .call 106 #[.string (⟨#[114, 105, 110, 103, 95, 115, 117, 98, 109, 105, 116]⟩ : ByteArray), .int .i64 (0), .slice (some ⟨(lget ls 0).n, 0, none⟩) 1 1], fun ls => [.cells #[.int .i64 (10)] 3], 0, .normal, fun ls => [.agg #[.string (⟨#[114, 105, 110, 103, 95, 115, 117, 98, 109, 105, 116]⟩ : ByteArray), .int .i64 (10), .int .i64 (0), .int .i64 (0), .int .i64 (0), .int .i64 (0), .int .i64 (0), .int .i64 (0), .bool false, .bool false]], fun ls => [.cells #[.int .i64 (10)] 3], fun ls => []⟩
theorem p0_proto_plain_v9 : SpcG Try.prog M B0 S (sq0_proto_plain_v9  ) :=
  fn_specG hU (P := Try.prog) Try.func106 (fun xs w => by kernel_rfl) 1 _ _ (fun _ => rfl) _ _ _ []
    [.o, .o, .o, .o, .o, .a 2, .o, .o, .o, .l (AccOk.blks [0, 2]), .a 2, .a 1]
    [1, 1, 1, 1, 1, 1, 1, 1, 1, 1] (fun b => by kernel_rfl)
theorem ok_proto_releases : ConG Try.prog S 108 #[.agg #[.string (⟨#[114, 105, 110, 103, 95, 115, 117, 98, 109, 105, 116]⟩ : ByteArray), .int .i64 (10), .int .i64 (0), .int .i64 (0), .int .i64 (0), .int .i64 (0), .int .i64 (0), .int .i64 (0), .bool false, .bool false]] (.agg #[.string (⟨#[114, 105, 110, 103, 95, 115, 117, 98, 109, 105, 116]⟩ : ByteArray), .int .i64 (10), .int .i64 (0), .int .i64 (0), .int .i64 (0), .int .i64 (0), .int .i64 (0), .int .i64 (0), .bool false, .bool true]) :=
  fn_conG hU (P := Try.prog) Try.func108 (fun xs w => by kernel_rfl) [.agg #[.string (⟨#[114, 105, 110, 103, 95, 115, 117, 98, 109, 105, 116]⟩ : ByteArray), .int .i64 (10), .int .i64 (0), .int .i64 (0), .int .i64 (0), .int .i64 (0), .int .i64 (0), .int .i64 (0), .bool false, .bool false]] (.agg #[.string (⟨#[114, 105, 110, 103, 95, 115, 117, 98, 109, 105, 116]⟩ : ByteArray), .int .i64 (10), .int .i64 (0), .int .i64 (0), .int .i64 (0), .int .i64 (0), .int .i64 (0), .int .i64 (0), .bool false, .bool true])
    [.o, .o, .o, .a 0, .a 0, .a 1]
    [1, 1, 1, 1, 1, 1, 1, 1, 1, 1] (fun b => by kernel_rfl)
def sq0_proto_plain_v10   : Spc := ⟨fun ls => .call 106 #[.string (⟨#[114, 105, 110, 103, 95, 100, 105, 115, 99, 97, 114, 100]⟩ : ByteArray), .int .i64 (0), .slice (some ⟨(lget ls 0).n, 0, none⟩) 1 1], fun ls => [.cells #[.int .i64 (10)] 3], 0, .normal, fun ls => [.agg #[.string (⟨#[114, 105, 110, 103, 95, 100, 105, 115, 99, 97, 114, 100]⟩ : ByteArray), .int .i64 (10), .int .i64 (0), .int .i64 (0), .int .i64 (0), .int .i64 (0), .int .i64 (0), .int .i64 (0), .bool false, .bool false]], fun ls => [.cells #[.int .i64 (10)] 3], fun ls => []⟩
theorem p0_proto_plain_v10 : SpcG Try.prog M B0 S (sq0_proto_plain_v10  ) :=
  fn_specG hU (P := Try.prog) Try.func106 (fun xs w => by kernel_rfl) 1 _ _ (fun _ => rfl) _ _ _ []
    [.o, .o, .o, .o, .o, .a 2, .o, .o, .o, .l (AccOk.blks [0, 2]), .a 2, .a 1]
    [1, 1, 1, 1, 1, 1, 1, 1, 1, 1] (fun b => by kernel_rfl)
theorem ok_proto_releases_v1 : ConG Try.prog S 108 #[.agg #[.string (⟨#[114, 105, 110, 103, 95, 100, 105, 115, 99, 97, 114, 100]⟩ : ByteArray), .int .i64 (10), .int .i64 (0), .int .i64 (0), .int .i64 (0), .int .i64 (0), .int .i64 (0), .int .i64 (0), .bool false, .bool false]] (.agg #[.string (⟨#[114, 105, 110, 103, 95, 100, 105, 115, 99, 97, 114, 100]⟩ : ByteArray), .int .i64 (10), .int .i64 (0), .int .i64 (0), .int .i64 (0), .int .i64 (0), .int .i64 (0), .int .i64 (0), .bool false, .bool true]) :=
  fn_conG hU (P := Try.prog) Try.func108 (fun xs w => by kernel_rfl) [.agg #[.string (⟨#[114, 105, 110, 103, 95, 100, 105, 115, 99, 97, 114, 100]⟩ : ByteArray), .int .i64 (10), .int .i64 (0), .int .i64 (0), .int .i64 (0), .int .i64 (0), .int .i64 (0), .int .i64 (0), .bool false, .bool false]] (.agg #[.string (⟨#[114, 105, 110, 103, 95, 100, 105, 115, 99, 97, 114, 100]⟩ : ByteArray), .int .i64 (10), .int .i64 (0), .int .i64 (0), .int .i64 (0), .int .i64 (0), .int .i64 (0), .int .i64 (0), .bool false, .bool true])
    [.o, .o, .o, .a 0, .a 0, .a 1]
    [1, 1, 1, 1, 1, 1, 1, 1, 1, 1] (fun b => by kernel_rfl)
def sq0_proto_plain_v11   : Spc := ⟨fun ls => .call 106 #[.string (⟨#[114, 105, 110, 103, 95, 113, 117, 101, 114, 121]⟩ : ByteArray), .int .i64 (0), .slice (some ⟨(lget ls 0).n, 0, none⟩) 1 1], fun ls => [.cells #[.int .i64 (2)] 3], 0, .normal, fun ls => [.agg #[.string (⟨#[114, 105, 110, 103, 95, 113, 117, 101, 114, 121]⟩ : ByteArray), .int .i64 (2), .int .i64 (0), .int .i64 (0), .int .i64 (0), .int .i64 (0), .int .i64 (0), .int .i64 (0), .bool false, .bool false]], fun ls => [.cells #[.int .i64 (2)] 3], fun ls => []⟩
theorem p0_proto_plain_v11 : SpcG Try.prog M B0 S (sq0_proto_plain_v11  ) :=
  fn_specG hU (P := Try.prog) Try.func106 (fun xs w => by kernel_rfl) 1 _ _ (fun _ => rfl) _ _ _ []
    [.o, .o, .o, .o, .o, .a 2, .o, .o, .o, .l (AccOk.blks [0, 2]), .a 2, .a 1]
    [1, 1, 1, 1, 1, 1, 1, 1, 1, 1] (fun b => by kernel_rfl)
def sq0_proto_mapped_v6   : Spc := ⟨fun ls => .call 105 #[.int .i64 (16), .string (⟨#[114, 105, 110, 103, 95, 113, 117, 101, 114, 121]⟩ : ByteArray), .int .i64 (0), .slice (some ⟨(lget ls 0).n, 0, none⟩) 1 1], fun ls => [.cells #[.int .i64 (2)] 3], 0, .normal, fun ls => [.agg #[.string (⟨#[114, 105, 110, 103, 95, 113, 117, 101, 114, 121]⟩ : ByteArray), .int .i64 (2), .int .i64 (0), .int .i64 (0), .int .i64 (0), .int .i64 (0), .int .i64 (0), .int .i64 (16), .bool false, .bool false]], fun ls => [.cells #[.int .i64 (2)] 3], fun ls => []⟩
theorem p0_proto_mapped_v6 : SpcG Try.prog M B0 S (sq0_proto_mapped_v6  ) :=
  fn_specG hU (P := Try.prog) Try.func105 (fun xs w => by kernel_rfl) 1 _ _ (fun _ => rfl) _ _ _ []
    [.o, .o, .o, .o, .xg (p0_proto_plain_v11 hU  ) [0], .o, .a 2, .o, .o, .a 2, .a 2, .a 1]
    [1, 1, 1, 1, 1, 1, 1, 1, 1, 1] (fun b => by kernel_rfl)
def sq0_proto_plain_v12   : Spc := ⟨fun ls => .call 106 #[.string (⟨#[115, 111, 99, 107, 95, 108, 111, 111, 107, 117, 112]⟩ : ByteArray), .int .i64 (3), .slice (some ⟨(lget ls 0).n, 0, none⟩) 3 3], fun ls => [.cells #[.int .i64 (8), .int .i64 (5), .int .i64 (7)] 3], 0, .normal, fun ls => [.agg #[.string (⟨#[115, 111, 99, 107, 95, 108, 111, 111, 107, 117, 112]⟩ : ByteArray), .int .i64 (8), .int .i64 (5), .int .i64 (7), .int .i64 (0), .int .i64 (0), .int .i64 (3), .int .i64 (0), .bool false, .bool false]], fun ls => [.cells #[.int .i64 (8), .int .i64 (5), .int .i64 (7)] 3], fun ls => []⟩
theorem p0_proto_plain_v12 : SpcG Try.prog M B0 S (sq0_proto_plain_v12  ) :=
  fn_specG hU (P := Try.prog) Try.func106 (fun xs w => by kernel_rfl) 1 _ _ (fun _ => rfl) _ _ _ []
    [.o, .o, .o, .o, .o, .a 2, .o, .o, .o, .l (AccOk.blks [0, 0, 0, 2, 2, 2]), .a 2, .a 1]
    [1, 1, 1, 1, 1, 1, 1, 1, 1, 1] (fun b => by kernel_rfl)
theorem ok_proto_acquires_v1 : ConG Try.prog S 107 #[.agg #[.string (⟨#[115, 111, 99, 107, 95, 108, 111, 111, 107, 117, 112]⟩ : ByteArray), .int .i64 (8), .int .i64 (5), .int .i64 (7), .int .i64 (0), .int .i64 (0), .int .i64 (3), .int .i64 (0), .bool false, .bool false]] (.agg #[.string (⟨#[115, 111, 99, 107, 95, 108, 111, 111, 107, 117, 112]⟩ : ByteArray), .int .i64 (8), .int .i64 (5), .int .i64 (7), .int .i64 (0), .int .i64 (0), .int .i64 (3), .int .i64 (0), .bool true, .bool false]) :=
  fn_conG hU (P := Try.prog) Try.func107 (fun xs w => by kernel_rfl) [.agg #[.string (⟨#[115, 111, 99, 107, 95, 108, 111, 111, 107, 117, 112]⟩ : ByteArray), .int .i64 (8), .int .i64 (5), .int .i64 (7), .int .i64 (0), .int .i64 (0), .int .i64 (3), .int .i64 (0), .bool false, .bool false]] (.agg #[.string (⟨#[115, 111, 99, 107, 95, 108, 111, 111, 107, 117, 112]⟩ : ByteArray), .int .i64 (8), .int .i64 (5), .int .i64 (7), .int .i64 (0), .int .i64 (0), .int .i64 (3), .int .i64 (0), .bool true, .bool false])
    [.o, .o, .o, .a 0, .a 0, .a 1]
    [1, 1, 1, 1, 1, 1, 1, 1, 1, 1] (fun b => by kernel_rfl)
def sq0_proto_plain_v13   : Spc := ⟨fun ls => .call 106 #[.string (⟨#[115, 111, 99, 107, 95, 114, 101, 108, 101, 97, 115, 101]⟩ : ByteArray), .int .i64 (0), .slice (some ⟨(lget ls 0).n, 0, none⟩) 1 1], fun ls => [.cells #[.int .i64 (11)] 3], 0, .normal, fun ls => [.agg #[.string (⟨#[115, 111, 99, 107, 95, 114, 101, 108, 101, 97, 115, 101]⟩ : ByteArray), .int .i64 (11), .int .i64 (0), .int .i64 (0), .int .i64 (0), .int .i64 (0), .int .i64 (0), .int .i64 (0), .bool false, .bool false]], fun ls => [.cells #[.int .i64 (11)] 3], fun ls => []⟩
theorem p0_proto_plain_v13 : SpcG Try.prog M B0 S (sq0_proto_plain_v13  ) :=
  fn_specG hU (P := Try.prog) Try.func106 (fun xs w => by kernel_rfl) 1 _ _ (fun _ => rfl) _ _ _ []
    [.o, .o, .o, .o, .o, .a 2, .o, .o, .o, .l (AccOk.blks [0, 2]), .a 2, .a 1]
    [1, 1, 1, 1, 1, 1, 1, 1, 1, 1] (fun b => by kernel_rfl)
theorem ok_proto_releases_v2 : ConG Try.prog S 108 #[.agg #[.string (⟨#[115, 111, 99, 107, 95, 114, 101, 108, 101, 97, 115, 101]⟩ : ByteArray), .int .i64 (11), .int .i64 (0), .int .i64 (0), .int .i64 (0), .int .i64 (0), .int .i64 (0), .int .i64 (0), .bool false, .bool false]] (.agg #[.string (⟨#[115, 111, 99, 107, 95, 114, 101, 108, 101, 97, 115, 101]⟩ : ByteArray), .int .i64 (11), .int .i64 (0), .int .i64 (0), .int .i64 (0), .int .i64 (0), .int .i64 (0), .int .i64 (0), .bool false, .bool true]) :=
  fn_conG hU (P := Try.prog) Try.func108 (fun xs w => by kernel_rfl) [.agg #[.string (⟨#[115, 111, 99, 107, 95, 114, 101, 108, 101, 97, 115, 101]⟩ : ByteArray), .int .i64 (11), .int .i64 (0), .int .i64 (0), .int .i64 (0), .int .i64 (0), .int .i64 (0), .int .i64 (0), .bool false, .bool false]] (.agg #[.string (⟨#[115, 111, 99, 107, 95, 114, 101, 108, 101, 97, 115, 101]⟩ : ByteArray), .int .i64 (11), .int .i64 (0), .int .i64 (0), .int .i64 (0), .int .i64 (0), .int .i64 (0), .int .i64 (0), .bool false, .bool true])
    [.o, .o, .o, .a 0, .a 0, .a 1]
    [1, 1, 1, 1, 1, 1, 1, 1, 1, 1] (fun b => by kernel_rfl)
def sq0_proto_plain_v14   : Spc := ⟨fun ls => .call 106 #[.string (⟨#[116, 105, 109, 101, 114, 95, 105, 110, 105, 116]⟩ : ByteArray), .int .i64 (0), .slice (some ⟨(lget ls 0).n, 0, none⟩) 2 2], fun ls => [.cells #[.int .i64 (12), .int .i64 (2)] 3], 0, .normal, fun ls => [.agg #[.string (⟨#[116, 105, 109, 101, 114, 95, 105, 110, 105, 116]⟩ : ByteArray), .int .i64 (12), .int .i64 (2), .int .i64 (0), .int .i64 (0), .int .i64 (0), .int .i64 (0), .int .i64 (0), .bool false, .bool false]], fun ls => [.cells #[.int .i64 (12), .int .i64 (2)] 3], fun ls => []⟩
theorem p0_proto_plain_v14 : SpcG Try.prog M B0 S (sq0_proto_plain_v14  ) :=
  fn_specG hU (P := Try.prog) Try.func106 (fun xs w => by kernel_rfl) 1 _ _ (fun _ => rfl) _ _ _ []
    [.o, .o, .o, .o, .o, .a 2, .o, .o, .o, .l (AccOk.blks [0, 0, 2, 2]), .a 2, .a 1]
    [1, 1, 1, 1, 1, 1, 1, 1, 1, 1] (fun b => by kernel_rfl)
def sq0_proto_mapped_v7   : Spc := ⟨fun ls => .call 105 #[.int .i64 (6), .string (⟨#[116, 105, 109, 101, 114, 95, 105, 110, 105, 116]⟩ : ByteArray), .int .i64 (0), .slice (some ⟨(lget ls 0).n, 0, none⟩) 2 2], fun ls => [.cells #[.int .i64 (12), .int .i64 (2)] 3], 0, .normal, fun ls => [.agg #[.string (⟨#[116, 105, 109, 101, 114, 95, 105, 110, 105, 116]⟩ : ByteArray), .int .i64 (12), .int .i64 (2), .int .i64 (0), .int .i64 (0), .int .i64 (0), .int .i64 (0), .int .i64 (6), .bool false, .bool false]], fun ls => [.cells #[.int .i64 (12), .int .i64 (2)] 3], fun ls => []⟩
theorem p0_proto_mapped_v7 : SpcG Try.prog M B0 S (sq0_proto_mapped_v7  ) :=
  fn_specG hU (P := Try.prog) Try.func105 (fun xs w => by kernel_rfl) 1 _ _ (fun _ => rfl) _ _ _ []
    [.o, .o, .o, .o, .xg (p0_proto_plain_v14 hU  ) [0], .o, .a 2, .o, .o, .a 2, .a 2, .a 1]
    [1, 1, 1, 1, 1, 1, 1, 1, 1, 1] (fun b => by kernel_rfl)
def sq0_proto_plain_v15   : Spc := ⟨fun ls => .call 106 #[.string (⟨#[116, 105, 109, 101, 114, 95, 99, 97, 108, 108, 98, 97, 99, 107]⟩ : ByteArray), .int .i64 (0), .slice (some ⟨(lget ls 0).n, 0, none⟩) 2 2], fun ls => [.cells #[.int .i64 (12), .int .i64 (9)] 3], 0, .normal, fun ls => [.agg #[.string (⟨#[116, 105, 109, 101, 114, 95, 99, 97, 108, 108, 98, 97, 99, 107]⟩ : ByteArray), .int .i64 (12), .int .i64 (9), .int .i64 (0), .int .i64 (0), .int .i64 (0), .int .i64 (0), .int .i64 (0), .bool false, .bool false]], fun ls => [.cells #[.int .i64 (12), .int .i64 (9)] 3], fun ls => []⟩
theorem p0_proto_plain_v15 : SpcG Try.prog M B0 S (sq0_proto_plain_v15  ) :=
  fn_specG hU (P := Try.prog) Try.func106 (fun xs w => by kernel_rfl) 1 _ _ (fun _ => rfl) _ _ _ []
    [.o, .o, .o, .o, .o, .a 2, .o, .o, .o, .l (AccOk.blks [0, 0, 2, 2]), .a 2, .a 1]
    [1, 1, 1, 1, 1, 1, 1, 1, 1, 1] (fun b => by kernel_rfl)
def sq0_proto_plain_v16   : Spc := ⟨fun ls => .call 106 #[.string (⟨#[116, 105, 109, 101, 114, 95, 115, 116, 97, 114, 116]⟩ : ByteArray), .int .i64 (0), .slice (some ⟨(lget ls 0).n, 0, none⟩) 2 2], fun ls => [.cells #[.int .i64 (12), .int .i64 (1)] 3], 0, .normal, fun ls => [.agg #[.string (⟨#[116, 105, 109, 101, 114, 95, 115, 116, 97, 114, 116]⟩ : ByteArray), .int .i64 (12), .int .i64 (1), .int .i64 (0), .int .i64 (0), .int .i64 (0), .int .i64 (0), .int .i64 (0), .bool false, .bool false]], fun ls => [.cells #[.int .i64 (12), .int .i64 (1)] 3], fun ls => []⟩
theorem p0_proto_plain_v16 : SpcG Try.prog M B0 S (sq0_proto_plain_v16  ) :=
  fn_specG hU (P := Try.prog) Try.func106 (fun xs w => by kernel_rfl) 1 _ _ (fun _ => rfl) _ _ _ []
    [.o, .o, .o, .o, .o, .a 2, .o, .o, .o, .l (AccOk.blks [0, 0, 2, 2]), .a 2, .a 1]
    [1, 1, 1, 1, 1, 1, 1, 1, 1, 1] (fun b => by kernel_rfl)
def sq0_proto_plain_v17   : Spc := ⟨fun ls => .call 106 #[.string (⟨#[116, 105, 109, 101, 114, 95, 99, 97, 110, 99, 101, 108]⟩ : ByteArray), .int .i64 (0), .slice (some ⟨(lget ls 0).n, 0, none⟩) 1 1], fun ls => [.cells #[.int .i64 (12)] 3], 0, .normal, fun ls => [.agg #[.string (⟨#[116, 105, 109, 101, 114, 95, 99, 97, 110, 99, 101, 108]⟩ : ByteArray), .int .i64 (12), .int .i64 (0), .int .i64 (0), .int .i64 (0), .int .i64 (0), .int .i64 (0), .int .i64 (0), .bool false, .bool false]], fun ls => [.cells #[.int .i64 (12)] 3], fun ls => []⟩
theorem p0_proto_plain_v17 : SpcG Try.prog M B0 S (sq0_proto_plain_v17  ) :=
  fn_specG hU (P := Try.prog) Try.func106 (fun xs w => by kernel_rfl) 1 _ _ (fun _ => rfl) _ _ _ []
    [.o, .o, .o, .o, .o, .a 2, .o, .o, .o, .l (AccOk.blks [0, 2]), .a 2, .a 1]
    [1, 1, 1, 1, 1, 1, 1, 1, 1, 1] (fun b => by kernel_rfl)
def sq0_proto_plain_v18   : Spc := ⟨fun ls => .call 106 #[.string (⟨#[100, 121, 110, 95, 114, 101, 115, 101, 114, 118, 101]⟩ : ByteArray), .int .i64 (0), .slice (some ⟨(lget ls 0).n, 0, none⟩) 3 3], fun ls => [.cells #[.int .i64 (2), .int .i64 (1), .int .i64 (13)] 3], 0, .normal, fun ls => [.agg #[.string (⟨#[100, 121, 110, 95, 114, 101, 115, 101, 114, 118, 101]⟩ : ByteArray), .int .i64 (2), .int .i64 (1), .int .i64 (13), .int .i64 (0), .int .i64 (0), .int .i64 (0), .int .i64 (0), .bool false, .bool false]], fun ls => [.cells #[.int .i64 (2), .int .i64 (1), .int .i64 (13)] 3], fun ls => []⟩
theorem p0_proto_plain_v18 : SpcG Try.prog M B0 S (sq0_proto_plain_v18  ) :=
  fn_specG hU (P := Try.prog) Try.func106 (fun xs w => by kernel_rfl) 1 _ _ (fun _ => rfl) _ _ _ []
    [.o, .o, .o, .o, .o, .a 2, .o, .o, .o, .l (AccOk.blks [0, 0, 0, 2, 2, 2]), .a 2, .a 1]
    [1, 1, 1, 1, 1, 1, 1, 1, 1, 1] (fun b => by kernel_rfl)
def sq0_proto_mapped_v8   : Spc := ⟨fun ls => .call 105 #[.int .i64 (16), .string (⟨#[100, 121, 110, 95, 114, 101, 115, 101, 114, 118, 101]⟩ : ByteArray), .int .i64 (0), .slice (some ⟨(lget ls 0).n, 0, none⟩) 3 3], fun ls => [.cells #[.int .i64 (2), .int .i64 (1), .int .i64 (13)] 3], 0, .normal, fun ls => [.agg #[.string (⟨#[100, 121, 110, 95, 114, 101, 115, 101, 114, 118, 101]⟩ : ByteArray), .int .i64 (2), .int .i64 (1), .int .i64 (13), .int .i64 (0), .int .i64 (0), .int .i64 (0), .int .i64 (16), .bool false, .bool false]], fun ls => [.cells #[.int .i64 (2), .int .i64 (1), .int .i64 (13)] 3], fun ls => []⟩
theorem p0_proto_mapped_v8 : SpcG Try.prog M B0 S (sq0_proto_mapped_v8  ) :=
  fn_specG hU (P := Try.prog) Try.func105 (fun xs w => by kernel_rfl) 1 _ _ (fun _ => rfl) _ _ _ []
    [.o, .o, .o, .o, .xg (p0_proto_plain_v18 hU  ) [0], .o, .a 2, .o, .o, .a 2, .a 2, .a 1]
    [1, 1, 1, 1, 1, 1, 1, 1, 1, 1] (fun b => by kernel_rfl)
theorem ok_proto_acquires_v2 : ConG Try.prog S 107 #[.agg #[.string (⟨#[100, 121, 110, 95, 114, 101, 115, 101, 114, 118, 101]⟩ : ByteArray), .int .i64 (2), .int .i64 (1), .int .i64 (13), .int .i64 (0), .int .i64 (0), .int .i64 (0), .int .i64 (16), .bool false, .bool false]] (.agg #[.string (⟨#[100, 121, 110, 95, 114, 101, 115, 101, 114, 118, 101]⟩ : ByteArray), .int .i64 (2), .int .i64 (1), .int .i64 (13), .int .i64 (0), .int .i64 (0), .int .i64 (0), .int .i64 (16), .bool true, .bool false]) :=
  fn_conG hU (P := Try.prog) Try.func107 (fun xs w => by kernel_rfl) [.agg #[.string (⟨#[100, 121, 110, 95, 114, 101, 115, 101, 114, 118, 101]⟩ : ByteArray), .int .i64 (2), .int .i64 (1), .int .i64 (13), .int .i64 (0), .int .i64 (0), .int .i64 (0), .int .i64 (16), .bool false, .bool false]] (.agg #[.string (⟨#[100, 121, 110, 95, 114, 101, 115, 101, 114, 118, 101]⟩ : ByteArray), .int .i64 (2), .int .i64 (1), .int .i64 (13), .int .i64 (0), .int .i64 (0), .int .i64 (0), .int .i64 (16), .bool true, .bool false])
    [.o, .o, .o, .a 0, .a 0, .a 1]
    [1, 1, 1, 1, 1, 1, 1, 1, 1, 1] (fun b => by kernel_rfl)
def sq0_proto_plain_v19   : Spc := ⟨fun ls => .call 106 #[.string (⟨#[100, 121, 110, 95, 115, 117, 98, 109, 105, 116]⟩ : ByteArray), .int .i64 (0), .slice (some ⟨(lget ls 0).n, 0, none⟩) 1 1], fun ls => [.cells #[.int .i64 (14)] 3], 0, .normal, fun ls => [.agg #[.string (⟨#[100, 121, 110, 95, 115, 117, 98, 109, 105, 116]⟩ : ByteArray), .int .i64 (14), .int .i64 (0), .int .i64 (0), .int .i64 (0), .int .i64 (0), .int .i64 (0), .int .i64 (0), .bool false, .bool false]], fun ls => [.cells #[.int .i64 (14)] 3], fun ls => []⟩
theorem p0_proto_plain_v19 : SpcG Try.prog M B0 S (sq0_proto_plain_v19  ) :=
  fn_specG hU (P := Try.prog) Try.func106 (fun xs w => by kernel_rfl) 1 _ _ (fun _ => rfl) _ _ _ []
    [.o, .o, .o, .o, .o, .a 2, .o, .o, .o, .l (AccOk.blks [0, 2]), .a 2, .a 1]
    [1, 1, 1, 1, 1, 1, 1, 1, 1, 1] (fun b => by kernel_rfl)
theorem ok_proto_releases_v3 : ConG Try.prog S 108 #[.agg #[.string (⟨#[100, 121, 110, 95, 115, 117, 98, 109, 105, 116]⟩ : ByteArray), .int .i64 (14), .int .i64 (0), .int .i64 (0), .int .i64 (0), .int .i64 (0), .int .i64 (0), .int .i64 (0), .bool false, .bool false]] (.agg #[.string (⟨#[100, 121, 110, 95, 115, 117, 98, 109, 105, 116]⟩ : ByteArray), .int .i64 (14), .int .i64 (0), .int .i64 (0), .int .i64 (0), .int .i64 (0), .int .i64 (0), .int .i64 (0), .bool false, .bool true]) :=
  fn_conG hU (P := Try.prog) Try.func108 (fun xs w => by kernel_rfl) [.agg #[.string (⟨#[100, 121, 110, 95, 115, 117, 98, 109, 105, 116]⟩ : ByteArray), .int .i64 (14), .int .i64 (0), .int .i64 (0), .int .i64 (0), .int .i64 (0), .int .i64 (0), .int .i64 (0), .bool false, .bool false]] (.agg #[.string (⟨#[100, 121, 110, 95, 115, 117, 98, 109, 105, 116]⟩ : ByteArray), .int .i64 (14), .int .i64 (0), .int .i64 (0), .int .i64 (0), .int .i64 (0), .int .i64 (0), .int .i64 (0), .bool false, .bool true])
    [.o, .o, .o, .a 0, .a 0, .a 1]
    [1, 1, 1, 1, 1, 1, 1, 1, 1, 1] (fun b => by kernel_rfl)
def sq0_proto_plain_v20   : Spc := ⟨fun ls => .call 106 #[.string (⟨#[100, 121, 110, 95, 100, 105, 115, 99, 97, 114, 100]⟩ : ByteArray), .int .i64 (0), .slice (some ⟨(lget ls 0).n, 0, none⟩) 1 1], fun ls => [.cells #[.int .i64 (14)] 3], 0, .normal, fun ls => [.agg #[.string (⟨#[100, 121, 110, 95, 100, 105, 115, 99, 97, 114, 100]⟩ : ByteArray), .int .i64 (14), .int .i64 (0), .int .i64 (0), .int .i64 (0), .int .i64 (0), .int .i64 (0), .int .i64 (0), .bool false, .bool false]], fun ls => [.cells #[.int .i64 (14)] 3], fun ls => []⟩
theorem p0_proto_plain_v20 : SpcG Try.prog M B0 S (sq0_proto_plain_v20  ) :=
  fn_specG hU (P := Try.prog) Try.func106 (fun xs w => by kernel_rfl) 1 _ _ (fun _ => rfl) _ _ _ []
    [.o, .o, .o, .o, .o, .a 2, .o, .o, .o, .l (AccOk.blks [0, 2]), .a 2, .a 1]
    [1, 1, 1, 1, 1, 1, 1, 1, 1, 1] (fun b => by kernel_rfl)
theorem ok_proto_releases_v4 : ConG Try.prog S 108 #[.agg #[.string (⟨#[100, 121, 110, 95, 100, 105, 115, 99, 97, 114, 100]⟩ : ByteArray), .int .i64 (14), .int .i64 (0), .int .i64 (0), .int .i64 (0), .int .i64 (0), .int .i64 (0), .int .i64 (0), .bool false, .bool false]] (.agg #[.string (⟨#[100, 121, 110, 95, 100, 105, 115, 99, 97, 114, 100]⟩ : ByteArray), .int .i64 (14), .int .i64 (0), .int .i64 (0), .int .i64 (0), .int .i64 (0), .int .i64 (0), .int .i64 (0), .bool false, .bool true]) :=
  fn_conG hU (P := Try.prog) Try.func108 (fun xs w => by kernel_rfl) [.agg #[.string (⟨#[100, 121, 110, 95, 100, 105, 115, 99, 97, 114, 100]⟩ : ByteArray), .int .i64 (14), .int .i64 (0), .int .i64 (0), .int .i64 (0), .int .i64 (0), .int .i64 (0), .int .i64 (0), .bool false, .bool false]] (.agg #[.string (⟨#[100, 121, 110, 95, 100, 105, 115, 99, 97, 114, 100]⟩ : ByteArray), .int .i64 (14), .int .i64 (0), .int .i64 (0), .int .i64 (0), .int .i64 (0), .int .i64 (0), .int .i64 (0), .bool false, .bool true])
    [.o, .o, .o, .a 0, .a 0, .a 1]
    [1, 1, 1, 1, 1, 1, 1, 1, 1, 1] (fun b => by kernel_rfl)
def sq0_proto_plain_v21   : Spc := ⟨fun ls => .call 106 #[.string (⟨#[100, 121, 110, 95, 109, 101, 109]⟩ : ByteArray), .int .i64 (0), .slice (some ⟨(lget ls 0).n, 0, none⟩) 3 3], fun ls => [.cells #[.int .i64 (5), .int .i64 (7), .int .i64 (13)] 3], 0, .normal, fun ls => [.agg #[.string (⟨#[100, 121, 110, 95, 109, 101, 109]⟩ : ByteArray), .int .i64 (5), .int .i64 (7), .int .i64 (13), .int .i64 (0), .int .i64 (0), .int .i64 (0), .int .i64 (0), .bool false, .bool false]], fun ls => [.cells #[.int .i64 (5), .int .i64 (7), .int .i64 (13)] 3], fun ls => []⟩
theorem p0_proto_plain_v21 : SpcG Try.prog M B0 S (sq0_proto_plain_v21  ) :=
  fn_specG hU (P := Try.prog) Try.func106 (fun xs w => by kernel_rfl) 1 _ _ (fun _ => rfl) _ _ _ []
    [.o, .o, .o, .o, .o, .a 2, .o, .o, .o, .l (AccOk.blks [0, 0, 0, 2, 2, 2]), .a 2, .a 1]
    [1, 1, 1, 1, 1, 1, 1, 1, 1, 1] (fun b => by kernel_rfl)
def sq0_proto_plain_v22   : Spc := ⟨fun ls => .call 106 #[.string (⟨#[100, 121, 110, 95, 114, 101, 97, 100]⟩ : ByteArray), .int .i64 (0), .slice (some ⟨(lget ls 0).n, 0, none⟩) 4 4], fun ls => [.cells #[.int .i64 (6), .int .i64 (7), .int .i64 (14), .int .i64 (1)] 3], 0, .normal, fun ls => [.agg #[.string (⟨#[100, 121, 110, 95, 114, 101, 97, 100]⟩ : ByteArray), .int .i64 (6), .int .i64 (7), .int .i64 (14), .int .i64 (1), .int .i64 (0), .int .i64 (0), .int .i64 (0), .bool false, .bool false]], fun ls => [.cells #[.int .i64 (6), .int .i64 (7), .int .i64 (14), .int .i64 (1)] 3], fun ls => []⟩
theorem p0_proto_plain_v22 : SpcG Try.prog M B0 S (sq0_proto_plain_v22  ) :=
  fn_specG hU (P := Try.prog) Try.func106 (fun xs w => by kernel_rfl) 1 _ _ (fun _ => rfl) _ _ _ []
    [.o, .o, .o, .o, .o, .a 2, .o, .o, .o, .l (AccOk.blks [0, 0, 0, 0, 2, 2, 2, 2]), .a 2, .a 1]
    [1, 1, 1, 1, 1, 1, 1, 1, 1, 1] (fun b => by kernel_rfl)
def sq0_proto_plain_v23   : Spc := ⟨fun ls => .call 106 #[.string (⟨#[100, 121, 110, 95, 119, 114, 105, 116, 101]⟩ : ByteArray), .int .i64 (0), .slice (some ⟨(lget ls 0).n, 0, none⟩) 4 4], fun ls => [.cells #[.int .i64 (14), .int .i64 (1), .int .i64 (5), .int .i64 (7)] 3], 0, .normal, fun ls => [.agg #[.string (⟨#[100, 121, 110, 95, 119, 114, 105, 116, 101]⟩ : ByteArray), .int .i64 (14), .int .i64 (1), .int .i64 (5), .int .i64 (7), .int .i64 (0), .int .i64 (0), .int .i64 (0), .bool false, .bool false]], fun ls => [.cells #[.int .i64 (14), .int .i64 (1), .int .i64 (5), .int .i64 (7)] 3], fun ls => []⟩
theorem p0_proto_plain_v23 : SpcG Try.prog M B0 S (sq0_proto_plain_v23  ) :=
  fn_specG hU (P := Try.prog) Try.func106 (fun xs w => by kernel_rfl) 1 _ _ (fun _ => rfl) _ _ _ []
    [.o, .o, .o, .o, .o, .a 2, .o, .o, .o, .l (AccOk.blks [0, 0, 0, 0, 2, 2, 2, 2]), .a 2, .a 1]
    [1, 1, 1, 1, 1, 1, 1, 1, 1, 1] (fun b => by kernel_rfl)
def sq0_proto_plain_v24   : Spc := ⟨fun ls => .call 106 #[.string (⟨#[100, 121, 110, 95, 100, 97, 116, 97]⟩ : ByteArray), .int .i64 (4), .slice (some ⟨(lget ls 0).n, 0, none⟩) 3 3], fun ls => [.cells #[.int .i64 (14), .int .i64 (1), .int .i64 (1)] 3], 0, .normal, fun ls => [.agg #[.string (⟨#[100, 121, 110, 95, 100, 97, 116, 97]⟩ : ByteArray), .int .i64 (14), .int .i64 (1), .int .i64 (1), .int .i64 (0), .int .i64 (0), .int .i64 (4), .int .i64 (0), .bool false, .bool false]], fun ls => [.cells #[.int .i64 (14), .int .i64 (1), .int .i64 (1)] 3], fun ls => []⟩
theorem p0_proto_plain_v24 : SpcG Try.prog M B0 S (sq0_proto_plain_v24  ) :=
  fn_specG hU (P := Try.prog) Try.func106 (fun xs w => by kernel_rfl) 1 _ _ (fun _ => rfl) _ _ _ []
    [.o, .o, .o, .o, .o, .a 2, .o, .o, .o, .l (AccOk.blks [0, 0, 0, 2, 2, 2]), .a 2, .a 1]
    [1, 1, 1, 1, 1, 1, 1, 1, 1, 1] (fun b => by kernel_rfl)
def sq0_proto_plain_v25   : Spc := ⟨fun ls => .call 106 #[.string (⟨#[105, 116, 101, 114, 95, 110, 101, 119]⟩ : ByteArray), .int .i64 (0), .slice (some ⟨(lget ls 0).n, 0, none⟩) 3 3], fun ls => [.cells #[.int .i64 (15), .int .i64 (1), .int .i64 (1)] 3], 0, .normal, fun ls => [.agg #[.string (⟨#[105, 116, 101, 114, 95, 110, 101, 119]⟩ : ByteArray), .int .i64 (15), .int .i64 (1), .int .i64 (1), .int .i64 (0), .int .i64 (0), .int .i64 (0), .int .i64 (0), .bool false, .bool false]], fun ls => [.cells #[.int .i64 (15), .int .i64 (1), .int .i64 (1)] 3], fun ls => []⟩
theorem p0_proto_plain_v25 : SpcG Try.prog M B0 S (sq0_proto_plain_v25  ) :=
  fn_specG hU (P := Try.prog) Try.func106 (fun xs w => by kernel_rfl) 1 _ _ (fun _ => rfl) _ _ _ []
    [.o, .o, .o, .o, .o, .a 2, .o, .o, .o, .l (AccOk.blks [0, 0, 0, 2, 2, 2]), .a 2, .a 1]
    [1, 1, 1, 1, 1, 1, 1, 1, 1, 1] (fun b => by kernel_rfl)
theorem ok_proto_acquires_v3 : ConG Try.prog S 107 #[.agg #[.string (⟨#[105, 116, 101, 114, 95, 110, 101, 119]⟩ : ByteArray), .int .i64 (15), .int .i64 (1), .int .i64 (1), .int .i64 (0), .int .i64 (0), .int .i64 (0), .int .i64 (0), .bool false, .bool false]] (.agg #[.string (⟨#[105, 116, 101, 114, 95, 110, 101, 119]⟩ : ByteArray), .int .i64 (15), .int .i64 (1), .int .i64 (1), .int .i64 (0), .int .i64 (0), .int .i64 (0), .int .i64 (0), .bool true, .bool false]) :=
  fn_conG hU (P := Try.prog) Try.func107 (fun xs w => by kernel_rfl) [.agg #[.string (⟨#[105, 116, 101, 114, 95, 110, 101, 119]⟩ : ByteArray), .int .i64 (15), .int .i64 (1), .int .i64 (1), .int .i64 (0), .int .i64 (0), .int .i64 (0), .int .i64 (0), .bool false, .bool false]] (.agg #[.string (⟨#[105, 116, 101, 114, 95, 110, 101, 119]⟩ : ByteArray), .int .i64 (15), .int .i64 (1), .int .i64 (1), .int .i64 (0), .int .i64 (0), .int .i64 (0), .int .i64 (0), .bool true, .bool false])
    [.o, .o, .o, .a 0, .a 0, .a 1]
    [1, 1, 1, 1, 1, 1, 1, 1, 1, 1] (fun b => by kernel_rfl)
def sq0_proto_plain_v26   : Spc := ⟨fun ls => .call 106 #[.string (⟨#[105, 116, 101, 114, 95, 110, 101, 120, 116]⟩ : ByteArray), .int .i64 (5), .slice (some ⟨(lget ls 0).n, 0, none⟩) 1 1], fun ls => [.cells #[.int .i64 (16)] 3], 0, .normal, fun ls => [.agg #[.string (⟨#[105, 116, 101, 114, 95, 110, 101, 120, 116]⟩ : ByteArray), .int .i64 (16), .int .i64 (0), .int .i64 (0), .int .i64 (0), .int .i64 (0), .int .i64 (5), .int .i64 (0), .bool false, .bool false]], fun ls => [.cells #[.int .i64 (16)] 3], fun ls => []⟩
theorem p0_proto_plain_v26 : SpcG Try.prog M B0 S (sq0_proto_plain_v26  ) :=
  fn_specG hU (P := Try.prog) Try.func106 (fun xs w => by kernel_rfl) 1 _ _ (fun _ => rfl) _ _ _ []
    [.o, .o, .o, .o, .o, .a 2, .o, .o, .o, .l (AccOk.blks [0, 2]), .a 2, .a 1]
    [1, 1, 1, 1, 1, 1, 1, 1, 1, 1] (fun b => by kernel_rfl)
def sq0_proto_plain_v27   : Spc := ⟨fun ls => .call 106 #[.string (⟨#[105, 116, 101, 114, 95, 100, 114, 111, 112]⟩ : ByteArray), .int .i64 (0), .slice (some ⟨(lget ls 0).n, 0, none⟩) 1 1], fun ls => [.cells #[.int .i64 (16)] 3], 0, .normal, fun ls => [.agg #[.string (⟨#[105, 116, 101, 114, 95, 100, 114, 111, 112]⟩ : ByteArray), .int .i64 (16), .int .i64 (0), .int .i64 (0), .int .i64 (0), .int .i64 (0), .int .i64 (0), .int .i64 (0), .bool false, .bool false]], fun ls => [.cells #[.int .i64 (16)] 3], fun ls => []⟩
theorem p0_proto_plain_v27 : SpcG Try.prog M B0 S (sq0_proto_plain_v27  ) :=
  fn_specG hU (P := Try.prog) Try.func106 (fun xs w => by kernel_rfl) 1 _ _ (fun _ => rfl) _ _ _ []
    [.o, .o, .o, .o, .o, .a 2, .o, .o, .o, .l (AccOk.blks [0, 2]), .a 2, .a 1]
    [1, 1, 1, 1, 1, 1, 1, 1, 1, 1] (fun b => by kernel_rfl)
theorem ok_proto_releases_v5 : ConG Try.prog S 108 #[.agg #[.string (⟨#[105, 116, 101, 114, 95, 100, 114, 111, 112]⟩ : ByteArray), .int .i64 (16), .int .i64 (0), .int .i64 (0), .int .i64 (0), .int .i64 (0), .int .i64 (0), .int .i64 (0), .bool false, .bool false]] (.agg #[.string (⟨#[105, 116, 101, 114, 95, 100, 114, 111, 112]⟩ : ByteArray), .int .i64 (16), .int .i64 (0), .int .i64 (0), .int .i64 (0), .int .i64 (0), .int .i64 (0), .int .i64 (0), .bool false, .bool true]) :=
  fn_conG hU (P := Try.prog) Try.func108 (fun xs w => by kernel_rfl) [.agg #[.string (⟨#[105, 116, 101, 114, 95, 100, 114, 111, 112]⟩ : ByteArray), .int .i64 (16), .int .i64 (0), .int .i64 (0), .int .i64 (0), .int .i64 (0), .int .i64 (0), .int .i64 (0), .bool false, .bool false]] (.agg #[.string (⟨#[105, 116, 101, 114, 95, 100, 114, 111, 112]⟩ : ByteArray), .int .i64 (16), .int .i64 (0), .int .i64 (0), .int .i64 (0), .int .i64 (0), .int .i64 (0), .int .i64 (0), .bool false, .bool true])
    [.o, .o, .o, .a 0, .a 0, .a 1]
    [1, 1, 1, 1, 1, 1, 1, 1, 1, 1] (fun b => by kernel_rfl)
theorem ok_proto_table : ConG Try.prog S 89 #[] (.agg #[.string (⟨#[]⟩ : ByteArray), .int .i64 (0), .int .i64 (0), .int .i64 (0), .int .i64 (0), .int .i64 (0), .int .i64 (0), .int .i64 (0), .bool false, .bool false, .string (⟨#[109, 97, 112, 95, 108, 111, 111, 107, 117, 112]⟩ : ByteArray), .int .i64 (2), .int .i64 (3), .int .i64 (0), .int .i64 (0), .int .i64 (0), .int .i64 (1), .int .i64 (6), .bool false, .bool false, .string (⟨#[109, 97, 112, 95, 117, 112, 100, 97, 116, 101]⟩ : ByteArray), .int .i64 (2), .int .i64 (3), .int .i64 (4), .int .i64 (1), .int .i64 (0), .int .i64 (0), .int .i64 (6), .bool false, .bool false, .string (⟨#[109, 97, 112, 95, 100, 101, 108, 101, 116, 101]⟩ : ByteArray), .int .i64 (2), .int .i64 (3), .int .i64 (0), .int .i64 (0), .int .i64 (0), .int .i64 (0), .int .i64 (6), .bool false, .bool false, .string (⟨#[99, 108, 111, 99, 107]⟩ : ByteArray), .int .i64 (0), .int .i64 (0), .int .i64 (0), .int .i64 (0), .int .i64 (0), .int .i64 (0), .int .i64 (0), .bool false, .bool false, .string (⟨#[114, 97, 110, 100, 111, 109]⟩ : ByteArray), .int .i64 (0), .int .i64 (0), .int .i64 (0), .int .i64 (0), .int .i64 (0), .int .i64 (0), .int .i64 (0), .bool false, .bool false, .string (⟨#[116, 97, 105, 108, 95, 99, 97, 108, 108]⟩ : ByteArray), .int .i64 (8), .int .i64 (2), .int .i64 (1), .int .i64 (0), .int .i64 (0), .int .i64 (0), .int .i64 (8), .bool false, .bool false, .string (⟨#[108, 111, 111, 112]⟩ : ByteArray), .int .i64 (1), .int .i64 (9), .int .i64 (17), .int .i64 (0), .int .i64 (0), .int .i64 (0), .int .i64 (0), .bool false, .bool false, .string (⟨#[114, 105, 110, 103, 95, 111, 117, 116, 112, 117, 116]⟩ : ByteArray), .int .i64 (2), .int .i64 (5), .int .i64 (7), .int .i64 (0), .int .i64 (0), .int .i64 (0), .int .i64 (16), .bool false, .bool false, .string (⟨#[114, 105, 110, 103, 95, 114, 101, 115, 101, 114, 118, 101]⟩ : ByteArray), .int .i64 (2), .int .i64 (1), .int .i64 (0), .int .i64 (0), .int .i64 (0), .int .i64 (2), .int .i64 (16), .bool true, .bool false, .string (⟨#[114, 105, 110, 103, 95, 115, 117, 98, 109, 105, 116]⟩ : ByteArray), .int .i64 (10), .int .i64 (0), .int .i64 (0), .int .i64 (0), .int .i64 (0), .int .i64 (0), .int .i64 (0), .bool false, .bool true, .string (⟨#[114, 105, 110, 103, 95, 100, 105, 115, 99, 97, 114, 100]⟩ : ByteArray), .int .i64 (10), .int .i64 (0), .int .i64 (0), .int .i64 (0), .int .i64 (0), .int .i64 (0), .int .i64 (0), .bool false, .bool true, .string (⟨#[114, 105, 110, 103, 95, 113, 117, 101, 114, 121]⟩ : ByteArray), .int .i64 (2), .int .i64 (0), .int .i64 (0), .int .i64 (0), .int .i64 (0), .int .i64 (0), .int .i64 (16), .bool false, .bool false, .string (⟨#[115, 111, 99, 107, 95, 108, 111, 111, 107, 117, 112]⟩ : ByteArray), .int .i64 (8), .int .i64 (5), .int .i64 (7), .int .i64 (0), .int .i64 (0), .int .i64 (3), .int .i64 (0), .bool true, .bool false, .string (⟨#[115, 111, 99, 107, 95, 114, 101, 108, 101, 97, 115, 101]⟩ : ByteArray), .int .i64 (11), .int .i64 (0), .int .i64 (0), .int .i64 (0), .int .i64 (0), .int .i64 (0), .int .i64 (0), .bool false, .bool true, .string (⟨#[116, 105, 109, 101, 114, 95, 105, 110, 105, 116]⟩ : ByteArray), .int .i64 (12), .int .i64 (2), .int .i64 (0), .int .i64 (0), .int .i64 (0), .int .i64 (0), .int .i64 (6), .bool false, .bool false, .string (⟨#[116, 105, 109, 101, 114, 95, 99, 97, 108, 108, 98, 97, 99, 107]⟩ : ByteArray), .int .i64 (12), .int .i64 (9), .int .i64 (0), .int .i64 (0), .int .i64 (0), .int .i64 (0), .int .i64 (0), .bool false, .bool false, .string (⟨#[116, 105, 109, 101, 114, 95, 115, 116, 97, 114, 116]⟩ : ByteArray), .int .i64 (12), .int .i64 (1), .int .i64 (0), .int .i64 (0), .int .i64 (0), .int .i64 (0), .int .i64 (0), .bool false, .bool false, .string (⟨#[116, 105, 109, 101, 114, 95, 99, 97, 110, 99, 101, 108]⟩ : ByteArray), .int .i64 (12), .int .i64 (0), .int .i64 (0), .int .i64 (0), .int .i64 (0), .int .i64 (0), .int .i64 (0), .bool false, .bool false, .string (⟨#[100, 121, 110, 95, 114, 101, 115, 101, 114, 118, 101]⟩ : ByteArray), .int .i64 (2), .int .i64 (1), .int .i64 (13), .int .i64 (0), .int .i64 (0), .int .i64 (0), .int .i64 (16), .bool true, .bool false, .string (⟨#[100, 121, 110, 95, 115, 117, 98, 109, 105, 116]⟩ : ByteArray), .int .i64 (14), .int .i64 (0), .int .i64 (0), .int .i64 (0), .int .i64 (0), .int .i64 (0), .int .i64 (0), .bool false, .bool true, .string (⟨#[100, 121, 110, 95, 100, 105, 115, 99, 97, 114, 100]⟩ : ByteArray), .int .i64 (14), .int .i64 (0), .int .i64 (0), .int .i64 (0), .int .i64 (0), .int .i64 (0), .int .i64 (0), .bool false, .bool true, .string (⟨#[100, 121, 110, 95, 109, 101, 109]⟩ : ByteArray), .int .i64 (5), .int .i64 (7), .int .i64 (13), .int .i64 (0), .int .i64 (0), .int .i64 (0), .int .i64 (0), .bool false, .bool false, .string (⟨#[100, 121, 110, 95, 114, 101, 97, 100]⟩ : ByteArray), .int .i64 (6), .int .i64 (7), .int .i64 (14), .int .i64 (1), .int .i64 (0), .int .i64 (0), .int .i64 (0), .bool false, .bool false, .string (⟨#[100, 121, 110, 95, 119, 114, 105, 116, 101]⟩ : ByteArray), .int .i64 (14), .int .i64 (1), .int .i64 (5), .int .i64 (7), .int .i64 (0), .int .i64 (0), .int .i64 (0), .bool false, .bool false, .string (⟨#[100, 121, 110, 95, 100, 97, 116, 97]⟩ : ByteArray), .int .i64 (14), .int .i64 (1), .int .i64 (1), .int .i64 (0), .int .i64 (0), .int .i64 (4), .int .i64 (0), .bool false, .bool false, .string (⟨#[105, 116, 101, 114, 95, 110, 101, 119]⟩ : ByteArray), .int .i64 (15), .int .i64 (1), .int .i64 (1), .int .i64 (0), .int .i64 (0), .int .i64 (0), .int .i64 (0), .bool true, .bool false, .string (⟨#[105, 116, 101, 114, 95, 110, 101, 120, 116]⟩ : ByteArray), .int .i64 (16), .int .i64 (0), .int .i64 (0), .int .i64 (0), .int .i64 (0), .int .i64 (5), .int .i64 (0), .bool false, .bool false, .string (⟨#[105, 116, 101, 114, 95, 100, 114, 111, 112]⟩ : ByteArray), .int .i64 (16), .int .i64 (0), .int .i64 (0), .int .i64 (0), .int .i64 (0), .int .i64 (0), .int .i64 (0), .bool false, .bool true]) :=
  fn_conG hU (P := Try.prog) Try.func89 (fun xs w => by kernel_rfl) [] (.agg #[.string (⟨#[]⟩ : ByteArray), .int .i64 (0), .int .i64 (0), .int .i64 (0), .int .i64 (0), .int .i64 (0), .int .i64 (0), .int .i64 (0), .bool false, .bool false, .string (⟨#[109, 97, 112, 95, 108, 111, 111, 107, 117, 112]⟩ : ByteArray), .int .i64 (2), .int .i64 (3), .int .i64 (0), .int .i64 (0), .int .i64 (0), .int .i64 (1), .int .i64 (6), .bool false, .bool false, .string (⟨#[109, 97, 112, 95, 117, 112, 100, 97, 116, 101]⟩ : ByteArray), .int .i64 (2), .int .i64 (3), .int .i64 (4), .int .i64 (1), .int .i64 (0), .int .i64 (0), .int .i64 (6), .bool false, .bool false, .string (⟨#[109, 97, 112, 95, 100, 101, 108, 101, 116, 101]⟩ : ByteArray), .int .i64 (2), .int .i64 (3), .int .i64 (0), .int .i64 (0), .int .i64 (0), .int .i64 (0), .int .i64 (6), .bool false, .bool false, .string (⟨#[99, 108, 111, 99, 107]⟩ : ByteArray), .int .i64 (0), .int .i64 (0), .int .i64 (0), .int .i64 (0), .int .i64 (0), .int .i64 (0), .int .i64 (0), .bool false, .bool false, .string (⟨#[114, 97, 110, 100, 111, 109]⟩ : ByteArray), .int .i64 (0), .int .i64 (0), .int .i64 (0), .int .i64 (0), .int .i64 (0), .int .i64 (0), .int .i64 (0), .bool false, .bool false, .string (⟨#[116, 97, 105, 108, 95, 99, 97, 108, 108]⟩ : ByteArray), .int .i64 (8), .int .i64 (2), .int .i64 (1), .int .i64 (0), .int .i64 (0), .int .i64 (0), .int .i64 (8), .bool false, .bool false, .string (⟨#[108, 111, 111, 112]⟩ : ByteArray), .int .i64 (1), .int .i64 (9), .int .i64 (17), .int .i64 (0), .int .i64 (0), .int .i64 (0), .int .i64 (0), .bool false, .bool false, .string (⟨#[114, 105, 110, 103, 95, 111, 117, 116, 112, 117, 116]⟩ : ByteArray), .int .i64 (2), .int .i64 (5), .int .i64 (7), .int .i64 (0), .int .i64 (0), .int .i64 (0), .int .i64 (16), .bool false, .bool false, .string (⟨#[114, 105, 110, 103, 95, 114, 101, 115, 101, 114, 118, 101]⟩ : ByteArray), .int .i64 (2), .int .i64 (1), .int .i64 (0), .int .i64 (0), .int .i64 (0), .int .i64 (2), .int .i64 (16), .bool true, .bool false, .string (⟨#[114, 105, 110, 103, 95, 115, 117, 98, 109, 105, 116]⟩ : ByteArray), .int .i64 (10), .int .i64 (0), .int .i64 (0), .int .i64 (0), .int .i64 (0), .int .i64 (0), .int .i64 (0), .bool false, .bool true, .string (⟨#[114, 105, 110, 103, 95, 100, 105, 115, 99, 97, 114, 100]⟩ : ByteArray), .int .i64 (10), .int .i64 (0), .int .i64 (0), .int .i64 (0), .int .i64 (0), .int .i64 (0), .int .i64 (0), .bool false, .bool true, .string (⟨#[114, 105, 110, 103, 95, 113, 117, 101, 114, 121]⟩ : ByteArray), .int .i64 (2), .int .i64 (0), .int .i64 (0), .int .i64 (0), .int .i64 (0), .int .i64 (0), .int .i64 (16), .bool false, .bool false, .string (⟨#[115, 111, 99, 107, 95, 108, 111, 111, 107, 117, 112]⟩ : ByteArray), .int .i64 (8), .int .i64 (5), .int .i64 (7), .int .i64 (0), .int .i64 (0), .int .i64 (3), .int .i64 (0), .bool true, .bool false, .string (⟨#[115, 111, 99, 107, 95, 114, 101, 108, 101, 97, 115, 101]⟩ : ByteArray), .int .i64 (11), .int .i64 (0), .int .i64 (0), .int .i64 (0), .int .i64 (0), .int .i64 (0), .int .i64 (0), .bool false, .bool true, .string (⟨#[116, 105, 109, 101, 114, 95, 105, 110, 105, 116]⟩ : ByteArray), .int .i64 (12), .int .i64 (2), .int .i64 (0), .int .i64 (0), .int .i64 (0), .int .i64 (0), .int .i64 (6), .bool false, .bool false, .string (⟨#[116, 105, 109, 101, 114, 95, 99, 97, 108, 108, 98, 97, 99, 107]⟩ : ByteArray), .int .i64 (12), .int .i64 (9), .int .i64 (0), .int .i64 (0), .int .i64 (0), .int .i64 (0), .int .i64 (0), .bool false, .bool false, .string (⟨#[116, 105, 109, 101, 114, 95, 115, 116, 97, 114, 116]⟩ : ByteArray), .int .i64 (12), .int .i64 (1), .int .i64 (0), .int .i64 (0), .int .i64 (0), .int .i64 (0), .int .i64 (0), .bool false, .bool false, .string (⟨#[116, 105, 109, 101, 114, 95, 99, 97, 110, 99, 101, 108]⟩ : ByteArray), .int .i64 (12), .int .i64 (0), .int .i64 (0), .int .i64 (0), .int .i64 (0), .int .i64 (0), .int .i64 (0), .bool false, .bool false, .string (⟨#[100, 121, 110, 95, 114, 101, 115, 101, 114, 118, 101]⟩ : ByteArray), .int .i64 (2), .int .i64 (1), .int .i64 (13), .int .i64 (0), .int .i64 (0), .int .i64 (0), .int .i64 (16), .bool true, .bool false, .string (⟨#[100, 121, 110, 95, 115, 117, 98, 109, 105, 116]⟩ : ByteArray), .int .i64 (14), .int .i64 (0), .int .i64 (0), .int .i64 (0), .int .i64 (0), .int .i64 (0), .int .i64 (0), .bool false, .bool true, .string (⟨#[100, 121, 110, 95, 100, 105, 115, 99, 97, 114, 100]⟩ : ByteArray), .int .i64 (14), .int .i64 (0), .int .i64 (0), .int .i64 (0), .int .i64 (0), .int .i64 (0), .int .i64 (0), .bool false, .bool true, .string (⟨#[100, 121, 110, 95, 109, 101, 109]⟩ : ByteArray), .int .i64 (5), .int .i64 (7), .int .i64 (13), .int .i64 (0), .int .i64 (0), .int .i64 (0), .int .i64 (0), .bool false, .bool false, .string (⟨#[100, 121, 110, 95, 114, 101, 97, 100]⟩ : ByteArray), .int .i64 (6), .int .i64 (7), .int .i64 (14), .int .i64 (1), .int .i64 (0), .int .i64 (0), .int .i64 (0), .bool false, .bool false, .string (⟨#[100, 121, 110, 95, 119, 114, 105, 116, 101]⟩ : ByteArray), .int .i64 (14), .int .i64 (1), .int .i64 (5), .int .i64 (7), .int .i64 (0), .int .i64 (0), .int .i64 (0), .bool false, .bool false, .string (⟨#[100, 121, 110, 95, 100, 97, 116, 97]⟩ : ByteArray), .int .i64 (14), .int .i64 (1), .int .i64 (1), .int .i64 (0), .int .i64 (0), .int .i64 (4), .int .i64 (0), .bool false, .bool false, .string (⟨#[105, 116, 101, 114, 95, 110, 101, 119]⟩ : ByteArray), .int .i64 (15), .int .i64 (1), .int .i64 (1), .int .i64 (0), .int .i64 (0), .int .i64 (0), .int .i64 (0), .bool true, .bool false, .string (⟨#[105, 116, 101, 114, 95, 110, 101, 120, 116]⟩ : ByteArray), .int .i64 (16), .int .i64 (0), .int .i64 (0), .int .i64 (0), .int .i64 (0), .int .i64 (5), .int .i64 (0), .bool false, .bool false, .string (⟨#[105, 116, 101, 114, 95, 100, 114, 111, 112]⟩ : ByteArray), .int .i64 (16), .int .i64 (0), .int .i64 (0), .int .i64 (0), .int .i64 (0), .int .i64 (0), .int .i64 (0), .bool false, .bool true])
    [.o, .o, .xg (p0_proto_mapped hU  ) [1], .o, .xg (p0_proto_mapped_v1 hU  ) [2], .o, .xg (p0_proto_mapped_v2 hU  ) [3], .cg (ok_proto_plain_v3 hU  ), .cg (ok_proto_plain_v4 hU  ), .o, .xg (p0_proto_mapped_v3 hU  ) [4], .o, .xg (p0_proto_plain_v6 hU  ) [5], .o, .xg (p0_proto_mapped_v4 hU  ) [6], .o, .xg (p0_proto_mapped_v5 hU  ) [7], .cg (ok_proto_acquires hU  ), .o, .xg (p0_proto_plain_v9 hU  ) [8], .cg (ok_proto_releases hU  ), .o, .xg (p0_proto_plain_v10 hU  ) [9], .cg (ok_proto_releases_v1 hU  ), .o, .xg (p0_proto_mapped_v6 hU  ) [10], .o, .xg (p0_proto_plain_v12 hU  ) [11], .cg (ok_proto_acquires_v1 hU  ), .o, .xg (p0_proto_plain_v13 hU  ) [12], .cg (ok_proto_releases_v2 hU  ), .o, .xg (p0_proto_mapped_v7 hU  ) [13], .o, .xg (p0_proto_plain_v15 hU  ) [14], .o, .xg (p0_proto_plain_v16 hU  ) [15], .o, .xg (p0_proto_plain_v17 hU  ) [16], .o, .xg (p0_proto_mapped_v8 hU  ) [17], .cg (ok_proto_acquires_v2 hU  ), .o, .xg (p0_proto_plain_v19 hU  ) [18], .cg (ok_proto_releases_v3 hU  ), .o, .xg (p0_proto_plain_v20 hU  ) [19], .cg (ok_proto_releases_v4 hU  ), .o, .xg (p0_proto_plain_v21 hU  ) [20], .o, .xg (p0_proto_plain_v22 hU  ) [21], .o, .xg (p0_proto_plain_v23 hU  ) [22], .o, .xg (p0_proto_plain_v24 hU  ) [23], .o, .xg (p0_proto_plain_v25 hU  ) [24], .cg (ok_proto_acquires_v3 hU  ), .o, .xg (p0_proto_plain_v26 hU  ) [25], .o, .xg (p0_proto_plain_v27 hU  ) [26], .cg (ok_proto_releases_v5 hU  ), .o, .a 0]
    [0, 0, 0, 0, 0, 0, 0, 0, 0, 0, 0, 0, 0, 0, 0, 0, 0, 0, 0, 0, 0, 0, 0, 0, 0, 0, 0, 0, 0, 0, 0, 0, 0, 0, 0, 0, 0, 0, 0, 0, 0, 0, 0, 0, 0, 0, 0, 0, 0, 0, 0, 0, 0, 0, 0, 0, 0, 0, 0, 0, 0, 0, 0, 0, 0, 0, 0, 0, 0, 0, 0, 0, 0, 0, 0, 0, 0, 0, 0, 0, 0, 0, 0, 0, 0, 0, 0, 0, 0, 0, 0, 0, 0, 0, 0, 0, 0, 0, 0, 0, 0, 0, 0, 0, 0, 0, 0, 0, 0, 0, 0, 0, 0, 0, 0, 0, 0, 0, 0, 0, 0, 0, 0, 0, 0, 0, 0, 0, 0, 0, 0, 0, 0, 0, 0, 0, 0, 0, 0, 0, 0, 0, 0, 0, 0, 0, 0, 0, 0, 0, 0, 0, 0, 0, 0, 0, 0, 0, 0, 0, 0, 0, 0, 0, 0, 0, 0, 0, 0, 0, 0, 0, 0, 0, 0, 0, 0, 0, 0, 0, 0, 0, 0, 0, 0, 0, 0, 0, 0, 0, 0, 0, 0, 0, 0, 0, 0, 0, 0, 0, 0, 0, 0, 0, 0, 0, 0, 0, 0, 0, 0, 0, 0, 0, 0, 0, 0, 0, 0, 0, 0, 0, 0, 0, 0, 0, 0, 0, 0, 0, 0, 0, 0, 0, 0, 0, 0, 0, 0, 0, 0, 0, 0, 0, 0, 0, 0, 0, 0, 0, 0, 0, 0, 0, 0, 0, 0, 0, 0, 0, 0, 0, 0, 0, 0, 0, 0, 0, 0, 0, 0, 0, 0, 0, 0, 0, 0, 0, 0, 0, 0, 0, 0, 0, 0, 0, 0, 0, 0, 0] (fun b => by kernel_rfl)
noncomputable def m_proto_Of (y0 : Int) : Option ((Proto) × (Int)) :=
  bif decide (y0 < 1) then
    (some ((⟨(⟨#[]⟩ : ByteArray), (⟨0, 0, 0, 0, 0⟩ : Arr123), 0, 0, false, false⟩ : Proto), 130))
  else (bif decide (28 < y0) then
    (some ((⟨(⟨#[]⟩ : ByteArray), (⟨0, 0, 0, 0, 0⟩ : Arr123), 0, 0, false, false⟩ : Proto), 130))
  else (bif inR y0 29 then
    (some ((⟨((tb0 (y0).toNat)).fName, (((tb0 (y0).toNat)).fArgs), ((tb0 (y0).toNat)).fRet, ((tb0 (y0).toNat)).fMaps, ((tb0 (y0).toNat)).fAcquire, ((tb0 (y0).toNat)).fRelease⟩ : Proto), 0))
  else (none)))
theorem ok_proto_Of (y0 : Int) (r : (Proto) × (Int)) (e : m_proto_Of y0 = some r) : ConG Try.prog S 64 #[.int .i64 (y0)] (vt5 r) := by
  unfold m_proto_Of at e
  replace e := cond_eq_or e
  rcases e with ⟨hq0, e⟩ | ⟨hq0, e⟩
  · injection e with e; subst e; exact fn_conG hU (P := Try.prog) Try.func64 (fun xs w => by kernel_rfl) _ _ [.o, .o, .o, .b (z_lssT hq0), .o, .o, .o, .a 0, .o] [0, 0, 0, 0, 0, 0, 0, 0, 0, 0] (fun b => by kernel_rfl)
  · replace e := cond_eq_or e
    rcases e with ⟨hq1, e⟩ | ⟨hq1, e⟩
    · injection e with e; subst e; exact fn_conG hU (P := Try.prog) Try.func64 (fun xs w => by kernel_rfl) _ _ [.o, .o, .o, .b (z_lssF hq0), .o, .o, .b (z_gtrT hq1), .o, .o, .a 0, .o] [0, 0, 0, 0, 0, 0, 0, 0, 0, 0] (fun b => by kernel_rfl)
    · replace e := cond_eq_or e
      rcases e with ⟨hq2, e⟩ | ⟨hq2, e⟩
      · injection e with e; subst e; exact fn_conG hU (P := Try.prog) Try.func64 (fun xs w => by kernel_rfl) _ _ [.o, .o, .o, .b (z_lssF hq0), .o, .o, .b (z_gtrF hq1), .o, .cg (ok_proto_table hU  ), .o, .ov (idxV_ok (kd := .i64) (T := 142) (e := 125) (n := 29) (sz := 10) (cs := ⟨tb0_c⟩) (x := y0) (by kernel_rfl) (fun w => by kernel_rfl) (fun w => by kernel_rfl) hq2 (tb0_at (inR_nat hq2))), .a 0, .o] [0, 0, 0, 0, 0, 0, 0, 0, 0, 0] (fun b => by kernel_rfl)
      · exact none_some e
inductive Sh_live_taken_L0 where
  | c0 (s0_0 : BitVec 16) (s0_1 : Int)
inductive Ex_live_taken_L0 where
  | e0 (c0_0 : BitVec 16)
noncomputable def st_live_taken_L0 (r0 : (Proto) × (Int)) : Sh_live_taken_L0 → Option (Sh_live_taken_L0 ⊕ Ex_live_taken_L0)
  | .c0 s0_0 s0_1 =>
    bif decide (s0_1 < 5) then
      (bif inR s0_1 5 then
        (bif (g_Arr123 r0.1.fArgs (s0_1).toNat) == 0 then
          (some (.inl (.c0 s0_0 (IntKind.i64.wrap (s0_1 + 1)))))
        else (bif decide (0 ≤ (IntKind.i64.wrap (s0_1 + 1))) then
          (some (.inl (.c0 (s0_0 ||| (1#16 <<< ((IntKind.i64.wrap (s0_1 + 1))).toNat)) (IntKind.i64.wrap (s0_1 + 1)))))
        else (none)))
      else (none))
    else (some (.inr (.e0 s0_0)))
noncomputable def bd_live_taken_L0 : Code := codeOf Try.f39 [1, 1, 1, 0, 1, 0, 0]
def fl_live_taken_L0 (y0 : Int) (r0 : (Proto) × (Int)) : Sh_live_taken_L0 → List L1 → List Value
  | .c0 s0_0 s0_1, ls => [.int .u16 (0), .int .u16 (nn s0_0), .agg #[.int .i64 (r0.1.fArgs.x0), .int .i64 (r0.1.fArgs.x1), .int .i64 (r0.1.fArgs.x2), .int .i64 (r0.1.fArgs.x3), .int .i64 (r0.1.fArgs.x4)], .int .i64 (s0_1)]
def mf_live_taken_L0 : Sh_live_taken_L0 → List (Nat × Nat)
  | .c0 _ _ => [(0, 2), (2, 10), (2, 12)]
noncomputable def fr_live_taken_L0 (y0 : Int) (r0 : (Proto) × (Int)) (s : Sh_live_taken_L0) : List L1 → List Value := mrgF (mf_live_taken_L0 s) (fl_live_taken_L0 y0 r0 s) 1
def Hs_live_taken_L0 (y0 : Int) (r0 : (Proto) × (Int)) : Sh_live_taken_L0 → List L1 → List Obj
  | .c0 s0_0 s0_1, ls => [.cells #[.string r0.1.fName, .int .i64 (r0.1.fArgs.x0), .int .i64 (r0.1.fArgs.x1), .int .i64 (r0.1.fArgs.x2), .int .i64 (r0.1.fArgs.x3), .int .i64 (r0.1.fArgs.x4), .int .i64 (r0.1.fRet), .int .i64 (r0.1.fMaps), .bool (r0.1.fAcquire), .bool (r0.1.fRelease)] 125, unb]
def vl_live_taken_L0 (y0 : Int) (r0 : (Proto) × (Int)) : Ex_live_taken_L0 → List L1 → List Value
  | .e0 c0_0, ls => [.int .u16 (0), .int .u16 (nn c0_0), .agg #[.int .i64 (r0.1.fArgs.x0), .int .i64 (r0.1.fArgs.x1), .int .i64 (r0.1.fArgs.x2), .int .i64 (r0.1.fArgs.x3), .int .i64 (r0.1.fArgs.x4)]]
def mk_live_taken_L0 : Ex_live_taken_L0 → List (Nat × Nat)
  | .e0 _ => [(0, 2), (2, 10), (1, 13)]
noncomputable def vf_live_taken_L0 (y0 : Int) (r0 : (Proto) × (Int)) (r : Ex_live_taken_L0) : List L1 → List Value := mrgF (mk_live_taken_L0 r) (vl_live_taken_L0 y0 r0 r) 1
def Hf_live_taken_L0 (y0 : Int) (r0 : (Proto) × (Int)) : Ex_live_taken_L0 → List L1 → List Obj
  | .e0 c0_0, ls => [.cells #[.string r0.1.fName, .int .i64 (r0.1.fArgs.x0), .int .i64 (r0.1.fArgs.x1), .int .i64 (r0.1.fArgs.x2), .int .i64 (r0.1.fArgs.x3), .int .i64 (r0.1.fArgs.x4), .int .i64 (r0.1.fRet), .int .i64 (r0.1.fMaps), .bool (r0.1.fAcquire), .bool (r0.1.fRelease)] 125, unb]
def ex_live_taken_L0 : Ex_live_taken_L0 → Ex
  | .e0 _ => (.exit 0)
end
section
variable {M : Nat → Prop} {B0 : Nat} {S : World → Prop} (hU : Up M B0 S) (y0 : Int) (r0 : (Proto) × (Int))
include hU y0 r0
theorem go_live_taken_L0 (s : Sh_live_taken_L0) (r : Ex_live_taken_L0) (h : lpO (st_live_taken_L0 r0) s = some r) : GoesG Try.prog M B0 S (.loop bd_live_taken_L0) 2 (fr_live_taken_L0 y0 r0 s) (Hs_live_taken_L0 y0 r0 s) (ex_live_taken_L0 r) 1 (vf_live_taken_L0 y0 r0 r) (Hf_live_taken_L0 y0 r0 r) 2 :=
  goes_lpO (fun s q e => by
    cases s with
    | c0 s0_0 s0_1 =>
      unfold st_live_taken_L0 at e
      dsimp only at e
      replace e := cond_eq_or e
      rcases e with ⟨hq0, e⟩ | ⟨hq0, e⟩
      · replace e := cond_eq_or e
        rcases e with ⟨hq1, e⟩ | ⟨hq1, e⟩
        · replace e := cond_eq_or e
          let P1 : List (PG Try.prog M B0 S) := [.b (z_lssT hq0), .o, .ov (idxC_ok (kd := .i64) (T := 123) (e := 3) (n := 5) (cs := ⟨c_Arr123 r0.1.fArgs⟩) (x := s0_1) (v := .int .i64 ((g_Arr123 r0.1.fArgs (s0_1).toNat))) (by kernel_rfl) (fun w => by kernel_rfl) (fun w => by kernel_rfl) hq1 (drop_get (g_Arr123_at r0.1.fArgs (inR_nat hq1)))), .o, .o, .o]
          rcases e with ⟨hq2, e⟩ | ⟨hq2, e⟩
          · cases e; exact goes_runM hU (P1 ++ [.b (z_neqT hq2), .o, .o]) [0] (fun b => rfl) (by decide) rfl rfl (fun b => by kernel_rfl)
          · replace e := cond_eq_or e
            rcases e with ⟨hq3, e⟩ | ⟨hq3, e⟩
            · cases e; exact goes_runM hU (P1 ++ [.b (z_neqF hq2), .o, .o, .o, .ov (u16_shl Try.prog 31 (.const (.int .u16 (1))) (.tmp 23) (1#16) ((IntKind.i64.wrap (s0_1 + 1))).toNat .i64 (z_pos hq3)), .v .u16 (u16_or s0_0 (1#16 <<< ((IntKind.i64.wrap (s0_1 + 1))).toNat)), .o, .o, .o]) [0] (fun b => rfl) (by decide) rfl rfl (fun b => by kernel_rfl)
            · exact none_some e
        · exact none_some e
      · cases e; exact ⟨ne_exit 0, goes_runM hU [.b (z_lssF hq0)] [0] (fun b => rfl) (by decide) rfl rfl (fun b => by kernel_rfl)⟩) s r h
noncomputable def t0_live_taken_L0_0 (y0 : Int) (r0 : (Proto) × (Int)) (s0_0 : BitVec 16) (s0_1 : Int) (ls : List L1) : List Value := List.append [.int .i64 (y0), undef, .int .u16 (0), .int .u16 (nn s0_0), .pointer (some ⟨(lget ls 0).n, 0, none⟩), .int .i64 (r0.2), undef, undef, .tuple #[(v_Proto r0.1), .int .i64 (r0.2)], .int .i64 (y0), .tuple #[(v_Proto r0.1), .int .i64 (r0.2)], (v_Proto r0.1), .int .i64 (r0.2), .pointer (some ⟨(lget ls 0).n, 1, none⟩), .agg #[.int .i64 (r0.1.fArgs.x0), .int .i64 (r0.1.fArgs.x1), .int .i64 (r0.1.fArgs.x2), .int .i64 (r0.1.fArgs.x3), .int .i64 (r0.1.fArgs.x4)], .int .i64 (s0_1)] (und 12)
def pre_live_taken_L0_0 (y0 : Int) (r0 : (Proto) × (Int)) (s0_0 : BitVec 16) (s0_1 : Int) (ls : List L1) : List Obj := [.cells #[.string r0.1.fName, .int .i64 (r0.1.fArgs.x0), .int .i64 (r0.1.fArgs.x1), .int .i64 (r0.1.fArgs.x2), .int .i64 (r0.1.fArgs.x3), .int .i64 (r0.1.fArgs.x4), .int .i64 (r0.1.fRet), .int .i64 (r0.1.fMaps), .bool (r0.1.fAcquire), .bool (r0.1.fRelease)] 125]
theorem sp0_live_taken_L0_0_ok (s0_0 : BitVec 16) (s0_1 : Int) (c0_0 : BitVec 16) (h : lpO (st_live_taken_L0 r0) (.c0 s0_0 s0_1) = some (.e0 c0_0)) : SpcG Try.prog M B0 S ⟨fun ls => .code (.loop bd_live_taken_L0) (t0_live_taken_L0_0 y0 r0 s0_0 s0_1 ls), pre_live_taken_L0_0 y0 r0 s0_0 s0_1, 1, (.exit 0), fun ls => vf_live_taken_L0 y0 r0 (.e0 c0_0) (ls.take 1 ++ ls.drop 1), fun ls => (Hf_live_taken_L0 y0 r0 (.e0 c0_0) (ls.take 1 ++ ls.drop 1)).take 1 ++ List.replicate 0 unb, fun ls => (Hf_live_taken_L0 y0 r0 (.e0 c0_0) (ls.take 1 ++ ls.drop 1)).drop 1⟩ :=
  spc_of_goesM hU 0 (k0 := 1) (go_live_taken_L0 hU y0 r0 _ _ h) (t0_live_taken_L0_0 y0 r0 s0_0 s0_1) (pre_live_taken_L0_0 y0 r0 s0_0 s0_1) (fun _ => rfl) (fun ls h => by match ls, h with | [l0], _ => exact ⟨by kernel_rfl, by kernel_rfl⟩) (fun ls h => by match ls, h with | [l0], _ => rfl) (by decide) (by decide) (fun ls => rfl)
noncomputable def m_live_taken (y0 : Int) : Option (BitVec 16) :=
  (m_proto_Of y0).bind fun r0 =>
  (lpO (st_live_taken_L0 r0) (.c0 (0#16) 0)).bind fun g1 => match g1 with
  | .e0 g1_0 =>
  some g1_0
end
section
variable {M : Nat → Prop} {B0 : Nat} {S : World → Prop} (hU : Up M B0 S)
include hU
theorem ok_live_taken (y0 : Int) (r : BitVec 16) (e : m_live_taken y0 = some r) : ConG Try.prog S 39 #[.int .i64 (y0)] (.int .u16 (nn r)) := by
  unfold m_live_taken at e
  replace e := bindO_eq e
  obtain ⟨r0, e_r0, e⟩ := e
  try dsimp only at e
  replace e := bindO_eq e
  obtain ⟨g1, e_g1, e⟩ := e
  obtain ⟨g1_0⟩ := g1
  try dsimp only at e
  injection e with e; subst e; exact fn_conG hU (P := Try.prog) Try.func39 (fun xs w => by kernel_rfl) _ _ [.o, .o, .o, .cg (ok_proto_Of hU y0 r0 e_r0), .o, .o, .o, .o, .a 0, .o, .o, .a 0, .o, .cp, .cx (sp0_live_taken_L0_0_ok hU y0 r0 (0#16) 0 g1_0 e_g1) [0], .o, .o] [] (fun b => by kernel_rfl)
noncomputable def m_live_jumpReads_v1 (y0 : Insn) : Option (BitVec 16) :=
  bif (y0.fOp >>> 4) == 0#8 then
    (some (0#16))
  else (bif (y0.fOp >>> 4) == 9#8 then
    (some (1#16))
  else (bif (y0.fOp >>> 4) == 8#8 then
    (bif y0.fSrc == 1#8 then
      (some (62#16))
    else ((m_live_taken (ii y0.fImm)).bind fun r0 =>
    some r0))
  else (bindT (m_live_bit_v2 y0.fDst) fun r0 =>
  bindT (m_live_operand_v2 y0) fun r1 =>
  some (r0 ||| r1))))
theorem ok_live_jumpReads_v1 (y0 : Insn) (r : BitVec 16) (e : m_live_jumpReads_v1 y0 = some r) : ConG Try.prog S 20 #[(v_Insn y0)] (.int .u16 (nn r)) := by
  unfold m_live_jumpReads_v1 at e
  replace e := cond_eq_or e
  let P1 : List (PG Try.prog M B0 S) := [.o, .o, .o, .a 0, .ov (u8_shr Try.prog 5 (.tmp 4) (.const (.int .u64 (4))) y0.fOp 4 .u64 rfl)]
  rcases e with ⟨hq0, e⟩ | ⟨hq0, e⟩
  · injection e with e; subst e; exact fn_conG hU (P := Try.prog) Try.func20 (fun xs w => by kernel_rfl) _ _ (P1 ++ [.t (u_eq (y0.fOp >>> 4) (0#8)) hq0, .o, .o]) [] (fun b => by kernel_rfl)
  · replace e := cond_eq_or e
    let P2 : List (PG Try.prog M B0 S) := P1 ++ [.t (u_eq (y0.fOp >>> 4) (0#8)) hq0, .o]
    rcases e with ⟨hq1, e⟩ | ⟨hq1, e⟩
    · injection e with e; subst e; exact fn_conG hU (P := Try.prog) Try.func20 (fun xs w => by kernel_rfl) _ _ (P2 ++ [.t (u_eq (y0.fOp >>> 4) (9#8)) hq1, .o, .o]) [] (fun b => by kernel_rfl)
    · replace e := cond_eq_or e
      rcases e with ⟨hq2, e⟩ | ⟨hq2, e⟩
      · replace e := cond_eq_or e
        let P3 : List (PG Try.prog M B0 S) := P2 ++ [.t (u_eq (y0.fOp >>> 4) (9#8)) hq1, .o, .t (u_eq (y0.fOp >>> 4) (8#8)) hq2, .o, .o, .a 0]
        rcases e with ⟨hq3, e⟩ | ⟨hq3, e⟩
        · injection e with e; subst e; exact fn_conG hU (P := Try.prog) Try.func20 (fun xs w => by kernel_rfl) _ _ (P3 ++ [.t (u_eq y0.fSrc (1#8)) hq3, .o]) [] (fun b => by kernel_rfl)
        · replace e := bindO_eq e
          obtain ⟨r0, e_r0, e⟩ := e
          try dsimp only at e
          injection e with e; subst e; exact fn_conG hU (P := Try.prog) Try.func20 (fun xs w => by kernel_rfl) _ _ (P3 ++ [.t (u_eq y0.fSrc (1#8)) hq3, .o, .a 0, .v .i64 (z_of_ii (by decide) y0.fImm), .cg (ok_live_taken hU (ii y0.fImm) r0 e_r0), .o]) [] (fun b => by kernel_rfl)
      · replace e := bindT_eq e
        obtain ⟨r0, e_r0, e⟩ := e
        try dsimp only at e
        replace e := bindT_eq e
        obtain ⟨r1, e_r1, e⟩ := e
        try dsimp only at e
        injection e with e; subst e; exact fn_conG hU (P := Try.prog) Try.func20 (fun xs w => by kernel_rfl) _ _ (P2 ++ [.t (u_eq (y0.fOp >>> 4) (9#8)) hq1, .o, .t (u_eq (y0.fOp >>> 4) (8#8)) hq2, .o, .r [0, 1, 2, 3, 4, 5, 6] [] [], .o, .a 0, .cg (ok_live_bit_v2 hU y0.fDst r0 e_r0), .a 0, .cg (ok_live_operand_v2 hU y0 r1 e_r1), .v .u16 (u16_or r0 r1), .o]) [] (fun b => by kernel_rfl)
noncomputable def m_live_Reads_v3 (y0 : Insn) : Option ((BitVec 16) × (Bool)) :=
  (m_live_known_v3 y0).bind fun r0 =>
  bif r0 then
    (bif (y0.fOp &&& 7#8) == 1#8 then
      (bindT (m_live_bit_v2 y0.fSrc) fun r1 =>
      some (r1, true))
    else (bif (y0.fOp &&& 7#8) == 2#8 then
      (bindT (m_live_bit_v2 y0.fDst) fun r1 =>
      some (r1, true))
    else (bif (y0.fOp &&& 7#8) == 3#8 then
      (bindT (m_live_bit_v2 y0.fDst) fun r1 =>
      bindT (m_live_bit_v2 y0.fSrc) fun r2 =>
      some ((r1 ||| r2), true))
    else (bif (y0.fOp &&& 7#8) == 4#8 then
      (bindT (m_live_aluReads_v2 y0) fun r1 =>
      some (r1, true))
    else (bif (y0.fOp &&& 7#8) == 7#8 then
      (bindT (m_live_aluReads_v2 y0) fun r1 =>
      some (r1, true))
    else (bif (y0.fOp &&& 7#8) == 5#8 then
      ((m_live_jumpReads_v1 y0).bind fun r1 =>
      some (r1, true))
    else (bif (y0.fOp &&& 7#8) == 6#8 then
      ((m_live_jumpReads_v1 y0).bind fun r1 =>
      some (r1, true))
    else (some (0#16, true)))))))))
  else (some (0#16, false))
end
section
variable {M : Nat → Prop} {B0 : Nat} {S : World → Prop} (hU : Up M B0 S) (y0 : Insn) (r : (BitVec 16) × (Bool))
include hU y0 r
theorem ok_live_Reads_v3 (e : m_live_Reads_v3 y0 = some r) : ConG Try.prog S 9 #[(v_Insn y0)] (vt7 r) := by
  unfold m_live_Reads_v3 at e
  replace e := bindO_eq e
  obtain ⟨r0, e_r0, e⟩ := e
  try dsimp only at e
  replace e := cond_eq_or e
  let P1 : List (PG Try.prog M B0 S) := [.o, .o, .o, .a 0]
  rcases e with ⟨hq0, e⟩ | ⟨hq0, e⟩
  · subst hq0
    replace e := cond_eq_or e
    let P2 : List (PG Try.prog M B0 S) := P1 ++ [.cg (ok_live_known_v3 hU y0 true e_r0), .o, .o, .a 0, .v .u8 (u8_and y0.fOp (7#8))]
    rcases e with ⟨hq1, e⟩ | ⟨hq1, e⟩
    · replace e := bindT_eq e
      obtain ⟨r1, e_r1, e⟩ := e
      try dsimp only at e
      injection e with e; subst e; exact fn_conG hU (P := Try.prog) Try.func9 (fun xs w => by kernel_rfl) _ _ (P2 ++ [.t (u_eq (y0.fOp &&& 7#8) (1#8)) hq1, .o, .o, .a 0, .cg (ok_live_bit_v2 hU y0.fSrc r1 e_r1), .o, .o]) [] (fun b => by kernel_rfl)
    · replace e := cond_eq_or e
      let P3 : List (PG Try.prog M B0 S) := P2 ++ [.t (u_eq (y0.fOp &&& 7#8) (1#8)) hq1, .o]
      rcases e with ⟨hq2, e⟩ | ⟨hq2, e⟩
      · replace e := bindT_eq e
        obtain ⟨r1, e_r1, e⟩ := e
        try dsimp only at e
        injection e with e; subst e; exact fn_conG hU (P := Try.prog) Try.func9 (fun xs w => by kernel_rfl) _ _ (P3 ++ [.t (u_eq (y0.fOp &&& 7#8) (2#8)) hq2, .o, .o, .a 0, .cg (ok_live_bit_v2 hU y0.fDst r1 e_r1), .o, .o]) [] (fun b => by kernel_rfl)
      · replace e := cond_eq_or e
        let P4 : List (PG Try.prog M B0 S) := P3 ++ [.t (u_eq (y0.fOp &&& 7#8) (2#8)) hq2, .o]
        rcases e with ⟨hq3, e⟩ | ⟨hq3, e⟩
        · replace e := bindT_eq e
          obtain ⟨r1, e_r1, e⟩ := e
          try dsimp only at e
          replace e := bindT_eq e
          obtain ⟨r2, e_r2, e⟩ := e
          try dsimp only at e
          injection e with e; subst e; exact fn_conG hU (P := Try.prog) Try.func9 (fun xs w => by kernel_rfl) _ _ (P4 ++ [.t (u_eq (y0.fOp &&& 7#8) (3#8)) hq3, .o, .r [0, 1, 2, 3, 4, 5, 6, 7, 8] [] [], .o, .a 0, .cg (ok_live_bit_v2 hU y0.fDst r1 e_r1), .o, .a 0, .cg (ok_live_bit_v2 hU y0.fSrc r2 e_r2), .v .u16 (u16_or r1 r2), .o, .o]) [] (fun b => by kernel_rfl)
        · replace e := cond_eq_or e
          let P5 : List (PG Try.prog M B0 S) := P4 ++ [.t (u_eq (y0.fOp &&& 7#8) (3#8)) hq3, .o]
          rcases e with ⟨hq4, e⟩ | ⟨hq4, e⟩
          · replace e := bindT_eq e
            obtain ⟨r1, e_r1, e⟩ := e
            try dsimp only at e
            injection e with e; subst e; exact fn_conG hU (P := Try.prog) Try.func9 (fun xs w => by kernel_rfl) _ _ (P5 ++ [.t (u_eq (y0.fOp &&& 7#8) (4#8)) hq4, .o, .a 0, .cg (ok_live_aluReads_v2 hU y0 r1 e_r1), .o, .o]) [] (fun b => by kernel_rfl)
          · replace e := cond_eq_or e
            let P6 : List (PG Try.prog M B0 S) := P5 ++ [.t (u_eq (y0.fOp &&& 7#8) (4#8)) hq4, .o]
            rcases e with ⟨hq5, e⟩ | ⟨hq5, e⟩
            · replace e := bindT_eq e
              obtain ⟨r1, e_r1, e⟩ := e
              try dsimp only at e
              injection e with e; subst e; exact fn_conG hU (P := Try.prog) Try.func9 (fun xs w => by kernel_rfl) _ _ (P6 ++ [.t (u_eq (y0.fOp &&& 7#8) (7#8)) hq5, .o, .a 0, .cg (ok_live_aluReads_v2 hU y0 r1 e_r1), .o, .o]) [] (fun b => by kernel_rfl)
            · replace e := cond_eq_or e
              rcases e with ⟨hq6, e⟩ | ⟨hq6, e⟩
              · replace e := bindO_eq e
                obtain ⟨r1, e_r1, e⟩ := e
                try dsimp only at e
                injection e with e; subst e; exact fn_conG hU (P := Try.prog) Try.func9 (fun xs w => by kernel_rfl) _ _ (P6 ++ [.t (u_eq (y0.fOp &&& 7#8) (7#8)) hq5, .o, .t (u_eq (y0.fOp &&& 7#8) (5#8)) hq6, .o, .a 0, .cg (ok_live_jumpReads_v1 hU y0 r1 e_r1), .o, .o]) [] (fun b => by kernel_rfl)
              · replace e := cond_eq_or e
                rcases e with ⟨hq7, e⟩ | ⟨hq7, e⟩
                · replace e := bindO_eq e
                  obtain ⟨r1, e_r1, e⟩ := e
                  try dsimp only at e
                  injection e with e; subst e; exact fn_conG hU (P := Try.prog) Try.func9 (fun xs w => by kernel_rfl) _ _ (P6 ++ [.t (u_eq (y0.fOp &&& 7#8) (7#8)) hq5, .o, .t (u_eq (y0.fOp &&& 7#8) (5#8)) hq6, .o, .t (u_eq (y0.fOp &&& 7#8) (6#8)) hq7, .o, .a 0, .cg (ok_live_jumpReads_v1 hU y0 r1 e_r1), .o, .o]) [] (fun b => by kernel_rfl)
                · injection e with e; subst e; exact fn_conG hU (P := Try.prog) Try.func9 (fun xs w => by kernel_rfl) _ _ (P6 ++ [.t (u_eq (y0.fOp &&& 7#8) (7#8)) hq5, .o, .t (u_eq (y0.fOp &&& 7#8) (5#8)) hq6, .o, .t (u_eq (y0.fOp &&& 7#8) (6#8)) hq7, .o, .o, .o]) [] (fun b => by kernel_rfl)
  · subst hq0
    injection e with e; subst e; exact fn_conG hU (P := Try.prog) Try.func9 (fun xs w => by kernel_rfl) _ _ (P1 ++ [.cg (ok_live_known_v3 hU y0 false e_r0), .o, .o, .o]) [] (fun b => by kernel_rfl)
noncomputable def m_live_Writes_v3 (y0 : Insn) : Option ((BitVec 16) × (Bool)) :=
  (m_live_known_v3 y0).bind fun r0 =>
  bif r0 then
    (bif (y0.fOp &&& 7#8) == 0#8 then
      (bindT (m_live_bit_v2 y0.fDst) fun r1 =>
      some (r1, true))
    else (bif (y0.fOp &&& 7#8) == 1#8 then
      (bindT (m_live_bit_v2 y0.fDst) fun r1 =>
      some (r1, true))
    else (bif (y0.fOp &&& 7#8) == 4#8 then
      (bindT (m_live_bit_v2 y0.fDst) fun r1 =>
      some (r1, true))
    else (bif (y0.fOp &&& 7#8) == 7#8 then
      (bindT (m_live_bit_v2 y0.fDst) fun r1 =>
      some (r1, true))
    else (bif (y0.fOp &&& 7#8) == 5#8 then
      (bif (y0.fOp >>> 4) == 8#8 then
        (some (63#16, true))
      else (some (0#16, true)))
    else (some (0#16, true)))))))
  else (some (0#16, false))
theorem ok_live_Writes_v3 (e : m_live_Writes_v3 y0 = some r) : ConG Try.prog S 10 #[(v_Insn y0)] (vt7 r) := by
  unfold m_live_Writes_v3 at e
  replace e := bindO_eq e
  obtain ⟨r0, e_r0, e⟩ := e
  try dsimp only at e
  replace e := cond_eq_or e
  let P1 : List (PG Try.prog M B0 S) := [.o, .o, .o, .a 0]
  rcases e with ⟨hq0, e⟩ | ⟨hq0, e⟩
  · subst hq0
    replace e := cond_eq_or e
    let P2 : List (PG Try.prog M B0 S) := P1 ++ [.cg (ok_live_known_v3 hU y0 true e_r0), .o, .o, .a 0, .v .u8 (u8_and y0.fOp (7#8))]
    rcases e with ⟨hq1, e⟩ | ⟨hq1, e⟩
    · replace e := bindT_eq e
      obtain ⟨r1, e_r1, e⟩ := e
      try dsimp only at e
      injection e with e; subst e; exact fn_conG hU (P := Try.prog) Try.func10 (fun xs w => by kernel_rfl) _ _ (P2 ++ [.t (u_eq (y0.fOp &&& 7#8) (0#8)) hq1, .o, .o, .a 0, .cg (ok_live_bit_v2 hU y0.fDst r1 e_r1), .o, .o]) [] (fun b => by kernel_rfl)
    · replace e := cond_eq_or e
      let P3 : List (PG Try.prog M B0 S) := P2 ++ [.t (u_eq (y0.fOp &&& 7#8) (0#8)) hq1, .o]
      rcases e with ⟨hq2, e⟩ | ⟨hq2, e⟩
      · replace e := bindT_eq e
        obtain ⟨r1, e_r1, e⟩ := e
        try dsimp only at e
        injection e with e; subst e; exact fn_conG hU (P := Try.prog) Try.func10 (fun xs w => by kernel_rfl) _ _ (P3 ++ [.t (u_eq (y0.fOp &&& 7#8) (1#8)) hq2, .o, .o, .a 0, .cg (ok_live_bit_v2 hU y0.fDst r1 e_r1), .o, .o]) [] (fun b => by kernel_rfl)
      · replace e := cond_eq_or e
        let P4 : List (PG Try.prog M B0 S) := P3 ++ [.t (u_eq (y0.fOp &&& 7#8) (1#8)) hq2, .o]
        rcases e with ⟨hq3, e⟩ | ⟨hq3, e⟩
        · replace e := bindT_eq e
          obtain ⟨r1, e_r1, e⟩ := e
          try dsimp only at e
          injection e with e; subst e; exact fn_conG hU (P := Try.prog) Try.func10 (fun xs w => by kernel_rfl) _ _ (P4 ++ [.t (u_eq (y0.fOp &&& 7#8) (4#8)) hq3, .o, .o, .a 0, .cg (ok_live_bit_v2 hU y0.fDst r1 e_r1), .o, .o]) [] (fun b => by kernel_rfl)
        · replace e := cond_eq_or e
          let P5 : List (PG Try.prog M B0 S) := P4 ++ [.t (u_eq (y0.fOp &&& 7#8) (4#8)) hq3, .o]
          rcases e with ⟨hq4, e⟩ | ⟨hq4, e⟩
          · replace e := bindT_eq e
            obtain ⟨r1, e_r1, e⟩ := e
            try dsimp only at e
            injection e with e; subst e; exact fn_conG hU (P := Try.prog) Try.func10 (fun xs w => by kernel_rfl) _ _ (P5 ++ [.t (u_eq (y0.fOp &&& 7#8) (7#8)) hq4, .o, .o, .a 0, .cg (ok_live_bit_v2 hU y0.fDst r1 e_r1), .o, .o]) [] (fun b => by kernel_rfl)
          · replace e := cond_eq_or e
            rcases e with ⟨hq5, e⟩ | ⟨hq5, e⟩
            · replace e := cond_eq_or e
              let P6 : List (PG Try.prog M B0 S) := P5 ++ [.t (u_eq (y0.fOp &&& 7#8) (7#8)) hq4, .o, .t (u_eq (y0.fOp &&& 7#8) (5#8)) hq5, .o, .o, .a 0, .ov (u8_shr Try.prog 5 (.tmp 22) (.const (.int .u64 (4))) y0.fOp 4 .u64 rfl)]
              rcases e with ⟨hq6, e⟩ | ⟨hq6, e⟩
              · injection e with e; subst e; exact fn_conG hU (P := Try.prog) Try.func10 (fun xs w => by kernel_rfl) _ _ (P6 ++ [.t (u_eq (y0.fOp >>> 4) (8#8)) hq6, .o, .o]) [] (fun b => by kernel_rfl)
              · injection e with e; subst e; exact fn_conG hU (P := Try.prog) Try.func10 (fun xs w => by kernel_rfl) _ _ (P6 ++ [.t (u_eq (y0.fOp >>> 4) (8#8)) hq6, .o, .o]) [] (fun b => by kernel_rfl)
            · injection e with e; subst e; exact fn_conG hU (P := Try.prog) Try.func10 (fun xs w => by kernel_rfl) _ _ (P5 ++ [.t (u_eq (y0.fOp &&& 7#8) (7#8)) hq4, .o, .t (u_eq (y0.fOp &&& 7#8) (5#8)) hq5, .o, .o, .o]) [] (fun b => by kernel_rfl)
  · subst hq0
    injection e with e; subst e; exact fn_conG hU (P := Try.prog) Try.func10 (fun xs w => by kernel_rfl) _ _ (P1 ++ [.cg (ok_live_known_v3 hU y0 false e_r0), .o, .o, .o]) [] (fun b => by kernel_rfl)
inductive Sh_live_rows_behind_v4_L0 where
  | c0 (s0_0 : BitVec 16) (s0_1 : Int)
inductive Ex_live_rows_behind_v4_L0 where
  | e0 (c0_0 : BitVec 16)
noncomputable def st_live_rows_behind_v4_L0 (y1 : Int) (w0 : Nat) (w3 : Nat → BitVec 16) (w4 : Nat → (Nat × (Nat → Int))) : Sh_live_rows_behind_v4_L0 → Option (Sh_live_rows_behind_v4_L0 ⊕ Ex_live_rows_behind_v4_L0)
  | .c0 s0_0 s0_1 =>
    bif decide (s0_1 < ((w4 (y1).toNat).1 : Int)) then
      (bif inR s0_1 (w4 (y1).toNat).1 then
        (bif inR y1 w0 then
          (bif inR ((w4 (y1).toNat).2 (s0_1).toNat) w0 then
            (some (.inl (.c0 (s0_0 ||| (w3 (((w4 (y1).toNat).2 (s0_1).toNat)).toNat)) (IntKind.i64.wrap (s0_1 + 1)))))
          else (none))
        else (none))
      else (none))
    else (some (.inr (.e0 s0_0)))
noncomputable def bd_live_rows_behind_v4_L0 : Code := codeOf Try.f23 [1, 1, 0, 1, 0, 0]
def fl_live_rows_behind_v4_L0 (y1 : Int) (w0 : Nat) (w1 : Nat → BitVec 16) (w2 : Nat → BitVec 16) (w3 : Nat → BitVec 16) (w4 : Nat → (Nat × (Nat → Int))) : Sh_live_rows_behind_v4_L0 → List L1 → List Value
  | .c0 s0_0 s0_1, ls => [.pointer (some ⟨(lget ls 0).n, 0, none⟩), .int .u16 (0), .int .u16 (nn s0_0), (rowV (mfl (lget ls 5) (y1).toNat) (w4 (y1).toNat).1 1), .int .i64 (((w4 (y1).toNat).1 : Int)), .int .i64 (s0_1)]
def mf_live_rows_behind_v4_L0 : Sh_live_rows_behind_v4_L0 → List (Nat × Nat)
  | .c0 _ _ => [(1, 3), (2, 8), (3, 14)]
noncomputable def fr_live_rows_behind_v4_L0 (y1 : Int) (w0 : Nat) (w1 : Nat → BitVec 16) (w2 : Nat → BitVec 16) (w3 : Nat → BitVec 16) (w4 : Nat → (Nat × (Nat → Int))) (s : Sh_live_rows_behind_v4_L0) : List L1 → List Value := mrgF (mf_live_rows_behind_v4_L0 s) (fl_live_rows_behind_v4_L0 y1 w0 w1 w2 w3 w4 s) 6
def Hs_live_rows_behind_v4_L0 (y1 : Int) (w0 : Nat) (w1 : Nat → BitVec 16) (w2 : Nat → BitVec 16) (w3 : Nat → BitVec 16) (w4 : Nat → (Nat × (Nat → Int))) : Sh_live_rows_behind_v4_L0 → List L1 → List Obj
  | .c0 s0_0 s0_1, ls => [.cells #[(rowV (lget ls 1) w0 1), (rowV (lget ls 2) w0 1), (rowV (lget ls 3) w0 1), (rowV (lget ls 4) w0 1)] 57, rowO (lget ls 1) (esG cu16 w0 w1) 31 w0 1, rowO (lget ls 2) (esG cu16 w0 w2) 31 w0 1, rowO (lget ls 3) (esG cu16 w0 w3) 31 w0 1, rfR (lget ls 4) (lget ls 5) 36 1 w0 w4, rfO 3 cZ 1 w0 w4, unb]
def vl_live_rows_behind_v4_L0 (y1 : Int) (w0 : Nat) (w1 : Nat → BitVec 16) (w2 : Nat → BitVec 16) (w3 : Nat → BitVec 16) (w4 : Nat → (Nat × (Nat → Int))) : Ex_live_rows_behind_v4_L0 → List L1 → List Value
  | .e0 c0_0, ls => [.pointer (some ⟨(lget ls 0).n, 0, none⟩), .int .u16 (0), .int .u16 (nn c0_0), (rowV (mfl (lget ls 5) (y1).toNat) (w4 (y1).toNat).1 1), .int .i64 (((w4 (y1).toNat).1 : Int))]
def mk_live_rows_behind_v4_L0 : Ex_live_rows_behind_v4_L0 → List (Nat × Nat)
  | .e0 _ => [(1, 3), (2, 8), (2, 15)]
noncomputable def vf_live_rows_behind_v4_L0 (y1 : Int) (w0 : Nat) (w1 : Nat → BitVec 16) (w2 : Nat → BitVec 16) (w3 : Nat → BitVec 16) (w4 : Nat → (Nat × (Nat → Int))) (r : Ex_live_rows_behind_v4_L0) : List L1 → List Value := mrgF (mk_live_rows_behind_v4_L0 r) (vl_live_rows_behind_v4_L0 y1 w0 w1 w2 w3 w4 r) 6
def Hf_live_rows_behind_v4_L0 (y1 : Int) (w0 : Nat) (w1 : Nat → BitVec 16) (w2 : Nat → BitVec 16) (w3 : Nat → BitVec 16) (w4 : Nat → (Nat × (Nat → Int))) : Ex_live_rows_behind_v4_L0 → List L1 → List Obj
  | .e0 c0_0, ls => [.cells #[(rowV (lget ls 1) w0 1), (rowV (lget ls 2) w0 1), (rowV (lget ls 3) w0 1), (rowV (lget ls 4) w0 1)] 57, rowO (lget ls 1) (esG cu16 w0 w1) 31 w0 1, rowO (lget ls 2) (esG cu16 w0 w2) 31 w0 1, rowO (lget ls 3) (esG cu16 w0 w3) 31 w0 1, rfR (lget ls 4) (lget ls 5) 36 1 w0 w4, rfO 3 cZ 1 w0 w4, unb]
def ex_live_rows_behind_v4_L0 : Ex_live_rows_behind_v4_L0 → Ex
  | .e0 _ => (.exit 0)
end
section
variable {M : Nat → Prop} {B0 : Nat} {S : World → Prop} (hU : Up M B0 S) (y1 : Int) (w0 : Nat) (w1 : Nat → BitVec 16) (w2 : Nat → BitVec 16) (w3 : Nat → BitVec 16) (w4 : Nat → (Nat × (Nat → Int)))
include hU y1 w0 w1 w2 w3 w4
theorem go_live_rows_behind_v4_L0 (s : Sh_live_rows_behind_v4_L0) (r : Ex_live_rows_behind_v4_L0) (h : lpO (st_live_rows_behind_v4_L0 y1 w0 w3 w4) s = some r) : GoesG Try.prog M B0 S (.loop bd_live_rows_behind_v4_L0) 7 (fr_live_rows_behind_v4_L0 y1 w0 w1 w2 w3 w4 s) (Hs_live_rows_behind_v4_L0 y1 w0 w1 w2 w3 w4 s) (ex_live_rows_behind_v4_L0 r) 6 (vf_live_rows_behind_v4_L0 y1 w0 w1 w2 w3 w4 r) (Hf_live_rows_behind_v4_L0 y1 w0 w1 w2 w3 w4 r) 7 :=
  goes_lpO (fun s q e => by
    cases s with
    | c0 s0_0 s0_1 =>
      unfold st_live_rows_behind_v4_L0 at e
      dsimp only at e
      replace e := cond_eq_or e
      rcases e with ⟨hq0, e⟩ | ⟨hq0, e⟩
      · replace e := cond_eq_or e
        rcases e with ⟨hq1, e⟩ | ⟨hq1, e⟩
        · replace e := cond_eq_or e
          rcases e with ⟨hq2, e⟩ | ⟨hq2, e⟩
          · replace e := cond_eq_or e
            rcases e with ⟨hq3, e⟩ | ⟨hq3, e⟩
            · cases e; exact goes_runM hU [.b (z_lssT hq0), .q (ixM_ok (kd := .i64) (T := 36) (x := s0_1) (N := (w4 (y1).toNat).1) (sz := 1) rfl (fun w => by kernel_rfl) hq1), .xg (ldFM_ok (T := 3) (e := 36) (T2 := 3) (f := cZ) (sz := 1) (N := w0) (k := (y1).toNat) (D := w4) (fun w => by kernel_rfl) cZ_len 0 (v := .int .i64 (((w4 (y1).toNat).2 (s0_1).toNat))) (inR_nat hq2) (inR_nat hq1) (by decide) rfl) [4, 5], .o, .o, .o, .o, .o, .a 0, .o, .q (ixM_ok (kd := .i64) (T := 27) (x := ((w4 (y1).toNat).2 (s0_1).toNat)) (N := w0) (sz := 1) rfl (fun w => by kernel_rfl) hq3), .l (accG (i := 3) (f := cu16) (A := w3) (k := (((w4 (y1).toNat).2 (s0_1).toNat)).toNat) 0 [.int .u16 (nn (w3 (((w4 (y1).toNat).2 (s0_1).toNat)).toNat))] cu16_len (inR_nat hq3) rfl), .v .u16 (u16_or s0_0 (w3 (((w4 (y1).toNat).2 (s0_1).toNat)).toNat)), .o, .o, .o] [0, 1, 2, 3, 4, 5] (fun b => rfl) (by decide) rfl rfl (fun b => by kernel_rfl)
            · exact none_some e
          · exact none_some e
        · exact none_some e
      · cases e; exact ⟨ne_exit 0, goes_runM hU [.b (z_lssF hq0)] [0, 1, 2, 3, 4, 5] (fun b => rfl) (by decide) rfl rfl (fun b => by kernel_rfl)⟩) s r h
noncomputable def t0_live_rows_behind_v4_L0_0 (y1 : Int) (w0 : Nat) (w1 : Nat → BitVec 16) (w2 : Nat → BitVec 16) (w3 : Nat → BitVec 16) (w4 : Nat → (Nat × (Nat → Int))) (s0_0 : BitVec 16) (s0_1 : Int) (ls : List L1) : List Value := List.append [.pointer (some ⟨(lget ls 0).n, 0, none⟩), .int .i64 (y1), undef, undef, .int .u16 (0), .int .u16 (nn s0_0), undef, undef, .pointer (some ⟨(lget ls 0).n, 0, none⟩), .pointer (some ⟨(lget ls 0).n, 0, none⟩), .pointer (some ⟨(lget ls 0).n, 3, none⟩), (rowV (lget ls 4) w0 1), .int .i64 (y1), .pointer (some ⟨(lget ls 4).n, 0 + (y1).toNat * 1, none⟩), (rowV (mfl (lget ls 5) (y1).toNat) (w4 (y1).toNat).1 1), .int .i64 (((w4 (y1).toNat).1 : Int)), .int .i64 (s0_1)] (und 14)
def pre_live_rows_behind_v4_L0_0 (y1 : Int) (w0 : Nat) (w1 : Nat → BitVec 16) (w2 : Nat → BitVec 16) (w3 : Nat → BitVec 16) (w4 : Nat → (Nat × (Nat → Int))) (s0_0 : BitVec 16) (s0_1 : Int) (ls : List L1) : List Obj := [.cells #[(rowV (lget ls 1) w0 1), (rowV (lget ls 2) w0 1), (rowV (lget ls 3) w0 1), (rowV (lget ls 4) w0 1)] 57, rowO (lget ls 1) (esG cu16 w0 w1) 31 w0 1, rowO (lget ls 2) (esG cu16 w0 w2) 31 w0 1, rowO (lget ls 3) (esG cu16 w0 w3) 31 w0 1, rfR (lget ls 4) (lget ls 5) 36 1 w0 w4, rfO 3 cZ 1 w0 w4]
theorem sp0_live_rows_behind_v4_L0_0_ok (s0_0 : BitVec 16) (s0_1 : Int) (c0_0 : BitVec 16) (h : lpO (st_live_rows_behind_v4_L0 y1 w0 w3 w4) (.c0 s0_0 s0_1) = some (.e0 c0_0)) : SpcG Try.prog M B0 S ⟨fun ls => .code (.loop bd_live_rows_behind_v4_L0) (t0_live_rows_behind_v4_L0_0 y1 w0 w1 w2 w3 w4 s0_0 s0_1 ls), pre_live_rows_behind_v4_L0_0 y1 w0 w1 w2 w3 w4 s0_0 s0_1, 1, (.exit 0), fun ls => vf_live_rows_behind_v4_L0 y1 w0 w1 w2 w3 w4 (.e0 c0_0) (ls.take 6 ++ ls.drop 6), fun ls => (Hf_live_rows_behind_v4_L0 y1 w0 w1 w2 w3 w4 (.e0 c0_0) (ls.take 6 ++ ls.drop 6)).take 6 ++ List.replicate 0 unb, fun ls => (Hf_live_rows_behind_v4_L0 y1 w0 w1 w2 w3 w4 (.e0 c0_0) (ls.take 6 ++ ls.drop 6)).drop 6⟩ :=
  spc_of_goesM hU 0 (k0 := 6) (go_live_rows_behind_v4_L0 hU y1 w0 w1 w2 w3 w4 _ _ h) (t0_live_rows_behind_v4_L0_0 y1 w0 w1 w2 w3 w4 s0_0 s0_1) (pre_live_rows_behind_v4_L0_0 y1 w0 w1 w2 w3 w4 s0_0 s0_1) (fun _ => rfl) (fun ls h => by match ls, h with | [l0, l1, l2, l3, l4, l5], _ => exact ⟨by kernel_rfl, by kernel_rfl⟩) (fun ls h => by match ls, h with | [l0, l1, l2, l3, l4, l5], _ => rfl) (by decide) (by decide) (fun ls => rfl)
inductive R_live_rows_behind_v4 where
  | e0 (c0_0 : BitVec 16)
noncomputable def m_live_rows_behind_v4 (y1 : Int) (w0 : Nat) (w1 : Nat → BitVec 16) (w2 : Nat → BitVec 16) (w3 : Nat → BitVec 16) (w4 : Nat → (Nat × (Nat → Int))) : Option R_live_rows_behind_v4 :=
  bif inR y1 w0 then
    (bif decide (0 < (w4 (y1).toNat).1) then
      ((lpO (st_live_rows_behind_v4_L0 y1 w0 w3 w4) (.c0 (0#16) 0)).bind fun g0 => match g0 with
      | .e0 g0_0 =>
      some (.e0 g0_0))
    else (some (.e0 (0#16))))
  else (none)
def sq0_live_rows_behind_v4 (y1 : Int) (w0 : Nat) (w1 : Nat → BitVec 16) (w2 : Nat → BitVec 16) (w3 : Nat → BitVec 16) (w4 : Nat → (Nat × (Nat → Int))) (c0_0 : BitVec 16) : Spc := ⟨fun ls => .call 23 #[.pointer (some ⟨(lget ls 0).n, 0, none⟩), .int .i64 (y1)], fun ls => [.cells #[(rowV (lget ls 1) w0 1), (rowV (lget ls 2) w0 1), (rowV (lget ls 3) w0 1), (rowV (lget ls 4) w0 1)] 57, rowO (lget ls 1) (esG cu16 w0 w1) 31 w0 1, rowO (lget ls 2) (esG cu16 w0 w2) 31 w0 1, rowO (lget ls 3) (esG cu16 w0 w3) 31 w0 1, rfR (lget ls 4) (lget ls 5) 36 1 w0 w4, rfO 3 cZ 1 w0 w4], 0, .normal, fun ls => [.int .u16 (nn c0_0)], fun ls => [.cells #[(rowV (lget ls 1) w0 1), (rowV (lget ls 2) w0 1), (rowV (lget ls 3) w0 1), (rowV (lget ls 4) w0 1)] 57, rowO (lget ls 1) (esG cu16 w0 w1) 31 w0 1, rowO (lget ls 2) (esG cu16 w0 w2) 31 w0 1, rowO (lget ls 3) (esG cu16 w0 w3) 31 w0 1, rfR (lget ls 4) (lget ls 5) 36 1 w0 w4, rfO 3 cZ 1 w0 w4], fun ls => []⟩
theorem ok0_live_rows_behind_v4 (c0_0 : BitVec 16) (e : m_live_rows_behind_v4 y1 w0 w1 w2 w3 w4 = some (.e0 c0_0)) : SpcG Try.prog M B0 S (sq0_live_rows_behind_v4 y1 w0 w1 w2 w3 w4 c0_0) := by
  unfold m_live_rows_behind_v4 at e
  replace e := cond_eq_or e
  rcases e with ⟨hq0, e⟩ | ⟨hq0, e⟩
  · replace e := cond_eq_or e
    let P1 : List (PG Try.prog M B0 S) := [.o, .o, .o, .o, .o, .a 0, .o, .q (ixM_ok (kd := .i64) (T := 55) (x := y1) (N := w0) (sz := 1) rfl (fun w => by kernel_rfl) hq0)]
    rcases e with ⟨hq1, e⟩ | ⟨hq1, e⟩
    · replace e := bindO_eq e
      obtain ⟨g0, e_g0, e⟩ := e
      obtain ⟨g0_0⟩ := g0
      try dsimp only at e
      injection e with e; injection e with i0; subst i0; exact fn_specG hU (P := Try.prog) Try.func23 (fun xs w => by kernel_rfl) 6 _ _ (fun _ => rfl) _ _ _ [] (P1 ++ [.xg (ldRF_ok (T := 36) (e := 36) (T2 := 3) (f := cZ) (sz := 1) (N := w0) (k := (y1).toNat) (D := w4) (fun w => by kernel_rfl) (inR_nat hq0) hq1) [4, 5], .o, .o, .cp, .cx (sp0_live_rows_behind_v4_L0_0_ok hU y1 w0 w1 w2 w3 w4 (0#16) 0 g0_0 e_g0) [0, 1, 2, 3, 4, 5], .o, .o]) [] (fun b => by kernel_rfl)
    · injection e with e; injection e with i0; subst i0; exact fn_specG hU (P := Try.prog) Try.func23 (fun xs w => by kernel_rfl) 6 _ _ (fun _ => rfl) _ _ _ [] (P1 ++ [.xg (ldRF0_ok (T := 36) (e := 36) (T2 := 3) (f := cZ) (sz := 1) (N := w0) (k := (y1).toNat) (D := w4) (fun w => by kernel_rfl) (inR_nat hq0) hq1) [4, 5], .o, .o, .o, .o, .o]) [] (fun b => by kernel_rfl)
  · exact none_some e
inductive R_live_rows_join_v4 where
  | e0 (c0_0 : Nat → BitVec 16) (c0_1 : Bool)
noncomputable def m_live_rows_join_v4 (y1 : Int) (w0 : Nat) (w1 : Nat → BitVec 16) (w2 : Nat → BitVec 16) (w3 : Nat → BitVec 16) (w4 : Nat → (Nat × (Nat → Int))) : Option R_live_rows_join_v4 :=
  bif inR y1 w0 then
    ((m_live_rows_behind_v4 y1 w0 w1 w2 w3 w4).bind fun g0 => match g0 with
    | .e0 g0_0 =>
    bindT (updF w3 (y1).toNat ((w3 (y1).toNat) ||| ((w1 (y1).toNat) ||| (g0_0 &&& ~~~(w2 (y1).toNat))))) fun r1 =>
    some (.e0 r1 (!((r1 (y1).toNat) == (w3 (y1).toNat)))))
  else (none)
def sq0_live_rows_join_v4 (y1 : Int) (w0 : Nat) (w1 : Nat → BitVec 16) (w2 : Nat → BitVec 16) (w3 : Nat → BitVec 16) (w4 : Nat → (Nat × (Nat → Int))) (c0_0 : Nat → BitVec 16) (c0_1 : Bool) : Spc := ⟨fun ls => .call 37 #[.pointer (some ⟨(lget ls 0).n, 0, none⟩), .int .i64 (y1)], fun ls => [.cells #[(rowV (lget ls 1) w0 1), (rowV (lget ls 2) w0 1), (rowV (lget ls 3) w0 1), (rowV (lget ls 4) w0 1)] 57, rowO (lget ls 1) (esG cu16 w0 w1) 31 w0 1, rowO (lget ls 2) (esG cu16 w0 w2) 31 w0 1, rowO (lget ls 3) (esG cu16 w0 w3) 31 w0 1, rfR (lget ls 4) (lget ls 5) 36 1 w0 w4, rfO 3 cZ 1 w0 w4], 0, .normal, fun ls => [.bool (c0_1)], fun ls => [.cells #[(rowV (lget ls 1) w0 1), (rowV (lget ls 2) w0 1), (rowV (lget ls 3) w0 1), (rowV (lget ls 4) w0 1)] 57, rowO (lget ls 1) (esG cu16 w0 w1) 31 w0 1, rowO (lget ls 2) (esG cu16 w0 w2) 31 w0 1, rowO (lget ls 3) (esG cu16 w0 c0_0) 31 w0 1, rfR (lget ls 4) (lget ls 5) 36 1 w0 w4, rfO 3 cZ 1 w0 w4], fun ls => []⟩
theorem ok0_live_rows_join_v4 (c0_0 : Nat → BitVec 16) (c0_1 : Bool) (e : m_live_rows_join_v4 y1 w0 w1 w2 w3 w4 = some (.e0 c0_0 c0_1)) : SpcG Try.prog M B0 S (sq0_live_rows_join_v4 y1 w0 w1 w2 w3 w4 c0_0 c0_1) := by
  unfold m_live_rows_join_v4 at e
  replace e := cond_eq_or e
  rcases e with ⟨hq0, e⟩ | ⟨hq0, e⟩
  · replace e := bindO_eq e
    obtain ⟨g0, e_g0, e⟩ := e
    obtain ⟨g0_0⟩ := g0
    try dsimp only at e
    replace e := bindT_eq e
    obtain ⟨r1, e_r1, e⟩ := e
    try dsimp only at e
    injection e with e; injection e with i0 i1; subst i0 i1; exact fn_specG hU (P := Try.prog) Try.func37 (fun xs w => by kernel_rfl) 6 _ _ (fun _ => rfl) _ _ _ [] [.o, .o, .o, .o, .a 0, .o, .q (ixM_ok (kd := .i64) (T := 27) (x := y1) (N := w0) (sz := 1) rfl (fun w => by kernel_rfl) hq0), .l (accG (i := 3) (f := cu16) (A := w3) (k := (y1).toNat) 0 [.int .u16 (nn (w3 (y1).toNat))] cu16_len (inR_nat hq0) rfl), .o, .r [0, 1, 2, 3, 4, 5, 6, 7, 8, 9, 10, 11, 12, 13, 14, 15, 17, 18, 19, 20, 21, 22, 23] [] [16, 24, 25, 26, 27, 28], .o, .o, .o, .a 0, .o, .q (ixM_ok (kd := .i64) (T := 27) (x := y1) (N := w0) (sz := 1) rfl (fun w => by kernel_rfl) hq0), .l (accG (i := 3) (f := cu16) (A := w3) (k := (y1).toNat) 0 [.int .u16 (nn (w3 (y1).toNat))] cu16_len (inR_nat hq0) rfl), .o, .o, .o, .a 0, .o, .q (ixM_ok (kd := .i64) (T := 27) (x := y1) (N := w0) (sz := 1) rfl (fun w => by kernel_rfl) hq0), .l (accG (i := 1) (f := cu16) (A := w1) (k := (y1).toNat) 0 [.int .u16 (nn (w1 (y1).toNat))] cu16_len (inR_nat hq0) rfl), .o, .o, .o, .o, .o, .a 0, .o, .q (ixM_ok (kd := .i64) (T := 27) (x := y1) (N := w0) (sz := 1) rfl (fun w => by kernel_rfl) hq0), .l (accG (i := 2) (f := cu16) (A := w2) (k := (y1).toNat) 0 [.int .u16 (nn (w2 (y1).toNat))] cu16_len (inR_nat hq0) rfl), .xr (ok0_live_rows_behind_v4 hU y1 w0 w1 w2 w3 w4 g0_0 e_g0) (fun _ => rfl) rfl (fun _ => rfl) [0, 1, 2, 3, 4, 5], .v .u16 (u16_not g0_0 (w2 (y1).toNat)), .v .u16 (u16_or (w1 (y1).toNat) (g0_0 &&& ~~~(w2 (y1).toNat))), .v .u16 (u16_or (w3 (y1).toNat) ((w1 (y1).toNat) ||| (g0_0 &&& ~~~(w2 (y1).toNat)))), .q (ixM_ok (kd := .i64) (T := 27) (x := y1) (N := w0) (sz := 1) rfl (fun w => by kernel_rfl) hq0), .x (sqStGr_ok (T := 31) (e := 31) (f := cu16) (A := w3) (v := ((w3 (y1).toNat) ||| ((w1 (y1).toNat) ||| (g0_0 &&& ~~~(w2 (y1).toNat))))) 0 (.int .u16 (nn ((w3 (y1).toNat) ||| ((w1 (y1).toNat) ||| (g0_0 &&& ~~~(w2 (y1).toNat)))))) cu16_len cu16_one rfl rfl (fun w => by kernel_rfl) (inR_nat hq0) e_r1) [3], .o, .o, .o, .a 0, .o, .q (ixM_ok (kd := .i64) (T := 27) (x := y1) (N := w0) (sz := 1) rfl (fun w => by kernel_rfl) hq0), .l (accG (i := 3) (f := cu16) (A := r1) (k := (y1).toNat) 0 [.int .u16 (nn (r1 (y1).toNat))] cu16_len (inR_nat hq0) rfl), .o, .tn (u_ne (r1 (y1).toNat) (w3 (y1).toNat)) rfl, .o] [] (fun b => by kernel_rfl)
  · exact none_some e
inductive Sh_live_changes_v2_L0 where
  | c0 (s0_0 : Nat → BitVec 16) (s0_1 : Bool) (s0_2 : Int)
inductive Ex_live_changes_v2_L0 where
  | e0 (c0_0 : Nat → BitVec 16) (c0_1 : Bool) (c0_2 : Int) (c0_3 : Int)
noncomputable def st_live_changes_v2_L0 (w0 : Nat) (w1 : Nat → BitVec 16) (w2 : Nat → BitVec 16) (w4 : Nat → (Nat × (Nat → Int))) : Sh_live_changes_v2_L0 → Option (Sh_live_changes_v2_L0 ⊕ Ex_live_changes_v2_L0)
  | .c0 s0_0 s0_1 s0_2 =>
    bif decide (0 ≤ s0_2) then
      ((m_live_rows_join_v4 s0_2 w0 w1 w2 s0_0 w4).bind fun gb0 => match gb0 with
      | .e0 gb0_0 gb0_1 =>
      bif gb0_1 then
        (some (.inl (.c0 gb0_0 true (IntKind.i64.wrap (s0_2 - 1)))))
      else (some (.inl (.c0 gb0_0 s0_1 (IntKind.i64.wrap (s0_2 - 1))))))
    else (some (.inr (.e0 s0_0 s0_1 s0_2 s0_2)))
noncomputable def bd_live_changes_v2_L0 : Code := codeOf Try.f36 [1, 0, 1, 1, 0, 1, 0, 0]
def fl_live_changes_v2_L0 (y0 : Int) (w0 : Nat) (w1 : Nat → BitVec 16) (w2 : Nat → BitVec 16) (w3 : Nat → BitVec 16) (w4 : Nat → (Nat × (Nat → Int))) : Sh_live_changes_v2_L0 → List L1 → List Value
  | .c0 s0_0 s0_1 s0_2, ls => [.int .i64 (y0), .func (.func 37) #[.pointer (some ⟨(lget ls 0).n, 0, none⟩)] #[], .bool false, .bool (s0_1), .int .i64 (s0_2), .int .i64 (y0), .int .i64 ((IntKind.i64.wrap (y0 - 1)))]
def mf_live_changes_v2_L0 : Sh_live_changes_v2_L0 → List (Nat × Nat)
  | .c0 _ _ _ => [(2, 2), (5, 9)]
noncomputable def fr_live_changes_v2_L0 (y0 : Int) (w0 : Nat) (w1 : Nat → BitVec 16) (w2 : Nat → BitVec 16) (w3 : Nat → BitVec 16) (w4 : Nat → (Nat × (Nat → Int))) (s : Sh_live_changes_v2_L0) : List L1 → List Value := mrgF (mf_live_changes_v2_L0 s) (fl_live_changes_v2_L0 y0 w0 w1 w2 w3 w4 s) 6
def Hs_live_changes_v2_L0 (y0 : Int) (w0 : Nat) (w1 : Nat → BitVec 16) (w2 : Nat → BitVec 16) (w3 : Nat → BitVec 16) (w4 : Nat → (Nat × (Nat → Int))) : Sh_live_changes_v2_L0 → List L1 → List Obj
  | .c0 s0_0 s0_1 s0_2, ls => [.cells #[(rowV (lget ls 1) w0 1), (rowV (lget ls 2) w0 1), (rowV (lget ls 3) w0 1), (rowV (lget ls 4) w0 1)] 57, rowO (lget ls 1) (esG cu16 w0 w1) 31 w0 1, rowO (lget ls 2) (esG cu16 w0 w2) 31 w0 1, rowO (lget ls 3) (esG cu16 w0 s0_0) 31 w0 1, rfR (lget ls 4) (lget ls 5) 36 1 w0 w4, rfO 3 cZ 1 w0 w4, unb]
def vl_live_changes_v2_L0 (y0 : Int) (w0 : Nat) (w1 : Nat → BitVec 16) (w2 : Nat → BitVec 16) (w3 : Nat → BitVec 16) (w4 : Nat → (Nat × (Nat → Int))) : Ex_live_changes_v2_L0 → List L1 → List Value
  | .e0 c0_0 c0_1 c0_2 c0_3, ls => [.int .i64 (y0), .func (.func 37) #[.pointer (some ⟨(lget ls 0).n, 0, none⟩)] #[], .bool false, .bool (c0_1), .int .i64 (c0_2), .int .i64 (y0), .int .i64 ((IntKind.i64.wrap (y0 - 1))), .int .i64 (c0_3), .bool false]
def mk_live_changes_v2_L0 : Ex_live_changes_v2_L0 → List (Nat × Nat)
  | .e0 _ _ _ _ => [(2, 2), (7, 7)]
noncomputable def vf_live_changes_v2_L0 (y0 : Int) (w0 : Nat) (w1 : Nat → BitVec 16) (w2 : Nat → BitVec 16) (w3 : Nat → BitVec 16) (w4 : Nat → (Nat × (Nat → Int))) (r : Ex_live_changes_v2_L0) : List L1 → List Value := mrgF (mk_live_changes_v2_L0 r) (vl_live_changes_v2_L0 y0 w0 w1 w2 w3 w4 r) 6
def Hf_live_changes_v2_L0 (y0 : Int) (w0 : Nat) (w1 : Nat → BitVec 16) (w2 : Nat → BitVec 16) (w3 : Nat → BitVec 16) (w4 : Nat → (Nat × (Nat → Int))) : Ex_live_changes_v2_L0 → List L1 → List Obj
  | .e0 c0_0 c0_1 c0_2 c0_3, ls => [.cells #[(rowV (lget ls 1) w0 1), (rowV (lget ls 2) w0 1), (rowV (lget ls 3) w0 1), (rowV (lget ls 4) w0 1)] 57, rowO (lget ls 1) (esG cu16 w0 w1) 31 w0 1, rowO (lget ls 2) (esG cu16 w0 w2) 31 w0 1, rowO (lget ls 3) (esG cu16 w0 c0_0) 31 w0 1, rfR (lget ls 4) (lget ls 5) 36 1 w0 w4, rfO 3 cZ 1 w0 w4, unb]
def ex_live_changes_v2_L0 : Ex_live_changes_v2_L0 → Ex
  | .e0 _ _ _ _ => (.exit 0)
end
section
variable {M : Nat → Prop} {B0 : Nat} {S : World → Prop} (hU : Up M B0 S) (y0 : Int) (w0 : Nat) (w1 : Nat → BitVec 16) (w2 : Nat → BitVec 16) (w3 : Nat → BitVec 16) (w4 : Nat → (Nat × (Nat → Int)))
include hU y0 w0 w1 w2 w3 w4
theorem go_live_changes_v2_L0 (s : Sh_live_changes_v2_L0) (r : Ex_live_changes_v2_L0) (h : lpO (st_live_changes_v2_L0 w0 w1 w2 w4) s = some r) : GoesG Try.prog M B0 S (.loop bd_live_changes_v2_L0) 7 (fr_live_changes_v2_L0 y0 w0 w1 w2 w3 w4 s) (Hs_live_changes_v2_L0 y0 w0 w1 w2 w3 w4 s) (ex_live_changes_v2_L0 r) 6 (vf_live_changes_v2_L0 y0 w0 w1 w2 w3 w4 r) (Hf_live_changes_v2_L0 y0 w0 w1 w2 w3 w4 r) 7 :=
  goes_lpO (fun s q e => by
    cases s with
    | c0 s0_0 s0_1 s0_2 =>
      unfold st_live_changes_v2_L0 at e
      dsimp only at e
      replace e := cond_eq_or e
      rcases e with ⟨hq0, e⟩ | ⟨hq0, e⟩
      · replace e := bindO_eq e
        obtain ⟨gb0, e_gb0, e⟩ := e
        obtain ⟨gb0_0, gb0_1⟩ := gb0
        try dsimp only at e
        replace e := cond_eq_or e
        rcases e with ⟨hq1, e⟩ | ⟨hq1, e⟩
        · subst hq1
          cases e; exact goes_runM hU [.o, .b (z_geqT hq0), .o, .o, .xg (ok0_live_rows_join_v4 hU s0_2 w0 w1 w2 s0_0 w4 gb0_0 true e_gb0) [0, 1, 2, 3, 4, 5], .o, .o, .o, .o, .o] [0, 1, 2, 3, 4, 5] (fun b => rfl) (by decide) rfl rfl (fun b => by kernel_rfl)
        · subst hq1
          cases e; exact goes_runM hU [.o, .b (z_geqT hq0), .o, .o, .xg (ok0_live_rows_join_v4 hU s0_2 w0 w1 w2 s0_0 w4 gb0_0 false e_gb0) [0, 1, 2, 3, 4, 5], .o, .o, .o, .o] [0, 1, 2, 3, 4, 5] (fun b => rfl) (by decide) rfl rfl (fun b => by kernel_rfl)
      · cases e; exact ⟨ne_exit 0, goes_runM hU [.o, .b (z_geqF hq0)] [0, 1, 2, 3, 4, 5] (fun b => rfl) (by decide) rfl rfl (fun b => by kernel_rfl)⟩) s r h
noncomputable def t0_live_changes_v2_L0_0 (y0 : Int) (w0 : Nat) (w1 : Nat → BitVec 16) (w2 : Nat → BitVec 16) (w3 : Nat → BitVec 16) (w4 : Nat → (Nat × (Nat → Int))) (s0_0 : Nat → BitVec 16) (s0_1 : Bool) (s0_2 : Int) (ls : List L1) : List Value := List.append [.int .i64 (y0), .func (.func 37) #[.pointer (some ⟨(lget ls 0).n, 0, none⟩)] #[], undef, undef, .bool false, .bool (s0_1), .int .i64 (s0_2), .int .i64 (y0), .int .i64 ((IntKind.i64.wrap (y0 - 1)))] (und 9)
def pre_live_changes_v2_L0_0 (y0 : Int) (w0 : Nat) (w1 : Nat → BitVec 16) (w2 : Nat → BitVec 16) (w3 : Nat → BitVec 16) (w4 : Nat → (Nat × (Nat → Int))) (s0_0 : Nat → BitVec 16) (s0_1 : Bool) (s0_2 : Int) (ls : List L1) : List Obj := [.cells #[(rowV (lget ls 1) w0 1), (rowV (lget ls 2) w0 1), (rowV (lget ls 3) w0 1), (rowV (lget ls 4) w0 1)] 57, rowO (lget ls 1) (esG cu16 w0 w1) 31 w0 1, rowO (lget ls 2) (esG cu16 w0 w2) 31 w0 1, rowO (lget ls 3) (esG cu16 w0 s0_0) 31 w0 1, rfR (lget ls 4) (lget ls 5) 36 1 w0 w4, rfO 3 cZ 1 w0 w4]
theorem sp0_live_changes_v2_L0_0_ok (s0_0 : Nat → BitVec 16) (s0_1 : Bool) (s0_2 : Int) (c0_0 : Nat → BitVec 16) (c0_1 : Bool) (c0_2 : Int) (c0_3 : Int) (h : lpO (st_live_changes_v2_L0 w0 w1 w2 w4) (.c0 s0_0 s0_1 s0_2) = some (.e0 c0_0 c0_1 c0_2 c0_3)) : SpcG Try.prog M B0 S ⟨fun ls => .code (.loop bd_live_changes_v2_L0) (t0_live_changes_v2_L0_0 y0 w0 w1 w2 w3 w4 s0_0 s0_1 s0_2 ls), pre_live_changes_v2_L0_0 y0 w0 w1 w2 w3 w4 s0_0 s0_1 s0_2, 1, (.exit 0), fun ls => vf_live_changes_v2_L0 y0 w0 w1 w2 w3 w4 (.e0 c0_0 c0_1 c0_2 c0_3) (ls.take 6 ++ ls.drop 6), fun ls => (Hf_live_changes_v2_L0 y0 w0 w1 w2 w3 w4 (.e0 c0_0 c0_1 c0_2 c0_3) (ls.take 6 ++ ls.drop 6)).take 6 ++ List.replicate 0 unb, fun ls => (Hf_live_changes_v2_L0 y0 w0 w1 w2 w3 w4 (.e0 c0_0 c0_1 c0_2 c0_3) (ls.take 6 ++ ls.drop 6)).drop 6⟩ :=
  spc_of_goesM hU 0 (k0 := 6) (go_live_changes_v2_L0 hU y0 w0 w1 w2 w3 w4 _ _ h) (t0_live_changes_v2_L0_0 y0 w0 w1 w2 w3 w4 s0_0 s0_1 s0_2) (pre_live_changes_v2_L0_0 y0 w0 w1 w2 w3 w4 s0_0 s0_1 s0_2) (fun _ => rfl) (fun ls h => by match ls, h with | [l0, l1, l2, l3, l4, l5], _ => exact ⟨by kernel_rfl, by kernel_rfl⟩) (fun ls h => by match ls, h with | [l0, l1, l2, l3, l4, l5], _ => rfl) (by decide) (by decide) (fun ls => rfl)
inductive R_live_changes_v2 where
  | e0 (c0_0 : Nat → BitVec 16) (c0_1 : Bool)
noncomputable def m_live_changes_v2 (y0 : Int) (w0 : Nat) (w1 : Nat → BitVec 16) (w2 : Nat → BitVec 16) (w3 : Nat → BitVec 16) (w4 : Nat → (Nat × (Nat → Int))) : Option R_live_changes_v2 :=
  (lpO (st_live_changes_v2_L0 w0 w1 w2 w4) (.c0 w3 false (IntKind.i64.wrap (y0 - 1)))).bind fun g0 => match g0 with
  | .e0 g0_0 g0_1 g0_2 g0_3 =>
  some (.e0 g0_0 g0_1)
def sq0_live_changes_v2 (y0 : Int) (w0 : Nat) (w1 : Nat → BitVec 16) (w2 : Nat → BitVec 16) (w3 : Nat → BitVec 16) (w4 : Nat → (Nat × (Nat → Int))) (c0_0 : Nat → BitVec 16) (c0_1 : Bool) : Spc := ⟨fun ls => .call 36 #[.int .i64 (y0), .func (.func 37) #[.pointer (some ⟨(lget ls 0).n, 0, none⟩)] #[]], fun ls => [.cells #[(rowV (lget ls 1) w0 1), (rowV (lget ls 2) w0 1), (rowV (lget ls 3) w0 1), (rowV (lget ls 4) w0 1)] 57, rowO (lget ls 1) (esG cu16 w0 w1) 31 w0 1, rowO (lget ls 2) (esG cu16 w0 w2) 31 w0 1, rowO (lget ls 3) (esG cu16 w0 w3) 31 w0 1, rfR (lget ls 4) (lget ls 5) 36 1 w0 w4, rfO 3 cZ 1 w0 w4], 0, .normal, fun ls => [.bool (c0_1)], fun ls => [.cells #[(rowV (lget ls 1) w0 1), (rowV (lget ls 2) w0 1), (rowV (lget ls 3) w0 1), (rowV (lget ls 4) w0 1)] 57, rowO (lget ls 1) (esG cu16 w0 w1) 31 w0 1, rowO (lget ls 2) (esG cu16 w0 w2) 31 w0 1, rowO (lget ls 3) (esG cu16 w0 c0_0) 31 w0 1, rfR (lget ls 4) (lget ls 5) 36 1 w0 w4, rfO 3 cZ 1 w0 w4], fun ls => []⟩
theorem ok0_live_changes_v2 (c0_0 : Nat → BitVec 16) (c0_1 : Bool) (e : m_live_changes_v2 y0 w0 w1 w2 w3 w4 = some (.e0 c0_0 c0_1)) : SpcG Try.prog M B0 S (sq0_live_changes_v2 y0 w0 w1 w2 w3 w4 c0_0 c0_1) := by
  unfold m_live_changes_v2 at e
  replace e := bindO_eq e
  obtain ⟨g0, e_g0, e⟩ := e
  obtain ⟨g0_0, g0_1, g0_2, g0_3⟩ := g0
  try dsimp only at e
  injection e with e; injection e with i0 i1; subst i0 i1; exact fn_specG hU (P := Try.prog) Try.func36 (fun xs w => by kernel_rfl) 6 _ _ (fun _ => rfl) _ _ _ [] [.o, .o, .o, .o, .o, .cp, .cx (sp0_live_changes_v2_L0_0_ok hU y0 w0 w1 w2 w3 w4 w3 false (IntKind.i64.wrap (y0 - 1)) g0_0 g0_1 g0_2 g0_3 e_g0) [0, 1, 2, 3, 4, 5], .o, .o] [] (fun b => by kernel_rfl)
inductive Sh_live_look_v1_L0 where
  | c0 (s0_0 : Nat → BitVec 16) (s0_1 : Nat → BitVec 16) (s0_2 : Nat → (Nat × (Nat → Int))) (s0_3 : Int)
inductive Ex_live_look_v1_L0 where
  | e0 (c0_0 : Nat → BitVec 16) (c0_1 : Nat → BitVec 16) (c0_2 : Nat → BitVec 16) (c0_3 : Nat → (Nat × (Nat → Int)))
noncomputable def st_live_look_v1_L0 (n0 : Nat) (A0 : Nat → Insn) : Sh_live_look_v1_L0 → Option (Sh_live_look_v1_L0 ⊕ Ex_live_look_v1_L0)
  | .c0 s0_0 s0_1 s0_2 s0_3 =>
    bif decide (s0_3 < (n0 : Int)) then
      (bif inR s0_3 n0 then
        ((m_flow_Next_v3 n0 A0 s0_3).bind fun gb0 => match gb0 with
        | .e0 gb0_0 => (bif gb0_0 == 0 then
            ((m_live_Reads_v3 ((A0 (s0_3).toNat))).bind fun rb1 =>
            (m_live_Writes_v3 ((A0 (s0_3).toNat))).bind fun rb2 =>
            some (.inl (.c0 (updF s0_0 (s0_3).toNat rb1.1) (updF s0_1 (s0_3).toNat rb2.1) (updF s0_2 (s0_3).toNat (0, fun _ => 0)) (IntKind.i64.wrap (s0_3 + 1)))))
          else (some (.inl (.c0 s0_0 s0_1 s0_2 (IntKind.i64.wrap (s0_3 + 1))))))
        | .e1 gb0_0 => ((m_live_Reads_v3 ((A0 (s0_3).toNat))).bind fun rb1 =>
          (m_live_Writes_v3 ((A0 (s0_3).toNat))).bind fun rb2 =>
          some (.inl (.c0 (updF s0_0 (s0_3).toNat rb1.1) (updF s0_1 (s0_3).toNat rb2.1) (updF s0_2 (s0_3).toNat (1, (fun _ => gb0_0))) (IntKind.i64.wrap (s0_3 + 1)))))
        | .e2 gb0_0 gb0_1 => ((m_live_Reads_v3 ((A0 (s0_3).toNat))).bind fun rb1 =>
          (m_live_Writes_v3 ((A0 (s0_3).toNat))).bind fun rb2 =>
          some (.inl (.c0 (updF s0_0 (s0_3).toNat rb1.1) (updF s0_1 (s0_3).toNat rb2.1) (updF s0_2 (s0_3).toNat (2, (fun k => if k = 0 then gb0_0 else gb0_1))) (IntKind.i64.wrap (s0_3 + 1))))))
      else (none))
    else (some (.inr (.e0 s0_0 s0_1 (fun _ => 0#16) s0_2)))
noncomputable def bd_live_look_v1_L0 : Code := codeOf Try.f16 [1, 1, 0, 1, 0, 0]
def fl_live_look_v1_L0 (a0 : Option Addr) (p0 : Nat) (q0 : Nat) (n0 : Nat) (k0 : Nat) (A0 : Nat → Insn) : Sh_live_look_v1_L0 → List L1 → List Value
  | .c0 s0_0 s0_1 s0_2 s0_3, ls => [.slice a0 n0 (n0 + k0), .pointer none, .pointer (some ⟨(lget ls 4).n, 0, none⟩), .slice a0 n0 (n0 + k0), .int .i64 ((n0 : Int)), .int .i64 (s0_3)]
def mf_live_look_v1_L0 : Sh_live_look_v1_L0 → List (Nat × Nat)
  | .c0 _ _ _ _ => [(1, 1), (2, 18), (3, 48)]
noncomputable def fr_live_look_v1_L0 (a0 : Option Addr) (p0 : Nat) (q0 : Nat) (n0 : Nat) (k0 : Nat) (A0 : Nat → Insn) (s : Sh_live_look_v1_L0) : List L1 → List Value := mrgF (mf_live_look_v1_L0 s) (fl_live_look_v1_L0 a0 p0 q0 n0 k0 A0 s) 6
def Hs_live_look_v1_L0 (a0 : Option Addr) (p0 : Nat) (q0 : Nat) (n0 : Nat) (k0 : Nat) (A0 : Nat → Insn) : Sh_live_look_v1_L0 → List L1 → List Obj
  | .c0 s0_0 s0_1 s0_2 s0_3, ls => [rowO (lget ls 0) (esG cu16 n0 s0_0) 31 n0 1, rowO (lget ls 1) (esG cu16 n0 s0_1) 31 n0 1, rowO (lget ls 2) (esG cu16 n0 (fun _ => 0#16)) 31 n0 1, rfR (lget ls 3) (lget ls 5) 36 1 n0 s0_2, .cells #[(rowV (lget ls 0) n0 1), (rowV (lget ls 1) n0 1), (rowV (lget ls 2) n0 1), (rowV (lget ls 3) n0 1)] 57, rfO 3 cZ 1 n0 s0_2, unb]
def vl_live_look_v1_L0 (a0 : Option Addr) (p0 : Nat) (q0 : Nat) (n0 : Nat) (k0 : Nat) (A0 : Nat → Insn) : Ex_live_look_v1_L0 → List L1 → List Value
  | .e0 c0_0 c0_1 c0_2 c0_3, ls => [.slice a0 n0 (n0 + k0), .pointer none, .pointer (some ⟨(lget ls 4).n, 0, none⟩), .slice a0 n0 (n0 + k0), .int .i64 ((n0 : Int))]
def mk_live_look_v1_L0 : Ex_live_look_v1_L0 → List (Nat × Nat)
  | .e0 _ _ _ _ => [(1, 1), (2, 18), (2, 49)]
noncomputable def vf_live_look_v1_L0 (a0 : Option Addr) (p0 : Nat) (q0 : Nat) (n0 : Nat) (k0 : Nat) (A0 : Nat → Insn) (r : Ex_live_look_v1_L0) : List L1 → List Value := mrgF (mk_live_look_v1_L0 r) (vl_live_look_v1_L0 a0 p0 q0 n0 k0 A0 r) 6
def Hf_live_look_v1_L0 (a0 : Option Addr) (p0 : Nat) (q0 : Nat) (n0 : Nat) (k0 : Nat) (A0 : Nat → Insn) : Ex_live_look_v1_L0 → List L1 → List Obj
  | .e0 c0_0 c0_1 c0_2 c0_3, ls => [rowO (lget ls 0) (esG cu16 n0 c0_0) 31 n0 1, rowO (lget ls 1) (esG cu16 n0 c0_1) 31 n0 1, rowO (lget ls 2) (esG cu16 n0 c0_2) 31 n0 1, rfR (lget ls 3) (lget ls 5) 36 1 n0 c0_3, .cells #[(rowV (lget ls 0) n0 1), (rowV (lget ls 1) n0 1), (rowV (lget ls 2) n0 1), (rowV (lget ls 3) n0 1)] 57, rfO 3 cZ 1 n0 c0_3, unb]
def ex_live_look_v1_L0 : Ex_live_look_v1_L0 → Ex
  | .e0 _ _ _ _ => (.exit 0)
end
section
variable {M : Nat → Prop} {B0 : Nat} {S : World → Prop} (hU : Up M B0 S) (a0 : Option Addr) (p0 : Nat) (q0 : Nat) (n0 : Nat) (k0 : Nat) (A0 : Nat → Insn) (hR0 : Ro S c_Insn 5 a0 p0 q0 n0 A0)
include hU a0 p0 q0 n0 k0 A0 hR0
theorem go_live_look_v1_L0 (s : Sh_live_look_v1_L0) (r : Ex_live_look_v1_L0) (h : lpO (st_live_look_v1_L0 n0 A0) s = some r) : GoesG Try.prog M B0 S (.loop bd_live_look_v1_L0) 7 (fr_live_look_v1_L0 a0 p0 q0 n0 k0 A0 s) (Hs_live_look_v1_L0 a0 p0 q0 n0 k0 A0 s) (ex_live_look_v1_L0 r) 5 (vf_live_look_v1_L0 a0 p0 q0 n0 k0 A0 r) (Hf_live_look_v1_L0 a0 p0 q0 n0 k0 A0 r) 7 :=
  goes_lpO (fun s q e => by
    cases s with
    | c0 s0_0 s0_1 s0_2 s0_3 =>
      unfold st_live_look_v1_L0 at e
      dsimp only at e
      replace e := cond_eq_or e
      rcases e with ⟨hq0, e⟩ | ⟨hq0, e⟩
      · replace e := cond_eq_or e
        rcases e with ⟨hq1, e⟩ | ⟨hq1, e⟩
        · replace e := bindO_eq e
          obtain ⟨gb0, e_gb0, e⟩ := e
          let P1 : List (PG Try.prog M B0 S) := [.b (z_lssT hq0), .o, .q (ixRo_ok (kd := .i64) (T := 22) (x := s0_3) (sz := 5) rfl (fun w => by kernel_rfl) hR0 hq1), .l (accRo hR0 c_Insn_len (inR_nat hq1) 0 [.int .u8 (nn ((A0 (s0_3).toNat)).fOp), .int .u8 (nn ((A0 (s0_3).toNat)).fDst), .int .u8 (nn ((A0 (s0_3).toNat)).fSrc), .int .i16 (ii ((A0 (s0_3).toNat)).fOff), .int .i32 (ii ((A0 (s0_3).toNat)).fImm)] rfl), .o, .o, .a 7, .o, .o]
          rcases gb0 with ⟨gb0_0⟩ | ⟨gb0_0⟩ | ⟨gb0_0, gb0_1⟩
          · try dsimp only at e
            replace e := cond_eq_or e
            let P2 : List (PG Try.prog M B0 S) := P1 ++ [.xg (ok0_flow_Next_v3 hU a0 p0 q0 n0 k0 A0 hR0 s0_3 gb0_0 e_gb0) [], .o, .o, .o, .o, .o, .o]
            rcases e with ⟨hq2, e⟩ | ⟨hq2, e⟩
            · replace e := bindO_eq e
              obtain ⟨rb1, e_rb1, e⟩ := e
              try dsimp only at e
              replace e := bindO_eq e
              obtain ⟨rb2, e_rb2, e⟩ := e
              try dsimp only at e
              cases e; exact goes_runM hU (P2 ++ [.b (z_neqT hq2), .o, .o, .o, .a 4, .o, .o, .q (ixM_ok (kd := .i64) (T := 55) (x := s0_3) (N := n0) (sz := 1) rfl (fun w => by kernel_rfl) hq1), .xg (sqStRFn_ok (T := 36) (e := 36) (T2 := 3) (f := cZ) (sz := 1) (N := n0) (k := (s0_3).toNat) (D := s0_2) (g := fun _ => 0) (fun w => by kernel_rfl) (inR_nat hq1)) [3, 5], .r [0, 1, 2, 3, 4, 5, 6, 7, 8, 9, 10] [] [11], .o, .o, .o, .a 4, .o, .a 7, .cg (ok_live_Reads_v3 hU ((A0 (s0_3).toNat)) rb1 e_rb1), .o, .o, .o, .q (ixM_ok (kd := .i64) (T := 27) (x := s0_3) (N := n0) (sz := 1) rfl (fun w => by kernel_rfl) hq1), .x (sqStG_ok (T := 31) (e := 31) (f := cu16) (A := s0_0) (v := rb1.1) 0 (.int .u16 (nn rb1.1)) cu16_len cu16_one rfl rfl (fun w => by kernel_rfl) (inR_nat hq1)) [0], .r [0, 1, 2, 3, 4, 5, 6, 7, 8, 9, 10] [] [11], .o, .o, .o, .a 4, .o, .a 7, .cg (ok_live_Writes_v3 hU ((A0 (s0_3).toNat)) rb2 e_rb2), .o, .o, .o, .q (ixM_ok (kd := .i64) (T := 27) (x := s0_3) (N := n0) (sz := 1) rfl (fun w => by kernel_rfl) hq1), .x (sqStG_ok (T := 31) (e := 31) (f := cu16) (A := s0_1) (v := rb2.1) 0 (.int .u16 (nn rb2.1)) cu16_len cu16_one rfl rfl (fun w => by kernel_rfl) (inR_nat hq1)) [1], .o, .o]) [0, 1, 2, 3, 4, 5] (fun b => rfl) (by decide) rfl rfl (fun b => by kernel_rfl)
            · cases e; exact goes_runM hU (P2 ++ [.b (z_neqF hq2), .o, .o]) [0, 1, 2, 3, 4, 5] (fun b => rfl) (by decide) rfl rfl (fun b => by kernel_rfl)
          · try dsimp only at e
            replace e := bindO_eq e
            obtain ⟨rb1, e_rb1, e⟩ := e
            try dsimp only at e
            replace e := bindO_eq e
            obtain ⟨rb2, e_rb2, e⟩ := e
            try dsimp only at e
            cases e; exact goes_runM hU (P1 ++ [.xg (ok1_flow_Next_v3 hU a0 p0 q0 n0 k0 A0 hR0 s0_3 gb0_0 e_gb0) [], .o, .o, .o, .o, .o, .o, .o, .o, .o, .o, .a 4, .o, .o, .q (ixM_ok (kd := .i64) (T := 55) (x := s0_3) (N := n0) (sz := 1) rfl (fun w => by kernel_rfl) hq1), .xg (sqStRF_ok (T := 36) (e := 36) (T2 := 3) .plain (f := cZ) (sz := 1) (N := n0) (k := (s0_3).toNat) (D := s0_2) (m := 1) (B := (fun _ => gb0_0)) (fun w => by kernel_rfl) (inR_nat hq1) (by decide) (by decide)) [3, 5, 8], .r [0, 1, 2, 3, 4, 5, 6, 7, 8, 9, 10] [] [11], .o, .o, .o, .a 4, .o, .a 7, .cg (ok_live_Reads_v3 hU ((A0 (s0_3).toNat)) rb1 e_rb1), .o, .o, .o, .q (ixM_ok (kd := .i64) (T := 27) (x := s0_3) (N := n0) (sz := 1) rfl (fun w => by kernel_rfl) hq1), .x (sqStG_ok (T := 31) (e := 31) (f := cu16) (A := s0_0) (v := rb1.1) 0 (.int .u16 (nn rb1.1)) cu16_len cu16_one rfl rfl (fun w => by kernel_rfl) (inR_nat hq1)) [0], .r [0, 1, 2, 3, 4, 5, 6, 7, 8, 9, 10] [] [11], .o, .o, .o, .a 4, .o, .a 7, .cg (ok_live_Writes_v3 hU ((A0 (s0_3).toNat)) rb2 e_rb2), .o, .o, .o, .q (ixM_ok (kd := .i64) (T := 27) (x := s0_3) (N := n0) (sz := 1) rfl (fun w => by kernel_rfl) hq1), .x (sqStG_ok (T := 31) (e := 31) (f := cu16) (A := s0_1) (v := rb2.1) 0 (.int .u16 (nn rb2.1)) cu16_len cu16_one rfl rfl (fun w => by kernel_rfl) (inR_nat hq1)) [1], .o, .o]) [0, 1, 2, 3, 4, 9] (fun b => rfl) (by decide) rfl rfl (fun b => by kernel_rfl)
          · try dsimp only at e
            replace e := bindO_eq e
            obtain ⟨rb1, e_rb1, e⟩ := e
            try dsimp only at e
            replace e := bindO_eq e
            obtain ⟨rb2, e_rb2, e⟩ := e
            try dsimp only at e
            cases e; exact goes_runM hU (P1 ++ [.xg (ok2_flow_Next_v3 hU a0 p0 q0 n0 k0 A0 hR0 s0_3 gb0_0 gb0_1 e_gb0) [], .o, .o, .o, .o, .o, .o, .o, .o, .o, .o, .a 4, .o, .o, .q (ixM_ok (kd := .i64) (T := 55) (x := s0_3) (N := n0) (sz := 1) rfl (fun w => by kernel_rfl) hq1), .xg (sqStRF_ok (T := 36) (e := 36) (T2 := 3) .plain (f := cZ) (sz := 1) (N := n0) (k := (s0_3).toNat) (D := s0_2) (m := 2) (B := (fun k => if k = 0 then gb0_0 else gb0_1)) (fun w => by kernel_rfl) (inR_nat hq1) (by decide) (by decide)) [3, 5, 8], .r [0, 1, 2, 3, 4, 5, 6, 7, 8, 9, 10] [] [11], .o, .o, .o, .a 4, .o, .a 7, .cg (ok_live_Reads_v3 hU ((A0 (s0_3).toNat)) rb1 e_rb1), .o, .o, .o, .q (ixM_ok (kd := .i64) (T := 27) (x := s0_3) (N := n0) (sz := 1) rfl (fun w => by kernel_rfl) hq1), .x (sqStG_ok (T := 31) (e := 31) (f := cu16) (A := s0_0) (v := rb1.1) 0 (.int .u16 (nn rb1.1)) cu16_len cu16_one rfl rfl (fun w => by kernel_rfl) (inR_nat hq1)) [0], .r [0, 1, 2, 3, 4, 5, 6, 7, 8, 9, 10] [] [11], .o, .o, .o, .a 4, .o, .a 7, .cg (ok_live_Writes_v3 hU ((A0 (s0_3).toNat)) rb2 e_rb2), .o, .o, .o, .q (ixM_ok (kd := .i64) (T := 27) (x := s0_3) (N := n0) (sz := 1) rfl (fun w => by kernel_rfl) hq1), .x (sqStG_ok (T := 31) (e := 31) (f := cu16) (A := s0_1) (v := rb2.1) 0 (.int .u16 (nn rb2.1)) cu16_len cu16_one rfl rfl (fun w => by kernel_rfl) (inR_nat hq1)) [1], .o, .o]) [0, 1, 2, 3, 4, 9] (fun b => rfl) (by decide) rfl rfl (fun b => by kernel_rfl)
        · exact none_some e
      · cases e; exact ⟨ne_exit 0, goes_runM hU [.b (z_lssF hq0)] [0, 1, 2, 3, 4, 5] (fun b => rfl) (by decide) rfl rfl (fun b => by kernel_rfl)⟩) s r h
noncomputable def t0_live_look_v1_L0_0 (a0 : Option Addr) (p0 : Nat) (q0 : Nat) (n0 : Nat) (k0 : Nat) (A0 : Nat → Insn) (s0_0 : Nat → BitVec 16) (s0_1 : Nat → BitVec 16) (s0_2 : Nat → (Nat × (Nat → Int))) (s0_3 : Int) (ls : List L1) : List Value := List.append [.slice a0 n0 (n0 + k0), undef, .pointer none, .pointer (some ⟨(lget ls 4).n, 0, none⟩)] (List.append (und 4) (List.append [.slice a0 n0 (n0 + k0), .int .i64 ((n0 : Int)), (rowV (lget ls 0) n0 1), .slice a0 n0 (n0 + k0), .int .i64 ((n0 : Int)), (rowV (lget ls 1) n0 1), .slice a0 n0 (n0 + k0), .int .i64 ((n0 : Int)), (rowV (lget ls 2) n0 1), .slice a0 n0 (n0 + k0), .int .i64 ((n0 : Int)), (rowV (lget ls 3) n0 1), .agg #[(rowV (lget ls 0) n0 1), (rowV (lget ls 1) n0 1), (rowV (lget ls 2) n0 1), (rowV (lget ls 3) n0 1)], .pointer (some ⟨(lget ls 4).n, 0, none⟩), .slice a0 n0 (n0 + k0), .int .i64 ((n0 : Int)), .int .i64 (s0_3)] (und 48)))
def pre_live_look_v1_L0_0 (a0 : Option Addr) (p0 : Nat) (q0 : Nat) (n0 : Nat) (k0 : Nat) (A0 : Nat → Insn) (s0_0 : Nat → BitVec 16) (s0_1 : Nat → BitVec 16) (s0_2 : Nat → (Nat × (Nat → Int))) (s0_3 : Int) (ls : List L1) : List Obj := [rowO (lget ls 0) (esG cu16 n0 s0_0) 31 n0 1, rowO (lget ls 1) (esG cu16 n0 s0_1) 31 n0 1, rowO (lget ls 2) (esG cu16 n0 (fun _ => 0#16)) 31 n0 1, rfR (lget ls 3) (lget ls 5) 36 1 n0 s0_2, .cells #[(rowV (lget ls 0) n0 1), (rowV (lget ls 1) n0 1), (rowV (lget ls 2) n0 1), (rowV (lget ls 3) n0 1)] 57, rfO 3 cZ 1 n0 s0_2]
theorem sp0_live_look_v1_L0_0_ok (s0_0 : Nat → BitVec 16) (s0_1 : Nat → BitVec 16) (s0_2 : Nat → (Nat × (Nat → Int))) (s0_3 : Int) (c0_0 : Nat → BitVec 16) (c0_1 : Nat → BitVec 16) (c0_2 : Nat → BitVec 16) (c0_3 : Nat → (Nat × (Nat → Int))) (h : lpO (st_live_look_v1_L0 n0 A0) (.c0 s0_0 s0_1 s0_2 s0_3) = some (.e0 c0_0 c0_1 c0_2 c0_3)) : SpcG Try.prog M B0 S ⟨fun ls => .code (.loop bd_live_look_v1_L0) (t0_live_look_v1_L0_0 a0 p0 q0 n0 k0 A0 s0_0 s0_1 s0_2 s0_3 ls), pre_live_look_v1_L0_0 a0 p0 q0 n0 k0 A0 s0_0 s0_1 s0_2 s0_3, 2, (.exit 0), fun ls => vf_live_look_v1_L0 a0 p0 q0 n0 k0 A0 (.e0 c0_0 c0_1 c0_2 c0_3) (ls.take 5 ++ ls.drop 6), fun ls => (Hf_live_look_v1_L0 a0 p0 q0 n0 k0 A0 (.e0 c0_0 c0_1 c0_2 c0_3) (ls.take 5 ++ ls.drop 6)).take 5 ++ List.replicate 1 unb, fun ls => (Hf_live_look_v1_L0 a0 p0 q0 n0 k0 A0 (.e0 c0_0 c0_1 c0_2 c0_3) (ls.take 5 ++ ls.drop 6)).drop 5⟩ :=
  spc_of_goesM hU 0 (k0 := 6) (go_live_look_v1_L0 hU a0 p0 q0 n0 k0 A0 hR0 _ _ h) (t0_live_look_v1_L0_0 a0 p0 q0 n0 k0 A0 s0_0 s0_1 s0_2 s0_3) (pre_live_look_v1_L0_0 a0 p0 q0 n0 k0 A0 s0_0 s0_1 s0_2 s0_3) (fun _ => rfl) (fun ls h => by match ls, h with | [l0, l1, l2, l3, l4, l5], _ => exact ⟨by kernel_rfl, by kernel_rfl⟩) (fun ls h => by match ls, h with | [l0, l1, l2, l3, l4, l5], _ => rfl) (by decide) (by decide) (fun ls => rfl)
inductive Sh_live_look_v1_L1 where
  | c0 (s0_0 : Nat → BitVec 16)
inductive Ex_live_look_v1_L1 where
  | e0 (c0_0 : Nat → BitVec 16)
noncomputable def st_live_look_v1_L1 (n0 : Nat) (g0_0 : Nat → BitVec 16) (g0_1 : Nat → BitVec 16) (g0_3 : Nat → (Nat × (Nat → Int))) : Sh_live_look_v1_L1 → Option (Sh_live_look_v1_L1 ⊕ Ex_live_look_v1_L1)
  | .c0 s0_0 =>
    (m_live_changes_v2 (n0 : Int) n0 g0_0 g0_1 s0_0 g0_3).bind fun gb0 => match gb0 with
    | .e0 gb0_0 gb0_1 =>
    bif gb0_1 then
      (some (.inl (.c0 gb0_0)))
    else (some (.inr (.e0 gb0_0)))
noncomputable def bd_live_look_v1_L1 : Code := codeOf Try.f16 [1, 1, 1, 0, 0, 0]
def fl_live_look_v1_L1 (a0 : Option Addr) (p0 : Nat) (q0 : Nat) (n0 : Nat) (k0 : Nat) (A0 : Nat → Insn) (g0_0 : Nat → BitVec 16) (g0_1 : Nat → BitVec 16) (g0_2 : Nat → BitVec 16) (g0_3 : Nat → (Nat × (Nat → Int))) : Sh_live_look_v1_L1 → List L1 → List Value
  | .c0 s0_0, ls => [.slice a0 n0 (n0 + k0), .pointer none, .pointer (some ⟨(lget ls 4).n, 0, none⟩), ((lget ls 7).u 72)]
def mf_live_look_v1_L1 : Sh_live_look_v1_L1 → List (Nat × Nat)
  | .c0 _ => [(1, 1), (2, 68), (1, 0)]
noncomputable def fr_live_look_v1_L1 (a0 : Option Addr) (p0 : Nat) (q0 : Nat) (n0 : Nat) (k0 : Nat) (A0 : Nat → Insn) (g0_0 : Nat → BitVec 16) (g0_1 : Nat → BitVec 16) (g0_2 : Nat → BitVec 16) (g0_3 : Nat → (Nat × (Nat → Int))) (s : Sh_live_look_v1_L1) : List L1 → List Value := mrgF (mf_live_look_v1_L1 s) (fl_live_look_v1_L1 a0 p0 q0 n0 k0 A0 g0_0 g0_1 g0_2 g0_3 s) 8
def Hs_live_look_v1_L1 (a0 : Option Addr) (p0 : Nat) (q0 : Nat) (n0 : Nat) (k0 : Nat) (A0 : Nat → Insn) (g0_0 : Nat → BitVec 16) (g0_1 : Nat → BitVec 16) (g0_2 : Nat → BitVec 16) (g0_3 : Nat → (Nat × (Nat → Int))) : Sh_live_look_v1_L1 → List L1 → List Obj
  | .c0 s0_0, ls => [rowO (lget ls 0) (esG cu16 n0 g0_0) 31 n0 1, rowO (lget ls 1) (esG cu16 n0 g0_1) 31 n0 1, rowO (lget ls 2) (esG cu16 n0 s0_0) 31 n0 1, rfR (lget ls 3) (lget ls 6) 36 1 n0 g0_3, .cells #[(rowV (lget ls 0) n0 1), (rowV (lget ls 1) n0 1), (rowV (lget ls 2) n0 1), (rowV (lget ls 3) n0 1)] 57, unb, rfO 3 cZ 1 n0 g0_3, unb, unb]
def vl_live_look_v1_L1 (a0 : Option Addr) (p0 : Nat) (q0 : Nat) (n0 : Nat) (k0 : Nat) (A0 : Nat → Insn) (g0_0 : Nat → BitVec 16) (g0_1 : Nat → BitVec 16) (g0_2 : Nat → BitVec 16) (g0_3 : Nat → (Nat × (Nat → Int))) : Ex_live_look_v1_L1 → List L1 → List Value
  | .e0 c0_0, ls => [.slice a0 n0 (n0 + k0), .pointer none, .pointer (some ⟨(lget ls 4).n, 0, none⟩), ((lget ls 7).u 72)]
def mk_live_look_v1_L1 : Ex_live_look_v1_L1 → List (Nat × Nat)
  | .e0 _ => [(1, 1), (2, 68), (1, 0)]
noncomputable def vf_live_look_v1_L1 (a0 : Option Addr) (p0 : Nat) (q0 : Nat) (n0 : Nat) (k0 : Nat) (A0 : Nat → Insn) (g0_0 : Nat → BitVec 16) (g0_1 : Nat → BitVec 16) (g0_2 : Nat → BitVec 16) (g0_3 : Nat → (Nat × (Nat → Int))) (r : Ex_live_look_v1_L1) : List L1 → List Value := mrgF (mk_live_look_v1_L1 r) (vl_live_look_v1_L1 a0 p0 q0 n0 k0 A0 g0_0 g0_1 g0_2 g0_3 r) 8
def Hf_live_look_v1_L1 (a0 : Option Addr) (p0 : Nat) (q0 : Nat) (n0 : Nat) (k0 : Nat) (A0 : Nat → Insn) (g0_0 : Nat → BitVec 16) (g0_1 : Nat → BitVec 16) (g0_2 : Nat → BitVec 16) (g0_3 : Nat → (Nat × (Nat → Int))) : Ex_live_look_v1_L1 → List L1 → List Obj
  | .e0 c0_0, ls => [rowO (lget ls 0) (esG cu16 n0 g0_0) 31 n0 1, rowO (lget ls 1) (esG cu16 n0 g0_1) 31 n0 1, rowO (lget ls 2) (esG cu16 n0 c0_0) 31 n0 1, rfR (lget ls 3) (lget ls 6) 36 1 n0 g0_3, .cells #[(rowV (lget ls 0) n0 1), (rowV (lget ls 1) n0 1), (rowV (lget ls 2) n0 1), (rowV (lget ls 3) n0 1)] 57, unb, rfO 3 cZ 1 n0 g0_3, unb, unb]
def ex_live_look_v1_L1 : Ex_live_look_v1_L1 → Ex
  | .e0 _ => (.exit 2)
theorem go_live_look_v1_L1 (g0_0 : Nat → BitVec 16) (g0_1 : Nat → BitVec 16) (g0_2 : Nat → BitVec 16) (g0_3 : Nat → (Nat × (Nat → Int))) (s : Sh_live_look_v1_L1) (r : Ex_live_look_v1_L1) (h : lpO (st_live_look_v1_L1 n0 g0_0 g0_1 g0_3) s = some r) : GoesG Try.prog M B0 S (.loop bd_live_look_v1_L1) 9 (fr_live_look_v1_L1 a0 p0 q0 n0 k0 A0 g0_0 g0_1 g0_2 g0_3 s) (Hs_live_look_v1_L1 a0 p0 q0 n0 k0 A0 g0_0 g0_1 g0_2 g0_3 s) (ex_live_look_v1_L1 r) 8 (vf_live_look_v1_L1 a0 p0 q0 n0 k0 A0 g0_0 g0_1 g0_2 g0_3 r) (Hf_live_look_v1_L1 a0 p0 q0 n0 k0 A0 g0_0 g0_1 g0_2 g0_3 r) 9 :=
  goes_lpO (fun s q e => by
    cases s with
    | c0 s0_0 =>
      unfold st_live_look_v1_L1 at e
      dsimp only at e
      replace e := bindO_eq e
      obtain ⟨gb0, e_gb0, e⟩ := e
      obtain ⟨gb0_0, gb0_1⟩ := gb0
      try dsimp only at e
      replace e := cond_eq_or e
      rcases e with ⟨hq0, e⟩ | ⟨hq0, e⟩
      · subst hq0
        cases e; exact goes_runM hU [.o, .o, .o, .o, .xg (ok0_live_changes_v2 hU (n0 : Int) n0 g0_0 g0_1 s0_0 g0_3 gb0_0 true e_gb0) [4, 0, 1, 2, 3, 6]] [0, 1, 2, 3, 4, 5, 6, 7] (fun b => rfl) (by decide) rfl rfl (fun b => by kernel_rfl)
      · subst hq0
        cases e; exact ⟨ne_exit 2, goes_runM hU [.o, .o, .o, .o, .xg (ok0_live_changes_v2 hU (n0 : Int) n0 g0_0 g0_1 s0_0 g0_3 gb0_0 false e_gb0) [4, 0, 1, 2, 3, 6]] [0, 1, 2, 3, 4, 5, 6, 7] (fun b => rfl) (by decide) rfl rfl (fun b => by kernel_rfl)⟩) s r h
noncomputable def t0_live_look_v1_L1_0 (a0 : Option Addr) (p0 : Nat) (q0 : Nat) (n0 : Nat) (k0 : Nat) (A0 : Nat → Insn) (g0_0 : Nat → BitVec 16) (g0_1 : Nat → BitVec 16) (g0_2 : Nat → BitVec 16) (g0_3 : Nat → (Nat × (Nat → Int))) (s0_0 : Nat → BitVec 16) (ls : List L1) : List Value := List.append [.slice a0 n0 (n0 + k0), ((lget ls 7).u 1), .pointer none, .pointer (some ⟨(lget ls 4).n, 0, none⟩)] (List.append (jks (lget ls 7).u 4 18) (List.append [.slice a0 n0 (n0 + k0), .int .i64 ((n0 : Int))] (jks (lget ls 7).u 24 49)))
def pre_live_look_v1_L1_0 (a0 : Option Addr) (p0 : Nat) (q0 : Nat) (n0 : Nat) (k0 : Nat) (A0 : Nat → Insn) (g0_0 : Nat → BitVec 16) (g0_1 : Nat → BitVec 16) (g0_2 : Nat → BitVec 16) (g0_3 : Nat → (Nat × (Nat → Int))) (s0_0 : Nat → BitVec 16) (ls : List L1) : List Obj := [rowO (lget ls 0) (esG cu16 n0 g0_0) 31 n0 1, rowO (lget ls 1) (esG cu16 n0 g0_1) 31 n0 1, rowO (lget ls 2) (esG cu16 n0 s0_0) 31 n0 1, rfR (lget ls 3) (lget ls 6) 36 1 n0 g0_3, .cells #[(rowV (lget ls 0) n0 1), (rowV (lget ls 1) n0 1), (rowV (lget ls 2) n0 1), (rowV (lget ls 3) n0 1)] 57, unb, rfO 3 cZ 1 n0 g0_3, unb]
theorem sp0_live_look_v1_L1_0_ok (g0_0 : Nat → BitVec 16) (g0_1 : Nat → BitVec 16) (g0_2 : Nat → BitVec 16) (g0_3 : Nat → (Nat × (Nat → Int))) (s0_0 : Nat → BitVec 16) (c0_0 : Nat → BitVec 16) (h : lpO (st_live_look_v1_L1 n0 g0_0 g0_1 g0_3) (.c0 s0_0) = some (.e0 c0_0)) : SpcG Try.prog M B0 S ⟨fun ls => .code (.loop bd_live_look_v1_L1) (t0_live_look_v1_L1_0 a0 p0 q0 n0 k0 A0 g0_0 g0_1 g0_2 g0_3 s0_0 ls), pre_live_look_v1_L1_0 a0 p0 q0 n0 k0 A0 g0_0 g0_1 g0_2 g0_3 s0_0, 1, (.exit 2), fun ls => vf_live_look_v1_L1 a0 p0 q0 n0 k0 A0 g0_0 g0_1 g0_2 g0_3 (.e0 c0_0) (ls.take 8 ++ ls.drop 8), fun ls => (Hf_live_look_v1_L1 a0 p0 q0 n0 k0 A0 g0_0 g0_1 g0_2 g0_3 (.e0 c0_0) (ls.take 8 ++ ls.drop 8)).take 8 ++ List.replicate 0 unb, fun ls => (Hf_live_look_v1_L1 a0 p0 q0 n0 k0 A0 g0_0 g0_1 g0_2 g0_3 (.e0 c0_0) (ls.take 8 ++ ls.drop 8)).drop 8⟩ :=
  spc_of_goesM hU 0 (k0 := 8) (go_live_look_v1_L1 hU a0 p0 q0 n0 k0 A0 hR0 g0_0 g0_1 g0_2 g0_3 _ _ h) (t0_live_look_v1_L1_0 a0 p0 q0 n0 k0 A0 g0_0 g0_1 g0_2 g0_3 s0_0) (pre_live_look_v1_L1_0 a0 p0 q0 n0 k0 A0 g0_0 g0_1 g0_2 g0_3 s0_0) (fun _ => rfl) (fun ls h => by match ls, h with | [l0, l1, l2, l3, l4, l5, l6, l7], _ => exact ⟨by kernel_rfl, by kernel_rfl⟩) (fun ls h => by match ls, h with | [l0, l1, l2, l3, l4, l5, l6, l7], _ => rfl) (by decide) (by decide) (fun ls => rfl)
inductive R_live_look_v1 where
  | e0 (c0_0 : Nat → BitVec 16) (c0_1 : Nat → BitVec 16) (c0_2 : Nat → BitVec 16) (c0_3 : Nat → (Nat × (Nat → Int)))
noncomputable def m_live_look_v1 (n0 : Nat) (A0 : Nat → Insn) : Option R_live_look_v1 :=
  bif decide (n0 ≤ 1000000) then
    ((lpO (st_live_look_v1_L0 n0 A0) (.c0 (fun _ => 0#16) (fun _ => 0#16) (fun _ => (0, fun _ => 0)) 0)).bind fun g0 => match g0 with
    | .e0 g0_0 g0_1 g0_2 g0_3 =>
    (lpO (st_live_look_v1_L1 n0 g0_0 g0_1 g0_3) (.c0 g0_2)).bind fun g1 => match g1 with
    | .e0 g1_0 =>
    some (.e0 g0_0 g0_1 g1_0 g0_3))
  else (none)
def sq0_live_look_v1 (a0 : Option Addr) (p0 : Nat) (q0 : Nat) (n0 : Nat) (k0 : Nat) (A0 : Nat → Insn) (c0_0 : Nat → BitVec 16) (c0_1 : Nat → BitVec 16) (c0_2 : Nat → BitVec 16) (c0_3 : Nat → (Nat × (Nat → Int))) : Spc := ⟨fun ls => .call 16 #[.slice a0 n0 (n0 + k0)], fun ls => [], 6, .normal, fun ls => [.pointer (some ⟨(lget ls 0).n, 0, none⟩)], fun ls => [], fun ls => [.cells #[(rowV (lget ls 1) n0 1), (rowV (lget ls 2) n0 1), (rowV (lget ls 3) n0 1), (rowV (lget ls 4) n0 1)] 57, rowO (lget ls 1) (esG cu16 n0 c0_0) 31 n0 1, rowO (lget ls 2) (esG cu16 n0 c0_1) 31 n0 1, rowO (lget ls 3) (esG cu16 n0 c0_2) 31 n0 1, rfR (lget ls 4) (lget ls 5) 36 1 n0 c0_3, rfO 3 cZ 1 n0 c0_3]⟩
theorem ok0_live_look_v1 (c0_0 : Nat → BitVec 16) (c0_1 : Nat → BitVec 16) (c0_2 : Nat → BitVec 16) (c0_3 : Nat → (Nat × (Nat → Int))) (e : m_live_look_v1 n0 A0 = some (.e0 c0_0 c0_1 c0_2 c0_3)) : SpcG Try.prog M B0 S (sq0_live_look_v1 a0 p0 q0 n0 k0 A0 c0_0 c0_1 c0_2 c0_3) := by
  unfold m_live_look_v1 at e
  replace e := cond_eq_or e
  rcases e with ⟨hq0, e⟩ | ⟨hq0, e⟩
  · replace e := bindO_eq e
    obtain ⟨g0, e_g0, e⟩ := e
    obtain ⟨g0_0, g0_1, g0_2, g0_3⟩ := g0
    try dsimp only at e
    replace e := bindO_eq e
    obtain ⟨g1, e_g1, e⟩ := e
    obtain ⟨g1_0⟩ := g1
    try dsimp only at e
    injection e with e; injection e with i0 i1 i2 i3; subst i0 i1 i2 i3; exact fn_specG hU (P := Try.prog) Try.func16 (fun xs w => by kernel_rfl) 0 _ _ (fun _ => rfl) _ _ _ [4, 0, 1, 2, 3, 6] [.o, .rm [0, 1, 3, 4, 6, 7, 9, 10] [2, 5, 8, 11] [12, 13, 14] [(2, ⟨_, mkRow_ok rt27 (f := cu16) (a0 := 0#16) cu16_len (by kernel_rfl) hq0 (by decide)⟩), (5, ⟨_, mkRow_ok rt27 (f := cu16) (a0 := 0#16) cu16_len (by kernel_rfl) hq0 (by decide)⟩), (8, ⟨_, mkRow_ok rt27 (f := cu16) (a0 := 0#16) cu16_len (by kernel_rfl) hq0 (by decide)⟩), (11, ⟨_, mkRR_ok rt55 (sz := 1) (g0 := fun _ => 0) (by kernel_rfl) hq0 (by decide)⟩)], .o, .o, .o, .o, .o, .o, .o, .o, .o, .o, .xg (ghRF_ok (e := 36) (T2 := 3) (X := fun ls => .pointer (some ⟨(lget ls 1).n, 0, none⟩)) (R := fun ls => [.cells #[(rowV (lget ls 2) n0 1), (rowV (lget ls 3) n0 1), (rowV (lget ls 4) n0 1), (rowV (lget ls 0) n0 1)] 57, rowO (lget ls 2) (esG cu16 n0 (fun _ => 0#16)) 31 n0 1, rowO (lget ls 3) (esG cu16 n0 (fun _ => 0#16)) 31 n0 1, rowO (lget ls 4) (esG cu16 n0 (fun _ => 0#16)) 31 n0 1]) (n := 5) (f := cZ) (sz := 1) (N := n0) (g0 := fun _ => 0) (by decide) (fun _ => rfl) (fun ls m h => match ls, h with | [a0, a1, a2, a3, a4], _ => ⟨rfl, rfl⟩)) [3, 4, 0, 1, 2], .o, .o, .o, .cp, .cx (sp0_live_look_v1_L0_0_ok hU a0 p0 q0 n0 k0 A0 hR0 (fun _ => 0#16) (fun _ => 0#16) (fun _ => (0, fun _ => 0)) 0 g0_0 g0_1 g0_2 g0_3 e_g0) [0, 1, 2, 3, 4, 5], .cp, .cx (sp0_live_look_v1_L1_0_ok hU a0 p0 q0 n0 k0 A0 hR0 g0_0 g0_1 g0_2 g0_3 g0_2 g1_0 e_g1) [0, 1, 2, 3, 4, 5, 6, 7], .o, .o] [] (fun b => by kernel_rfl)
  · exact none_some e
inductive R_live_Live_v1 where
  | e0 (c0_0 : Nat → BitVec 16)
  | e1 (c1_0 : Int)
noncomputable def m_live_Live_v1 (n0 : Nat) (A0 : Nat → Insn) : Option R_live_Live_v1 :=
  (m_insn_Check n0 A0).bind fun r0 =>
  bif r0.2 == 0 then
    ((m_live_look_v1 n0 A0).bind fun g1 => match g1 with
    | .e0 g1_0 g1_1 g1_2 g1_3 =>
    some (.e0 g1_2))
  else (some (.e1 r0.2))
def sq0_live_Live_v1 (a0 : Option Addr) (p0 : Nat) (q0 : Nat) (n0 : Nat) (k0 : Nat) (A0 : Nat → Insn) (c0_0 : Nat → BitVec 16) : Spc := ⟨fun ls => .call 8 #[.slice a0 n0 (n0 + k0)], fun ls => [], 1, .normal, fun ls => [.tuple #[(rowV (lget ls 0) n0 1), .int .i64 (0)]], fun ls => [], fun ls => [rowO (lget ls 0) (esG cu16 n0 c0_0) 31 n0 1]⟩
def sq1_live_Live_v1 (a0 : Option Addr) (p0 : Nat) (q0 : Nat) (n0 : Nat) (k0 : Nat) (A0 : Nat → Insn) (c1_0 : Int) : Spc := ⟨fun ls => .call 8 #[.slice a0 n0 (n0 + k0)], fun ls => [], 0, .normal, fun ls => [.tuple #[.slice none 0 0, .int .i64 (c1_0)]], fun ls => [], fun ls => []⟩
theorem ok0_live_Live_v1 (c0_0 : Nat → BitVec 16) (e : m_live_Live_v1 n0 A0 = some (.e0 c0_0)) : SpcG Try.prog M B0 S (sq0_live_Live_v1 a0 p0 q0 n0 k0 A0 c0_0) := by
  unfold m_live_Live_v1 at e
  replace e := bindO_eq e
  obtain ⟨r0, e_r0, e⟩ := e
  try dsimp only at e
  replace e := cond_eq_or e
  rcases e with ⟨hq0, e⟩ | ⟨hq0, e⟩
  · replace e := bindO_eq e
    obtain ⟨g1, e_g1, e⟩ := e
    obtain ⟨g1_0, g1_1, g1_2, g1_3⟩ := g1
    try dsimp only at e
    injection e with e; injection e with i0; subst i0; exact fn_specG hU (P := Try.prog) Try.func8 (fun xs w => by kernel_rfl) 0 _ _ (fun _ => rfl) _ _ _ [3] [.o, .o, .o, .cg (ok_insn_Check hU a0 p0 q0 n0 k0 A0 hR0 r0 e_r0), .o, .o, .o, .o, .o, .o, .b (z_neqT hq0), .o, .xg (ok0_live_look_v1 hU a0 p0 q0 n0 k0 A0 hR0 g1_0 g1_1 g1_2 g1_3 e_g1) [], .o, .o, .a 0, .o, .o] [] (fun b => by kernel_rfl)
  · cases e
theorem ok1_live_Live_v1 (c1_0 : Int) (e : m_live_Live_v1 n0 A0 = some (.e1 c1_0)) : SpcG Try.prog M B0 S (sq1_live_Live_v1 a0 p0 q0 n0 k0 A0 c1_0) := by
  unfold m_live_Live_v1 at e
  replace e := bindO_eq e
  obtain ⟨r0, e_r0, e⟩ := e
  try dsimp only at e
  replace e := cond_eq_or e
  rcases e with ⟨hq0, e⟩ | ⟨hq0, e⟩
  · replace e := bindO_eq e
    obtain ⟨g1, e_g1, e⟩ := e
    obtain ⟨g1_0, g1_1, g1_2, g1_3⟩ := g1
    try dsimp only at e
    cases e
  · injection e with e; injection e with i0; subst i0; exact fn_specG hU (P := Try.prog) Try.func8 (fun xs w => by kernel_rfl) 0 _ _ (fun _ => rfl) _ _ _ [] [.o, .o, .o, .cg (ok_insn_Check hU a0 p0 q0 n0 k0 A0 hR0 r0 e_r0), .o, .o, .o, .o, .o, .o, .b (z_neqF hq0), .o, .o, .o] [] (fun b => by kernel_rfl)
noncomputable def m_flow_program_named_v3 (n0 : Nat) (A0 : Nat → Insn) (y1 : Int) : Option ((Int) × (Bool)) :=
  bif inR y1 n0 then
    (bif m_op_Jumps ((A0 (y1).toNat)) then
      (some (0, false))
    else ((m_insn_Target n0 A0 y1).bind fun r0 =>
    some (r0.1, (r0.2))))
  else (none)
theorem ok_flow_program_named_v3 (y1 : Int) (r : (Int) × (Bool)) (e : m_flow_program_named_v3 n0 A0 y1 = some r) : ConG Try.prog S 65 #[.slice a0 n0 (n0 + k0), .int .i64 (y1)] (vt0 r) := by
  unfold m_flow_program_named_v3 at e
  replace e := cond_eq_or e
  rcases e with ⟨hq0, e⟩ | ⟨hq0, e⟩
  · replace e := cond_eq_or e
    let P1 : List (PG Try.prog M B0 S) := [.o, .o, .o, .o, .q (ixRo_ok (kd := .i64) (T := 89) (x := y1) (sz := 5) rfl (fun w => by kernel_rfl) hR0 hq0), .l (accRo hR0 c_Insn_len (inR_nat hq0) 0 [.int .u8 (nn ((A0 (y1).toNat)).fOp), .int .u8 (nn ((A0 (y1).toNat)).fDst), .int .u8 (nn ((A0 (y1).toNat)).fSrc), .int .i16 (ii ((A0 (y1).toNat)).fOff), .int .i32 (ii ((A0 (y1).toNat)).fImm)] rfl)]
    rcases e with ⟨hq1, e⟩ | ⟨hq1, e⟩
    · injection e with e; subst e; exact fn_conG hU (P := Try.prog) Try.func65 (fun xs w => by kernel_rfl) _ _ (P1 ++ [.cg (ok_op_Jumps hU ((A0 (y1).toNat)) true hq1), .o, .o]) [] (fun b => by kernel_rfl)
    · replace e := bindO_eq e
      obtain ⟨r0, e_r0, e⟩ := e
      try dsimp only at e
      injection e with e; subst e; exact fn_conG hU (P := Try.prog) Try.func65 (fun xs w => by kernel_rfl) _ _ (P1 ++ [.cg (ok_op_Jumps hU ((A0 (y1).toNat)) false hq1), .o, .o, .cg (ok_insn_Target hU a0 p0 q0 n0 k0 A0 hR0 y1 r0 e_r0), .o, .o, .o, .o]) [] (fun b => by kernel_rfl)
  · exact none_some e
inductive Sh_flow_program_reached_v1_L0 where
  | c0 
  | c1 (s0_0 : Nat → Bool) (s0_1 : Nat) (s0_2 : Nat → Int)
inductive Ex_flow_program_reached_v1_L0 where
  | e0 (c0_0 : Nat → Bool)
noncomputable def st_flow_program_reached_v1_L0 (n0 : Nat) (A0 : Nat → Insn) : Sh_flow_program_reached_v1_L0 → Option (Sh_flow_program_reached_v1_L0 ⊕ Ex_flow_program_reached_v1_L0)
  | .c0  =>
    (m_flow_program_next_v3 n0 A0 0).bind fun gb0 => match gb0 with
    | .e0  => ((m_flow_program_named_v3 n0 A0 0).bind fun rb1 =>
      bif rb1.2 then
        (bif inR ((fun _ => rb1.1) 0) n0 then
          (bif ((updF (fun _ => false) 0 true) (((fun _ => rb1.1) 0)).toNat) then
            (some (.inl (.c1 (updF (fun _ => false) 0 true) 0 (fun _ => 0))))
          else (some (.inl (.c1 (updF (updF (fun _ => false) 0 true) (((fun _ => rb1.1) 0)).toNat true) 1 (updF (fun _ => 0) 0 ((fun _ => rb1.1) 0))))))
        else (none))
      else (some (.inl (.c1 (updF (fun _ => false) 0 true) 0 (fun _ => 0)))))
    | .e1 gb0_0 => ((m_flow_program_named_v3 n0 A0 0).bind fun rb1 =>
      bif rb1.2 then
        (bif inR ((fun _ => gb0_0) 0) n0 then
          (bif ((updF (fun _ => false) 0 true) (((fun _ => gb0_0) 0)).toNat) then
            (bif inR rb1.1 n0 then
              (bif ((updF (fun _ => false) 0 true) (rb1.1).toNat) then
                (some (.inl (.c1 (updF (fun _ => false) 0 true) 0 (fun _ => 0))))
              else (some (.inl (.c1 (updF (updF (fun _ => false) 0 true) (rb1.1).toNat true) 1 (updF (fun _ => 0) 0 rb1.1)))))
            else (none))
          else (bif inR rb1.1 n0 then
            (bif ((updF (updF (fun _ => false) 0 true) (((fun _ => gb0_0) 0)).toNat true) (rb1.1).toNat) then
              (some (.inl (.c1 (updF (updF (fun _ => false) 0 true) (((fun _ => gb0_0) 0)).toNat true) 1 (updF (fun _ => 0) 0 ((fun _ => gb0_0) 0)))))
            else (bindT (updF (updF (updF (fun _ => false) 0 true) (((fun _ => gb0_0) 0)).toNat true) (rb1.1).toNat true) fun rb2 =>
            some (.inl (.c1 rb2 2 (updF (updF (fun _ => 0) 0 ((fun _ => gb0_0) 0)) 1 rb1.1)))))
          else (none)))
        else (none))
      else (bif inR gb0_0 n0 then
        (bif ((updF (fun _ => false) 0 true) (gb0_0).toNat) then
          (some (.inl (.c1 (updF (fun _ => false) 0 true) 0 (fun _ => 0))))
        else (some (.inl (.c1 (updF (updF (fun _ => false) 0 true) (gb0_0).toNat true) 1 (updF (fun _ => 0) 0 gb0_0)))))
      else (none)))
    | .e2 gb0_0 gb0_1 => ((m_flow_program_named_v3 n0 A0 0).bind fun rb1 =>
      bif rb1.2 then
        (bif inR ((fun k => if k = 0 then gb0_0 else gb0_1) 0) n0 then
          (bif ((updF (fun _ => false) 0 true) (((fun k => if k = 0 then gb0_0 else gb0_1) 0)).toNat) then
            (bif inR ((fun k => if k = 0 then gb0_0 else gb0_1) 1) n0 then
              (bif ((updF (fun _ => false) 0 true) (((fun k => if k = 0 then gb0_0 else gb0_1) 1)).toNat) then
                (bif inR rb1.1 n0 then
                  (bif ((updF (fun _ => false) 0 true) (rb1.1).toNat) then
                    (some (.inl (.c1 (updF (fun _ => false) 0 true) 0 (fun _ => 0))))
                  else (some (.inl (.c1 (updF (updF (fun _ => false) 0 true) (rb1.1).toNat true) 1 (updF (fun _ => 0) 0 rb1.1)))))
                else (none))
              else (bindT (updF (updF (fun _ => false) 0 true) (((fun k => if k = 0 then gb0_0 else gb0_1) 1)).toNat true) fun rb2 =>
              bif inR rb1.1 n0 then
                (bif (rb2 (rb1.1).toNat) then
                  (some (.inl (.c1 rb2 1 (updF (fun _ => 0) 0 ((fun k => if k = 0 then gb0_0 else gb0_1) 1)))))
                else (bindT (updF (updF (fun _ => 0) 0 ((fun k => if k = 0 then gb0_0 else gb0_1) 1)) 1 rb1.1) fun rb3 =>
                some (.inl (.c1 (updF rb2 (rb1.1).toNat true) 2 rb3))))
              else (none)))
            else (none))
          else (bindT (updF (updF (fun _ => false) 0 true) (((fun k => if k = 0 then gb0_0 else gb0_1) 0)).toNat true) fun rb2 =>
          bif inR ((fun k => if k = 0 then gb0_0 else gb0_1) 1) n0 then
            (bif (rb2 (((fun k => if k = 0 then gb0_0 else gb0_1) 1)).toNat) then
              (bif inR rb1.1 n0 then
                (bif (rb2 (rb1.1).toNat) then
                  (some (.inl (.c1 rb2 1 (updF (fun _ => 0) 0 ((fun k => if k = 0 then gb0_0 else gb0_1) 0)))))
                else (bindT (updF (updF (fun _ => 0) 0 ((fun k => if k = 0 then gb0_0 else gb0_1) 0)) 1 rb1.1) fun rb3 =>
                some (.inl (.c1 (updF rb2 (rb1.1).toNat true) 2 rb3))))
              else (none))
            else (bindT (updF (updF (fun _ => 0) 0 ((fun k => if k = 0 then gb0_0 else gb0_1) 0)) 1 ((fun k => if k = 0 then gb0_0 else gb0_1) 1)) fun rb3 =>
            bif inR rb1.1 n0 then
              (bif ((updF rb2 (((fun k => if k = 0 then gb0_0 else gb0_1) 1)).toNat true) (rb1.1).toNat) then
                (some (.inl (.c1 (updF rb2 (((fun k => if k = 0 then gb0_0 else gb0_1) 1)).toNat true) 2 rb3)))
              else (bindT (updF (updF rb2 (((fun k => if k = 0 then gb0_0 else gb0_1) 1)).toNat true) (rb1.1).toNat true) fun rb4 =>
              some (.inl (.c1 rb4 3 (updF rb3 2 rb1.1)))))
            else (none)))
          else (none)))
        else (none))
      else (bif inR gb0_0 n0 then
        (bif ((updF (fun _ => false) 0 true) (gb0_0).toNat) then
          (bif inR gb0_1 n0 then
            (bif ((updF (fun _ => false) 0 true) (gb0_1).toNat) then
              (some (.inl (.c1 (updF (fun _ => false) 0 true) 0 (fun _ => 0))))
            else (some (.inl (.c1 (updF (updF (fun _ => false) 0 true) (gb0_1).toNat true) 1 (updF (fun _ => 0) 0 gb0_1)))))
          else (none))
        else (bif inR gb0_1 n0 then
          (bif ((updF (updF (fun _ => false) 0 true) (gb0_0).toNat true) (gb0_1).toNat) then
            (some (.inl (.c1 (updF (updF (fun _ => false) 0 true) (gb0_0).toNat true) 1 (updF (fun _ => 0) 0 gb0_0))))
          else (bindT (updF (updF (updF (fun _ => false) 0 true) (gb0_0).toNat true) (gb0_1).toNat true) fun rb2 =>
          some (.inl (.c1 rb2 2 (updF (updF (fun _ => 0) 0 gb0_0) 1 gb0_1)))))
        else (none)))
      else (none)))
  | .c1 s0_0 s0_1 s0_2 =>
    bif decide (0 < (s0_1 : Int)) then
      (bif inR (IntKind.i64.wrap ((s0_1 : Int) - 1)) s0_1 then
        (bif inR (IntKind.i64.wrap ((s0_1 : Int) - 1)) (s0_1 + 1) then
          (bif decide (s0_1 ≤ 1000000) then
            ((m_flow_program_next_v3 n0 A0 (s0_2 ((IntKind.i64.wrap ((s0_1 : Int) - 1))).toNat)).bind fun gb0 => match gb0 with
            | .e0  => ((m_flow_program_named_v3 n0 A0 (s0_2 ((IntKind.i64.wrap ((s0_1 : Int) - 1))).toNat)).bind fun rb1 =>
              bif rb1.2 then
                (bif inR ((fun _ => rb1.1) 0) n0 then
                  (bif (s0_0 (((fun _ => rb1.1) 0)).toNat) then
                    (some (.inl (.c1 s0_0 ((IntKind.i64.wrap ((s0_1 : Int) - 1))).toNat s0_2)))
                  else (bif decide (((IntKind.i64.wrap ((s0_1 : Int) - 1))).toNat ≤ 1000000) then
                    (bindT (updF s0_2 ((IntKind.i64.wrap ((s0_1 : Int) - 1))).toNat ((fun _ => rb1.1) 0)) fun rb2 =>
                    some (.inl (.c1 (updF s0_0 (((fun _ => rb1.1) 0)).toNat true) (((IntKind.i64.wrap ((s0_1 : Int) - 1))).toNat + 1) rb2)))
                  else (none)))
                else (none))
              else (some (.inl (.c1 s0_0 ((IntKind.i64.wrap ((s0_1 : Int) - 1))).toNat s0_2))))
            | .e1 gb0_0 => ((m_flow_program_named_v3 n0 A0 (s0_2 ((IntKind.i64.wrap ((s0_1 : Int) - 1))).toNat)).bind fun rb1 =>
              bif rb1.2 then
                (bif inR ((fun _ => gb0_0) 0) n0 then
                  (bif (s0_0 (((fun _ => gb0_0) 0)).toNat) then
                    (bif inR rb1.1 n0 then
                      (bif (s0_0 (rb1.1).toNat) then
                        (some (.inl (.c1 s0_0 ((IntKind.i64.wrap ((s0_1 : Int) - 1))).toNat s0_2)))
                      else (bif decide (((IntKind.i64.wrap ((s0_1 : Int) - 1))).toNat ≤ 1000000) then
                        (some (.inl (.c1 (updF s0_0 (rb1.1).toNat true) (((IntKind.i64.wrap ((s0_1 : Int) - 1))).toNat + 1) (updF s0_2 ((IntKind.i64.wrap ((s0_1 : Int) - 1))).toNat rb1.1))))
                      else (none)))
                    else (none))
                  else (bif decide (((IntKind.i64.wrap ((s0_1 : Int) - 1))).toNat ≤ 1000000) then
                    (bindT (updF s0_2 ((IntKind.i64.wrap ((s0_1 : Int) - 1))).toNat ((fun _ => gb0_0) 0)) fun rb2 =>
                    bif inR rb1.1 n0 then
                      (bif ((updF s0_0 (((fun _ => gb0_0) 0)).toNat true) (rb1.1).toNat) then
                        (some (.inl (.c1 (updF s0_0 (((fun _ => gb0_0) 0)).toNat true) (((IntKind.i64.wrap ((s0_1 : Int) - 1))).toNat + 1) rb2)))
                      else (bif decide ((((IntKind.i64.wrap ((s0_1 : Int) - 1))).toNat + 1) ≤ 1000000) then
                        (some (.inl (.c1 (updF (updF s0_0 (((fun _ => gb0_0) 0)).toNat true) (rb1.1).toNat true) ((((IntKind.i64.wrap ((s0_1 : Int) - 1))).toNat + 1) + 1) (updF rb2 (((IntKind.i64.wrap ((s0_1 : Int) - 1))).toNat + 1) rb1.1))))
                      else (none)))
                    else (none))
                  else (none)))
                else (none))
              else (bif inR gb0_0 n0 then
                (bif (s0_0 (gb0_0).toNat) then
                  (some (.inl (.c1 s0_0 ((IntKind.i64.wrap ((s0_1 : Int) - 1))).toNat s0_2)))
                else (bif decide (((IntKind.i64.wrap ((s0_1 : Int) - 1))).toNat ≤ 1000000) then
                  (some (.inl (.c1 (updF s0_0 (gb0_0).toNat true) (((IntKind.i64.wrap ((s0_1 : Int) - 1))).toNat + 1) (updF s0_2 ((IntKind.i64.wrap ((s0_1 : Int) - 1))).toNat gb0_0))))
                else (none)))
              else (none)))
            | .e2 gb0_0 gb0_1 => ((m_flow_program_named_v3 n0 A0 (s0_2 ((IntKind.i64.wrap ((s0_1 : Int) - 1))).toNat)).bind fun rb1 =>
              bif rb1.2 then
                (bif inR ((fun k => if k = 0 then gb0_0 else gb0_1) 0) n0 then
                  (bif (s0_0 (((fun k => if k = 0 then gb0_0 else gb0_1) 0)).toNat) then
                    (bif inR ((fun k => if k = 0 then gb0_0 else gb0_1) 1) n0 then
                      (bif (s0_0 (((fun k => if k = 0 then gb0_0 else gb0_1) 1)).toNat) then
                        (bif inR rb1.1 n0 then
                          (bif (s0_0 (rb1.1).toNat) then
                            (some (.inl (.c1 s0_0 ((IntKind.i64.wrap ((s0_1 : Int) - 1))).toNat s0_2)))
                          else (bif decide (((IntKind.i64.wrap ((s0_1 : Int) - 1))).toNat ≤ 1000000) then
                            (some (.inl (.c1 (updF s0_0 (rb1.1).toNat true) (((IntKind.i64.wrap ((s0_1 : Int) - 1))).toNat + 1) (updF s0_2 ((IntKind.i64.wrap ((s0_1 : Int) - 1))).toNat rb1.1))))
                          else (none)))
                        else (none))
                      else (bif decide (((IntKind.i64.wrap ((s0_1 : Int) - 1))).toNat ≤ 1000000) then
                        (bindT (updF s0_2 ((IntKind.i64.wrap ((s0_1 : Int) - 1))).toNat ((fun k => if k = 0 then gb0_0 else gb0_1) 1)) fun rb2 =>
                        bif inR rb1.1 n0 then
                          (bif ((updF s0_0 (((fun k => if k = 0 then gb0_0 else gb0_1) 1)).toNat true) (rb1.1).toNat) then
                            (some (.inl (.c1 (updF s0_0 (((fun k => if k = 0 then gb0_0 else gb0_1) 1)).toNat true) (((IntKind.i64.wrap ((s0_1 : Int) - 1))).toNat + 1) rb2)))
                          else (bindT (updF (updF s0_0 (((fun k => if k = 0 then gb0_0 else gb0_1) 1)).toNat true) (rb1.1).toNat true) fun rb3 =>
                          bif decide ((((IntKind.i64.wrap ((s0_1 : Int) - 1))).toNat + 1) ≤ 1000000) then
                            (some (.inl (.c1 rb3 ((((IntKind.i64.wrap ((s0_1 : Int) - 1))).toNat + 1) + 1) (updF rb2 (((IntKind.i64.wrap ((s0_1 : Int) - 1))).toNat + 1) rb1.1))))
                          else (none)))
                        else (none))
                      else (none)))
                    else (none))
                  else (bif decide (((IntKind.i64.wrap ((s0_1 : Int) - 1))).toNat ≤ 1000000) then
                    (bindT (updF s0_2 ((IntKind.i64.wrap ((s0_1 : Int) - 1))).toNat ((fun k => if k = 0 then gb0_0 else gb0_1) 0)) fun rb2 =>
                    bif inR ((fun k => if k = 0 then gb0_0 else gb0_1) 1) n0 then
                      (bif ((updF s0_0 (((fun k => if k = 0 then gb0_0 else gb0_1) 0)).toNat true) (((fun k => if k = 0 then gb0_0 else gb0_1) 1)).toNat) then
                        (bif inR rb1.1 n0 then
                          (bif ((updF s0_0 (((fun k => if k = 0 then gb0_0 else gb0_1) 0)).toNat true) (rb1.1).toNat) then
                            (some (.inl (.c1 (updF s0_0 (((fun k => if k = 0 then gb0_0 else gb0_1) 0)).toNat true) (((IntKind.i64.wrap ((s0_1 : Int) - 1))).toNat + 1) rb2)))
                          else (bindT (updF (updF s0_0 (((fun k => if k = 0 then gb0_0 else gb0_1) 0)).toNat true) (rb1.1).toNat true) fun rb3 =>
                          bif decide ((((IntKind.i64.wrap ((s0_1 : Int) - 1))).toNat + 1) ≤ 1000000) then
                            (some (.inl (.c1 rb3 ((((IntKind.i64.wrap ((s0_1 : Int) - 1))).toNat + 1) + 1) (updF rb2 (((IntKind.i64.wrap ((s0_1 : Int) - 1))).toNat + 1) rb1.1))))
                          else (none)))
                        else (none))
                      else (bindT (updF (updF s0_0 (((fun k => if k = 0 then gb0_0 else gb0_1) 0)).toNat true) (((fun k => if k = 0 then gb0_0 else gb0_1) 1)).toNat true) fun rb3 =>
                      bif decide ((((IntKind.i64.wrap ((s0_1 : Int) - 1))).toNat + 1) ≤ 1000000) then
                        (bindT (updF rb2 (((IntKind.i64.wrap ((s0_1 : Int) - 1))).toNat + 1) ((fun k => if k = 0 then gb0_0 else gb0_1) 1)) fun rb4 =>
                        bif inR rb1.1 n0 then
                          (bif (rb3 (rb1.1).toNat) then
                            (some (.inl (.c1 rb3 ((((IntKind.i64.wrap ((s0_1 : Int) - 1))).toNat + 1) + 1) rb4)))
                          else (bif decide (((((IntKind.i64.wrap ((s0_1 : Int) - 1))).toNat + 1) + 1) ≤ 1000000) then
                            (bindT (updF rb4 ((((IntKind.i64.wrap ((s0_1 : Int) - 1))).toNat + 1) + 1) rb1.1) fun rb5 =>
                            some (.inl (.c1 (updF rb3 (rb1.1).toNat true) (((((IntKind.i64.wrap ((s0_1 : Int) - 1))).toNat + 1) + 1) + 1) rb5)))
                          else (none)))
                        else (none))
                      else (none)))
                    else (none))
                  else (none)))
                else (none))
              else (bif inR gb0_0 n0 then
                (bif (s0_0 (gb0_0).toNat) then
                  (bif inR gb0_1 n0 then
                    (bif (s0_0 (gb0_1).toNat) then
                      (some (.inl (.c1 s0_0 ((IntKind.i64.wrap ((s0_1 : Int) - 1))).toNat s0_2)))
                    else (bif decide (((IntKind.i64.wrap ((s0_1 : Int) - 1))).toNat ≤ 1000000) then
                      (some (.inl (.c1 (updF s0_0 (gb0_1).toNat true) (((IntKind.i64.wrap ((s0_1 : Int) - 1))).toNat + 1) (updF s0_2 ((IntKind.i64.wrap ((s0_1 : Int) - 1))).toNat gb0_1))))
                    else (none)))
                  else (none))
                else (bif decide (((IntKind.i64.wrap ((s0_1 : Int) - 1))).toNat ≤ 1000000) then
                  (bif inR gb0_1 n0 then
                    (bif ((updF s0_0 (gb0_0).toNat true) (gb0_1).toNat) then
                      (some (.inl (.c1 (updF s0_0 (gb0_0).toNat true) (((IntKind.i64.wrap ((s0_1 : Int) - 1))).toNat + 1) (updF s0_2 ((IntKind.i64.wrap ((s0_1 : Int) - 1))).toNat gb0_0))))
                    else (bif decide ((((IntKind.i64.wrap ((s0_1 : Int) - 1))).toNat + 1) ≤ 1000000) then
                      (bindT (updF (updF s0_2 ((IntKind.i64.wrap ((s0_1 : Int) - 1))).toNat gb0_0) (((IntKind.i64.wrap ((s0_1 : Int) - 1))).toNat + 1) gb0_1) fun rb2 =>
                      some (.inl (.c1 (updF (updF s0_0 (gb0_0).toNat true) (gb0_1).toNat true) ((((IntKind.i64.wrap ((s0_1 : Int) - 1))).toNat + 1) + 1) rb2)))
                    else (none)))
                  else (none))
                else (none)))
              else (none))))
          else (none))
        else (none))
      else (none))
    else (some (.inr (.e0 s0_0)))
noncomputable def bd_flow_program_reached_v1_L0 : Code := codeOf Try.f40 [1, 1, 1, 1, 0, 0, 0]
def fl_flow_program_reached_v1_L0 (a0 : Option Addr) (p0 : Nat) (q0 : Nat) (n0 : Nat) (k0 : Nat) (A0 : Nat → Insn) : Sh_flow_program_reached_v1_L0 → List L1 → List Value
  | .c0 , ls => [.slice a0 n0 (n0 + k0), .slice none 0 0, (rowV (lget ls 0) n0 1), .slice (some ⟨(lget ls 1).n, 0, none⟩) 1 1]
  | .c1 s0_0 s0_1 s0_2, ls => [.slice a0 n0 (n0 + k0), .slice none 0 0, (rowV (lget ls 0) n0 1), (rowV (lget ls 1) s0_1 1)]
def mf_flow_program_reached_v1_L0 : Sh_flow_program_reached_v1_L0 → List (Nat × Nat)
  | .c0  => [(1, 1), (3, 60)]
  | .c1 _ _ _ => [(1, 1), (3, 60)]
noncomputable def fr_flow_program_reached_v1_L0 (a0 : Option Addr) (p0 : Nat) (q0 : Nat) (n0 : Nat) (k0 : Nat) (A0 : Nat → Insn) (s : Sh_flow_program_reached_v1_L0) : List L1 → List Value := mrgF (mf_flow_program_reached_v1_L0 s) (fl_flow_program_reached_v1_L0 a0 p0 q0 n0 k0 A0 s) 2
def Hs_flow_program_reached_v1_L0 (a0 : Option Addr) (p0 : Nat) (q0 : Nat) (n0 : Nat) (k0 : Nat) (A0 : Nat → Insn) : Sh_flow_program_reached_v1_L0 → List L1 → List Obj
  | .c0 , ls => [rowO (lget ls 0) (esG cB n0 (updF (fun _ => false) 0 true)) 4 n0 1, .cells #[.int .i64 (0)] 3, unb]
  | .c1 s0_0 s0_1 s0_2, ls => [rowO (lget ls 0) (esG cB n0 s0_0) 4 n0 1, rowO (lget ls 1) (esG cZ s0_1 s0_2) 3 s0_1 1, unb]
def vl_flow_program_reached_v1_L0 (a0 : Option Addr) (p0 : Nat) (q0 : Nat) (n0 : Nat) (k0 : Nat) (A0 : Nat → Insn) : Ex_flow_program_reached_v1_L0 → List L1 → List Value
  | .e0 c0_0, ls => [.slice a0 n0 (n0 + k0), .slice none 0 0, (rowV (lget ls 0) n0 1)]
def mk_flow_program_reached_v1_L0 : Ex_flow_program_reached_v1_L0 → List (Nat × Nat)
  | .e0 _ => [(1, 1), (2, 61)]
noncomputable def vf_flow_program_reached_v1_L0 (a0 : Option Addr) (p0 : Nat) (q0 : Nat) (n0 : Nat) (k0 : Nat) (A0 : Nat → Insn) (r : Ex_flow_program_reached_v1_L0) : List L1 → List Value := mrgF (mk_flow_program_reached_v1_L0 r) (vl_flow_program_reached_v1_L0 a0 p0 q0 n0 k0 A0 r) 2
def Hf_flow_program_reached_v1_L0 (a0 : Option Addr) (p0 : Nat) (q0 : Nat) (n0 : Nat) (k0 : Nat) (A0 : Nat → Insn) : Ex_flow_program_reached_v1_L0 → List L1 → List Obj
  | .e0 c0_0, ls => [rowO (lget ls 0) (esG cB n0 c0_0) 4 n0 1, unb, unb]
def ex_flow_program_reached_v1_L0 : Ex_flow_program_reached_v1_L0 → Ex
  | .e0 _ => (.exit 0)
end

end Go.Proofs.Ytjfiakgkeniocaa


