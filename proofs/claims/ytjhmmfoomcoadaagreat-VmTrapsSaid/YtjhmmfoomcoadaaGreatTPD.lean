/-
  A law's run in parts: the remainder of its argument.
-/
import Derived.Test.YtjhmmfoomcoadaaGreatTPA
namespace Go.Proofs.YtjhmmfoomcoadaaGreat.Ev
open Go.RowKit
set_option maxRecDepth 100000
/-- Where the region stands in the text. -/
noncomputable def pos5 : String := match t5 with
  | .region _ ops _ => match ops[0]? with
    | some o => o.pos
    | none => ""
  | _ => ""
noncomputable def ops5 : Array Oper := #[{ dst := some 12, op := Op.move (Operand.tmp 0), type := 3, pos := pos5, after := #[], guard := none }, { dst := some 13, op := Op.binOp BinOp.rem 3 (Operand.tmp 12) (Operand.const (Value.int IntKind.i64 12)) 3, type := 3, pos := pos5, after := #[{ on := 0, ground := Ground.data }], guard := none }, { dst := some 14, op := Op.binOp BinOp.add 3 (Operand.tmp 13) (Operand.const (Value.int IntKind.i64 12)) 3, type := 3, pos := pos5, after := #[{ on := 1, ground := Ground.data }], guard := none }, { dst := some 15, op := Op.binOp BinOp.rem 3 (Operand.tmp 14) (Operand.const (Value.int IntKind.i64 12)) 3, type := 3, pos := pos5, after := #[{ on := 2, ground := Ground.data }], guard := none }, { dst := some 5, op := Op.assign (Operand.tmp 15), type := 3, pos := pos5, after := #[{ on := 3, ground := Ground.data }, { on := 0, ground := Ground.phase }, { on := 1, ground := Ground.phase }, { on := 2, ground := Ground.phase }, { on := 3, ground := Ground.phase }], guard := none }]
theorem t5_is : t5 = .region 5 ops5 false := by kernel_rfl

theorem rem12 (x : Int) : evInt .rem .i64 x .i64 12 = some (.it .i64 (x.tmod 12)) := by kernel_rfl
theorem add12 (x : Int) : evInt .add .i64 x .i64 12 = some (.it .i64 (IntKind.i64.wrap (x + 12))) := by kernel_rfl
theorem unq12 : unq 10 (.int .i64 12) = some (.it .i64 12) := by kernel_rfl
theorem q5 (op : BinOp) (x y : Int) (t : Tmp) {T : Tr PV} {H : Hp} (h0 : T.at t = some (.it .i64 x)) (h : evInt op .i64 x .i64 12 = some (.it .i64 y)) : evQ1 Tryz.prog H T (.binOp op 3 (Operand.tmp t) (Operand.const (Value.int IntKind.i64 12)) 3) = some (.it .i64 y) := by
  simp only [evQ1, evO, h0, bnd2, unq12, evBin, h]
theorem qm {P : Program} {H : Hp} {T : Tr PV} (t : Tmp) : evQ1 P H T (.move (.tmp t)) = T.at t := rfl
theorem qa {P : Program} {H : Hp} {T : Tr PV} (t : Tmp) : evQ1 P H T (.assign (.tmp t)) = T.at t := rfl
theorem run5 {call : CallT (Tr PV × Hp)} {ops : Array Oper} (x : Int) {T : Tr PV} {H : Hp} (h0 : T.at 0 = some (.it .i64 x)) {l : List Oper}
    (hl : l = [{ dst := some 12, op := Op.move (Operand.tmp 0), type := 3, pos := pos5, after := #[], guard := none }, { dst := some 13, op := Op.binOp BinOp.rem 3 (Operand.tmp 12) (Operand.const (Value.int IntKind.i64 12)) 3, type := 3, pos := pos5, after := #[{ on := 0, ground := Ground.data }], guard := none }, { dst := some 14, op := Op.binOp BinOp.add 3 (Operand.tmp 13) (Operand.const (Value.int IntKind.i64 12)) 3, type := 3, pos := pos5, after := #[{ on := 1, ground := Ground.data }], guard := none }, { dst := some 15, op := Op.binOp BinOp.rem 3 (Operand.tmp 14) (Operand.const (Value.int IntKind.i64 12)) 3, type := 3, pos := pos5, after := #[{ on := 2, ground := Ground.data }], guard := none }, { dst := some 5, op := Op.assign (Operand.tmp 15), type := 3, pos := pos5, after := #[{ on := 3, ground := Ground.data }, { on := 0, ground := Ground.phase }, { on := 1, ground := Ground.phase }, { on := 2, ground := Ground.phase }, { on := 3, ground := Ground.phase }], guard := none }]) {r s k : Int} (hr : x.tmod 12 = r) (hs : IntKind.i64.wrap (r + 12) = s) (hk : s.tmod 12 = k) :
    evOps Tryz.prog call 40 ops l T [] H kH = some (((((T.put 12 (some (.it .i64 x))).put 13 (some (.it .i64 r))).put 14 (some (.it .i64 s))).put 15 (some (.it .i64 k))).put 5 (some (.it .i64 k)), H) := by
  subst hl
  have e1 := rem12 x; rw [hr] at e1
  have e2 := add12 r; rw [hs] at e2
  have e3 := rem12 s; rw [hk] at e3
  have a12 : (T.put 12 (some (.it .i64 x))).at 12 = some (.it .i64 x) := by rw [Tr.at_put, if_pos rfl]
  have a13 : ((T.put 12 (some (.it .i64 x))).put 13 (some (.it .i64 r))).at 13 = some (.it .i64 r) := by rw [Tr.at_put, if_pos rfl]
  have a14 : (((T.put 12 (some (.it .i64 x))).put 13 (some (.it .i64 r))).put 14 (some (.it .i64 s))).at 14 = some (.it .i64 s) := by rw [Tr.at_put, if_pos rfl]
  have a15 : ((((T.put 12 (some (.it .i64 x))).put 13 (some (.it .i64 r))).put 14 (some (.it .i64 s))).put 15 (some (.it .i64 k))).at 15 = some (.it .i64 k) := by rw [Tr.at_put, if_pos rfl]
  have p : ∀ (d : Nat) (v : PV) (T : Tr PV) (k : Tr PV → Option (Tr PV × Hp)), Nat.ble (d + 1) 40 = true → evPut 40 (some d) v T k = k (T.put d (some v)) := by
    intro d v T k hd
    simp only [evPut, hd, nK_eq, Tr.setK_eq]
    rfl
  simp only [evOps, evWant, evOp, q5 _ _ _ _ a12 e1, q5 _ _ _ _ a13 e2, q5 _ _ _ _ a14 e3, qm, qa, h0, a15, p 12 _ _ _ rfl, p 13 _ _ _ rfl, p 14 _ _ _ rfl, p 15 _ _ _ rfl, p 5 _ _ _ rfl, kH]
theorem d2 : DrawOk Tryz.prog (evDraw Tryz.prog (α := Tr PV × Hp)) := evDraw_ok (by kernel_rfl)
theorem goes5 (x : Int) {T : Tr PV} {H : Hp} (h0 : T.at 0 = some (.it .i64 x)) {r s k : Int} (hr : x.tmod 12 = r) (hs : IntKind.i64.wrap (r + 12) = s) (hk : s.tmod 12 = k) :
    Goes Tryz.prog (fun Q a w => t5.wp Tryz.prog Q a w) 40 T [] H .normal (((((T.put 12 (some (.it .i64 x))).put 13 (some (.it .i64 r))).put 14 (some (.it .i64 s))).put 15 (some (.it .i64 k))).put 5 (some (.it .i64 k))) [] H := by
  rw [t5_is]
  obtain ⟨e, T', D', H', h1, h2⟩ := region_ok (evCall_ok d2 0) (id := 5) (run5 (call := evCall Tryz.prog (evDraw Tryz.prog) 0) (ops := ops5) (H := H) x h0 (l := ops5.toList) rfl hr hs hk)
  cases e with
  | normal =>
    cases D' with
    | nil =>
      simp only [kH, Option.some.injEq, Prod.mk.injEq] at h1
      obtain ⟨rfl, rfl⟩ := h1
      exact h2
    | cons d D' => simp [kH] at h1
  | _ => simp [kH] at h1
end Go.Proofs.YtjhmmfoomcoadaaGreat.Ev
