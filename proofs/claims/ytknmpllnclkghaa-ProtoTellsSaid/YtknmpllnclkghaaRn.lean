/-
  The document's helper by its name: a contract over the program's own text.
-/
import Derived.Test.YtknmpllnclkghaaRfA
import Derived.LoopTactic
import Derived.Outline
namespace Go.Proofs.Ytknmpllnclkghaa
open Go.ChangeShapes Go.WideShapes Go.ChangeAt Go.RowKit
set_option linter.unusedVariables false
set_option linter.unusedSimpArgs false
def nm : Nat → ByteArray
  | 0 => ⟨#[109, 97, 112, 95, 108, 111, 111, 107, 117, 112]⟩
  | 1 => ⟨#[109, 97, 112, 95, 117, 112, 100, 97, 116, 101]⟩
  | 2 => ⟨#[109, 97, 112, 95, 100, 101, 108, 101, 116, 101]⟩
  | 3 => ⟨#[99, 108, 111, 99, 107]⟩
  | 4 => ⟨#[114, 97, 110, 100, 111, 109]⟩
  | 5 => ⟨#[116, 97, 105, 108, 95, 99, 97, 108, 108]⟩
  | 6 => ⟨#[108, 111, 111, 112]⟩
  | 7 => ⟨#[114, 105, 110, 103, 95, 111, 117, 116, 112, 117, 116]⟩
  | 8 => ⟨#[114, 105, 110, 103, 95, 114, 101, 115, 101, 114, 118, 101]⟩
  | 9 => ⟨#[114, 105, 110, 103, 95, 115, 117, 98, 109, 105, 116]⟩
  | 10 => ⟨#[114, 105, 110, 103, 95, 100, 105, 115, 99, 97, 114, 100]⟩
  | 11 => ⟨#[114, 105, 110, 103, 95, 113, 117, 101, 114, 121]⟩
  | 12 => ⟨#[115, 111, 99, 107, 95, 108, 111, 111, 107, 117, 112]⟩
  | 13 => ⟨#[115, 111, 99, 107, 95, 114, 101, 108, 101, 97, 115, 101]⟩
  | 14 => ⟨#[116, 105, 109, 101, 114, 95, 105, 110, 105, 116]⟩
  | 15 => ⟨#[116, 105, 109, 101, 114, 95, 99, 97, 108, 108, 98, 97, 99, 107]⟩
  | 16 => ⟨#[116, 105, 109, 101, 114, 95, 115, 116, 97, 114, 116]⟩
  | 17 => ⟨#[116, 105, 109, 101, 114, 95, 99, 97, 110, 99, 101, 108]⟩
  | 18 => ⟨#[100, 121, 110, 95, 114, 101, 115, 101, 114, 118, 101]⟩
  | 19 => ⟨#[100, 121, 110, 95, 115, 117, 98, 109, 105, 116]⟩
  | 20 => ⟨#[100, 121, 110, 95, 100, 105, 115, 99, 97, 114, 100]⟩
  | 21 => ⟨#[100, 121, 110, 95, 109, 101, 109]⟩
  | 22 => ⟨#[100, 121, 110, 95, 114, 101, 97, 100]⟩
  | 23 => ⟨#[100, 121, 110, 95, 119, 114, 105, 116, 101]⟩
  | 24 => ⟨#[100, 121, 110, 95, 100, 97, 116, 97]⟩
  | 25 => ⟨#[105, 116, 101, 114, 95, 110, 101, 119]⟩
  | 26 => ⟨#[105, 116, 101, 114, 95, 110, 101, 120, 116]⟩
  | 27 => ⟨#[105, 116, 101, 114, 95, 100, 114, 111, 112]⟩
  | _ => ⟨#[]⟩
/-- The first one of that name, from number m on. -/
def fnd (s : ByteArray) : Nat → Nat → Option Nat
  | 0, _ => none
  | f + 1, m => if nm m = s then some m else fnd s f (m + 1)
def found (s : ByteArray) : Option Nat := fnd s 28 0
def FindR (s : ByteArray) : Value := match found s with | some m => .tuple #[.int .i64 ((m : Int) + 1), .int .i64 0] | none => .tuple #[.int .i64 0, .int .i64 130]
theorem fnd_ne (s : ByteArray) : ∀ (m f : Nat), m + f = 28 → (∀ j, j < m → nm j ≠ s) → found s = fnd s f m := by
  intro m
  induction m with
  | zero => intro f hf _; obtain rfl : f = 28 := (by omega); rfl
  | succ m ih =>
    intro f hf h
    have := ih (f + 1) (by omega) (fun j hj => h j (by omega))
    rw [this]
    show (if nm m = s then some m else fnd s f (m + 1)) = _
    rw [if_neg (h m (by omega))]
theorem found_at {s : ByteArray} {m : Nat} (hm : m < 28) (h : ∀ j, j < m → nm j ≠ s) (he : nm m = s) : FindR s = .tuple #[.int .i64 ((m : Int) + 1), .int .i64 0] := by
  unfold FindR
  rw [fnd_ne s m (27 - m + 1) (by omega) h]
  show (match (if nm m = s then some m else _) with | some m => _ | none => _) = _
  rw [if_pos he]
theorem found_not {s : ByteArray} (h : ∀ j, j < 28 → nm j ≠ s) : FindR s = .tuple #[.int .i64 0, .int .i64 130] := by
  unfold FindR
  rw [fnd_ne s 28 0 rfl h]
  rfl
theorem row_name (m : Nat) (h : m < 28) : ∃ r1 r2 r3 r4 r5 r6 r7 r8 r9, rowC (m + 1) = [.string (nm m), r1, r2, r3, r4, r5, r6, r7, r8, r9] := by
  match m, h with
  | 0, _ => exact ⟨_, _, _, _, _, _, _, _, _, rfl⟩
  | 1, _ => exact ⟨_, _, _, _, _, _, _, _, _, rfl⟩
  | 2, _ => exact ⟨_, _, _, _, _, _, _, _, _, rfl⟩
  | 3, _ => exact ⟨_, _, _, _, _, _, _, _, _, rfl⟩
  | 4, _ => exact ⟨_, _, _, _, _, _, _, _, _, rfl⟩
  | 5, _ => exact ⟨_, _, _, _, _, _, _, _, _, rfl⟩
  | 6, _ => exact ⟨_, _, _, _, _, _, _, _, _, rfl⟩
  | 7, _ => exact ⟨_, _, _, _, _, _, _, _, _, rfl⟩
  | 8, _ => exact ⟨_, _, _, _, _, _, _, _, _, rfl⟩
  | 9, _ => exact ⟨_, _, _, _, _, _, _, _, _, rfl⟩
  | 10, _ => exact ⟨_, _, _, _, _, _, _, _, _, rfl⟩
  | 11, _ => exact ⟨_, _, _, _, _, _, _, _, _, rfl⟩
  | 12, _ => exact ⟨_, _, _, _, _, _, _, _, _, rfl⟩
  | 13, _ => exact ⟨_, _, _, _, _, _, _, _, _, rfl⟩
  | 14, _ => exact ⟨_, _, _, _, _, _, _, _, _, rfl⟩
  | 15, _ => exact ⟨_, _, _, _, _, _, _, _, _, rfl⟩
  | 16, _ => exact ⟨_, _, _, _, _, _, _, _, _, rfl⟩
  | 17, _ => exact ⟨_, _, _, _, _, _, _, _, _, rfl⟩
  | 18, _ => exact ⟨_, _, _, _, _, _, _, _, _, rfl⟩
  | 19, _ => exact ⟨_, _, _, _, _, _, _, _, _, rfl⟩
  | 20, _ => exact ⟨_, _, _, _, _, _, _, _, _, rfl⟩
  | 21, _ => exact ⟨_, _, _, _, _, _, _, _, _, rfl⟩
  | 22, _ => exact ⟨_, _, _, _, _, _, _, _, _, rfl⟩
  | 23, _ => exact ⟨_, _, _, _, _, _, _, _, _, rfl⟩
  | 24, _ => exact ⟨_, _, _, _, _, _, _, _, _, rfl⟩
  | 25, _ => exact ⟨_, _, _, _, _, _, _, _, _, rfl⟩
  | 26, _ => exact ⟨_, _, _, _, _, _, _, _, _, rfl⟩
  | 27, _ => exact ⟨_, _, _, _, _, _, _, _, _, rfl⟩
  | m + 28, h => omega
theorem str_eq {a b : ByteArray} : (a.toList == b.toList) = decide (a = b) := by
  rw [ByteArray.toList_eq, ByteArray.toList_eq, Bool.eq_iff_iff, beq_iff_eq, decide_eq_true_eq]
  constructor
  · intro h
    cases a; cases b
    simp only [ByteArray.mk.injEq]
    exact Array.toList_inj.1 h
  · intro h; rw [h]
theorem info25z : (Try.prog.info? 25).map (fun i => i.size) = some 10 := info25
def LF (W : World) (s : ByteArray) (i : Value) (wr : World) : Prop := ∃ m : Nat, m ≤ 28 ∧ i = .int .i64 ((m : Int) + 1) ∧ (∀ j, j < m → nm j ≠ s) ∧ Below W.heap.size W wr
set_option maxHeartbeats 4000000 in
set_option maxRecDepth 100000 in
theorem rfind_any (s : ByteArray) (w : World) : Calls Try.prog 9 #[.string s] w fun e w' => e = .returned (FindR s) ∧ Below w.heap.size w w' := by
  go_enter Try.func9, Try.ntmps9
  go_wp2
  go_loopw [4] (fun i wr => LF w s i wr) (fun i _ => (29 - intOf i).toNat)
  case atStart => exact ⟨0, by omega, rfl, fun j hj => absurd hj (by omega), Below.refl _ _⟩
  case round =>
    obtain ⟨m, hm, rfl, hne, hbl⟩ := hrel
    have HN := Lib.hid hne
    have HB := Lib.hid hbl
    clear hne hbl
    by_cases hlt : m < 28
    · have t0 : decide ((m : Int) + 1 ≤ 28) = true := by simp; omega
      have C := Lib.hid (rof_yes m hlt)
      obtain ⟨r1, r2, r3, r4, r5, r6, r7, r8, r9, hr⟩ := row_name m hlt
      have hO := row_one (m + 1) (by omega)
      rw [hr] at hO C
      have HO := Lib.hid hO
      clear hr hO
      have ST := Lib.hid HO
      by_cases he : nm m = s
      · have HE := Lib.hid (And.intro he (found_at hlt HN.out he))
        have t1 : ((nm m).toList == s.toList) = true := by rw [str_eq]; simpa using he
        clear he
        generalize nm m = N at *
        go_upto_region 5 with (first
          | ((with_reducible refine (C.out _).mono ?_); rintro e w1 ⟨rfl, g1⟩; have G1 := Lib.hid g1; clear g1)
          | ((with_reducible refine wpList_store_row (o := ⟨none, .store 25 (.tmp 5) (.tmp 14), _, _, _, _⟩) rfl 25 (.tmp 5) (.tmp 14) rfl w1.heap.size #[.string N, r1, r2, r3, r4, r5, r6, r7, r8, r9] ?ph1 ?ph2 25 #[.string ⟨#[]⟩, .int .i64 0, .int .i64 0, .int .i64 0, .int .i64 0, .int .i64 0, .int .i64 0, .int .i64 0, .bool false, .bool false] (heap_alloc_new _ _) ?ph4 ?ph5 HO.out ?ph7); (case ph1 => rfl); (case ph2 => rfl); (case ph4 => exact info25); (case ph5 => rfl); (rw [World.setRow_alloc_new])))
        go_wp2
        go_ret2
        exact ⟨by rw [HE.out.2]; rfl, HB.out.trans ((G1.out.mono HB.out.size).trans ((Below.refl _ _).alloc (Nat.le_trans HB.out.size G1.out.size) _))⟩
      · have HE := Lib.hid he
        have t1 : ((nm m).toList == s.toList) = false := by rw [str_eq]; simpa using he
        have q1 : IntKind.i64.wrap ((m : Int) + 1 + 1) = (m : Int) + 1 + 1 := IntWalk.i64_in _ (by omega)
        clear he
        generalize hN : nm m = N at *
        have EN := Lib.hid hN
        clear hN
        go_upto_region 5 with (first
          | ((with_reducible refine (C.out _).mono ?_); rintro e w1 ⟨rfl, g1⟩; have G1 := Lib.hid g1; clear g1)
          | ((with_reducible refine wpList_store_row (o := ⟨none, .store 25 (.tmp 5) (.tmp 14), _, _, _, _⟩) rfl 25 (.tmp 5) (.tmp 14) rfl w1.heap.size #[.string N, r1, r2, r3, r4, r5, r6, r7, r8, r9] ?qh1 ?qh2 25 #[.string ⟨#[]⟩, .int .i64 0, .int .i64 0, .int .i64 0, .int .i64 0, .int .i64 0, .int .i64 0, .int .i64 0, .bool false, .bool false] (heap_alloc_new _ _) ?qh4 ?qh5 HO.out ?qh7); (case qh1 => rfl); (case qh2 => rfl); (case qh4 => exact info25); (case qh5 => rfl); (rw [World.setRow_alloc_new])))
        go_wp2
        go_roundw
        case rel => exact ⟨m + 1, by omega, by go_num, fun j hj => (by
          rcases Nat.lt_or_ge j m with h | h
          · exact HN.out j h
          · obtain rfl : j = m := (by omega)
            rw [EN.out]; exact HE.out), HB.out.trans ((G1.out.mono HB.out.size).trans ((Below.refl _ _).alloc (Nat.le_trans HB.out.size G1.out.size) _))⟩
        case measure => simp [intOf]; omega
    · obtain rfl : m = 28 := by omega
      go_wp2
      go_ret2
      exact ⟨by rw [found_not HN.out]; rfl, HB.out⟩
end Go.Proofs.Ytknmpllnclkghaa
