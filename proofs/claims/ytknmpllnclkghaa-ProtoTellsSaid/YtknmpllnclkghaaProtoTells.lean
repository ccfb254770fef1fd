/-
  Every helper, by number, by name, in the list of all, is the document's.
-/
import Derived.Test.YtknmpllnclkghaaBs
import Derived.Test.YtknmpllnclkghaaRfA
import Derived.Test.YtknmpllnclkghaaRfB
import Derived.Test.YtknmpllnclkghaaRfC
import Derived.Test.YtknmpllnclkghaaFd
import Derived.Test.YtknmpllnclkghaaAl
import Derived.Test.YtknmpllnclkghaaFr
import Derived.Deep.DeepCutAuto
import Derived.ProofKit
import Derived.ChangeMaps5
namespace Go.Proofs.Ytknmpllnclkghaa.protoTells
open Go.ChangeShapes Go.WideShapes Go.ChangeAt Go.RowKit Go.Joins Go.ChangeMaps
set_option linter.unusedVariables false
set_option linter.unusedSimpArgs false
theorem find_form (s : ByteArray) : ∃ a b : Int, FindR s = .tuple #[.int .i64 a, .int .i64 b] := by
  unfold FindR
  cases found s
  · exact ⟨_, _, rfl⟩
  · exact ⟨_, _, rfl⟩
set_option maxRecDepth 100000 in
theorem neq_0 : ∀ w, (binOp .neq 25 (.agg #[.string ⟨#[]⟩, .int .i64 0, .int .i64 0, .int .i64 0, .int .i64 0, .int .i64 0, .int .i64 0, .int .i64 0, .bool false, .bool false]) (.agg #[.string ⟨#[]⟩, .int .i64 0, .int .i64 0, .int .i64 0, .int .i64 0, .int .i64 0, .int .i64 0, .int .i64 0, .bool false, .bool false])).run Try.prog w = .ok (.bool false) w := fun _ => by kernel_rfl
set_option maxRecDepth 100000 in
theorem neq_1 : ∀ w, (binOp .neq 25 (.agg #[.string ⟨#[109, 97, 112, 95, 108, 111, 111, 107, 117, 112]⟩, .int .i64 2, .int .i64 3, .int .i64 0, .int .i64 0, .int .i64 0, .int .i64 1, .int .i64 6, .bool false, .bool false]) (.agg #[.string ⟨#[109, 97, 112, 95, 108, 111, 111, 107, 117, 112]⟩, .int .i64 2, .int .i64 3, .int .i64 0, .int .i64 0, .int .i64 0, .int .i64 1, .int .i64 6, .bool false, .bool false])).run Try.prog w = .ok (.bool false) w := fun _ => by kernel_rfl
set_option maxRecDepth 100000 in
theorem neq_2 : ∀ w, (binOp .neq 25 (.agg #[.string ⟨#[109, 97, 112, 95, 117, 112, 100, 97, 116, 101]⟩, .int .i64 2, .int .i64 3, .int .i64 4, .int .i64 1, .int .i64 0, .int .i64 0, .int .i64 6, .bool false, .bool false]) (.agg #[.string ⟨#[109, 97, 112, 95, 117, 112, 100, 97, 116, 101]⟩, .int .i64 2, .int .i64 3, .int .i64 4, .int .i64 1, .int .i64 0, .int .i64 0, .int .i64 6, .bool false, .bool false])).run Try.prog w = .ok (.bool false) w := fun _ => by kernel_rfl
set_option maxRecDepth 100000 in
theorem neq_3 : ∀ w, (binOp .neq 25 (.agg #[.string ⟨#[109, 97, 112, 95, 100, 101, 108, 101, 116, 101]⟩, .int .i64 2, .int .i64 3, .int .i64 0, .int .i64 0, .int .i64 0, .int .i64 0, .int .i64 6, .bool false, .bool false]) (.agg #[.string ⟨#[109, 97, 112, 95, 100, 101, 108, 101, 116, 101]⟩, .int .i64 2, .int .i64 3, .int .i64 0, .int .i64 0, .int .i64 0, .int .i64 0, .int .i64 6, .bool false, .bool false])).run Try.prog w = .ok (.bool false) w := fun _ => by kernel_rfl
set_option maxRecDepth 100000 in
theorem neq_4 : ∀ w, (binOp .neq 25 (.agg #[.string ⟨#[99, 108, 111, 99, 107]⟩, .int .i64 0, .int .i64 0, .int .i64 0, .int .i64 0, .int .i64 0, .int .i64 0, .int .i64 0, .bool false, .bool false]) (.agg #[.string ⟨#[99, 108, 111, 99, 107]⟩, .int .i64 0, .int .i64 0, .int .i64 0, .int .i64 0, .int .i64 0, .int .i64 0, .int .i64 0, .bool false, .bool false])).run Try.prog w = .ok (.bool false) w := fun _ => by kernel_rfl
set_option maxRecDepth 100000 in
theorem neq_5 : ∀ w, (binOp .neq 25 (.agg #[.string ⟨#[114, 97, 110, 100, 111, 109]⟩, .int .i64 0, .int .i64 0, .int .i64 0, .int .i64 0, .int .i64 0, .int .i64 0, .int .i64 0, .bool false, .bool false]) (.agg #[.string ⟨#[114, 97, 110, 100, 111, 109]⟩, .int .i64 0, .int .i64 0, .int .i64 0, .int .i64 0, .int .i64 0, .int .i64 0, .int .i64 0, .bool false, .bool false])).run Try.prog w = .ok (.bool false) w := fun _ => by kernel_rfl
set_option maxRecDepth 100000 in
theorem neq_6 : ∀ w, (binOp .neq 25 (.agg #[.string ⟨#[116, 97, 105, 108, 95, 99, 97, 108, 108]⟩, .int .i64 8, .int .i64 2, .int .i64 1, .int .i64 0, .int .i64 0, .int .i64 0, .int .i64 8, .bool false, .bool false]) (.agg #[.string ⟨#[116, 97, 105, 108, 95, 99, 97, 108, 108]⟩, .int .i64 8, .int .i64 2, .int .i64 1, .int .i64 0, .int .i64 0, .int .i64 0, .int .i64 8, .bool false, .bool false])).run Try.prog w = .ok (.bool false) w := fun _ => by kernel_rfl
set_option maxRecDepth 100000 in
theorem neq_7 : ∀ w, (binOp .neq 25 (.agg #[.string ⟨#[108, 111, 111, 112]⟩, .int .i64 1, .int .i64 9, .int .i64 17, .int .i64 0, .int .i64 0, .int .i64 0, .int .i64 0, .bool false, .bool false]) (.agg #[.string ⟨#[108, 111, 111, 112]⟩, .int .i64 1, .int .i64 9, .int .i64 17, .int .i64 0, .int .i64 0, .int .i64 0, .int .i64 0, .bool false, .bool false])).run Try.prog w = .ok (.bool false) w := fun _ => by kernel_rfl
set_option maxRecDepth 100000 in
theorem neq_8 : ∀ w, (binOp .neq 25 (.agg #[.string ⟨#[114, 105, 110, 103, 95, 111, 117, 116, 112, 117, 116]⟩, .int .i64 2, .int .i64 5, .int .i64 7, .int .i64 0, .int .i64 0, .int .i64 0, .int .i64 16, .bool false, .bool false]) (.agg #[.string ⟨#[114, 105, 110, 103, 95, 111, 117, 116, 112, 117, 116]⟩, .int .i64 2, .int .i64 5, .int .i64 7, .int .i64 0, .int .i64 0, .int .i64 0, .int .i64 16, .bool false, .bool false])).run Try.prog w = .ok (.bool false) w := fun _ => by kernel_rfl
set_option maxRecDepth 100000 in
theorem neq_9 : ∀ w, (binOp .neq 25 (.agg #[.string ⟨#[114, 105, 110, 103, 95, 114, 101, 115, 101, 114, 118, 101]⟩, .int .i64 2, .int .i64 1, .int .i64 0, .int .i64 0, .int .i64 0, .int .i64 2, .int .i64 16, .bool true, .bool false]) (.agg #[.string ⟨#[114, 105, 110, 103, 95, 114, 101, 115, 101, 114, 118, 101]⟩, .int .i64 2, .int .i64 1, .int .i64 0, .int .i64 0, .int .i64 0, .int .i64 2, .int .i64 16, .bool true, .bool false])).run Try.prog w = .ok (.bool false) w := fun _ => by kernel_rfl
set_option maxRecDepth 100000 in
theorem neq_10 : ∀ w, (binOp .neq 25 (.agg #[.string ⟨#[114, 105, 110, 103, 95, 115, 117, 98, 109, 105, 116]⟩, .int .i64 10, .int .i64 0, .int .i64 0, .int .i64 0, .int .i64 0, .int .i64 0, .int .i64 0, .bool false, .bool true]) (.agg #[.string ⟨#[114, 105, 110, 103, 95, 115, 117, 98, 109, 105, 116]⟩, .int .i64 10, .int .i64 0, .int .i64 0, .int .i64 0, .int .i64 0, .int .i64 0, .int .i64 0, .bool false, .bool true])).run Try.prog w = .ok (.bool false) w := fun _ => by kernel_rfl
set_option maxRecDepth 100000 in
theorem neq_11 : ∀ w, (binOp .neq 25 (.agg #[.string ⟨#[114, 105, 110, 103, 95, 100, 105, 115, 99, 97, 114, 100]⟩, .int .i64 10, .int .i64 0, .int .i64 0, .int .i64 0, .int .i64 0, .int .i64 0, .int .i64 0, .bool false, .bool true]) (.agg #[.string ⟨#[114, 105, 110, 103, 95, 100, 105, 115, 99, 97, 114, 100]⟩, .int .i64 10, .int .i64 0, .int .i64 0, .int .i64 0, .int .i64 0, .int .i64 0, .int .i64 0, .bool false, .bool true])).run Try.prog w = .ok (.bool false) w := fun _ => by kernel_rfl
set_option maxRecDepth 100000 in
theorem neq_12 : ∀ w, (binOp .neq 25 (.agg #[.string ⟨#[114, 105, 110, 103, 95, 113, 117, 101, 114, 121]⟩, .int .i64 2, .int .i64 0, .int .i64 0, .int .i64 0, .int .i64 0, .int .i64 0, .int .i64 16, .bool false, .bool false]) (.agg #[.string ⟨#[114, 105, 110, 103, 95, 113, 117, 101, 114, 121]⟩, .int .i64 2, .int .i64 0, .int .i64 0, .int .i64 0, .int .i64 0, .int .i64 0, .int .i64 16, .bool false, .bool false])).run Try.prog w = .ok (.bool false) w := fun _ => by kernel_rfl
set_option maxRecDepth 100000 in
theorem neq_13 : ∀ w, (binOp .neq 25 (.agg #[.string ⟨#[115, 111, 99, 107, 95, 108, 111, 111, 107, 117, 112]⟩, .int .i64 8, .int .i64 5, .int .i64 7, .int .i64 0, .int .i64 0, .int .i64 3, .int .i64 0, .bool true, .bool false]) (.agg #[.string ⟨#[115, 111, 99, 107, 95, 108, 111, 111, 107, 117, 112]⟩, .int .i64 8, .int .i64 5, .int .i64 7, .int .i64 0, .int .i64 0, .int .i64 3, .int .i64 0, .bool true, .bool false])).run Try.prog w = .ok (.bool false) w := fun _ => by kernel_rfl
set_option maxRecDepth 100000 in
theorem neq_14 : ∀ w, (binOp .neq 25 (.agg #[.string ⟨#[115, 111, 99, 107, 95, 114, 101, 108, 101, 97, 115, 101]⟩, .int .i64 11, .int .i64 0, .int .i64 0, .int .i64 0, .int .i64 0, .int .i64 0, .int .i64 0, .bool false, .bool true]) (.agg #[.string ⟨#[115, 111, 99, 107, 95, 114, 101, 108, 101, 97, 115, 101]⟩, .int .i64 11, .int .i64 0, .int .i64 0, .int .i64 0, .int .i64 0, .int .i64 0, .int .i64 0, .bool false, .bool true])).run Try.prog w = .ok (.bool false) w := fun _ => by kernel_rfl
set_option maxRecDepth 100000 in
theorem neq_15 : ∀ w, (binOp .neq 25 (.agg #[.string ⟨#[116, 105, 109, 101, 114, 95, 105, 110, 105, 116]⟩, .int .i64 12, .int .i64 2, .int .i64 0, .int .i64 0, .int .i64 0, .int .i64 0, .int .i64 6, .bool false, .bool false]) (.agg #[.string ⟨#[116, 105, 109, 101, 114, 95, 105, 110, 105, 116]⟩, .int .i64 12, .int .i64 2, .int .i64 0, .int .i64 0, .int .i64 0, .int .i64 0, .int .i64 6, .bool false, .bool false])).run Try.prog w = .ok (.bool false) w := fun _ => by kernel_rfl
set_option maxRecDepth 100000 in
theorem neq_16 : ∀ w, (binOp .neq 25 (.agg #[.string ⟨#[116, 105, 109, 101, 114, 95, 99, 97, 108, 108, 98, 97, 99, 107]⟩, .int .i64 12, .int .i64 9, .int .i64 0, .int .i64 0, .int .i64 0, .int .i64 0, .int .i64 0, .bool false, .bool false]) (.agg #[.string ⟨#[116, 105, 109, 101, 114, 95, 99, 97, 108, 108, 98, 97, 99, 107]⟩, .int .i64 12, .int .i64 9, .int .i64 0, .int .i64 0, .int .i64 0, .int .i64 0, .int .i64 0, .bool false, .bool false])).run Try.prog w = .ok (.bool false) w := fun _ => by kernel_rfl
set_option maxRecDepth 100000 in
theorem neq_17 : ∀ w, (binOp .neq 25 (.agg #[.string ⟨#[116, 105, 109, 101, 114, 95, 115, 116, 97, 114, 116]⟩, .int .i64 12, .int .i64 1, .int .i64 0, .int .i64 0, .int .i64 0, .int .i64 0, .int .i64 0, .bool false, .bool false]) (.agg #[.string ⟨#[116, 105, 109, 101, 114, 95, 115, 116, 97, 114, 116]⟩, .int .i64 12, .int .i64 1, .int .i64 0, .int .i64 0, .int .i64 0, .int .i64 0, .int .i64 0, .bool false, .bool false])).run Try.prog w = .ok (.bool false) w := fun _ => by kernel_rfl
set_option maxRecDepth 100000 in
theorem neq_18 : ∀ w, (binOp .neq 25 (.agg #[.string ⟨#[116, 105, 109, 101, 114, 95, 99, 97, 110, 99, 101, 108]⟩, .int .i64 12, .int .i64 0, .int .i64 0, .int .i64 0, .int .i64 0, .int .i64 0, .int .i64 0, .bool false, .bool false]) (.agg #[.string ⟨#[116, 105, 109, 101, 114, 95, 99, 97, 110, 99, 101, 108]⟩, .int .i64 12, .int .i64 0, .int .i64 0, .int .i64 0, .int .i64 0, .int .i64 0, .int .i64 0, .bool false, .bool false])).run Try.prog w = .ok (.bool false) w := fun _ => by kernel_rfl
set_option maxRecDepth 100000 in
theorem neq_19 : ∀ w, (binOp .neq 25 (.agg #[.string ⟨#[100, 121, 110, 95, 114, 101, 115, 101, 114, 118, 101]⟩, .int .i64 2, .int .i64 1, .int .i64 13, .int .i64 0, .int .i64 0, .int .i64 0, .int .i64 16, .bool true, .bool false]) (.agg #[.string ⟨#[100, 121, 110, 95, 114, 101, 115, 101, 114, 118, 101]⟩, .int .i64 2, .int .i64 1, .int .i64 13, .int .i64 0, .int .i64 0, .int .i64 0, .int .i64 16, .bool true, .bool false])).run Try.prog w = .ok (.bool false) w := fun _ => by kernel_rfl
set_option maxRecDepth 100000 in
theorem neq_20 : ∀ w, (binOp .neq 25 (.agg #[.string ⟨#[100, 121, 110, 95, 115, 117, 98, 109, 105, 116]⟩, .int .i64 14, .int .i64 0, .int .i64 0, .int .i64 0, .int .i64 0, .int .i64 0, .int .i64 0, .bool false, .bool true]) (.agg #[.string ⟨#[100, 121, 110, 95, 115, 117, 98, 109, 105, 116]⟩, .int .i64 14, .int .i64 0, .int .i64 0, .int .i64 0, .int .i64 0, .int .i64 0, .int .i64 0, .bool false, .bool true])).run Try.prog w = .ok (.bool false) w := fun _ => by kernel_rfl
set_option maxRecDepth 100000 in
theorem neq_21 : ∀ w, (binOp .neq 25 (.agg #[.string ⟨#[100, 121, 110, 95, 100, 105, 115, 99, 97, 114, 100]⟩, .int .i64 14, .int .i64 0, .int .i64 0, .int .i64 0, .int .i64 0, .int .i64 0, .int .i64 0, .bool false, .bool true]) (.agg #[.string ⟨#[100, 121, 110, 95, 100, 105, 115, 99, 97, 114, 100]⟩, .int .i64 14, .int .i64 0, .int .i64 0, .int .i64 0, .int .i64 0, .int .i64 0, .int .i64 0, .bool false, .bool true])).run Try.prog w = .ok (.bool false) w := fun _ => by kernel_rfl
set_option maxRecDepth 100000 in
theorem neq_22 : ∀ w, (binOp .neq 25 (.agg #[.string ⟨#[100, 121, 110, 95, 109, 101, 109]⟩, .int .i64 5, .int .i64 7, .int .i64 13, .int .i64 0, .int .i64 0, .int .i64 0, .int .i64 0, .bool false, .bool false]) (.agg #[.string ⟨#[100, 121, 110, 95, 109, 101, 109]⟩, .int .i64 5, .int .i64 7, .int .i64 13, .int .i64 0, .int .i64 0, .int .i64 0, .int .i64 0, .bool false, .bool false])).run Try.prog w = .ok (.bool false) w := fun _ => by kernel_rfl
set_option maxRecDepth 100000 in
theorem neq_23 : ∀ w, (binOp .neq 25 (.agg #[.string ⟨#[100, 121, 110, 95, 114, 101, 97, 100]⟩, .int .i64 6, .int .i64 7, .int .i64 14, .int .i64 1, .int .i64 0, .int .i64 0, .int .i64 0, .bool false, .bool false]) (.agg #[.string ⟨#[100, 121, 110, 95, 114, 101, 97, 100]⟩, .int .i64 6, .int .i64 7, .int .i64 14, .int .i64 1, .int .i64 0, .int .i64 0, .int .i64 0, .bool false, .bool false])).run Try.prog w = .ok (.bool false) w := fun _ => by kernel_rfl
set_option maxRecDepth 100000 in
theorem neq_24 : ∀ w, (binOp .neq 25 (.agg #[.string ⟨#[100, 121, 110, 95, 119, 114, 105, 116, 101]⟩, .int .i64 14, .int .i64 1, .int .i64 5, .int .i64 7, .int .i64 0, .int .i64 0, .int .i64 0, .bool false, .bool false]) (.agg #[.string ⟨#[100, 121, 110, 95, 119, 114, 105, 116, 101]⟩, .int .i64 14, .int .i64 1, .int .i64 5, .int .i64 7, .int .i64 0, .int .i64 0, .int .i64 0, .bool false, .bool false])).run Try.prog w = .ok (.bool false) w := fun _ => by kernel_rfl
set_option maxRecDepth 100000 in
theorem neq_25 : ∀ w, (binOp .neq 25 (.agg #[.string ⟨#[100, 121, 110, 95, 100, 97, 116, 97]⟩, .int .i64 14, .int .i64 1, .int .i64 1, .int .i64 0, .int .i64 0, .int .i64 4, .int .i64 0, .bool false, .bool false]) (.agg #[.string ⟨#[100, 121, 110, 95, 100, 97, 116, 97]⟩, .int .i64 14, .int .i64 1, .int .i64 1, .int .i64 0, .int .i64 0, .int .i64 4, .int .i64 0, .bool false, .bool false])).run Try.prog w = .ok (.bool false) w := fun _ => by kernel_rfl
set_option maxRecDepth 100000 in
theorem neq_26 : ∀ w, (binOp .neq 25 (.agg #[.string ⟨#[105, 116, 101, 114, 95, 110, 101, 119]⟩, .int .i64 15, .int .i64 1, .int .i64 1, .int .i64 0, .int .i64 0, .int .i64 0, .int .i64 0, .bool true, .bool false]) (.agg #[.string ⟨#[105, 116, 101, 114, 95, 110, 101, 119]⟩, .int .i64 15, .int .i64 1, .int .i64 1, .int .i64 0, .int .i64 0, .int .i64 0, .int .i64 0, .bool true, .bool false])).run Try.prog w = .ok (.bool false) w := fun _ => by kernel_rfl
set_option maxRecDepth 100000 in
theorem neq_27 : ∀ w, (binOp .neq 25 (.agg #[.string ⟨#[105, 116, 101, 114, 95, 110, 101, 120, 116]⟩, .int .i64 16, .int .i64 0, .int .i64 0, .int .i64 0, .int .i64 0, .int .i64 5, .int .i64 0, .bool false, .bool false]) (.agg #[.string ⟨#[105, 116, 101, 114, 95, 110, 101, 120, 116]⟩, .int .i64 16, .int .i64 0, .int .i64 0, .int .i64 0, .int .i64 0, .int .i64 5, .int .i64 0, .bool false, .bool false])).run Try.prog w = .ok (.bool false) w := fun _ => by kernel_rfl
set_option maxRecDepth 100000 in
theorem neq_28 : ∀ w, (binOp .neq 25 (.agg #[.string ⟨#[105, 116, 101, 114, 95, 100, 114, 111, 112]⟩, .int .i64 16, .int .i64 0, .int .i64 0, .int .i64 0, .int .i64 0, .int .i64 0, .int .i64 0, .bool false, .bool true]) (.agg #[.string ⟨#[105, 116, 101, 114, 95, 100, 114, 111, 112]⟩, .int .i64 16, .int .i64 0, .int .i64 0, .int .i64 0, .int .i64 0, .int .i64 0, .int .i64 0, .bool false, .bool true])).run Try.prog w = .ok (.bool false) w := fun _ => by kernel_rfl

set_option maxRecDepth 100000 in
theorem row_neq (n : Nat) (h : n ≤ 28) : ∀ w, (binOp .neq 25 (.agg (rowC n).toArray) (.agg (rowC n).toArray)).run Try.prog w = .ok (.bool false) w := by
  match n, h with
  | 0, _ => exact neq_0
  | 1, _ => exact neq_1
  | 2, _ => exact neq_2
  | 3, _ => exact neq_3
  | 4, _ => exact neq_4
  | 5, _ => exact neq_5
  | 6, _ => exact neq_6
  | 7, _ => exact neq_7
  | 8, _ => exact neq_8
  | 9, _ => exact neq_9
  | 10, _ => exact neq_10
  | 11, _ => exact neq_11
  | 12, _ => exact neq_12
  | 13, _ => exact neq_13
  | 14, _ => exact neq_14
  | 15, _ => exact neq_15
  | 16, _ => exact neq_16
  | 17, _ => exact neq_17
  | 18, _ => exact neq_18
  | 19, _ => exact neq_19
  | 20, _ => exact neq_20
  | 21, _ => exact neq_21
  | 22, _ => exact neq_22
  | 23, _ => exact neq_23
  | 24, _ => exact neq_24
  | 25, _ => exact neq_25
  | 26, _ => exact neq_26
  | 27, _ => exact neq_27
  | 28, _ => exact neq_28
  | n + 29, h => omega
def R19 (W : World) (g b k : Nat) (N : ByteArray) (r1 r2 r3 r4 r5 r6 r7 r8 r9 : Value) (w : World) : Prop :=
  (g < w.heap.size ∧ b < w.heap.size ∧ Below W.heap.size W w) ∧ w.cell? ⟨g, k * 10, none⟩ = some (.string N) ∧ w.cell? ⟨g, k * 10 + 1, none⟩ = some r1 ∧ w.cell? ⟨g, k * 10 + 2, none⟩ = some r2 ∧ w.cell? ⟨g, k * 10 + 3, none⟩ = some r3 ∧ w.cell? ⟨g, k * 10 + 4, none⟩ = some r4 ∧ w.cell? ⟨g, k * 10 + 5, none⟩ = some r5 ∧ w.cell? ⟨g, k * 10 + 6, none⟩ = some r6 ∧ w.cell? ⟨g, k * 10 + 7, none⟩ = some r7 ∧ w.cell? ⟨g, k * 10 + 8, none⟩ = some r8 ∧ w.cell? ⟨g, k * 10 + 9, none⟩ = some r9 ∧ w.cell? ⟨b, 0, none⟩ = some (.string N) ∧ w.cell? ⟨b, 1, none⟩ = some r1 ∧ w.cell? ⟨b, 2, none⟩ = some r2 ∧ w.cell? ⟨b, 3, none⟩ = some r3 ∧ w.cell? ⟨b, 4, none⟩ = some r4 ∧ w.cell? ⟨b, 5, none⟩ = some r5 ∧ w.cell? ⟨b, 6, none⟩ = some r6 ∧ w.cell? ⟨b, 7, none⟩ = some r7 ∧ w.cell? ⟨b, 8, none⟩ = some r8 ∧ w.cell? ⟨b, 9, none⟩ = some r9
theorem R19.next {W : World} {g b k : Nat} {N : ByteArray} {r1 r2 r3 r4 r5 r6 r7 r8 r9 : Value} {w w1 : World} (h : R19 W g b k N r1 r2 r3 r4 r5 r6 r7 r8 r9 w) (bl : Below w.heap.size w w1) : R19 W g b k N r1 r2 r3 r4 r5 r6 r7 r8 r9 w1 := by
  obtain ⟨⟨h1, h2, h3⟩, c0, c1, c2, c3, c4, c5, c6, c7, c8, c9, c10, c11, c12, c13, c14, c15, c16, c17, c18, c19⟩ := h
  exact ⟨⟨Nat.lt_of_lt_of_le h1 bl.size, Nat.lt_of_lt_of_le h2 bl.size, bl_trans h3 bl⟩, (bl.cell (p := ⟨g, k * 10, none⟩) h1).trans c0, (bl.cell (p := ⟨g, k * 10 + 1, none⟩) h1).trans c1, (bl.cell (p := ⟨g, k * 10 + 2, none⟩) h1).trans c2, (bl.cell (p := ⟨g, k * 10 + 3, none⟩) h1).trans c3, (bl.cell (p := ⟨g, k * 10 + 4, none⟩) h1).trans c4, (bl.cell (p := ⟨g, k * 10 + 5, none⟩) h1).trans c5, (bl.cell (p := ⟨g, k * 10 + 6, none⟩) h1).trans c6, (bl.cell (p := ⟨g, k * 10 + 7, none⟩) h1).trans c7, (bl.cell (p := ⟨g, k * 10 + 8, none⟩) h1).trans c8, (bl.cell (p := ⟨g, k * 10 + 9, none⟩) h1).trans c9, (bl.cell (p := ⟨b, 0, none⟩) h2).trans c10, (bl.cell (p := ⟨b, 1, none⟩) h2).trans c11, (bl.cell (p := ⟨b, 2, none⟩) h2).trans c12, (bl.cell (p := ⟨b, 3, none⟩) h2).trans c13, (bl.cell (p := ⟨b, 4, none⟩) h2).trans c14, (bl.cell (p := ⟨b, 5, none⟩) h2).trans c15, (bl.cell (p := ⟨b, 6, none⟩) h2).trans c16, (bl.cell (p := ⟨b, 7, none⟩) h2).trans c17, (bl.cell (p := ⟨b, 8, none⟩) h2).trans c18, (bl.cell (p := ⟨b, 9, none⟩) h2).trans c19⟩
theorem lt_of_heap {w : World} {b : Nat} {o : Obj} (h : w.heap[b]? = some o) : b < w.heap.size := (Array.getElem?_eq_some_iff.1 h).1
def LT (W : World) (g b : Nat) (i : Value) (wr : World) : Prop :=
  ∃ k : Nat, k ≤ 28 ∧ i = .int .i64 (k : Int) ∧ (∃ R : Array Value, R.size = 10 ∧ wr.heap[b]? = some (.cells R 25 (0, 0))) ∧ g < wr.heap.size ∧ (∀ j, j < 280 → wr.cell? ⟨g, j, none⟩ = refC[j]?) ∧ g ≠ b ∧ W.heap.size ≤ b ∧ Below W.heap.size W wr
set_option maxHeartbeats 4000000 in
set_option maxRecDepth 100000 in
theorem walkP (n : Int) (s : ByteArray) (R : Array Value) (E a b : Int) (w : World)
    (C1 : Hid (∀ w, Calls Try.prog 6 #[.int .i64 n] w fun e w' => e = .returned (.tuple #[.agg R, .int .i64 E]) ∧ Below w.heap.size w w'))
    (C2 : Hid (∀ w, Calls Try.prog 7 #[.int .i64 n] w fun e w' => e = .returned (.tuple #[.agg R, .int .i64 E]) ∧ Below w.heap.size w w'))
    (F1 : Hid (∀ w, Calls Try.prog 8 #[.string s] w fun e w' => e = .returned (.tuple #[.int .i64 a, .int .i64 b]) ∧ Below w.heap.size w w'))
    (F2 : Hid (∀ w, Calls Try.prog 9 #[.string s] w fun e w' => e = .returned (.tuple #[.int .i64 a, .int .i64 b]) ∧ Below w.heap.size w w'))
    (HR : Hid (R.size = 10)) (HO : Hid ((R.all fun x => x.oneCell') = true)) (hE : ∀ w, (binOp .neq 25 (.agg R) (.agg R)).run Try.prog w = .ok (.bool false) w) :
    Calls Try.prog 3 #[.int .i64 n, .string s] w fun e w' => e = .returned (.bool true) ∧ Below w.heap.size w w' := by
  go_enter Try.func3, Try.ntmps3
  go_upto_region 4 with (first
    | ((with_reducible refine (known_any _).mono ?_); rintro e w1 ⟨rfl, g1⟩)
    | ((with_reducible refine (C1.out _).mono ?_); rintro e w2 ⟨rfl, g2⟩)
    | ((with_reducible refine wpList_store_row (o := ⟨none, .store 25 (.tmp 5) (.tmp 20), _, _, _, _⟩) rfl 25 (.tmp 5) (.tmp 20) rfl w2.heap.size R ?ah1 ?ah2 25 #[.string ⟨#[]⟩, .int .i64 0, .int .i64 0, .int .i64 0, .int .i64 0, .int .i64 0, .int .i64 0, .int .i64 0, .bool false, .bool false] (heap_alloc_new _ _) ?ah4 ?ah5 HO.out ?ah7); (case ah1 => rfl); (case ah2 => rfl); (case ah4 => (rw [HR.out]; exact info25)); (case ah5 => (rw [HR.out]; rfl)); (rw [World.setRow_alloc_new])))
  have B2 := Lib.hid (bl_trans g1 (bl_trans g2 ((Below.refl w2.heap.size w2).alloc (Nat.le_refl _) (.cells R 25))))
  have H5 := Lib.hid (heap_alloc_new w2 (.cells R 25))
  have N5 := Lib.hid (show w2.heap.size < (w2.alloc (.cells R 25)).heap.size by simp)
  have L5 := Lib.hid (show w.heap.size ≤ w2.heap.size from Nat.le_trans g1.size g2.size)
  generalize hb5 : w2.heap.size = b5 at *
  generalize w2.alloc (.cells R 25) = w3 at *
  clear g1 g2 hb5
  go_upto_region 5 with (first
    | ((with_reducible refine (C2.out _).mono ?_); rintro e w4 ⟨rfl, g4⟩)
    | ((with_reducible refine wpList_store_row (o := ⟨none, .store 25 (.tmp 7) (.tmp 25), _, _, _, _⟩) rfl 25 (.tmp 7) (.tmp 25) rfl w4.heap.size R ?bh1 ?bh2 25 #[.string ⟨#[]⟩, .int .i64 0, .int .i64 0, .int .i64 0, .int .i64 0, .int .i64 0, .int .i64 0, .int .i64 0, .bool false, .bool false] (heap_alloc_new _ _) ?bh4 ?bh5 HO.out ?bh7); (case bh1 => rfl); (case bh2 => rfl); (case bh4 => (rw [HR.out]; exact info25)); (case bh5 => (rw [HR.out]; rfl)); (rw [World.setRow_alloc_new])))
  have B4 := Lib.hid (bl_trans B2.out (bl_trans g4 ((Below.refl w4.heap.size w4).alloc (Nat.le_refl _) (.cells R 25))))
  have H7 := Lib.hid (heap_alloc_new w4 (.cells R 25))
  have K5 := Lib.hid ((bl_trans g4 ((Below.refl w4.heap.size w4).alloc (Nat.le_refl _) (.cells R 25))).block b5 N5.out |>.trans H5.out)
  have N7 := Lib.hid (show w4.heap.size < (w4.alloc (.cells R 25)).heap.size by simp)
  have L7 := Lib.hid (show w.heap.size ≤ w4.heap.size from Nat.le_trans B2.out.size g4.size)
  generalize hb7 : w4.heap.size = b7 at *
  generalize w4.alloc (.cells R 25) = w5 at *
  clear g4 hb7 B2 H5 N5
  go_upto_region 7 with (first
    | ((with_reducible refine wpList_load_row (o := ⟨some 27, .load 25 (.tmp 5), _, _, _, _⟩) rfl 25 (.tmp 5) rfl b5 rfl 25 R (0, 0) _ K5.out Try.underlying25 rfl ?ch1 ?ch2); (case ch1 => (rw [HR.out]; exact info25)); (simp only [Act.put, List.setIfInBounds_toArray, List.set_cons_zero, List.set_cons_succ]))
    | ((with_reducible refine wpList_load_row (o := ⟨some 28, .load 25 (.tmp 7), _, _, _, _⟩) rfl 25 (.tmp 7) rfl b7 rfl 25 R (0, 0) _ H7.out Try.underlying25 rfl ?dh1 ?dh2); (case dh1 => (rw [HR.out]; exact info25)); (simp only [Act.put, List.setIfInBounds_toArray, List.set_cons_zero, List.set_cons_succ])))
  clear hE
  go_upto_region 11 with (first
    | ((with_reducible refine (F1.out _).mono ?_); rintro e w6 ⟨rfl, g6⟩)
    | ((with_reducible refine (F2.out _).mono ?_); rintro e w7 ⟨rfl, g7⟩))
  have g8 := Lib.hid (bl_trans g6 g7)
  clear g6 g7
  go_upto_region 14 with ((with_reducible refine (all_any _).mono ?_); rintro e w9 ⟨g, cap, rfl, hg, hgl, hcells, g9⟩; have HGL := Lib.hid hgl; have HG := Lib.hid hg; have HC := Lib.hid hcells; have G9 := Lib.hid g9; clear hg hgl hcells g9)
  have HB := Lib.hid (bl_trans B4.out (bl_trans g8.out G9.out))
  have HK7 := Lib.hid (((bl_trans g8.out G9.out).block b7 N7.out).trans H7.out)
  have HNE := Lib.hid (show g ≠ b7 by have := N7.out; have := g8.out.size; have := HGL.out; omega)
  clear F1 F2 C1 C2 B4 G9 HGL g8 N7 H7 K5 L5
  go_wp2
  go_loopw [12, 13, 14] (fun i k e wr => LT w g b7 i wr) (fun i _ _ _ => (28 - intOf i).toNat)
  case atStart => exact ⟨0, by omega, rfl, ⟨R, HR.out, HK7.out⟩, HG.out, HC.out, HNE.out, L7.out, HB.out⟩
  case round =>
    obtain ⟨k, hk, rfl, ⟨R', hR', hb'⟩, hg', hc', hne', hl', hbl'⟩ := hrel
    have A1 := Lib.hid hR'
    have A2 := Lib.hid hb'
    have A3 := Lib.hid hg'
    have A4 := Lib.hid hc'
    have A5 := Lib.hid hne'
    have A6 := Lib.hid hl'
    have A7 := Lib.hid hbl'
    clear hR' hb' hg' hc' hne' hl' hbl' HB HK7 HNE HG HC HR HO
    by_cases hlt : k < 28
    · obtain ⟨r1, r2, r3, r4, r5, r6, r7, r8, r9, hr⟩ := row_name k hlt
      have C := Lib.hid (rof_yes k hlt)
      have hO := row_one (k + 1) (by omega)
      have hQ := row_neq (k + 1) (by omega)
      rw [hr] at hO C hQ
      have HO := Lib.hid hO
      have HQ := Lib.hid hQ
      have F := Lib.hid (fun w => find_any (nm k) (by have := nm_size k hlt; unfold maxLen; omega) w)
      rw [found_at hlt (fun j hj e => by have := nm_ne j (by omega) k hlt e; omega) rfl] at F
      have HR := Lib.hid hr
      clear hr hO hQ
      have q1 : IntKind.i64.wrap ((k : Int) + 1) = (k : Int) + 1 := IntWalk.i64_in _ (by omega)
      generalize nm k = N at *
      go_upto_region 18 with (first
        | ((with_reducible refine (C.out _).mono ?_); rintro e w2 ⟨rfl, g2⟩; have G2 := Lib.hid g2; clear g2)
        | ((with_reducible refine wpList_store_row (o := ⟨none, .store 25 (.tmp 7) (.tmp 67), _, _, _, _⟩) rfl 25 (.tmp 7) (.tmp 67) rfl b7 #[.string N, r1, r2, r3, r4, r5, r6, r7, r8, r9] ?eh1 ?eh2 25 R' ((G2.out.block b7 (lt_of_heap A2.out)).trans A2.out) ?eh4 ?eh5 HO.out ?eh7); (case eh1 => rfl); (case eh2 => rfl); (case eh4 => exact info25); (case eh5 => exact A1.out)))
      have D2 := Lib.hid (setRow_heap _ _ R' #[.string N, r1, r2, r3, r4, r5, r6, r7, r8, r9] _ _ ((G2.out.block b7 (lt_of_heap A2.out)).trans A2.out))
      have D3 := Lib.hid (show g < (w2.setRow b7 #[.string N, r1, r2, r3, r4, r5, r6, r7, r8, r9]).heap.size by rw [size_setRow]; exact Nat.lt_of_lt_of_le A3.out G2.out.size)
      have D4 : Hid (∀ j, j < 280 → (w2.setRow b7 #[.string N, r1, r2, r3, r4, r5, r6, r7, r8, r9]).cell? ⟨g, j, none⟩ = refC[j]?) := Lib.hid (fun j hj => (cell_setRow_other _ _ _ _ A5.out).trans ((G2.out.cell (p := ⟨g, j, none⟩) A3.out).trans (A4.out j hj)))
      have D7 := Lib.hid (below_setRow (A7.out.trans (G2.out.mono A7.out.size)) A6.out #[.string N, r1, r2, r3, r4, r5, r6, r7, r8, r9])
      generalize w2.setRow b7 #[.string N, r1, r2, r3, r4, r5, r6, r7, r8, r9] = w3 at *
      clear A1 A2 A3 A4 A7 G2
      have hN0 : w3.cell? ⟨b7, 0, none⟩ = some (.string N) := by simp only [World.cell?, D2.out]; rfl
      go_upto_region 19 with ((with_reducible refine (F.out _).mono ?_); rintro e w4 ⟨rfl, g4⟩; have G4 := Lib.hid g4; clear g4)
      clear hN0
      have r0 : R19 w4 g b7 k N r1 r2 r3 r4 r5 r6 r7 r8 r9 w4 := by
        have hb := (G4.out.block b7 (lt_of_heap D2.out)).trans D2.out
        have hcg : ∀ j, j < 10 → w4.cell? ⟨g, k * 10 + j, none⟩ = [.string N, r1, r2, r3, r4, r5, r6, r7, r8, r9][j]? := fun j hj => by
          rw [← HR.out, ← ref_at k j hlt hj]
          exact (G4.out.cell (p := ⟨g, k * 10 + j, none⟩) D3.out).trans (D4.out _ (by omega))
        have hcb : ∀ j, w4.cell? ⟨b7, j, none⟩ = (#[.string N, r1, r2, r3, r4, r5, r6, r7, r8, r9] : Array Value)[j]? := fun j => by simp only [World.cell?, hb]; rfl
        exact ⟨⟨Nat.lt_of_lt_of_le D3.out G4.out.size, lt_of_heap hb, Below.refl _ _⟩, hcg 0 (by omega), hcg 1 (by omega), hcg 2 (by omega), hcg 3 (by omega), hcg 4 (by omega), hcg 5 (by omega), hcg 6 (by omega), hcg 7 (by omega), hcg 8 (by omega), hcg 9 (by omega), hcb 0, hcb 1, hcb 2, hcb 3, hcb 4, hcb 5, hcb 6, hcb 7, hcb 8, hcb 9⟩
      have q2 : (0 : Int) ≤ (k : Int) := by omega
      have q3 : (k : Int) < 28 := by omega
      have hQ := HQ.out
      refine region_held 16 (R19 w4 g b7 k N r1 r2 r3 r4 r5 r6 r7 r8 r9) (by kernel_rfl) (by kernel_rfl) (fun w w' h b => h.next b) (r0.next (Below.drew (Below.refl _ _))) ?_
      simp only [List.take_succ_cons, List.take_zero, List.drop_succ_cons, List.drop_zero]
      iterate 16
        refine wpG_step ?_ (by rfl) ?_ ?_
        rotate_left 1
        · intro w hw
          obtain ⟨p, p0, p1, p2, p3, p4, p5, p6, p7, p8, p9, p10, p11, p12, p13, p14, p15, p16, p17, p18, p19⟩ := hw
          refine runs_value ?_
          go_simp
          with_reducible rfl
        simp only [Act.put, List.setIfInBounds_toArray, List.set_cons_zero, List.set_cons_succ]
      refine wpG_nil ?_
      intro w8 hw8
      have E1 := Lib.hid (hw8.1.2.2)
      have E2 := Lib.hid ((E1.out.block b7 (lt_of_heap ((G4.out.block b7 (lt_of_heap D2.out)).trans D2.out))).trans ((G4.out.block b7 (lt_of_heap D2.out)).trans D2.out))
      have E4 : Hid (∀ j, j < 280 → w8.cell? ⟨g, j, none⟩ = refC[j]?) := Lib.hid (fun j hj => (E1.out.cell (p := ⟨g, j, none⟩) (Nat.lt_of_lt_of_le D3.out G4.out.size)).trans ((G4.out.cell (p := ⟨g, j, none⟩) D3.out).trans (D4.out j hj)))
      have E7 := Lib.hid ((D7.out.trans (G4.out.mono D7.out.size)).trans (E1.out.mono (Nat.le_trans D7.out.size G4.out.size)))
      have E3 := Lib.hid (hw8.1.1)
      clear hw8 hQ
      go_wp2
      go_roundw
      case rel => exact ⟨k + 1, by omega, by go_num, ⟨_, rfl, E2.out⟩, E3.out, E4.out, A5.out, A6.out, E7.out⟩
      case measure => simp [intOf]; omega
    · obtain rfl : k = 28 := by omega
      go_wp2
      go_ret
      exact ⟨rfl, A7.out⟩
set_option maxRecDepth 100000 in
theorem walk (a0 : Int) (a1 : ByteArray) (hs_a1 : a1.size ≤ maxLen) (w : World) : Calls Try.prog 3 #[.int .i64 a0, .string a1] w fun e w' => e = .returned (.bool true) ∧ Below w.heap.size w w' := by
  obtain ⟨x, y, hF⟩ := find_form a1
  have F1 := Lib.hid (fun w => find_any a1 hs_a1 w)
  have F2 := Lib.hid (fun w => rfind_any a1 w)
  rw [hF] at F1 F2
  by_cases h1 : a0 < 1
  · exact walkP a0 a1 _ 130 x y w (Lib.hid (of_no a0 (Or.inl h1))) (Lib.hid (rof_lo a0 h1)) F1 F2 (Lib.hid rfl) (Lib.hid (by kernel_rfl)) (row_neq 0 (by omega))
  · by_cases h2 : 28 < a0
    · exact walkP a0 a1 _ 130 x y w (Lib.hid (of_no a0 (Or.inr h2))) (Lib.hid (rof_hi a0 h2)) F1 F2 (Lib.hid rfl) (Lib.hid (by kernel_rfl)) (row_neq 0 (by omega))
    · obtain ⟨m, rfl⟩ : ∃ m : Nat, a0 = (m : Int) + 1 := ⟨(a0 - 1).toNat, by omega⟩
      have hm : m < 28 := by omega
      have C1 := Lib.hid (fun w => of_yes (m + 1) (by omega) (by omega) w)
      rw [show ((m + 1 : Nat) : Int) = (m : Int) + 1 from rfl] at C1
      exact walkP ((m : Int) + 1) a1 (rowC (m + 1)).toArray 0 x y w C1 (Lib.hid (rof_yes m hm)) F1 F2 (Lib.hid (row_size (m + 1) (by omega))) (Lib.hid (row_one (m + 1) (by omega))) (row_neq (m + 1) (by omega))

theorem own : ownKnob Try.prog.godebug = none := by kernel_rfl
set_option maxRecDepth 100000 in
theorem lifted (os : Os) (started : os.Started) (H : Type) (enc : TypeId × Value → H) :
    ReturnsInHanded {} Try.checked os 3 .any (Rows.protoTellsSpec.pre6 enc Try.prog Try.f3 Rows.protoTellsRow.domain false) (Rows.protoTellsSpec.post enc Try.prog Try.f3 false true false false) := by
  refine returnsInHanded_of_change (C := Try.checked) own started (by kernel_rfl) Try.func3
    (ChangeSpec.witness6 (enc := enc) (C := Try.checked) false ⟨#[], #[.int .i64 0, .string ⟨#[]⟩], []⟩ 8 (by kernel_rfl) (by kernel_rfl) (by kernel_rfl) (by kernel_rfl)) ?_
  intro W base args ds gs before hval0 hW hcnd _
  have hval : ∀ (j : Nat) t v, Try.f3.params[j]? = some t → args[j]? = some v → Value.okWide Try.prog W .any base t v := hval0
  have hW' := hW
  obtain ⟨p, q, hA0, hV, rfl, hfz, hnd⟩ := hW
  have hA : DataW.TrodAll enc Try.prog W 0 (fun _ => true) true Try.f3.params.toList args.toList ds p := hA0
  rw [Try.params3] at hA hval
  obtain ⟨v0, vs0, d0, ds0, p0, q0, hargs, rfl, rfl, h0, r0⟩ := trodAll_cons hA
  obtain ⟨v1, vs1, d1, ds1, p1, q1, rfl, rfl, rfl, h1, r1⟩ := trodAll_cons r0
  obtain ⟨rfl, rfl, rfl⟩ := trodAll_nil r1
  obtain rfl : args = #[v0, v1] := by cases args; simp_all
  obtain ⟨rfl, rfl⟩ := trodVars_none hV
  obtain ⟨a0, rfl, rfl, rfl, w0⟩ := open_int Try.underlying3 (hval 0 3 v0 rfl rfl) h0
  obtain ⟨a1, rfl, rfl, rfl, w1⟩ := open_string Try.underlying9 (hval 1 9 v1 rfl rfl) h1
  clear hA0 hval0
  simp only [List.append_nil] at hW'
  refine (walk a0 a1 w1 W).mono fun e W' ⟨he, hg⟩ => ?_
  subst he
  exact ⟨_, rfl, post_of_below (pa := []) (pv := []) hW' (fun _ _ _ => (trodAll_cons_mk (shut_bool Try.underlying4 _) trodAll_mk0)) (fun sp _ => (trodAll_cons_mk (shut_int Try.underlying3 w0) (trodAll_cons_mk (shut_string Try.underlying9 w1) trodAll_mk0))) (fun _ _ => rfl) rfl
    hg (ok_one (by kernel_rfl) rfl (okWide_bool_mk Try.underlying4 _))⟩

theorem over : Rows.protoTellsRow.holds Try.pinned (OpenSpec.ofChange Rows.protoTellsSpec) :=
  OpenClaim.holds_of_wide 3 Try.f3 rfl rfl rfl rfl rfl rfl rfl ⟨rfl, rfl, rfl, rfl, rfl⟩ rfl rfl rfl rfl rfl (by kernel_rfl) Try.func3 (by kernel_rfl)
    (of_decide_eq_true (by kernel_rfl)) (by unfold Func.isWrapper; first | (rw [if_pos (by decide +kernel)]; kernel_rfl) | (rw [if_neg (by decide +kernel)]; exact ⟨rfl, rfl⟩))
    (fun os started H enc _ => lifted os started H enc)

/-- The statement. -/
theorem proved : Rows.ProtoTellsSaid :=
  over
end Go.Proofs.Ytknmpllnclkghaa.protoTells
