/-
  A law's run in parts: what each run takes for granted is so; all runs.
-/
import Derived.Test.YtjhmmfoomcoadaaGreatVRC
import Derived.Test.YtjhmmfoomcoadaaGreatVRR0
import Derived.Test.YtjhmmfoomcoadaaGreatVRR1
import Derived.Test.YtjhmmfoomcoadaaGreatVRR2
import Derived.Test.YtjhmmfoomcoadaaGreatVRR3
import Derived.Test.YtjhmmfoomcoadaaGreatVRR4
import Derived.Test.YtjhmmfoomcoadaaGreatVRR5
import Derived.Test.YtjhmmfoomcoadaaGreatVRR6
import Derived.Test.YtjhmmfoomcoadaaGreatVRR7
import Derived.Test.YtjhmmfoomcoadaaGreatVRR8
import Derived.Test.YtjhmmfoomcoadaaGreatVRR9
import Derived.Test.YtjhmmfoomcoadaaGreatVRR10
import Derived.Test.YtjhmmfoomcoadaaGreatVRR11
namespace Go.Proofs.YtjhmmfoomcoadaaGreat.Ev
open Go.RowKit
set_option linter.unusedVariables false
set_option linter.unusedSimpArgs false
set_option linter.unusedSectionVars false
variable {o c a b : Int}
theorem ok_a0t (ha : 0 ≤ a ∧ a ≤ 18446744073709551615) (hb : 0 ≤ b ∧ b ≤ 18446744073709551615) : @FsOk F_a0t (En5 o c a b) := by
  have hA := sA_ev (η := (En5 o c a b).η) ha.1 ha.2
  have hB := sB_ev (η := (En5 o c a b).η) hb.1 hb.2
  refine @FsOk.mk F_a0t (En5 o c a b) (fun f hf => ?_)
  have hf : f ∈ ([⟨.neq, (.o .add .u64 sA sB), (.o .add .u64 (.v 2) (.v 3)), false⟩] : List SF) := hf
  simp only [List.mem_cons, List.not_mem_nil, or_false] at hf
  rcases hf with rfl
  · show cmpI .neq (SE.ev (En5 o c a b).η (.o .add .u64 sA sB)) (SE.ev (En5 o c a b).η (.o .add .u64 (.v 2) (.v 3))) = false
    simp only [SE.ev, hA, hB, neq_self]
theorem ok_a0f (ha : 0 ≤ a ∧ a ≤ 18446744073709551615) (hb : 0 ≤ b ∧ b ≤ 18446744073709551615) : @FsOk F_a0f (En5 o c a b) := by
  have hA := sA_ev (η := (En5 o c a b).η) ha.1 ha.2
  have hB := sB_ev (η := (En5 o c a b).η) hb.1 hb.2
  refine @FsOk.mk F_a0f (En5 o c a b) (fun f hf => ?_)
  have hf : f ∈ ([⟨.neq, (.o .add .u32 (.w .u32 sA) (.w .u32 sB)), (.o .add .u32 (.w .u32 (.v 2)) (.w .u32 (.v 3))), false⟩] : List SF) := hf
  simp only [List.mem_cons, List.not_mem_nil, or_false] at hf
  rcases hf with rfl
  · show cmpI .neq (SE.ev (En5 o c a b).η (.o .add .u32 (.w .u32 sA) (.w .u32 sB))) (SE.ev (En5 o c a b).η (.o .add .u32 (.w .u32 (.v 2)) (.w .u32 (.v 3)))) = false
    simp only [SE.ev, hA, hB, neq_self]
theorem ok_a1t (ha : 0 ≤ a ∧ a ≤ 18446744073709551615) (hb : 0 ≤ b ∧ b ≤ 18446744073709551615) : @FsOk F_a1t (En5 o c a b) := by
  have hA := sA_ev (η := (En5 o c a b).η) ha.1 ha.2
  have hB := sB_ev (η := (En5 o c a b).η) hb.1 hb.2
  refine @FsOk.mk F_a1t (En5 o c a b) (fun f hf => ?_)
  have hf : f ∈ ([⟨.neq, (.o .sub .u64 sA sB), (.o .sub .u64 (.v 2) (.v 3)), false⟩] : List SF) := hf
  simp only [List.mem_cons, List.not_mem_nil, or_false] at hf
  rcases hf with rfl
  · show cmpI .neq (SE.ev (En5 o c a b).η (.o .sub .u64 sA sB)) (SE.ev (En5 o c a b).η (.o .sub .u64 (.v 2) (.v 3))) = false
    simp only [SE.ev, hA, hB, neq_self]
theorem ok_a1f (ha : 0 ≤ a ∧ a ≤ 18446744073709551615) (hb : 0 ≤ b ∧ b ≤ 18446744073709551615) : @FsOk F_a1f (En5 o c a b) := by
  have hA := sA_ev (η := (En5 o c a b).η) ha.1 ha.2
  have hB := sB_ev (η := (En5 o c a b).η) hb.1 hb.2
  refine @FsOk.mk F_a1f (En5 o c a b) (fun f hf => ?_)
  have hf : f ∈ ([⟨.neq, (.o .sub .u32 (.w .u32 sA) (.w .u32 sB)), (.o .sub .u32 (.w .u32 (.v 2)) (.w .u32 (.v 3))), false⟩] : List SF) := hf
  simp only [List.mem_cons, List.not_mem_nil, or_false] at hf
  rcases hf with rfl
  · show cmpI .neq (SE.ev (En5 o c a b).η (.o .sub .u32 (.w .u32 sA) (.w .u32 sB))) (SE.ev (En5 o c a b).η (.o .sub .u32 (.w .u32 (.v 2)) (.w .u32 (.v 3)))) = false
    simp only [SE.ev, hA, hB, neq_self]
theorem ok_a2t (ha : 0 ≤ a ∧ a ≤ 18446744073709551615) (hb : 0 ≤ b ∧ b ≤ 18446744073709551615) : @FsOk F_a2t (En5 o c a b) := by
  have hA := sA_ev (η := (En5 o c a b).η) ha.1 ha.2
  have hB := sB_ev (η := (En5 o c a b).η) hb.1 hb.2
  refine @FsOk.mk F_a2t (En5 o c a b) (fun f hf => ?_)
  have hf : f ∈ ([⟨.neq, (.o .mul .u64 sA sB), (.o .mul .u64 (.v 2) (.v 3)), false⟩] : List SF) := hf
  simp only [List.mem_cons, List.not_mem_nil, or_false] at hf
  rcases hf with rfl
  · show cmpI .neq (SE.ev (En5 o c a b).η (.o .mul .u64 sA sB)) (SE.ev (En5 o c a b).η (.o .mul .u64 (.v 2) (.v 3))) = false
    simp only [SE.ev, hA, hB, neq_self]
theorem ok_a2f (ha : 0 ≤ a ∧ a ≤ 18446744073709551615) (hb : 0 ≤ b ∧ b ≤ 18446744073709551615) : @FsOk F_a2f (En5 o c a b) := by
  have hA := sA_ev (η := (En5 o c a b).η) ha.1 ha.2
  have hB := sB_ev (η := (En5 o c a b).η) hb.1 hb.2
  refine @FsOk.mk F_a2f (En5 o c a b) (fun f hf => ?_)
  have hf : f ∈ ([⟨.neq, (.o .mul .u32 (.w .u32 sA) (.w .u32 sB)), (.o .mul .u32 (.w .u32 (.v 2)) (.w .u32 (.v 3))), false⟩] : List SF) := hf
  simp only [List.mem_cons, List.not_mem_nil, or_false] at hf
  rcases hf with rfl
  · show cmpI .neq (SE.ev (En5 o c a b).η (.o .mul .u32 (.w .u32 sA) (.w .u32 sB))) (SE.ev (En5 o c a b).η (.o .mul .u32 (.w .u32 (.v 2)) (.w .u32 (.v 3)))) = false
    simp only [SE.ev, hA, hB, neq_self]
theorem ok_a3tn (ha : 0 ≤ a ∧ a ≤ 18446744073709551615) (hb : 0 ≤ b ∧ b ≤ 18446744073709551615) (h : cmpI .eql (SE.ev (En5 o c a b).η (.v 3)) (SE.ev (En5 o c a b).η (.c (0))) = false) : @FsOk F_a3tn (En5 o c a b) := by
  have hA := sA_ev (η := (En5 o c a b).η) ha.1 ha.2
  have hB := sB_ev (η := (En5 o c a b).η) hb.1 hb.2
  refine @FsOk.mk F_a3tn (En5 o c a b) (fun f hf => ?_)
  have hf : f ∈ ([⟨.eql, sB, (.c (0)), false⟩, ⟨.eql, (.v 3), (.c (0)), false⟩, ⟨.neq, (.o .quo .u64 sA sB), (.o .quo .u64 (.v 2) (.v 3)), false⟩] : List SF) := hf
  simp only [List.mem_cons, List.not_mem_nil, or_false] at hf
  rcases hf with rfl | rfl | rfl
  · show cmpI .eql (SE.ev (En5 o c a b).η sB) (SE.ev (En5 o c a b).η (.c (0))) = false
    have e := h
    simp only [SE.ev, hA, hB] at e ⊢
    exact e
  · exact h
  · show cmpI .neq (SE.ev (En5 o c a b).η (.o .quo .u64 sA sB)) (SE.ev (En5 o c a b).η (.o .quo .u64 (.v 2) (.v 3))) = false
    simp only [SE.ev, hA, hB, neq_self]
theorem ok_a3tz (ha : 0 ≤ a ∧ a ≤ 18446744073709551615) (hb : 0 ≤ b ∧ b ≤ 18446744073709551615) (h : cmpI .eql (SE.ev (En5 o c a b).η (.v 3)) (SE.ev (En5 o c a b).η (.c (0))) = true) : @FsOk F_a3tz (En5 o c a b) := by
  have hA := sA_ev (η := (En5 o c a b).η) ha.1 ha.2
  have hB := sB_ev (η := (En5 o c a b).η) hb.1 hb.2
  refine @FsOk.mk F_a3tz (En5 o c a b) (fun f hf => ?_)
  have hf : f ∈ ([⟨.eql, sB, (.c (0)), true⟩, ⟨.eql, (.v 3), (.c (0)), true⟩] : List SF) := hf
  simp only [List.mem_cons, List.not_mem_nil, or_false] at hf
  rcases hf with rfl | rfl
  · show cmpI .eql (SE.ev (En5 o c a b).η sB) (SE.ev (En5 o c a b).η (.c (0))) = true
    have e := h
    simp only [SE.ev, hA, hB] at e ⊢
    exact e
  · exact h
theorem ok_a3fn (ha : 0 ≤ a ∧ a ≤ 18446744073709551615) (hb : 0 ≤ b ∧ b ≤ 18446744073709551615) (h : cmpI .eql (SE.ev (En5 o c a b).η (.w .u32 (.v 3))) (SE.ev (En5 o c a b).η (.c (0))) = false) : @FsOk F_a3fn (En5 o c a b) := by
  have hA := sA_ev (η := (En5 o c a b).η) ha.1 ha.2
  have hB := sB_ev (η := (En5 o c a b).η) hb.1 hb.2
  refine @FsOk.mk F_a3fn (En5 o c a b) (fun f hf => ?_)
  have hf : f ∈ ([⟨.eql, (.w .u32 sB), (.c (0)), false⟩, ⟨.eql, (.w .u32 (.v 3)), (.c (0)), false⟩, ⟨.neq, (.o .quo .u32 (.w .u32 sA) (.w .u32 sB)), (.o .quo .u32 (.w .u32 (.v 2)) (.w .u32 (.v 3))), false⟩] : List SF) := hf
  simp only [List.mem_cons, List.not_mem_nil, or_false] at hf
  rcases hf with rfl | rfl | rfl
  · show cmpI .eql (SE.ev (En5 o c a b).η (.w .u32 sB)) (SE.ev (En5 o c a b).η (.c (0))) = false
    have e := h
    simp only [SE.ev, hA, hB] at e ⊢
    exact e
  · exact h
  · show cmpI .neq (SE.ev (En5 o c a b).η (.o .quo .u32 (.w .u32 sA) (.w .u32 sB))) (SE.ev (En5 o c a b).η (.o .quo .u32 (.w .u32 (.v 2)) (.w .u32 (.v 3)))) = false
    simp only [SE.ev, hA, hB, neq_self]
theorem ok_a3fz (ha : 0 ≤ a ∧ a ≤ 18446744073709551615) (hb : 0 ≤ b ∧ b ≤ 18446744073709551615) (h : cmpI .eql (SE.ev (En5 o c a b).η (.w .u32 (.v 3))) (SE.ev (En5 o c a b).η (.c (0))) = true) : @FsOk F_a3fz (En5 o c a b) := by
  have hA := sA_ev (η := (En5 o c a b).η) ha.1 ha.2
  have hB := sB_ev (η := (En5 o c a b).η) hb.1 hb.2
  refine @FsOk.mk F_a3fz (En5 o c a b) (fun f hf => ?_)
  have hf : f ∈ ([⟨.eql, (.w .u32 sB), (.c (0)), true⟩, ⟨.eql, (.w .u32 (.v 3)), (.c (0)), true⟩] : List SF) := hf
  simp only [List.mem_cons, List.not_mem_nil, or_false] at hf
  rcases hf with rfl | rfl
  · show cmpI .eql (SE.ev (En5 o c a b).η (.w .u32 sB)) (SE.ev (En5 o c a b).η (.c (0))) = true
    have e := h
    simp only [SE.ev, hA, hB] at e ⊢
    exact e
  · exact h
theorem ok_a4t (ha : 0 ≤ a ∧ a ≤ 18446744073709551615) (hb : 0 ≤ b ∧ b ≤ 18446744073709551615) : @FsOk F_a4t (En5 o c a b) := by
  have hA := sA_ev (η := (En5 o c a b).η) ha.1 ha.2
  have hB := sB_ev (η := (En5 o c a b).η) hb.1 hb.2
  refine @FsOk.mk F_a4t (En5 o c a b) (fun f hf => ?_)
  have hf : f ∈ ([⟨.neq, (.o .or .u64 sA sB), (.o .or .u64 (.v 2) (.v 3)), false⟩] : List SF) := hf
  simp only [List.mem_cons, List.not_mem_nil, or_false] at hf
  rcases hf with rfl
  · show cmpI .neq (SE.ev (En5 o c a b).η (.o .or .u64 sA sB)) (SE.ev (En5 o c a b).η (.o .or .u64 (.v 2) (.v 3))) = false
    simp only [SE.ev, hA, hB, neq_self]
theorem ok_a4f (ha : 0 ≤ a ∧ a ≤ 18446744073709551615) (hb : 0 ≤ b ∧ b ≤ 18446744073709551615) : @FsOk F_a4f (En5 o c a b) := by
  have hA := sA_ev (η := (En5 o c a b).η) ha.1 ha.2
  have hB := sB_ev (η := (En5 o c a b).η) hb.1 hb.2
  refine @FsOk.mk F_a4f (En5 o c a b) (fun f hf => ?_)
  have hf : f ∈ ([⟨.neq, (.o .or .u32 (.w .u32 sA) (.w .u32 sB)), (.o .or .u32 (.w .u32 (.v 2)) (.w .u32 (.v 3))), false⟩] : List SF) := hf
  simp only [List.mem_cons, List.not_mem_nil, or_false] at hf
  rcases hf with rfl
  · show cmpI .neq (SE.ev (En5 o c a b).η (.o .or .u32 (.w .u32 sA) (.w .u32 sB))) (SE.ev (En5 o c a b).η (.o .or .u32 (.w .u32 (.v 2)) (.w .u32 (.v 3)))) = false
    simp only [SE.ev, hA, hB, neq_self]
theorem ok_a5t (ha : 0 ≤ a ∧ a ≤ 18446744073709551615) (hb : 0 ≤ b ∧ b ≤ 18446744073709551615) : @FsOk F_a5t (En5 o c a b) := by
  have hA := sA_ev (η := (En5 o c a b).η) ha.1 ha.2
  have hB := sB_ev (η := (En5 o c a b).η) hb.1 hb.2
  refine @FsOk.mk F_a5t (En5 o c a b) (fun f hf => ?_)
  have hf : f ∈ ([⟨.neq, (.o .and .u64 sA sB), (.o .and .u64 (.v 2) (.v 3)), false⟩] : List SF) := hf
  simp only [List.mem_cons, List.not_mem_nil, or_false] at hf
  rcases hf with rfl
  · show cmpI .neq (SE.ev (En5 o c a b).η (.o .and .u64 sA sB)) (SE.ev (En5 o c a b).η (.o .and .u64 (.v 2) (.v 3))) = false
    simp only [SE.ev, hA, hB, neq_self]
theorem ok_a5f (ha : 0 ≤ a ∧ a ≤ 18446744073709551615) (hb : 0 ≤ b ∧ b ≤ 18446744073709551615) : @FsOk F_a5f (En5 o c a b) := by
  have hA := sA_ev (η := (En5 o c a b).η) ha.1 ha.2
  have hB := sB_ev (η := (En5 o c a b).η) hb.1 hb.2
  refine @FsOk.mk F_a5f (En5 o c a b) (fun f hf => ?_)
  have hf : f ∈ ([⟨.neq, (.o .and .u32 (.w .u32 sA) (.w .u32 sB)), (.o .and .u32 (.w .u32 (.v 2)) (.w .u32 (.v 3))), false⟩] : List SF) := hf
  simp only [List.mem_cons, List.not_mem_nil, or_false] at hf
  rcases hf with rfl
  · show cmpI .neq (SE.ev (En5 o c a b).η (.o .and .u32 (.w .u32 sA) (.w .u32 sB))) (SE.ev (En5 o c a b).η (.o .and .u32 (.w .u32 (.v 2)) (.w .u32 (.v 3)))) = false
    simp only [SE.ev, hA, hB, neq_self]
theorem ok_a6t (ha : 0 ≤ a ∧ a ≤ 18446744073709551615) (hb : 0 ≤ b ∧ b ≤ 18446744073709551615) : @FsOk F_a6t (En5 o c a b) := by
  have hA := sA_ev (η := (En5 o c a b).η) ha.1 ha.2
  have hB := sB_ev (η := (En5 o c a b).η) hb.1 hb.2
  refine @FsOk.mk F_a6t (En5 o c a b) (fun f hf => ?_)
  have hf : f ∈ ([⟨.neq, (.o .shl .u64 sA (.o .rem .u64 sB (.c (64)))), (.o .shl .u64 (.v 2) (.o .rem .u64 (.v 3) (.c (64)))), false⟩] : List SF) := hf
  simp only [List.mem_cons, List.not_mem_nil, or_false] at hf
  rcases hf with rfl
  · show cmpI .neq (SE.ev (En5 o c a b).η (.o .shl .u64 sA (.o .rem .u64 sB (.c (64))))) (SE.ev (En5 o c a b).η (.o .shl .u64 (.v 2) (.o .rem .u64 (.v 3) (.c (64))))) = false
    simp only [SE.ev, hA, hB, neq_self]
theorem ok_a6f (ha : 0 ≤ a ∧ a ≤ 18446744073709551615) (hb : 0 ≤ b ∧ b ≤ 18446744073709551615) : @FsOk F_a6f (En5 o c a b) := by
  have hA := sA_ev (η := (En5 o c a b).η) ha.1 ha.2
  have hB := sB_ev (η := (En5 o c a b).η) hb.1 hb.2
  refine @FsOk.mk F_a6f (En5 o c a b) (fun f hf => ?_)
  have hf : f ∈ ([⟨.neq, (.o .shl .u32 (.w .u32 sA) (.o .rem .u32 (.w .u32 sB) (.c (32)))), (.o .shl .u32 (.w .u32 (.v 2)) (.o .rem .u32 (.w .u32 (.v 3)) (.c (32)))), false⟩] : List SF) := hf
  simp only [List.mem_cons, List.not_mem_nil, or_false] at hf
  rcases hf with rfl
  · show cmpI .neq (SE.ev (En5 o c a b).η (.o .shl .u32 (.w .u32 sA) (.o .rem .u32 (.w .u32 sB) (.c (32))))) (SE.ev (En5 o c a b).η (.o .shl .u32 (.w .u32 (.v 2)) (.o .rem .u32 (.w .u32 (.v 3)) (.c (32))))) = false
    simp only [SE.ev, hA, hB, neq_self]
theorem ok_a7t (ha : 0 ≤ a ∧ a ≤ 18446744073709551615) (hb : 0 ≤ b ∧ b ≤ 18446744073709551615) : @FsOk F_a7t (En5 o c a b) := by
  have hA := sA_ev (η := (En5 o c a b).η) ha.1 ha.2
  have hB := sB_ev (η := (En5 o c a b).η) hb.1 hb.2
  refine @FsOk.mk F_a7t (En5 o c a b) (fun f hf => ?_)
  have hf : f ∈ ([⟨.neq, (.o .shr .u64 sA (.o .rem .u64 sB (.c (64)))), (.o .shr .u64 (.v 2) (.o .rem .u64 (.v 3) (.c (64)))), false⟩] : List SF) := hf
  simp only [List.mem_cons, List.not_mem_nil, or_false] at hf
  rcases hf with rfl
  · show cmpI .neq (SE.ev (En5 o c a b).η (.o .shr .u64 sA (.o .rem .u64 sB (.c (64))))) (SE.ev (En5 o c a b).η (.o .shr .u64 (.v 2) (.o .rem .u64 (.v 3) (.c (64))))) = false
    simp only [SE.ev, hA, hB, neq_self]
theorem ok_a7f (ha : 0 ≤ a ∧ a ≤ 18446744073709551615) (hb : 0 ≤ b ∧ b ≤ 18446744073709551615) : @FsOk F_a7f (En5 o c a b) := by
  have hA := sA_ev (η := (En5 o c a b).η) ha.1 ha.2
  have hB := sB_ev (η := (En5 o c a b).η) hb.1 hb.2
  refine @FsOk.mk F_a7f (En5 o c a b) (fun f hf => ?_)
  have hf : f ∈ ([⟨.neq, (.o .shr .u32 (.w .u32 sA) (.o .rem .u32 (.w .u32 sB) (.c (32)))), (.o .shr .u32 (.w .u32 (.v 2)) (.o .rem .u32 (.w .u32 (.v 3)) (.c (32)))), false⟩] : List SF) := hf
  simp only [List.mem_cons, List.not_mem_nil, or_false] at hf
  rcases hf with rfl
  · show cmpI .neq (SE.ev (En5 o c a b).η (.o .shr .u32 (.w .u32 sA) (.o .rem .u32 (.w .u32 sB) (.c (32))))) (SE.ev (En5 o c a b).η (.o .shr .u32 (.w .u32 (.v 2)) (.o .rem .u32 (.w .u32 (.v 3)) (.c (32))))) = false
    simp only [SE.ev, hA, hB, neq_self]
theorem ok_a9tn (ha : 0 ≤ a ∧ a ≤ 18446744073709551615) (hb : 0 ≤ b ∧ b ≤ 18446744073709551615) (h : cmpI .eql (SE.ev (En5 o c a b).η (.v 3)) (SE.ev (En5 o c a b).η (.c (0))) = false) : @FsOk F_a9tn (En5 o c a b) := by
  have hA := sA_ev (η := (En5 o c a b).η) ha.1 ha.2
  have hB := sB_ev (η := (En5 o c a b).η) hb.1 hb.2
  refine @FsOk.mk F_a9tn (En5 o c a b) (fun f hf => ?_)
  have hf : f ∈ ([⟨.eql, sB, (.c (0)), false⟩, ⟨.eql, (.v 3), (.c (0)), false⟩, ⟨.neq, (.o .rem .u64 sA sB), (.o .rem .u64 (.v 2) (.v 3)), false⟩] : List SF) := hf
  simp only [List.mem_cons, List.not_mem_nil, or_false] at hf
  rcases hf with rfl | rfl | rfl
  · show cmpI .eql (SE.ev (En5 o c a b).η sB) (SE.ev (En5 o c a b).η (.c (0))) = false
    have e := h
    simp only [SE.ev, hA, hB] at e ⊢
    exact e
  · exact h
  · show cmpI .neq (SE.ev (En5 o c a b).η (.o .rem .u64 sA sB)) (SE.ev (En5 o c a b).η (.o .rem .u64 (.v 2) (.v 3))) = false
    simp only [SE.ev, hA, hB, neq_self]
theorem ok_a9tz (ha : 0 ≤ a ∧ a ≤ 18446744073709551615) (hb : 0 ≤ b ∧ b ≤ 18446744073709551615) (h : cmpI .eql (SE.ev (En5 o c a b).η (.v 3)) (SE.ev (En5 o c a b).η (.c (0))) = true) : @FsOk F_a9tz (En5 o c a b) := by
  have hA := sA_ev (η := (En5 o c a b).η) ha.1 ha.2
  have hB := sB_ev (η := (En5 o c a b).η) hb.1 hb.2
  refine @FsOk.mk F_a9tz (En5 o c a b) (fun f hf => ?_)
  have hf : f ∈ ([⟨.eql, sB, (.c (0)), true⟩, ⟨.eql, (.v 3), (.c (0)), true⟩, ⟨.neq, sA, (.v 2), false⟩] : List SF) := hf
  simp only [List.mem_cons, List.not_mem_nil, or_false] at hf
  rcases hf with rfl | rfl | rfl
  · show cmpI .eql (SE.ev (En5 o c a b).η sB) (SE.ev (En5 o c a b).η (.c (0))) = true
    have e := h
    simp only [SE.ev, hA, hB] at e ⊢
    exact e
  · exact h
  · show cmpI .neq (SE.ev (En5 o c a b).η sA) (SE.ev (En5 o c a b).η (.v 2)) = false
    simp only [SE.ev, hA, hB, neq_self]
theorem ok_a9fn (ha : 0 ≤ a ∧ a ≤ 18446744073709551615) (hb : 0 ≤ b ∧ b ≤ 18446744073709551615) (h : cmpI .eql (SE.ev (En5 o c a b).η (.w .u32 (.v 3))) (SE.ev (En5 o c a b).η (.c (0))) = false) : @FsOk F_a9fn (En5 o c a b) := by
  have hA := sA_ev (η := (En5 o c a b).η) ha.1 ha.2
  have hB := sB_ev (η := (En5 o c a b).η) hb.1 hb.2
  refine @FsOk.mk F_a9fn (En5 o c a b) (fun f hf => ?_)
  have hf : f ∈ ([⟨.eql, (.w .u32 sB), (.c (0)), false⟩, ⟨.eql, (.w .u32 (.v 3)), (.c (0)), false⟩, ⟨.neq, (.o .rem .u32 (.w .u32 sA) (.w .u32 sB)), (.o .rem .u32 (.w .u32 (.v 2)) (.w .u32 (.v 3))), false⟩] : List SF) := hf
  simp only [List.mem_cons, List.not_mem_nil, or_false] at hf
  rcases hf with rfl | rfl | rfl
  · show cmpI .eql (SE.ev (En5 o c a b).η (.w .u32 sB)) (SE.ev (En5 o c a b).η (.c (0))) = false
    have e := h
    simp only [SE.ev, hA, hB] at e ⊢
    exact e
  · exact h
  · show cmpI .neq (SE.ev (En5 o c a b).η (.o .rem .u32 (.w .u32 sA) (.w .u32 sB))) (SE.ev (En5 o c a b).η (.o .rem .u32 (.w .u32 (.v 2)) (.w .u32 (.v 3)))) = false
    simp only [SE.ev, hA, hB, neq_self]
theorem ok_a9fz (ha : 0 ≤ a ∧ a ≤ 18446744073709551615) (hb : 0 ≤ b ∧ b ≤ 18446744073709551615) (h : cmpI .eql (SE.ev (En5 o c a b).η (.w .u32 (.v 3))) (SE.ev (En5 o c a b).η (.c (0))) = true) : @FsOk F_a9fz (En5 o c a b) := by
  have hA := sA_ev (η := (En5 o c a b).η) ha.1 ha.2
  have hB := sB_ev (η := (En5 o c a b).η) hb.1 hb.2
  refine @FsOk.mk F_a9fz (En5 o c a b) (fun f hf => ?_)
  have hf : f ∈ ([⟨.eql, (.w .u32 sB), (.c (0)), true⟩, ⟨.eql, (.w .u32 (.v 3)), (.c (0)), true⟩, ⟨.neq, (.w .u32 sA), (.w .u32 (.v 2)), false⟩] : List SF) := hf
  simp only [List.mem_cons, List.not_mem_nil, or_false] at hf
  rcases hf with rfl | rfl | rfl
  · show cmpI .eql (SE.ev (En5 o c a b).η (.w .u32 sB)) (SE.ev (En5 o c a b).η (.c (0))) = true
    have e := h
    simp only [SE.ev, hA, hB] at e ⊢
    exact e
  · exact h
  · show cmpI .neq (SE.ev (En5 o c a b).η (.w .u32 sA)) (SE.ev (En5 o c a b).η (.w .u32 (.v 2))) = false
    simp only [SE.ev, hA, hB, neq_self]
theorem ok_a10t (ha : 0 ≤ a ∧ a ≤ 18446744073709551615) (hb : 0 ≤ b ∧ b ≤ 18446744073709551615) : @FsOk F_a10t (En5 o c a b) := by
  have hA := sA_ev (η := (En5 o c a b).η) ha.1 ha.2
  have hB := sB_ev (η := (En5 o c a b).η) hb.1 hb.2
  refine @FsOk.mk F_a10t (En5 o c a b) (fun f hf => ?_)
  have hf : f ∈ ([⟨.neq, (.o .xor .u64 sA sB), (.o .xor .u64 (.v 2) (.v 3)), false⟩] : List SF) := hf
  simp only [List.mem_cons, List.not_mem_nil, or_false] at hf
  rcases hf with rfl
  · show cmpI .neq (SE.ev (En5 o c a b).η (.o .xor .u64 sA sB)) (SE.ev (En5 o c a b).η (.o .xor .u64 (.v 2) (.v 3))) = false
    simp only [SE.ev, hA, hB, neq_self]
theorem ok_a10f (ha : 0 ≤ a ∧ a ≤ 18446744073709551615) (hb : 0 ≤ b ∧ b ≤ 18446744073709551615) : @FsOk F_a10f (En5 o c a b) := by
  have hA := sA_ev (η := (En5 o c a b).η) ha.1 ha.2
  have hB := sB_ev (η := (En5 o c a b).η) hb.1 hb.2
  refine @FsOk.mk F_a10f (En5 o c a b) (fun f hf => ?_)
  have hf : f ∈ ([⟨.neq, (.o .xor .u32 (.w .u32 sA) (.w .u32 sB)), (.o .xor .u32 (.w .u32 (.v 2)) (.w .u32 (.v 3))), false⟩] : List SF) := hf
  simp only [List.mem_cons, List.not_mem_nil, or_false] at hf
  rcases hf with rfl
  · show cmpI .neq (SE.ev (En5 o c a b).η (.o .xor .u32 (.w .u32 sA) (.w .u32 sB))) (SE.ev (En5 o c a b).η (.o .xor .u32 (.w .u32 (.v 2)) (.w .u32 (.v 3)))) = false
    simp only [SE.ev, hA, hB, neq_self]
theorem ok_a11t (ha : 0 ≤ a ∧ a ≤ 18446744073709551615) (hb : 0 ≤ b ∧ b ≤ 18446744073709551615) : @FsOk F_a11t (En5 o c a b) := by
  have hA := sA_ev (η := (En5 o c a b).η) ha.1 ha.2
  have hB := sB_ev (η := (En5 o c a b).η) hb.1 hb.2
  refine @FsOk.mk F_a11t (En5 o c a b) (fun f hf => ?_)
  have hf : f ∈ ([⟨.neq, sB, (.v 3), false⟩] : List SF) := hf
  simp only [List.mem_cons, List.not_mem_nil, or_false] at hf
  rcases hf with rfl
  · show cmpI .neq (SE.ev (En5 o c a b).η sB) (SE.ev (En5 o c a b).η (.v 3)) = false
    simp only [SE.ev, hA, hB, neq_self]
theorem ok_a11f (ha : 0 ≤ a ∧ a ≤ 18446744073709551615) (hb : 0 ≤ b ∧ b ≤ 18446744073709551615) : @FsOk F_a11f (En5 o c a b) := by
  have hA := sA_ev (η := (En5 o c a b).η) ha.1 ha.2
  have hB := sB_ev (η := (En5 o c a b).η) hb.1 hb.2
  refine @FsOk.mk F_a11f (En5 o c a b) (fun f hf => ?_)
  have hf : f ∈ ([⟨.neq, (.w .u32 sB), (.w .u32 (.v 3)), false⟩] : List SF) := hf
  simp only [List.mem_cons, List.not_mem_nil, or_false] at hf
  rcases hf with rfl
  · show cmpI .neq (SE.ev (En5 o c a b).η (.w .u32 sB)) (SE.ev (En5 o c a b).η (.w .u32 (.v 3))) = false
    simp only [SE.ev, hA, hB, neq_self]
theorem ok_a12t (ha : 0 ≤ a ∧ a ≤ 18446744073709551615) (hb : 0 ≤ b ∧ b ≤ 18446744073709551615) : @FsOk F_a12t (En5 o c a b) := by
  have hA := sA_ev (η := (En5 o c a b).η) ha.1 ha.2
  have hB := sB_ev (η := (En5 o c a b).η) hb.1 hb.2
  refine @FsOk.mk F_a12t (En5 o c a b) (fun f hf => ?_)
  have hf : f ∈ ([⟨.neq, (.w .u64 (.o .shr .i64 (.w .i64 sA) (.o .rem .u64 sB (.c (64))))), (.w .u64 (.o .shr .i64 (.w .i64 (.v 2)) (.o .rem .u64 (.v 3) (.c (64))))), false⟩] : List SF) := hf
  simp only [List.mem_cons, List.not_mem_nil, or_false] at hf
  rcases hf with rfl
  · show cmpI .neq (SE.ev (En5 o c a b).η (.w .u64 (.o .shr .i64 (.w .i64 sA) (.o .rem .u64 sB (.c (64)))))) (SE.ev (En5 o c a b).η (.w .u64 (.o .shr .i64 (.w .i64 (.v 2)) (.o .rem .u64 (.v 3) (.c (64)))))) = false
    simp only [SE.ev, hA, hB, neq_self]
theorem ok_a12f (ha : 0 ≤ a ∧ a ≤ 18446744073709551615) (hb : 0 ≤ b ∧ b ≤ 18446744073709551615) : @FsOk F_a12f (En5 o c a b) := by
  have hA := sA_ev (η := (En5 o c a b).η) ha.1 ha.2
  have hB := sB_ev (η := (En5 o c a b).η) hb.1 hb.2
  refine @FsOk.mk F_a12f (En5 o c a b) (fun f hf => ?_)
  have hf : f ∈ ([⟨.neq, (.w .u32 (.o .shr .i32 (.w .i32 (.w .u32 sA)) (.o .rem .u32 (.w .u32 sB) (.c (32))))), (.w .u32 (.o .shr .i32 (.w .i32 (.w .u32 (.v 2))) (.o .rem .u32 (.w .u32 (.v 3)) (.c (32))))), false⟩] : List SF) := hf
  simp only [List.mem_cons, List.not_mem_nil, or_false] at hf
  rcases hf with rfl
  · show cmpI .neq (SE.ev (En5 o c a b).η (.w .u32 (.o .shr .i32 (.w .i32 (.w .u32 sA)) (.o .rem .u32 (.w .u32 sB) (.c (32)))))) (SE.ev (En5 o c a b).η (.w .u32 (.o .shr .i32 (.w .i32 (.w .u32 (.v 2))) (.o .rem .u32 (.w .u32 (.v 3)) (.c (32)))))) = false
    simp only [SE.ev, hA, hB, neq_self]
theorem ok_b0t (ha : 0 ≤ a ∧ a ≤ 18446744073709551615) (hb : 0 ≤ b ∧ b ≤ 18446744073709551615) : @FsOk F_b0t (En5 o c a b) := by
  exact @FsOk.mk F_b0t (En5 o c a b) (fun f hf => by cases hf)
theorem ok_b0f (ha : 0 ≤ a ∧ a ≤ 18446744073709551615) (hb : 0 ≤ b ∧ b ≤ 18446744073709551615) : @FsOk F_b0f (En5 o c a b) := by
  exact @FsOk.mk F_b0f (En5 o c a b) (fun f hf => by cases hf)
theorem ok_b1tf (ha : 0 ≤ a ∧ a ≤ 18446744073709551615) (hb : 0 ≤ b ∧ b ≤ 18446744073709551615) (h : cmpI .eql (SE.ev (En5 o c a b).η (.v 2)) (SE.ev (En5 o c a b).η (.v 3)) = false) : @FsOk F_b1tf (En5 o c a b) := by
  have hA := sA_ev (η := (En5 o c a b).η) ha.1 ha.2
  have hB := sB_ev (η := (En5 o c a b).η) hb.1 hb.2
  refine @FsOk.mk F_b1tf (En5 o c a b) (fun f hf => ?_)
  have hf : f ∈ ([⟨.eql, (.v 2), (.v 3), false⟩, ⟨.eql, sA, sB, false⟩] : List SF) := hf
  simp only [List.mem_cons, List.not_mem_nil, or_false] at hf
  rcases hf with rfl | rfl
  · exact h
  · show cmpI .eql (SE.ev (En5 o c a b).η sA) (SE.ev (En5 o c a b).η sB) = false
    have e := h
    simp only [SE.ev, hA, hB] at e ⊢
    exact e
theorem ok_b1tt (ha : 0 ≤ a ∧ a ≤ 18446744073709551615) (hb : 0 ≤ b ∧ b ≤ 18446744073709551615) (h : cmpI .eql (SE.ev (En5 o c a b).η (.v 2)) (SE.ev (En5 o c a b).η (.v 3)) = true) : @FsOk F_b1tt (En5 o c a b) := by
  have hA := sA_ev (η := (En5 o c a b).η) ha.1 ha.2
  have hB := sB_ev (η := (En5 o c a b).η) hb.1 hb.2
  refine @FsOk.mk F_b1tt (En5 o c a b) (fun f hf => ?_)
  have hf : f ∈ ([⟨.eql, (.v 2), (.v 3), true⟩, ⟨.eql, sA, sB, true⟩] : List SF) := hf
  simp only [List.mem_cons, List.not_mem_nil, or_false] at hf
  rcases hf with rfl | rfl
  · exact h
  · show cmpI .eql (SE.ev (En5 o c a b).η sA) (SE.ev (En5 o c a b).η sB) = true
    have e := h
    simp only [SE.ev, hA, hB] at e ⊢
    exact e
theorem ok_b1ff (ha : 0 ≤ a ∧ a ≤ 18446744073709551615) (hb : 0 ≤ b ∧ b ≤ 18446744073709551615) (h : cmpI .eql (SE.ev (En5 o c a b).η (.w .u32 (.v 2))) (SE.ev (En5 o c a b).η (.w .u32 (.v 3))) = false) : @FsOk F_b1ff (En5 o c a b) := by
  have hA := sA_ev (η := (En5 o c a b).η) ha.1 ha.2
  have hB := sB_ev (η := (En5 o c a b).η) hb.1 hb.2
  refine @FsOk.mk F_b1ff (En5 o c a b) (fun f hf => ?_)
  have hf : f ∈ ([⟨.eql, (.w .u32 (.v 2)), (.w .u32 (.v 3)), false⟩, ⟨.eql, (.w .u32 sA), (.w .u32 sB), false⟩] : List SF) := hf
  simp only [List.mem_cons, List.not_mem_nil, or_false] at hf
  rcases hf with rfl | rfl
  · exact h
  · show cmpI .eql (SE.ev (En5 o c a b).η (.w .u32 sA)) (SE.ev (En5 o c a b).η (.w .u32 sB)) = false
    have e := h
    simp only [SE.ev, hA, hB] at e ⊢
    exact e
theorem ok_b1ft (ha : 0 ≤ a ∧ a ≤ 18446744073709551615) (hb : 0 ≤ b ∧ b ≤ 18446744073709551615) (h : cmpI .eql (SE.ev (En5 o c a b).η (.w .u32 (.v 2))) (SE.ev (En5 o c a b).η (.w .u32 (.v 3))) = true) : @FsOk F_b1ft (En5 o c a b) := by
  have hA := sA_ev (η := (En5 o c a b).η) ha.1 ha.2
  have hB := sB_ev (η := (En5 o c a b).η) hb.1 hb.2
  refine @FsOk.mk F_b1ft (En5 o c a b) (fun f hf => ?_)
  have hf : f ∈ ([⟨.eql, (.w .u32 (.v 2)), (.w .u32 (.v 3)), true⟩, ⟨.eql, (.w .u32 sA), (.w .u32 sB), true⟩] : List SF) := hf
  simp only [List.mem_cons, List.not_mem_nil, or_false] at hf
  rcases hf with rfl | rfl
  · exact h
  · show cmpI .eql (SE.ev (En5 o c a b).η (.w .u32 sA)) (SE.ev (En5 o c a b).η (.w .u32 sB)) = true
    have e := h
    simp only [SE.ev, hA, hB] at e ⊢
    exact e
theorem ok_b2tf (ha : 0 ≤ a ∧ a ≤ 18446744073709551615) (hb : 0 ≤ b ∧ b ≤ 18446744073709551615) (h : cmpI .gtr (SE.ev (En5 o c a b).η (.v 2)) (SE.ev (En5 o c a b).η (.v 3)) = false) : @FsOk F_b2tf (En5 o c a b) := by
  have hA := sA_ev (η := (En5 o c a b).η) ha.1 ha.2
  have hB := sB_ev (η := (En5 o c a b).η) hb.1 hb.2
  refine @FsOk.mk F_b2tf (En5 o c a b) (fun f hf => ?_)
  have hf : f ∈ ([⟨.gtr, (.v 2), (.v 3), false⟩, ⟨.gtr, sA, sB, false⟩] : List SF) := hf
  simp only [List.mem_cons, List.not_mem_nil, or_false] at hf
  rcases hf with rfl | rfl
  · exact h
  · show cmpI .gtr (SE.ev (En5 o c a b).η sA) (SE.ev (En5 o c a b).η sB) = false
    have e := h
    simp only [SE.ev, hA, hB] at e ⊢
    exact e
theorem ok_b2tt (ha : 0 ≤ a ∧ a ≤ 18446744073709551615) (hb : 0 ≤ b ∧ b ≤ 18446744073709551615) (h : cmpI .gtr (SE.ev (En5 o c a b).η (.v 2)) (SE.ev (En5 o c a b).η (.v 3)) = true) : @FsOk F_b2tt (En5 o c a b) := by
  have hA := sA_ev (η := (En5 o c a b).η) ha.1 ha.2
  have hB := sB_ev (η := (En5 o c a b).η) hb.1 hb.2
  refine @FsOk.mk F_b2tt (En5 o c a b) (fun f hf => ?_)
  have hf : f ∈ ([⟨.gtr, (.v 2), (.v 3), true⟩, ⟨.gtr, sA, sB, true⟩] : List SF) := hf
  simp only [List.mem_cons, List.not_mem_nil, or_false] at hf
  rcases hf with rfl | rfl
  · exact h
  · show cmpI .gtr (SE.ev (En5 o c a b).η sA) (SE.ev (En5 o c a b).η sB) = true
    have e := h
    simp only [SE.ev, hA, hB] at e ⊢
    exact e
theorem ok_b2ff (ha : 0 ≤ a ∧ a ≤ 18446744073709551615) (hb : 0 ≤ b ∧ b ≤ 18446744073709551615) (h : cmpI .gtr (SE.ev (En5 o c a b).η (.w .u32 (.v 2))) (SE.ev (En5 o c a b).η (.w .u32 (.v 3))) = false) : @FsOk F_b2ff (En5 o c a b) := by
  have hA := sA_ev (η := (En5 o c a b).η) ha.1 ha.2
  have hB := sB_ev (η := (En5 o c a b).η) hb.1 hb.2
  refine @FsOk.mk F_b2ff (En5 o c a b) (fun f hf => ?_)
  have hf : f ∈ ([⟨.gtr, (.w .u32 (.v 2)), (.w .u32 (.v 3)), false⟩, ⟨.gtr, (.w .u32 sA), (.w .u32 sB), false⟩] : List SF) := hf
  simp only [List.mem_cons, List.not_mem_nil, or_false] at hf
  rcases hf with rfl | rfl
  · exact h
  · show cmpI .gtr (SE.ev (En5 o c a b).η (.w .u32 sA)) (SE.ev (En5 o c a b).η (.w .u32 sB)) = false
    have e := h
    simp only [SE.ev, hA, hB] at e ⊢
    exact e
theorem ok_b2ft (ha : 0 ≤ a ∧ a ≤ 18446744073709551615) (hb : 0 ≤ b ∧ b ≤ 18446744073709551615) (h : cmpI .gtr (SE.ev (En5 o c a b).η (.w .u32 (.v 2))) (SE.ev (En5 o c a b).η (.w .u32 (.v 3))) = true) : @FsOk F_b2ft (En5 o c a b) := by
  have hA := sA_ev (η := (En5 o c a b).η) ha.1 ha.2
  have hB := sB_ev (η := (En5 o c a b).η) hb.1 hb.2
  refine @FsOk.mk F_b2ft (En5 o c a b) (fun f hf => ?_)
  have hf : f ∈ ([⟨.gtr, (.w .u32 (.v 2)), (.w .u32 (.v 3)), true⟩, ⟨.gtr, (.w .u32 sA), (.w .u32 sB), true⟩] : List SF) := hf
  simp only [List.mem_cons, List.not_mem_nil, or_false] at hf
  rcases hf with rfl | rfl
  · exact h
  · show cmpI .gtr (SE.ev (En5 o c a b).η (.w .u32 sA)) (SE.ev (En5 o c a b).η (.w .u32 sB)) = true
    have e := h
    simp only [SE.ev, hA, hB] at e ⊢
    exact e
theorem ok_b3tf (ha : 0 ≤ a ∧ a ≤ 18446744073709551615) (hb : 0 ≤ b ∧ b ≤ 18446744073709551615) (h : cmpI .geq (SE.ev (En5 o c a b).η (.v 2)) (SE.ev (En5 o c a b).η (.v 3)) = false) : @FsOk F_b3tf (En5 o c a b) := by
  have hA := sA_ev (η := (En5 o c a b).η) ha.1 ha.2
  have hB := sB_ev (η := (En5 o c a b).η) hb.1 hb.2
  refine @FsOk.mk F_b3tf (En5 o c a b) (fun f hf => ?_)
  have hf : f ∈ ([⟨.geq, (.v 2), (.v 3), false⟩, ⟨.geq, sA, sB, false⟩] : List SF) := hf
  simp only [List.mem_cons, List.not_mem_nil, or_false] at hf
  rcases hf with rfl | rfl
  · exact h
  · show cmpI .geq (SE.ev (En5 o c a b).η sA) (SE.ev (En5 o c a b).η sB) = false
    have e := h
    simp only [SE.ev, hA, hB] at e ⊢
    exact e
theorem ok_b3tt (ha : 0 ≤ a ∧ a ≤ 18446744073709551615) (hb : 0 ≤ b ∧ b ≤ 18446744073709551615) (h : cmpI .geq (SE.ev (En5 o c a b).η (.v 2)) (SE.ev (En5 o c a b).η (.v 3)) = true) : @FsOk F_b3tt (En5 o c a b) := by
  have hA := sA_ev (η := (En5 o c a b).η) ha.1 ha.2
  have hB := sB_ev (η := (En5 o c a b).η) hb.1 hb.2
  refine @FsOk.mk F_b3tt (En5 o c a b) (fun f hf => ?_)
  have hf : f ∈ ([⟨.geq, (.v 2), (.v 3), true⟩, ⟨.geq, sA, sB, true⟩] : List SF) := hf
  simp only [List.mem_cons, List.not_mem_nil, or_false] at hf
  rcases hf with rfl | rfl
  · exact h
  · show cmpI .geq (SE.ev (En5 o c a b).η sA) (SE.ev (En5 o c a b).η sB) = true
    have e := h
    simp only [SE.ev, hA, hB] at e ⊢
    exact e
theorem ok_b3ff (ha : 0 ≤ a ∧ a ≤ 18446744073709551615) (hb : 0 ≤ b ∧ b ≤ 18446744073709551615) (h : cmpI .geq (SE.ev (En5 o c a b).η (.w .u32 (.v 2))) (SE.ev (En5 o c a b).η (.w .u32 (.v 3))) = false) : @FsOk F_b3ff (En5 o c a b) := by
  have hA := sA_ev (η := (En5 o c a b).η) ha.1 ha.2
  have hB := sB_ev (η := (En5 o c a b).η) hb.1 hb.2
  refine @FsOk.mk F_b3ff (En5 o c a b) (fun f hf => ?_)
  have hf : f ∈ ([⟨.geq, (.w .u32 (.v 2)), (.w .u32 (.v 3)), false⟩, ⟨.geq, (.w .u32 sA), (.w .u32 sB), false⟩] : List SF) := hf
  simp only [List.mem_cons, List.not_mem_nil, or_false] at hf
  rcases hf with rfl | rfl
  · exact h
  · show cmpI .geq (SE.ev (En5 o c a b).η (.w .u32 sA)) (SE.ev (En5 o c a b).η (.w .u32 sB)) = false
    have e := h
    simp only [SE.ev, hA, hB] at e ⊢
    exact e
theorem ok_b3ft (ha : 0 ≤ a ∧ a ≤ 18446744073709551615) (hb : 0 ≤ b ∧ b ≤ 18446744073709551615) (h : cmpI .geq (SE.ev (En5 o c a b).η (.w .u32 (.v 2))) (SE.ev (En5 o c a b).η (.w .u32 (.v 3))) = true) : @FsOk F_b3ft (En5 o c a b) := by
  have hA := sA_ev (η := (En5 o c a b).η) ha.1 ha.2
  have hB := sB_ev (η := (En5 o c a b).η) hb.1 hb.2
  refine @FsOk.mk F_b3ft (En5 o c a b) (fun f hf => ?_)
  have hf : f ∈ ([⟨.geq, (.w .u32 (.v 2)), (.w .u32 (.v 3)), true⟩, ⟨.geq, (.w .u32 sA), (.w .u32 sB), true⟩] : List SF) := hf
  simp only [List.mem_cons, List.not_mem_nil, or_false] at hf
  rcases hf with rfl | rfl
  · exact h
  · show cmpI .geq (SE.ev (En5 o c a b).η (.w .u32 sA)) (SE.ev (En5 o c a b).η (.w .u32 sB)) = true
    have e := h
    simp only [SE.ev, hA, hB] at e ⊢
    exact e
theorem ok_b4tt (ha : 0 ≤ a ∧ a ≤ 18446744073709551615) (hb : 0 ≤ b ∧ b ≤ 18446744073709551615) (h : cmpI .neq (SE.ev (En5 o c a b).η (.o .and .u64 (.v 2) (.v 3))) (SE.ev (En5 o c a b).η (.c (0))) = true) : @FsOk F_b4tt (En5 o c a b) := by
  have hA := sA_ev (η := (En5 o c a b).η) ha.1 ha.2
  have hB := sB_ev (η := (En5 o c a b).η) hb.1 hb.2
  refine @FsOk.mk F_b4tt (En5 o c a b) (fun f hf => ?_)
  have hf : f ∈ ([⟨.neq, (.o .and .u64 (.v 2) (.v 3)), (.c (0)), true⟩, ⟨.neq, (.o .and .u64 sA sB), (.c (0)), true⟩] : List SF) := hf
  simp only [List.mem_cons, List.not_mem_nil, or_false] at hf
  rcases hf with rfl | rfl
  · exact h
  · show cmpI .neq (SE.ev (En5 o c a b).η (.o .and .u64 sA sB)) (SE.ev (En5 o c a b).η (.c (0))) = true
    have e := h
    simp only [SE.ev, hA, hB] at e ⊢
    exact e
theorem ok_b4tf (ha : 0 ≤ a ∧ a ≤ 18446744073709551615) (hb : 0 ≤ b ∧ b ≤ 18446744073709551615) (h : cmpI .neq (SE.ev (En5 o c a b).η (.o .and .u64 (.v 2) (.v 3))) (SE.ev (En5 o c a b).η (.c (0))) = false) : @FsOk F_b4tf (En5 o c a b) := by
  have hA := sA_ev (η := (En5 o c a b).η) ha.1 ha.2
  have hB := sB_ev (η := (En5 o c a b).η) hb.1 hb.2
  refine @FsOk.mk F_b4tf (En5 o c a b) (fun f hf => ?_)
  have hf : f ∈ ([⟨.neq, (.o .and .u64 (.v 2) (.v 3)), (.c (0)), false⟩, ⟨.neq, (.o .and .u64 sA sB), (.c (0)), false⟩] : List SF) := hf
  simp only [List.mem_cons, List.not_mem_nil, or_false] at hf
  rcases hf with rfl | rfl
  · exact h
  · show cmpI .neq (SE.ev (En5 o c a b).η (.o .and .u64 sA sB)) (SE.ev (En5 o c a b).η (.c (0))) = false
    have e := h
    simp only [SE.ev, hA, hB] at e ⊢
    exact e
theorem ok_b4ft (ha : 0 ≤ a ∧ a ≤ 18446744073709551615) (hb : 0 ≤ b ∧ b ≤ 18446744073709551615) (h : cmpI .neq (SE.ev (En5 o c a b).η (.o .and .u64 (.w .u32 (.v 2)) (.w .u32 (.v 3)))) (SE.ev (En5 o c a b).η (.c (0))) = true) : @FsOk F_b4ft (En5 o c a b) := by
  have hA := sA_ev (η := (En5 o c a b).η) ha.1 ha.2
  have hB := sB_ev (η := (En5 o c a b).η) hb.1 hb.2
  refine @FsOk.mk F_b4ft (En5 o c a b) (fun f hf => ?_)
  have hf : f ∈ ([⟨.neq, (.o .and .u64 (.w .u32 (.v 2)) (.w .u32 (.v 3))), (.c (0)), true⟩, ⟨.neq, (.o .and .u64 (.w .u32 sA) (.w .u32 sB)), (.c (0)), true⟩] : List SF) := hf
  simp only [List.mem_cons, List.not_mem_nil, or_false] at hf
  rcases hf with rfl | rfl
  · exact h
  · show cmpI .neq (SE.ev (En5 o c a b).η (.o .and .u64 (.w .u32 sA) (.w .u32 sB))) (SE.ev (En5 o c a b).η (.c (0))) = true
    have e := h
    simp only [SE.ev, hA, hB] at e ⊢
    exact e
theorem ok_b4ff (ha : 0 ≤ a ∧ a ≤ 18446744073709551615) (hb : 0 ≤ b ∧ b ≤ 18446744073709551615) (h : cmpI .neq (SE.ev (En5 o c a b).η (.o .and .u64 (.w .u32 (.v 2)) (.w .u32 (.v 3)))) (SE.ev (En5 o c a b).η (.c (0))) = false) : @FsOk F_b4ff (En5 o c a b) := by
  have hA := sA_ev (η := (En5 o c a b).η) ha.1 ha.2
  have hB := sB_ev (η := (En5 o c a b).η) hb.1 hb.2
  refine @FsOk.mk F_b4ff (En5 o c a b) (fun f hf => ?_)
  have hf : f ∈ ([⟨.neq, (.o .and .u64 (.w .u32 (.v 2)) (.w .u32 (.v 3))), (.c (0)), false⟩, ⟨.neq, (.o .and .u64 (.w .u32 sA) (.w .u32 sB)), (.c (0)), false⟩] : List SF) := hf
  simp only [List.mem_cons, List.not_mem_nil, or_false] at hf
  rcases hf with rfl | rfl
  · exact h
  · show cmpI .neq (SE.ev (En5 o c a b).η (.o .and .u64 (.w .u32 sA) (.w .u32 sB))) (SE.ev (En5 o c a b).η (.c (0))) = false
    have e := h
    simp only [SE.ev, hA, hB] at e ⊢
    exact e
theorem ok_b5tt (ha : 0 ≤ a ∧ a ≤ 18446744073709551615) (hb : 0 ≤ b ∧ b ≤ 18446744073709551615) (h : cmpI .neq (SE.ev (En5 o c a b).η (.v 2)) (SE.ev (En5 o c a b).η (.v 3)) = true) : @FsOk F_b5tt (En5 o c a b) := by
  have hA := sA_ev (η := (En5 o c a b).η) ha.1 ha.2
  have hB := sB_ev (η := (En5 o c a b).η) hb.1 hb.2
  refine @FsOk.mk F_b5tt (En5 o c a b) (fun f hf => ?_)
  have hf : f ∈ ([⟨.neq, (.v 2), (.v 3), true⟩, ⟨.neq, sA, sB, true⟩] : List SF) := hf
  simp only [List.mem_cons, List.not_mem_nil, or_false] at hf
  rcases hf with rfl | rfl
  · exact h
  · show cmpI .neq (SE.ev (En5 o c a b).η sA) (SE.ev (En5 o c a b).η sB) = true
    have e := h
    simp only [SE.ev, hA, hB] at e ⊢
    exact e
theorem ok_b5tf (ha : 0 ≤ a ∧ a ≤ 18446744073709551615) (hb : 0 ≤ b ∧ b ≤ 18446744073709551615) (h : cmpI .neq (SE.ev (En5 o c a b).η (.v 2)) (SE.ev (En5 o c a b).η (.v 3)) = false) : @FsOk F_b5tf (En5 o c a b) := by
  have hA := sA_ev (η := (En5 o c a b).η) ha.1 ha.2
  have hB := sB_ev (η := (En5 o c a b).η) hb.1 hb.2
  refine @FsOk.mk F_b5tf (En5 o c a b) (fun f hf => ?_)
  have hf : f ∈ ([⟨.neq, (.v 2), (.v 3), false⟩, ⟨.neq, sA, sB, false⟩] : List SF) := hf
  simp only [List.mem_cons, List.not_mem_nil, or_false] at hf
  rcases hf with rfl | rfl
  · exact h
  · show cmpI .neq (SE.ev (En5 o c a b).η sA) (SE.ev (En5 o c a b).η sB) = false
    have e := h
    simp only [SE.ev, hA, hB] at e ⊢
    exact e
theorem ok_b5ft (ha : 0 ≤ a ∧ a ≤ 18446744073709551615) (hb : 0 ≤ b ∧ b ≤ 18446744073709551615) (h : cmpI .neq (SE.ev (En5 o c a b).η (.w .u32 (.v 2))) (SE.ev (En5 o c a b).η (.w .u32 (.v 3))) = true) : @FsOk F_b5ft (En5 o c a b) := by
  have hA := sA_ev (η := (En5 o c a b).η) ha.1 ha.2
  have hB := sB_ev (η := (En5 o c a b).η) hb.1 hb.2
  refine @FsOk.mk F_b5ft (En5 o c a b) (fun f hf => ?_)
  have hf : f ∈ ([⟨.neq, (.w .u32 (.v 2)), (.w .u32 (.v 3)), true⟩, ⟨.neq, (.w .u32 sA), (.w .u32 sB), true⟩] : List SF) := hf
  simp only [List.mem_cons, List.not_mem_nil, or_false] at hf
  rcases hf with rfl | rfl
  · exact h
  · show cmpI .neq (SE.ev (En5 o c a b).η (.w .u32 sA)) (SE.ev (En5 o c a b).η (.w .u32 sB)) = true
    have e := h
    simp only [SE.ev, hA, hB] at e ⊢
    exact e
theorem ok_b5ff (ha : 0 ≤ a ∧ a ≤ 18446744073709551615) (hb : 0 ≤ b ∧ b ≤ 18446744073709551615) (h : cmpI .neq (SE.ev (En5 o c a b).η (.w .u32 (.v 2))) (SE.ev (En5 o c a b).η (.w .u32 (.v 3))) = false) : @FsOk F_b5ff (En5 o c a b) := by
  have hA := sA_ev (η := (En5 o c a b).η) ha.1 ha.2
  have hB := sB_ev (η := (En5 o c a b).η) hb.1 hb.2
  refine @FsOk.mk F_b5ff (En5 o c a b) (fun f hf => ?_)
  have hf : f ∈ ([⟨.neq, (.w .u32 (.v 2)), (.w .u32 (.v 3)), false⟩, ⟨.neq, (.w .u32 sA), (.w .u32 sB), false⟩] : List SF) := hf
  simp only [List.mem_cons, List.not_mem_nil, or_false] at hf
  rcases hf with rfl | rfl
  · exact h
  · show cmpI .neq (SE.ev (En5 o c a b).η (.w .u32 sA)) (SE.ev (En5 o c a b).η (.w .u32 sB)) = false
    have e := h
    simp only [SE.ev, hA, hB] at e ⊢
    exact e
theorem ok_b6tf (ha : 0 ≤ a ∧ a ≤ 18446744073709551615) (hb : 0 ≤ b ∧ b ≤ 18446744073709551615) (h : cmpI .gtr (SE.ev (En5 o c a b).η (.w .i64 (.v 2))) (SE.ev (En5 o c a b).η (.w .i64 (.v 3))) = false) : @FsOk F_b6tf (En5 o c a b) := by
  have hA := sA_ev (η := (En5 o c a b).η) ha.1 ha.2
  have hB := sB_ev (η := (En5 o c a b).η) hb.1 hb.2
  refine @FsOk.mk F_b6tf (En5 o c a b) (fun f hf => ?_)
  have hf : f ∈ ([⟨.gtr, (.w .i64 (.v 2)), (.w .i64 (.v 3)), false⟩, ⟨.gtr, (.w .i64 sA), (.w .i64 sB), false⟩] : List SF) := hf
  simp only [List.mem_cons, List.not_mem_nil, or_false] at hf
  rcases hf with rfl | rfl
  · exact h
  · show cmpI .gtr (SE.ev (En5 o c a b).η (.w .i64 sA)) (SE.ev (En5 o c a b).η (.w .i64 sB)) = false
    have e := h
    simp only [SE.ev, hA, hB] at e ⊢
    exact e
theorem ok_b6tt (ha : 0 ≤ a ∧ a ≤ 18446744073709551615) (hb : 0 ≤ b ∧ b ≤ 18446744073709551615) (h : cmpI .gtr (SE.ev (En5 o c a b).η (.w .i64 (.v 2))) (SE.ev (En5 o c a b).η (.w .i64 (.v 3))) = true) : @FsOk F_b6tt (En5 o c a b) := by
  have hA := sA_ev (η := (En5 o c a b).η) ha.1 ha.2
  have hB := sB_ev (η := (En5 o c a b).η) hb.1 hb.2
  refine @FsOk.mk F_b6tt (En5 o c a b) (fun f hf => ?_)
  have hf : f ∈ ([⟨.gtr, (.w .i64 (.v 2)), (.w .i64 (.v 3)), true⟩, ⟨.gtr, (.w .i64 sA), (.w .i64 sB), true⟩] : List SF) := hf
  simp only [List.mem_cons, List.not_mem_nil, or_false] at hf
  rcases hf with rfl | rfl
  · exact h
  · show cmpI .gtr (SE.ev (En5 o c a b).η (.w .i64 sA)) (SE.ev (En5 o c a b).η (.w .i64 sB)) = true
    have e := h
    simp only [SE.ev, hA, hB] at e ⊢
    exact e
theorem ok_b6ff (ha : 0 ≤ a ∧ a ≤ 18446744073709551615) (hb : 0 ≤ b ∧ b ≤ 18446744073709551615) (h : cmpI .gtr (SE.ev (En5 o c a b).η (.w .i32 (.v 2))) (SE.ev (En5 o c a b).η (.w .i32 (.v 3))) = false) : @FsOk F_b6ff (En5 o c a b) := by
  have hA := sA_ev (η := (En5 o c a b).η) ha.1 ha.2
  have hB := sB_ev (η := (En5 o c a b).η) hb.1 hb.2
  refine @FsOk.mk F_b6ff (En5 o c a b) (fun f hf => ?_)
  have hf : f ∈ ([⟨.gtr, (.w .i32 (.v 2)), (.w .i32 (.v 3)), false⟩, ⟨.gtr, (.w .i32 sA), (.w .i32 sB), false⟩] : List SF) := hf
  simp only [List.mem_cons, List.not_mem_nil, or_false] at hf
  rcases hf with rfl | rfl
  · exact h
  · show cmpI .gtr (SE.ev (En5 o c a b).η (.w .i32 sA)) (SE.ev (En5 o c a b).η (.w .i32 sB)) = false
    have e := h
    simp only [SE.ev, hA, hB] at e ⊢
    exact e
theorem ok_b6ft (ha : 0 ≤ a ∧ a ≤ 18446744073709551615) (hb : 0 ≤ b ∧ b ≤ 18446744073709551615) (h : cmpI .gtr (SE.ev (En5 o c a b).η (.w .i32 (.v 2))) (SE.ev (En5 o c a b).η (.w .i32 (.v 3))) = true) : @FsOk F_b6ft (En5 o c a b) := by
  have hA := sA_ev (η := (En5 o c a b).η) ha.1 ha.2
  have hB := sB_ev (η := (En5 o c a b).η) hb.1 hb.2
  refine @FsOk.mk F_b6ft (En5 o c a b) (fun f hf => ?_)
  have hf : f ∈ ([⟨.gtr, (.w .i32 (.v 2)), (.w .i32 (.v 3)), true⟩, ⟨.gtr, (.w .i32 sA), (.w .i32 sB), true⟩] : List SF) := hf
  simp only [List.mem_cons, List.not_mem_nil, or_false] at hf
  rcases hf with rfl | rfl
  · exact h
  · show cmpI .gtr (SE.ev (En5 o c a b).η (.w .i32 sA)) (SE.ev (En5 o c a b).η (.w .i32 sB)) = true
    have e := h
    simp only [SE.ev, hA, hB] at e ⊢
    exact e
theorem ok_b7tf (ha : 0 ≤ a ∧ a ≤ 18446744073709551615) (hb : 0 ≤ b ∧ b ≤ 18446744073709551615) (h : cmpI .geq (SE.ev (En5 o c a b).η (.w .i64 (.v 2))) (SE.ev (En5 o c a b).η (.w .i64 (.v 3))) = false) : @FsOk F_b7tf (En5 o c a b) := by
  have hA := sA_ev (η := (En5 o c a b).η) ha.1 ha.2
  have hB := sB_ev (η := (En5 o c a b).η) hb.1 hb.2
  refine @FsOk.mk F_b7tf (En5 o c a b) (fun f hf => ?_)
  have hf : f ∈ ([⟨.geq, (.w .i64 (.v 2)), (.w .i64 (.v 3)), false⟩, ⟨.geq, (.w .i64 sA), (.w .i64 sB), false⟩] : List SF) := hf
  simp only [List.mem_cons, List.not_mem_nil, or_false] at hf
  rcases hf with rfl | rfl
  · exact h
  · show cmpI .geq (SE.ev (En5 o c a b).η (.w .i64 sA)) (SE.ev (En5 o c a b).η (.w .i64 sB)) = false
    have e := h
    simp only [SE.ev, hA, hB] at e ⊢
    exact e
theorem ok_b7tt (ha : 0 ≤ a ∧ a ≤ 18446744073709551615) (hb : 0 ≤ b ∧ b ≤ 18446744073709551615) (h : cmpI .geq (SE.ev (En5 o c a b).η (.w .i64 (.v 2))) (SE.ev (En5 o c a b).η (.w .i64 (.v 3))) = true) : @FsOk F_b7tt (En5 o c a b) := by
  have hA := sA_ev (η := (En5 o c a b).η) ha.1 ha.2
  have hB := sB_ev (η := (En5 o c a b).η) hb.1 hb.2
  refine @FsOk.mk F_b7tt (En5 o c a b) (fun f hf => ?_)
  have hf : f ∈ ([⟨.geq, (.w .i64 (.v 2)), (.w .i64 (.v 3)), true⟩, ⟨.geq, (.w .i64 sA), (.w .i64 sB), true⟩] : List SF) := hf
  simp only [List.mem_cons, List.not_mem_nil, or_false] at hf
  rcases hf with rfl | rfl
  · exact h
  · show cmpI .geq (SE.ev (En5 o c a b).η (.w .i64 sA)) (SE.ev (En5 o c a b).η (.w .i64 sB)) = true
    have e := h
    simp only [SE.ev, hA, hB] at e ⊢
    exact e
theorem ok_b7ff (ha : 0 ≤ a ∧ a ≤ 18446744073709551615) (hb : 0 ≤ b ∧ b ≤ 18446744073709551615) (h : cmpI .geq (SE.ev (En5 o c a b).η (.w .i32 (.v 2))) (SE.ev (En5 o c a b).η (.w .i32 (.v 3))) = false) : @FsOk F_b7ff (En5 o c a b) := by
  have hA := sA_ev (η := (En5 o c a b).η) ha.1 ha.2
  have hB := sB_ev (η := (En5 o c a b).η) hb.1 hb.2
  refine @FsOk.mk F_b7ff (En5 o c a b) (fun f hf => ?_)
  have hf : f ∈ ([⟨.geq, (.w .i32 (.v 2)), (.w .i32 (.v 3)), false⟩, ⟨.geq, (.w .i32 sA), (.w .i32 sB), false⟩] : List SF) := hf
  simp only [List.mem_cons, List.not_mem_nil, or_false] at hf
  rcases hf with rfl | rfl
  · exact h
  · show cmpI .geq (SE.ev (En5 o c a b).η (.w .i32 sA)) (SE.ev (En5 o c a b).η (.w .i32 sB)) = false
    have e := h
    simp only [SE.ev, hA, hB] at e ⊢
    exact e
theorem ok_b7ft (ha : 0 ≤ a ∧ a ≤ 18446744073709551615) (hb : 0 ≤ b ∧ b ≤ 18446744073709551615) (h : cmpI .geq (SE.ev (En5 o c a b).η (.w .i32 (.v 2))) (SE.ev (En5 o c a b).η (.w .i32 (.v 3))) = true) : @FsOk F_b7ft (En5 o c a b) := by
  have hA := sA_ev (η := (En5 o c a b).η) ha.1 ha.2
  have hB := sB_ev (η := (En5 o c a b).η) hb.1 hb.2
  refine @FsOk.mk F_b7ft (En5 o c a b) (fun f hf => ?_)
  have hf : f ∈ ([⟨.geq, (.w .i32 (.v 2)), (.w .i32 (.v 3)), true⟩, ⟨.geq, (.w .i32 sA), (.w .i32 sB), true⟩] : List SF) := hf
  simp only [List.mem_cons, List.not_mem_nil, or_false] at hf
  rcases hf with rfl | rfl
  · exact h
  · show cmpI .geq (SE.ev (En5 o c a b).η (.w .i32 sA)) (SE.ev (En5 o c a b).η (.w .i32 sB)) = true
    have e := h
    simp only [SE.ev, hA, hB] at e ⊢
    exact e
theorem ok_b8t (ha : 0 ≤ a ∧ a ≤ 18446744073709551615) (hb : 0 ≤ b ∧ b ≤ 18446744073709551615) : @FsOk F_b8t (En5 o c a b) := by
  exact @FsOk.mk F_b8t (En5 o c a b) (fun f hf => by cases hf)
theorem ok_b8f (ha : 0 ≤ a ∧ a ≤ 18446744073709551615) (hb : 0 ≤ b ∧ b ≤ 18446744073709551615) : @FsOk F_b8f (En5 o c a b) := by
  exact @FsOk.mk F_b8f (En5 o c a b) (fun f hf => by cases hf)
theorem ok_b9t (ha : 0 ≤ a ∧ a ≤ 18446744073709551615) (hb : 0 ≤ b ∧ b ≤ 18446744073709551615) : @FsOk F_b9t (En5 o c a b) := by
  exact @FsOk.mk F_b9t (En5 o c a b) (fun f hf => by cases hf)
theorem ok_b9f (ha : 0 ≤ a ∧ a ≤ 18446744073709551615) (hb : 0 ≤ b ∧ b ≤ 18446744073709551615) : @FsOk F_b9f (En5 o c a b) := by
  exact @FsOk.mk F_b9f (En5 o c a b) (fun f hf => by cases hf)
theorem ok_b10tt (ha : 0 ≤ a ∧ a ≤ 18446744073709551615) (hb : 0 ≤ b ∧ b ≤ 18446744073709551615) (h : cmpI .lss (SE.ev (En5 o c a b).η (.v 2)) (SE.ev (En5 o c a b).η (.v 3)) = true) : @FsOk F_b10tt (En5 o c a b) := by
  have hA := sA_ev (η := (En5 o c a b).η) ha.1 ha.2
  have hB := sB_ev (η := (En5 o c a b).η) hb.1 hb.2
  refine @FsOk.mk F_b10tt (En5 o c a b) (fun f hf => ?_)
  have hf : f ∈ ([⟨.lss, (.v 2), (.v 3), true⟩, ⟨.lss, sA, sB, true⟩] : List SF) := hf
  simp only [List.mem_cons, List.not_mem_nil, or_false] at hf
  rcases hf with rfl | rfl
  · exact h
  · show cmpI .lss (SE.ev (En5 o c a b).η sA) (SE.ev (En5 o c a b).η sB) = true
    have e := h
    simp only [SE.ev, hA, hB] at e ⊢
    exact e
theorem ok_b10tf (ha : 0 ≤ a ∧ a ≤ 18446744073709551615) (hb : 0 ≤ b ∧ b ≤ 18446744073709551615) (h : cmpI .lss (SE.ev (En5 o c a b).η (.v 2)) (SE.ev (En5 o c a b).η (.v 3)) = false) : @FsOk F_b10tf (En5 o c a b) := by
  have hA := sA_ev (η := (En5 o c a b).η) ha.1 ha.2
  have hB := sB_ev (η := (En5 o c a b).η) hb.1 hb.2
  refine @FsOk.mk F_b10tf (En5 o c a b) (fun f hf => ?_)
  have hf : f ∈ ([⟨.lss, (.v 2), (.v 3), false⟩, ⟨.lss, sA, sB, false⟩] : List SF) := hf
  simp only [List.mem_cons, List.not_mem_nil, or_false] at hf
  rcases hf with rfl | rfl
  · exact h
  · show cmpI .lss (SE.ev (En5 o c a b).η sA) (SE.ev (En5 o c a b).η sB) = false
    have e := h
    simp only [SE.ev, hA, hB] at e ⊢
    exact e
theorem ok_b10ft (ha : 0 ≤ a ∧ a ≤ 18446744073709551615) (hb : 0 ≤ b ∧ b ≤ 18446744073709551615) (h : cmpI .lss (SE.ev (En5 o c a b).η (.w .u32 (.v 2))) (SE.ev (En5 o c a b).η (.w .u32 (.v 3))) = true) : @FsOk F_b10ft (En5 o c a b) := by
  have hA := sA_ev (η := (En5 o c a b).η) ha.1 ha.2
  have hB := sB_ev (η := (En5 o c a b).η) hb.1 hb.2
  refine @FsOk.mk F_b10ft (En5 o c a b) (fun f hf => ?_)
  have hf : f ∈ ([⟨.lss, (.w .u32 (.v 2)), (.w .u32 (.v 3)), true⟩, ⟨.lss, (.w .u32 sA), (.w .u32 sB), true⟩] : List SF) := hf
  simp only [List.mem_cons, List.not_mem_nil, or_false] at hf
  rcases hf with rfl | rfl
  · exact h
  · show cmpI .lss (SE.ev (En5 o c a b).η (.w .u32 sA)) (SE.ev (En5 o c a b).η (.w .u32 sB)) = true
    have e := h
    simp only [SE.ev, hA, hB] at e ⊢
    exact e
theorem ok_b10ff (ha : 0 ≤ a ∧ a ≤ 18446744073709551615) (hb : 0 ≤ b ∧ b ≤ 18446744073709551615) (h : cmpI .lss (SE.ev (En5 o c a b).η (.w .u32 (.v 2))) (SE.ev (En5 o c a b).η (.w .u32 (.v 3))) = false) : @FsOk F_b10ff (En5 o c a b) := by
  have hA := sA_ev (η := (En5 o c a b).η) ha.1 ha.2
  have hB := sB_ev (η := (En5 o c a b).η) hb.1 hb.2
  refine @FsOk.mk F_b10ff (En5 o c a b) (fun f hf => ?_)
  have hf : f ∈ ([⟨.lss, (.w .u32 (.v 2)), (.w .u32 (.v 3)), false⟩, ⟨.lss, (.w .u32 sA), (.w .u32 sB), false⟩] : List SF) := hf
  simp only [List.mem_cons, List.not_mem_nil, or_false] at hf
  rcases hf with rfl | rfl
  · exact h
  · show cmpI .lss (SE.ev (En5 o c a b).η (.w .u32 sA)) (SE.ev (En5 o c a b).η (.w .u32 sB)) = false
    have e := h
    simp only [SE.ev, hA, hB] at e ⊢
    exact e
theorem ok_b11tt (ha : 0 ≤ a ∧ a ≤ 18446744073709551615) (hb : 0 ≤ b ∧ b ≤ 18446744073709551615) (h : cmpI .leq (SE.ev (En5 o c a b).η (.v 2)) (SE.ev (En5 o c a b).η (.v 3)) = true) : @FsOk F_b11tt (En5 o c a b) := by
  have hA := sA_ev (η := (En5 o c a b).η) ha.1 ha.2
  have hB := sB_ev (η := (En5 o c a b).η) hb.1 hb.2
  refine @FsOk.mk F_b11tt (En5 o c a b) (fun f hf => ?_)
  have hf : f ∈ ([⟨.leq, (.v 2), (.v 3), true⟩, ⟨.leq, sA, sB, true⟩] : List SF) := hf
  simp only [List.mem_cons, List.not_mem_nil, or_false] at hf
  rcases hf with rfl | rfl
  · exact h
  · show cmpI .leq (SE.ev (En5 o c a b).η sA) (SE.ev (En5 o c a b).η sB) = true
    have e := h
    simp only [SE.ev, hA, hB] at e ⊢
    exact e
theorem ok_b11tf (ha : 0 ≤ a ∧ a ≤ 18446744073709551615) (hb : 0 ≤ b ∧ b ≤ 18446744073709551615) (h : cmpI .leq (SE.ev (En5 o c a b).η (.v 2)) (SE.ev (En5 o c a b).η (.v 3)) = false) : @FsOk F_b11tf (En5 o c a b) := by
  have hA := sA_ev (η := (En5 o c a b).η) ha.1 ha.2
  have hB := sB_ev (η := (En5 o c a b).η) hb.1 hb.2
  refine @FsOk.mk F_b11tf (En5 o c a b) (fun f hf => ?_)
  have hf : f ∈ ([⟨.leq, (.v 2), (.v 3), false⟩, ⟨.leq, sA, sB, false⟩] : List SF) := hf
  simp only [List.mem_cons, List.not_mem_nil, or_false] at hf
  rcases hf with rfl | rfl
  · exact h
  · show cmpI .leq (SE.ev (En5 o c a b).η sA) (SE.ev (En5 o c a b).η sB) = false
    have e := h
    simp only [SE.ev, hA, hB] at e ⊢
    exact e
theorem ok_b11ft (ha : 0 ≤ a ∧ a ≤ 18446744073709551615) (hb : 0 ≤ b ∧ b ≤ 18446744073709551615) (h : cmpI .leq (SE.ev (En5 o c a b).η (.w .u32 (.v 2))) (SE.ev (En5 o c a b).η (.w .u32 (.v 3))) = true) : @FsOk F_b11ft (En5 o c a b) := by
  have hA := sA_ev (η := (En5 o c a b).η) ha.1 ha.2
  have hB := sB_ev (η := (En5 o c a b).η) hb.1 hb.2
  refine @FsOk.mk F_b11ft (En5 o c a b) (fun f hf => ?_)
  have hf : f ∈ ([⟨.leq, (.w .u32 (.v 2)), (.w .u32 (.v 3)), true⟩, ⟨.leq, (.w .u32 sA), (.w .u32 sB), true⟩] : List SF) := hf
  simp only [List.mem_cons, List.not_mem_nil, or_false] at hf
  rcases hf with rfl | rfl
  · exact h
  · show cmpI .leq (SE.ev (En5 o c a b).η (.w .u32 sA)) (SE.ev (En5 o c a b).η (.w .u32 sB)) = true
    have e := h
    simp only [SE.ev, hA, hB] at e ⊢
    exact e
theorem ok_b11ff (ha : 0 ≤ a ∧ a ≤ 18446744073709551615) (hb : 0 ≤ b ∧ b ≤ 18446744073709551615) (h : cmpI .leq (SE.ev (En5 o c a b).η (.w .u32 (.v 2))) (SE.ev (En5 o c a b).η (.w .u32 (.v 3))) = false) : @FsOk F_b11ff (En5 o c a b) := by
  have hA := sA_ev (η := (En5 o c a b).η) ha.1 ha.2
  have hB := sB_ev (η := (En5 o c a b).η) hb.1 hb.2
  refine @FsOk.mk F_b11ff (En5 o c a b) (fun f hf => ?_)
  have hf : f ∈ ([⟨.leq, (.w .u32 (.v 2)), (.w .u32 (.v 3)), false⟩, ⟨.leq, (.w .u32 sA), (.w .u32 sB), false⟩] : List SF) := hf
  simp only [List.mem_cons, List.not_mem_nil, or_false] at hf
  rcases hf with rfl | rfl
  · exact h
  · show cmpI .leq (SE.ev (En5 o c a b).η (.w .u32 sA)) (SE.ev (En5 o c a b).η (.w .u32 sB)) = false
    have e := h
    simp only [SE.ev, hA, hB] at e ⊢
    exact e
theorem ok_b12tt (ha : 0 ≤ a ∧ a ≤ 18446744073709551615) (hb : 0 ≤ b ∧ b ≤ 18446744073709551615) (h : cmpI .lss (SE.ev (En5 o c a b).η (.w .i64 (.v 2))) (SE.ev (En5 o c a b).η (.w .i64 (.v 3))) = true) : @FsOk F_b12tt (En5 o c a b) := by
  have hA := sA_ev (η := (En5 o c a b).η) ha.1 ha.2
  have hB := sB_ev (η := (En5 o c a b).η) hb.1 hb.2
  refine @FsOk.mk F_b12tt (En5 o c a b) (fun f hf => ?_)
  have hf : f ∈ ([⟨.lss, (.w .i64 (.v 2)), (.w .i64 (.v 3)), true⟩, ⟨.lss, (.w .i64 sA), (.w .i64 sB), true⟩] : List SF) := hf
  simp only [List.mem_cons, List.not_mem_nil, or_false] at hf
  rcases hf with rfl | rfl
  · exact h
  · show cmpI .lss (SE.ev (En5 o c a b).η (.w .i64 sA)) (SE.ev (En5 o c a b).η (.w .i64 sB)) = true
    have e := h
    simp only [SE.ev, hA, hB] at e ⊢
    exact e
theorem ok_b12tf (ha : 0 ≤ a ∧ a ≤ 18446744073709551615) (hb : 0 ≤ b ∧ b ≤ 18446744073709551615) (h : cmpI .lss (SE.ev (En5 o c a b).η (.w .i64 (.v 2))) (SE.ev (En5 o c a b).η (.w .i64 (.v 3))) = false) : @FsOk F_b12tf (En5 o c a b) := by
  have hA := sA_ev (η := (En5 o c a b).η) ha.1 ha.2
  have hB := sB_ev (η := (En5 o c a b).η) hb.1 hb.2
  refine @FsOk.mk F_b12tf (En5 o c a b) (fun f hf => ?_)
  have hf : f ∈ ([⟨.lss, (.w .i64 (.v 2)), (.w .i64 (.v 3)), false⟩, ⟨.lss, (.w .i64 sA), (.w .i64 sB), false⟩] : List SF) := hf
  simp only [List.mem_cons, List.not_mem_nil, or_false] at hf
  rcases hf with rfl | rfl
  · exact h
  · show cmpI .lss (SE.ev (En5 o c a b).η (.w .i64 sA)) (SE.ev (En5 o c a b).η (.w .i64 sB)) = false
    have e := h
    simp only [SE.ev, hA, hB] at e ⊢
    exact e
theorem ok_b12ft (ha : 0 ≤ a ∧ a ≤ 18446744073709551615) (hb : 0 ≤ b ∧ b ≤ 18446744073709551615) (h : cmpI .lss (SE.ev (En5 o c a b).η (.w .i32 (.v 2))) (SE.ev (En5 o c a b).η (.w .i32 (.v 3))) = true) : @FsOk F_b12ft (En5 o c a b) := by
  have hA := sA_ev (η := (En5 o c a b).η) ha.1 ha.2
  have hB := sB_ev (η := (En5 o c a b).η) hb.1 hb.2
  refine @FsOk.mk F_b12ft (En5 o c a b) (fun f hf => ?_)
  have hf : f ∈ ([⟨.lss, (.w .i32 (.v 2)), (.w .i32 (.v 3)), true⟩, ⟨.lss, (.w .i32 sA), (.w .i32 sB), true⟩] : List SF) := hf
  simp only [List.mem_cons, List.not_mem_nil, or_false] at hf
  rcases hf with rfl | rfl
  · exact h
  · show cmpI .lss (SE.ev (En5 o c a b).η (.w .i32 sA)) (SE.ev (En5 o c a b).η (.w .i32 sB)) = true
    have e := h
    simp only [SE.ev, hA, hB] at e ⊢
    exact e
theorem ok_b12ff (ha : 0 ≤ a ∧ a ≤ 18446744073709551615) (hb : 0 ≤ b ∧ b ≤ 18446744073709551615) (h : cmpI .lss (SE.ev (En5 o c a b).η (.w .i32 (.v 2))) (SE.ev (En5 o c a b).η (.w .i32 (.v 3))) = false) : @FsOk F_b12ff (En5 o c a b) := by
  have hA := sA_ev (η := (En5 o c a b).η) ha.1 ha.2
  have hB := sB_ev (η := (En5 o c a b).η) hb.1 hb.2
  refine @FsOk.mk F_b12ff (En5 o c a b) (fun f hf => ?_)
  have hf : f ∈ ([⟨.lss, (.w .i32 (.v 2)), (.w .i32 (.v 3)), false⟩, ⟨.lss, (.w .i32 sA), (.w .i32 sB), false⟩] : List SF) := hf
  simp only [List.mem_cons, List.not_mem_nil, or_false] at hf
  rcases hf with rfl | rfl
  · exact h
  · show cmpI .lss (SE.ev (En5 o c a b).η (.w .i32 sA)) (SE.ev (En5 o c a b).η (.w .i32 sB)) = false
    have e := h
    simp only [SE.ev, hA, hB] at e ⊢
    exact e
theorem ok_b13tt (ha : 0 ≤ a ∧ a ≤ 18446744073709551615) (hb : 0 ≤ b ∧ b ≤ 18446744073709551615) (h : cmpI .leq (SE.ev (En5 o c a b).η (.w .i64 (.v 2))) (SE.ev (En5 o c a b).η (.w .i64 (.v 3))) = true) : @FsOk F_b13tt (En5 o c a b) := by
  have hA := sA_ev (η := (En5 o c a b).η) ha.1 ha.2
  have hB := sB_ev (η := (En5 o c a b).η) hb.1 hb.2
  refine @FsOk.mk F_b13tt (En5 o c a b) (fun f hf => ?_)
  have hf : f ∈ ([⟨.leq, (.w .i64 (.v 2)), (.w .i64 (.v 3)), true⟩, ⟨.leq, (.w .i64 sA), (.w .i64 sB), true⟩] : List SF) := hf
  simp only [List.mem_cons, List.not_mem_nil, or_false] at hf
  rcases hf with rfl | rfl
  · exact h
  · show cmpI .leq (SE.ev (En5 o c a b).η (.w .i64 sA)) (SE.ev (En5 o c a b).η (.w .i64 sB)) = true
    have e := h
    simp only [SE.ev, hA, hB] at e ⊢
    exact e
theorem ok_b13tf (ha : 0 ≤ a ∧ a ≤ 18446744073709551615) (hb : 0 ≤ b ∧ b ≤ 18446744073709551615) (h : cmpI .leq (SE.ev (En5 o c a b).η (.w .i64 (.v 2))) (SE.ev (En5 o c a b).η (.w .i64 (.v 3))) = false) : @FsOk F_b13tf (En5 o c a b) := by
  have hA := sA_ev (η := (En5 o c a b).η) ha.1 ha.2
  have hB := sB_ev (η := (En5 o c a b).η) hb.1 hb.2
  refine @FsOk.mk F_b13tf (En5 o c a b) (fun f hf => ?_)
  have hf : f ∈ ([⟨.leq, (.w .i64 (.v 2)), (.w .i64 (.v 3)), false⟩, ⟨.leq, (.w .i64 sA), (.w .i64 sB), false⟩] : List SF) := hf
  simp only [List.mem_cons, List.not_mem_nil, or_false] at hf
  rcases hf with rfl | rfl
  · exact h
  · show cmpI .leq (SE.ev (En5 o c a b).η (.w .i64 sA)) (SE.ev (En5 o c a b).η (.w .i64 sB)) = false
    have e := h
    simp only [SE.ev, hA, hB] at e ⊢
    exact e
theorem ok_b13ft (ha : 0 ≤ a ∧ a ≤ 18446744073709551615) (hb : 0 ≤ b ∧ b ≤ 18446744073709551615) (h : cmpI .leq (SE.ev (En5 o c a b).η (.w .i32 (.v 2))) (SE.ev (En5 o c a b).η (.w .i32 (.v 3))) = true) : @FsOk F_b13ft (En5 o c a b) := by
  have hA := sA_ev (η := (En5 o c a b).η) ha.1 ha.2
  have hB := sB_ev (η := (En5 o c a b).η) hb.1 hb.2
  refine @FsOk.mk F_b13ft (En5 o c a b) (fun f hf => ?_)
  have hf : f ∈ ([⟨.leq, (.w .i32 (.v 2)), (.w .i32 (.v 3)), true⟩, ⟨.leq, (.w .i32 sA), (.w .i32 sB), true⟩] : List SF) := hf
  simp only [List.mem_cons, List.not_mem_nil, or_false] at hf
  rcases hf with rfl | rfl
  · exact h
  · show cmpI .leq (SE.ev (En5 o c a b).η (.w .i32 sA)) (SE.ev (En5 o c a b).η (.w .i32 sB)) = true
    have e := h
    simp only [SE.ev, hA, hB] at e ⊢
    exact e
theorem ok_b13ff (ha : 0 ≤ a ∧ a ≤ 18446744073709551615) (hb : 0 ≤ b ∧ b ≤ 18446744073709551615) (h : cmpI .leq (SE.ev (En5 o c a b).η (.w .i32 (.v 2))) (SE.ev (En5 o c a b).η (.w .i32 (.v 3))) = false) : @FsOk F_b13ff (En5 o c a b) := by
  have hA := sA_ev (η := (En5 o c a b).η) ha.1 ha.2
  have hB := sB_ev (η := (En5 o c a b).η) hb.1 hb.2
  refine @FsOk.mk F_b13ff (En5 o c a b) (fun f hf => ?_)
  have hf : f ∈ ([⟨.leq, (.w .i32 (.v 2)), (.w .i32 (.v 3)), false⟩, ⟨.leq, (.w .i32 sA), (.w .i32 sB), false⟩] : List SF) := hf
  simp only [List.mem_cons, List.not_mem_nil, or_false] at hf
  rcases hf with rfl | rfl
  · exact h
  · show cmpI .leq (SE.ev (En5 o c a b).η (.w .i32 sA)) (SE.ev (En5 o c a b).η (.w .i32 sB)) = false
    have e := h
    simp only [SE.ev, hA, hB] at e ⊢
    exact e
theorem ok_bLot (ha : 0 ≤ a ∧ a ≤ 18446744073709551615) (hb : 0 ≤ b ∧ b ≤ 18446744073709551615) : @FsOk F_bLot (En5 o c a b) := by
  exact @FsOk.mk F_bLot (En5 o c a b) (fun f hf => by cases hf)
theorem ok_bLof (ha : 0 ≤ a ∧ a ≤ 18446744073709551615) (hb : 0 ≤ b ∧ b ≤ 18446744073709551615) : @FsOk F_bLof (En5 o c a b) := by
  exact @FsOk.mk F_bLof (En5 o c a b) (fun f hf => by cases hf)
theorem ok_bHit (ha : 0 ≤ a ∧ a ≤ 18446744073709551615) (hb : 0 ≤ b ∧ b ≤ 18446744073709551615) : @FsOk F_bHit (En5 o c a b) := by
  exact @FsOk.mk F_bHit (En5 o c a b) (fun f hf => by cases hf)
theorem ok_bHif (ha : 0 ≤ a ∧ a ≤ 18446744073709551615) (hb : 0 ≤ b ∧ b ≤ 18446744073709551615) : @FsOk F_bHif (En5 o c a b) := by
  exact @FsOk.mk F_bHif (En5 o c a b) (fun f hf => by cases hf)
theorem st0 (ha : 0 ≤ a ∧ a ≤ 18446744073709551615) (hb : 0 ≤ b ∧ b ≤ 18446744073709551615) {p1 : PV} {w : Bool} (g : @Ends (En5 o c a b) d9 (T2 p1 w) H2) : @Ends (En5 o c a b) d2 (T1 (.it .i64 0) p1 (.bl w) sa sb) ⟨.lf, 1197⟩ := by
  cases w with
  | true => exact goA (E := (En5 o c a b)) (ok_a0t ha hb) (r_a0t p1) g
  | false => exact goA (E := (En5 o c a b)) (ok_a0f ha hb) (r_a0f p1) g
theorem st1 (ha : 0 ≤ a ∧ a ≤ 18446744073709551615) (hb : 0 ≤ b ∧ b ≤ 18446744073709551615) {p1 : PV} {w : Bool} (g : @Ends (En5 o c a b) d9 (T2 p1 w) H2) : @Ends (En5 o c a b) d2 (T1 (.it .i64 1) p1 (.bl w) sa sb) ⟨.lf, 1197⟩ := by
  cases w with
  | true => exact goA (E := (En5 o c a b)) (ok_a1t ha hb) (r_a1t p1) g
  | false => exact goA (E := (En5 o c a b)) (ok_a1f ha hb) (r_a1f p1) g
theorem st2 (ha : 0 ≤ a ∧ a ≤ 18446744073709551615) (hb : 0 ≤ b ∧ b ≤ 18446744073709551615) {p1 : PV} {w : Bool} (g : @Ends (En5 o c a b) d9 (T2 p1 w) H2) : @Ends (En5 o c a b) d2 (T1 (.it .i64 2) p1 (.bl w) sa sb) ⟨.lf, 1197⟩ := by
  cases w with
  | true => exact goA (E := (En5 o c a b)) (ok_a2t ha hb) (r_a2t p1) g
  | false => exact goA (E := (En5 o c a b)) (ok_a2f ha hb) (r_a2f p1) g
theorem st3 (ha : 0 ≤ a ∧ a ≤ 18446744073709551615) (hb : 0 ≤ b ∧ b ≤ 18446744073709551615) {p1 : PV} {w : Bool} (g : @Ends (En5 o c a b) d9 (T2 p1 w) H2) : @Ends (En5 o c a b) d2 (T1 (.it .i64 3) p1 (.bl w) sa sb) ⟨.lf, 1197⟩ := by
  cases w with
  | true =>
    cases h : cmpI .eql (SE.ev (En5 o c a b).η (.v 3)) (SE.ev (En5 o c a b).η (.c (0))) with
    | false => exact goA (E := (En5 o c a b)) (ok_a3tn ha hb h) (r_a3tn p1) g
    | true => exact goA (E := (En5 o c a b)) (ok_a3tz ha hb h) (r_a3tz p1) g
  | false =>
    cases h : cmpI .eql (SE.ev (En5 o c a b).η (.w .u32 (.v 3))) (SE.ev (En5 o c a b).η (.c (0))) with
    | false => exact goA (E := (En5 o c a b)) (ok_a3fn ha hb h) (r_a3fn p1) g
    | true => exact goA (E := (En5 o c a b)) (ok_a3fz ha hb h) (r_a3fz p1) g
theorem st4 (ha : 0 ≤ a ∧ a ≤ 18446744073709551615) (hb : 0 ≤ b ∧ b ≤ 18446744073709551615) {p1 : PV} {w : Bool} (g : @Ends (En5 o c a b) d9 (T2 p1 w) H2) : @Ends (En5 o c a b) d2 (T1 (.it .i64 4) p1 (.bl w) sa sb) ⟨.lf, 1197⟩ := by
  cases w with
  | true => exact goA (E := (En5 o c a b)) (ok_a4t ha hb) (r_a4t p1) g
  | false => exact goA (E := (En5 o c a b)) (ok_a4f ha hb) (r_a4f p1) g
theorem st5 (ha : 0 ≤ a ∧ a ≤ 18446744073709551615) (hb : 0 ≤ b ∧ b ≤ 18446744073709551615) {p1 : PV} {w : Bool} (g : @Ends (En5 o c a b) d9 (T2 p1 w) H2) : @Ends (En5 o c a b) d2 (T1 (.it .i64 5) p1 (.bl w) sa sb) ⟨.lf, 1197⟩ := by
  cases w with
  | true => exact goA (E := (En5 o c a b)) (ok_a5t ha hb) (r_a5t p1) g
  | false => exact goA (E := (En5 o c a b)) (ok_a5f ha hb) (r_a5f p1) g
theorem st6 (ha : 0 ≤ a ∧ a ≤ 18446744073709551615) (hb : 0 ≤ b ∧ b ≤ 18446744073709551615) {p1 : PV} {w : Bool} (g : @Ends (En5 o c a b) d9 (T2 p1 w) H2) : @Ends (En5 o c a b) d2 (T1 (.it .i64 6) p1 (.bl w) sa sb) ⟨.lf, 1197⟩ := by
  cases w with
  | true => exact goA (E := (En5 o c a b)) (ok_a6t ha hb) (r_a6t p1) g
  | false => exact goA (E := (En5 o c a b)) (ok_a6f ha hb) (r_a6f p1) g
theorem st7 (ha : 0 ≤ a ∧ a ≤ 18446744073709551615) (hb : 0 ≤ b ∧ b ≤ 18446744073709551615) {p1 : PV} {w : Bool} (g : @Ends (En5 o c a b) d9 (T2 p1 w) H2) : @Ends (En5 o c a b) d2 (T1 (.it .i64 7) p1 (.bl w) sa sb) ⟨.lf, 1197⟩ := by
  cases w with
  | true => exact goA (E := (En5 o c a b)) (ok_a7t ha hb) (r_a7t p1) g
  | false => exact goA (E := (En5 o c a b)) (ok_a7f ha hb) (r_a7f p1) g
theorem st9 (ha : 0 ≤ a ∧ a ≤ 18446744073709551615) (hb : 0 ≤ b ∧ b ≤ 18446744073709551615) {p1 : PV} {w : Bool} (g : @Ends (En5 o c a b) d9 (T2 p1 w) H2) : @Ends (En5 o c a b) d2 (T1 (.it .i64 9) p1 (.bl w) sa sb) ⟨.lf, 1197⟩ := by
  cases w with
  | true =>
    cases h : cmpI .eql (SE.ev (En5 o c a b).η (.v 3)) (SE.ev (En5 o c a b).η (.c (0))) with
    | false => exact goA (E := (En5 o c a b)) (ok_a9tn ha hb h) (r_a9tn p1) g
    | true => exact goA (E := (En5 o c a b)) (ok_a9tz ha hb h) (r_a9tz p1) g
  | false =>
    cases h : cmpI .eql (SE.ev (En5 o c a b).η (.w .u32 (.v 3))) (SE.ev (En5 o c a b).η (.c (0))) with
    | false => exact goA (E := (En5 o c a b)) (ok_a9fn ha hb h) (r_a9fn p1) g
    | true => exact goA (E := (En5 o c a b)) (ok_a9fz ha hb h) (r_a9fz p1) g
theorem st10 (ha : 0 ≤ a ∧ a ≤ 18446744073709551615) (hb : 0 ≤ b ∧ b ≤ 18446744073709551615) {p1 : PV} {w : Bool} (g : @Ends (En5 o c a b) d9 (T2 p1 w) H2) : @Ends (En5 o c a b) d2 (T1 (.it .i64 10) p1 (.bl w) sa sb) ⟨.lf, 1197⟩ := by
  cases w with
  | true => exact goA (E := (En5 o c a b)) (ok_a10t ha hb) (r_a10t p1) g
  | false => exact goA (E := (En5 o c a b)) (ok_a10f ha hb) (r_a10f p1) g
theorem st11 (ha : 0 ≤ a ∧ a ≤ 18446744073709551615) (hb : 0 ≤ b ∧ b ≤ 18446744073709551615) {p1 : PV} {w : Bool} (g : @Ends (En5 o c a b) d9 (T2 p1 w) H2) : @Ends (En5 o c a b) d2 (T1 (.it .i64 11) p1 (.bl w) sa sb) ⟨.lf, 1197⟩ := by
  cases w with
  | true => exact goA (E := (En5 o c a b)) (ok_a11t ha hb) (r_a11t p1) g
  | false => exact goA (E := (En5 o c a b)) (ok_a11f ha hb) (r_a11f p1) g
theorem st12 (ha : 0 ≤ a ∧ a ≤ 18446744073709551615) (hb : 0 ≤ b ∧ b ≤ 18446744073709551615) {p1 : PV} {w : Bool} (g : @Ends (En5 o c a b) d9 (T2 p1 w) H2) : @Ends (En5 o c a b) d2 (T1 (.it .i64 12) p1 (.bl w) sa sb) ⟨.lf, 1197⟩ := by
  cases w with
  | true => exact goA (E := (En5 o c a b)) (ok_a12t ha hb) (r_a12t p1) g
  | false => exact goA (E := (En5 o c a b)) (ok_a12f ha hb) (r_a12f p1) g
theorem tt_0 (ha : 0 ≤ a ∧ a ≤ 18446744073709551615) (hb : 0 ≤ b ∧ b ≤ 18446744073709551615) (w : Bool) : @Ends (En5 o c a b) d9 (T2 (.it .i64 0) w) H2 := by
  cases w with
  | true => exact goB (E := (En5 o c a b)) (ok_b0t ha hb) r_b0t
  | false => exact goB (E := (En5 o c a b)) (ok_b0f ha hb) r_b0f
theorem tt_1 (ha : 0 ≤ a ∧ a ≤ 18446744073709551615) (hb : 0 ≤ b ∧ b ≤ 18446744073709551615) (w : Bool) : @Ends (En5 o c a b) d9 (T2 (.it .i64 1) w) H2 := by
  cases w with
  | true =>
    cases h : cmpI .eql (SE.ev (En5 o c a b).η (.v 2)) (SE.ev (En5 o c a b).η (.v 3)) with
    | false => exact goB (E := (En5 o c a b)) (ok_b1tf ha hb h) r_b1tf
    | true => exact goB (E := (En5 o c a b)) (ok_b1tt ha hb h) r_b1tt
  | false =>
    cases h : cmpI .eql (SE.ev (En5 o c a b).η (.w .u32 (.v 2))) (SE.ev (En5 o c a b).η (.w .u32 (.v 3))) with
    | false => exact goB (E := (En5 o c a b)) (ok_b1ff ha hb h) r_b1ff
    | true => exact goB (E := (En5 o c a b)) (ok_b1ft ha hb h) r_b1ft
theorem tt_2 (ha : 0 ≤ a ∧ a ≤ 18446744073709551615) (hb : 0 ≤ b ∧ b ≤ 18446744073709551615) (w : Bool) : @Ends (En5 o c a b) d9 (T2 (.it .i64 2) w) H2 := by
  cases w with
  | true =>
    cases h : cmpI .gtr (SE.ev (En5 o c a b).η (.v 2)) (SE.ev (En5 o c a b).η (.v 3)) with
    | false => exact goB (E := (En5 o c a b)) (ok_b2tf ha hb h) r_b2tf
    | true => exact goB (E := (En5 o c a b)) (ok_b2tt ha hb h) r_b2tt
  | false =>
    cases h : cmpI .gtr (SE.ev (En5 o c a b).η (.w .u32 (.v 2))) (SE.ev (En5 o c a b).η (.w .u32 (.v 3))) with
    | false => exact goB (E := (En5 o c a b)) (ok_b2ff ha hb h) r_b2ff
    | true => exact goB (E := (En5 o c a b)) (ok_b2ft ha hb h) r_b2ft
theorem tt_3 (ha : 0 ≤ a ∧ a ≤ 18446744073709551615) (hb : 0 ≤ b ∧ b ≤ 18446744073709551615) (w : Bool) : @Ends (En5 o c a b) d9 (T2 (.it .i64 3) w) H2 := by
  cases w with
  | true =>
    cases h : cmpI .geq (SE.ev (En5 o c a b).η (.v 2)) (SE.ev (En5 o c a b).η (.v 3)) with
    | false => exact goB (E := (En5 o c a b)) (ok_b3tf ha hb h) r_b3tf
    | true => exact goB (E := (En5 o c a b)) (ok_b3tt ha hb h) r_b3tt
  | false =>
    cases h : cmpI .geq (SE.ev (En5 o c a b).η (.w .u32 (.v 2))) (SE.ev (En5 o c a b).η (.w .u32 (.v 3))) with
    | false => exact goB (E := (En5 o c a b)) (ok_b3ff ha hb h) r_b3ff
    | true => exact goB (E := (En5 o c a b)) (ok_b3ft ha hb h) r_b3ft
theorem tt_4 (ha : 0 ≤ a ∧ a ≤ 18446744073709551615) (hb : 0 ≤ b ∧ b ≤ 18446744073709551615) (w : Bool) : @Ends (En5 o c a b) d9 (T2 (.it .i64 4) w) H2 := by
  cases w with
  | true =>
    cases h : cmpI .neq (SE.ev (En5 o c a b).η (.o .and .u64 (.v 2) (.v 3))) (SE.ev (En5 o c a b).η (.c (0))) with
    | true => exact goB (E := (En5 o c a b)) (ok_b4tt ha hb h) r_b4tt
    | false => exact goB (E := (En5 o c a b)) (ok_b4tf ha hb h) r_b4tf
  | false =>
    cases h : cmpI .neq (SE.ev (En5 o c a b).η (.o .and .u64 (.w .u32 (.v 2)) (.w .u32 (.v 3)))) (SE.ev (En5 o c a b).η (.c (0))) with
    | true => exact goB (E := (En5 o c a b)) (ok_b4ft ha hb h) r_b4ft
    | false => exact goB (E := (En5 o c a b)) (ok_b4ff ha hb h) r_b4ff
theorem tt_5 (ha : 0 ≤ a ∧ a ≤ 18446744073709551615) (hb : 0 ≤ b ∧ b ≤ 18446744073709551615) (w : Bool) : @Ends (En5 o c a b) d9 (T2 (.it .i64 5) w) H2 := by
  cases w with
  | true =>
    cases h : cmpI .neq (SE.ev (En5 o c a b).η (.v 2)) (SE.ev (En5 o c a b).η (.v 3)) with
    | true => exact goB (E := (En5 o c a b)) (ok_b5tt ha hb h) r_b5tt
    | false => exact goB (E := (En5 o c a b)) (ok_b5tf ha hb h) r_b5tf
  | false =>
    cases h : cmpI .neq (SE.ev (En5 o c a b).η (.w .u32 (.v 2))) (SE.ev (En5 o c a b).η (.w .u32 (.v 3))) with
    | true => exact goB (E := (En5 o c a b)) (ok_b5ft ha hb h) r_b5ft
    | false => exact goB (E := (En5 o c a b)) (ok_b5ff ha hb h) r_b5ff
theorem tt_6 (ha : 0 ≤ a ∧ a ≤ 18446744073709551615) (hb : 0 ≤ b ∧ b ≤ 18446744073709551615) (w : Bool) : @Ends (En5 o c a b) d9 (T2 (.it .i64 6) w) H2 := by
  cases w with
  | true =>
    cases h : cmpI .gtr (SE.ev (En5 o c a b).η (.w .i64 (.v 2))) (SE.ev (En5 o c a b).η (.w .i64 (.v 3))) with
    | false => exact goB (E := (En5 o c a b)) (ok_b6tf ha hb h) r_b6tf
    | true => exact goB (E := (En5 o c a b)) (ok_b6tt ha hb h) r_b6tt
  | false =>
    cases h : cmpI .gtr (SE.ev (En5 o c a b).η (.w .i32 (.v 2))) (SE.ev (En5 o c a b).η (.w .i32 (.v 3))) with
    | false => exact goB (E := (En5 o c a b)) (ok_b6ff ha hb h) r_b6ff
    | true => exact goB (E := (En5 o c a b)) (ok_b6ft ha hb h) r_b6ft
theorem tt_7 (ha : 0 ≤ a ∧ a ≤ 18446744073709551615) (hb : 0 ≤ b ∧ b ≤ 18446744073709551615) (w : Bool) : @Ends (En5 o c a b) d9 (T2 (.it .i64 7) w) H2 := by
  cases w with
  | true =>
    cases h : cmpI .geq (SE.ev (En5 o c a b).η (.w .i64 (.v 2))) (SE.ev (En5 o c a b).η (.w .i64 (.v 3))) with
    | false => exact goB (E := (En5 o c a b)) (ok_b7tf ha hb h) r_b7tf
    | true => exact goB (E := (En5 o c a b)) (ok_b7tt ha hb h) r_b7tt
  | false =>
    cases h : cmpI .geq (SE.ev (En5 o c a b).η (.w .i32 (.v 2))) (SE.ev (En5 o c a b).η (.w .i32 (.v 3))) with
    | false => exact goB (E := (En5 o c a b)) (ok_b7ff ha hb h) r_b7ff
    | true => exact goB (E := (En5 o c a b)) (ok_b7ft ha hb h) r_b7ft
theorem tt_8 (ha : 0 ≤ a ∧ a ≤ 18446744073709551615) (hb : 0 ≤ b ∧ b ≤ 18446744073709551615) (w : Bool) : @Ends (En5 o c a b) d9 (T2 (.it .i64 8) w) H2 := by
  cases w with
  | true => exact goB (E := (En5 o c a b)) (ok_b8t ha hb) r_b8t
  | false => exact goB (E := (En5 o c a b)) (ok_b8f ha hb) r_b8f
theorem tt_9 (ha : 0 ≤ a ∧ a ≤ 18446744073709551615) (hb : 0 ≤ b ∧ b ≤ 18446744073709551615) (w : Bool) : @Ends (En5 o c a b) d9 (T2 (.it .i64 9) w) H2 := by
  cases w with
  | true => exact goB (E := (En5 o c a b)) (ok_b9t ha hb) r_b9t
  | false => exact goB (E := (En5 o c a b)) (ok_b9f ha hb) r_b9f
theorem tt_10 (ha : 0 ≤ a ∧ a ≤ 18446744073709551615) (hb : 0 ≤ b ∧ b ≤ 18446744073709551615) (w : Bool) : @Ends (En5 o c a b) d9 (T2 (.it .i64 10) w) H2 := by
  cases w with
  | true =>
    cases h : cmpI .lss (SE.ev (En5 o c a b).η (.v 2)) (SE.ev (En5 o c a b).η (.v 3)) with
    | true => exact goB (E := (En5 o c a b)) (ok_b10tt ha hb h) r_b10tt
    | false => exact goB (E := (En5 o c a b)) (ok_b10tf ha hb h) r_b10tf
  | false =>
    cases h : cmpI .lss (SE.ev (En5 o c a b).η (.w .u32 (.v 2))) (SE.ev (En5 o c a b).η (.w .u32 (.v 3))) with
    | true => exact goB (E := (En5 o c a b)) (ok_b10ft ha hb h) r_b10ft
    | false => exact goB (E := (En5 o c a b)) (ok_b10ff ha hb h) r_b10ff
theorem tt_11 (ha : 0 ≤ a ∧ a ≤ 18446744073709551615) (hb : 0 ≤ b ∧ b ≤ 18446744073709551615) (w : Bool) : @Ends (En5 o c a b) d9 (T2 (.it .i64 11) w) H2 := by
  cases w with
  | true =>
    cases h : cmpI .leq (SE.ev (En5 o c a b).η (.v 2)) (SE.ev (En5 o c a b).η (.v 3)) with
    | true => exact goB (E := (En5 o c a b)) (ok_b11tt ha hb h) r_b11tt
    | false => exact goB (E := (En5 o c a b)) (ok_b11tf ha hb h) r_b11tf
  | false =>
    cases h : cmpI .leq (SE.ev (En5 o c a b).η (.w .u32 (.v 2))) (SE.ev (En5 o c a b).η (.w .u32 (.v 3))) with
    | true => exact goB (E := (En5 o c a b)) (ok_b11ft ha hb h) r_b11ft
    | false => exact goB (E := (En5 o c a b)) (ok_b11ff ha hb h) r_b11ff
theorem tt_12 (ha : 0 ≤ a ∧ a ≤ 18446744073709551615) (hb : 0 ≤ b ∧ b ≤ 18446744073709551615) (w : Bool) : @Ends (En5 o c a b) d9 (T2 (.it .i64 12) w) H2 := by
  cases w with
  | true =>
    cases h : cmpI .lss (SE.ev (En5 o c a b).η (.w .i64 (.v 2))) (SE.ev (En5 o c a b).η (.w .i64 (.v 3))) with
    | true => exact goB (E := (En5 o c a b)) (ok_b12tt ha hb h) r_b12tt
    | false => exact goB (E := (En5 o c a b)) (ok_b12tf ha hb h) r_b12tf
  | false =>
    cases h : cmpI .lss (SE.ev (En5 o c a b).η (.w .i32 (.v 2))) (SE.ev (En5 o c a b).η (.w .i32 (.v 3))) with
    | true => exact goB (E := (En5 o c a b)) (ok_b12ft ha hb h) r_b12ft
    | false => exact goB (E := (En5 o c a b)) (ok_b12ff ha hb h) r_b12ff
theorem tt_13 (ha : 0 ≤ a ∧ a ≤ 18446744073709551615) (hb : 0 ≤ b ∧ b ≤ 18446744073709551615) (w : Bool) : @Ends (En5 o c a b) d9 (T2 (.it .i64 13) w) H2 := by
  cases w with
  | true =>
    cases h : cmpI .leq (SE.ev (En5 o c a b).η (.w .i64 (.v 2))) (SE.ev (En5 o c a b).η (.w .i64 (.v 3))) with
    | true => exact goB (E := (En5 o c a b)) (ok_b13tt ha hb h) r_b13tt
    | false => exact goB (E := (En5 o c a b)) (ok_b13tf ha hb h) r_b13tf
  | false =>
    cases h : cmpI .leq (SE.ev (En5 o c a b).η (.w .i32 (.v 2))) (SE.ev (En5 o c a b).η (.w .i32 (.v 3))) with
    | true => exact goB (E := (En5 o c a b)) (ok_b13ft ha hb h) r_b13ft
    | false => exact goB (E := (En5 o c a b)) (ok_b13ff ha hb h) r_b13ff
theorem tt_qLo (ha : 0 ≤ a ∧ a ≤ 18446744073709551615) (hb : 0 ≤ b ∧ b ≤ 18446744073709551615) (w : Bool) : @Ends (En5 o c a b) d9 (T2 qLo w) H2 := by
  cases w with
  | true => exact goB (E := (En5 o c a b)) (ok_bLot ha hb) r_bLot
  | false => exact goB (E := (En5 o c a b)) (ok_bLof ha hb) r_bLof
theorem tt_qHi (ha : 0 ≤ a ∧ a ≤ 18446744073709551615) (hb : 0 ≤ b ∧ b ≤ 18446744073709551615) (w : Bool) : @Ends (En5 o c a b) d9 (T2 qHi w) H2 := by
  cases w with
  | true => exact goB (E := (En5 o c a b)) (ok_bHit ha hb) r_bHit
  | false => exact goB (E := (En5 o c a b)) (ok_bHif ha hb) r_bHif
end Go.Proofs.YtjhmmfoomcoadaaGreat.Ev
