/-
  Rows of rows: so many rows of nothing made; a row put in another's place. Nothing of the program stands here.
-/
import Derived.Test.YtdgehbjiphahhaaRyC
namespace Go.Proofs.Ytdgehbjiphahhaa
open Go.RowKit
set_option linter.unusedVariables false
set_option linter.unusedSimpArgs false
theorem AccOk.blks {S : World → Prop} (l : List Nat) : AccOk S (l.map Acc.blk) := fun x hx => by
  obtain ⟨i, _, rfl⟩ := List.mem_map.1 hx
  trivial
/-- A slice's cell. -/
def fSl (x : Option Addr × Nat × Nat) : List Value := [.slice x.1 x.2.1 x.2.2]
theorem fSl_len (x : Option Addr × Nat × Nat) : (fSl x).length = 1 := rfl
theorem fSl_one (x : Option Addr × Nat × Nat) : ((fSl x).all fun u => u.oneCell') = true := rfl
section
variable {P : Program} {M : Nat → Prop} {B0 : Nat} {S : World → Prop} {t e T2 T : TypeId} {i : TypeInfo} {z : Value} {bytes : Nat}
/-! ### make -/
def sqMkRR {τ : Type} (t e T2 : TypeId) (f : τ → List Value) (sz N : Nat) (g0 : Nat → τ) : Spc :=
  ⟨fun _ => .op (.mks t (.int .i64 (N : Int)) (.int .i64 (N : Int))), fun _ => [], 1, .normal, fun ls => [rrV (lget ls 0) N], fun _ => [], fun ls => [rrO (lget ls 0) e T2 f sz N (fun _ => (0, g0))]⟩
theorem sqMkRR_ok (R : RowT P t e i z 1 bytes) {τ : Type} {f : τ → List Value} {sz N : Nat} {g0 : Nat → τ} (hz : z.cells.toList = [.slice none 0 0]) (h : decide (N ≤ 1000000) = true) (hb : bytes ≤ 1000000) : SpcG P M B0 S (sqMkRR t e T2 f sz N g0) := by
  have hk := sqMkN_ok (S := S) R (f := fun _ : Unit => [.slice none 0 0]) (N := N) (a0 := ()) (fun _ => rfl) hz h hb
  intro ls w hlen hsat htb hS
  match ls, hlen with
  | [], _ =>
    have hd := hk [] w rfl ⟨fun j o l h => by simp [sqMk] at h, fun i j o p l l' h => by simp [sqMk] at h⟩ hS
    obtain ⟨v, w', hr, ms, hms, hv, hsl, hnew, hch⟩ := hd
    match ms, hms with
    | [l'], _ =>
      have hh : w'.heap[l'.n]? = some (rowO l' (esG (fun _ : Unit => [.slice none 0 0]) N fun _ => ()) e N 1) := hsl.holds 0 _ l' rfl rfl rfl
      have hge : w.heap.size ≤ l'.n := by
        rcases hnew 0 _ l' rfl rfl rfl with h1 | ⟨j, o, l, h1, _⟩
        · exact h1
        · simp [sqMk] at h1
      let r : L1 := ⟨0, fun _ => undef⟩
      let L := rrPut r l' N r
      have es : esG (rrC L sz (fun _ => ((0, g0) : Nat × (Nat → τ)))) N (fun i => i) = esG (fun _ : Unit => [.slice none 0 0]) N fun _ => () := esG_map fun k hk => rfl
      have key : ∀ k x p, own (rrO L e T2 f sz N (fun _ => (0, g0))) L k = some (x, p) → k = 0 ∧ x = l'.n ∧ w'.heap[x]? = some p := fun k x p h => by
        rcases own_rr h with ⟨rfl, rfl, rfl⟩ | ⟨i, _, _, h0, _⟩
        · refine ⟨rfl, rfl, ?_⟩
          rw [es]
          exact hh
        · exact absurd rfl h0
      have at0 : ∀ (j k : Nat) (o : Obj) (l : L1) (x : Nat) (p : Obj), ([] ++ [rrO L e T2 f sz N (fun _ => (0, g0))])[j]? = some o → ([] ++ [L])[j]? = some l → own o l k = some (x, p) → j = 0 ∧ o = rrO L e T2 f sz N (fun _ => (0, g0)) ∧ l = L := fun j k o l x p hj hl ho => by
        match j, hj, hl with
        | 0, hj, hl => exact ⟨rfl, by simpa using hj.symm, by simpa using hl.symm⟩
        | q + 1, hj, _ => simp at hj
      refine ⟨v, w', hr, [L], rfl, ?_, ⟨hch.os, hch.tape, hch.output, hch.size, fun x hx ht => hch.block x hx fun ⟨j, o, l, h1, _⟩ => by simp [sqMk] at h1⟩, fun _ => ⟨⟨fun j k o l x p hj hl ho => ?_, fun j j' k k' o o' l l1 x p p' hj hl ho hj' hl1 ho' => ?_⟩, fun j k o l x p hj hl ho => ?_⟩⟩
      · rw [hv]; rfl
      · obtain ⟨rfl, rfl, rfl⟩ := at0 j k o l x p hj hl ho
        exact (key k x p ho).2.2
      · obtain ⟨rfl, rfl, rfl⟩ := at0 j k o l x p hj hl ho
        obtain ⟨rfl, rfl, rfl⟩ := at0 j' k' o' l1 x p' hj' hl1 ho'
        exact ⟨rfl, (key k x p ho).1.trans (key k' x p' ho').1.symm⟩
      · obtain ⟨rfl, rfl, rfl⟩ := at0 j k o l x p hj hl ho
        rw [(key k x p ho).2.1]
        exact .inl hge
/-! ### A row in another's place -/
end
end Go.Proofs.Ytdgehbjiphahhaa

