/-
  The helpers' numbers by their names: walks over the program's own text.
-/
import Derived.Test.YtknmpllnclkghaaNm
import Derived.Outline
namespace Go.Proofs.Ytknmpllnclkghaa
open Go.Maps Go.WideMaps Go.ChangeShapes Go.WideShapes Go.ChangeAt Go.RowKit
set_option linter.unusedVariables false
set_option linter.unusedSimpArgs false
theorem lawS : Keyed Try.prog 9 := string_keyed Try.underlying9
theorem own_below {w w1 : World} {b n : Nat} {D : DataW HH} (h : w.ownsMap Try.prog 9 (plainElem Try.prog 3) b n D) (g : Below w.heap.size w w1) : w1.ownsMap Try.prog 9 (plainElem Try.prog 3) b n D := by
  obtain ⟨es, clock, hb, rest⟩ := h
  exact ⟨es, clock, (g.block b (Array.getElem?_eq_some_iff.1 hb).1).trans hb, rest⟩
set_option maxRecDepth 100000 in
theorem row_ix0 (n : Nat) (h2 : n ≤ 28) : ∀ w, (Instr.index 39 (.agg tabC) (.int .i64 (n : Int))).run Try.prog w = .ok (.agg (rowC n).toArray) w := by
  by_cases h : n = 0
  · subst h
    exact fun _ => by kernel_rfl
  · exact row_ix n (by omega) h2
theorem row_ten' (n : Nat) (h : n ≤ 28) : ∃ N r1 r2 r3 r4 r5 r6 r7 r8 r9, rowC n = [.string N, r1, r2, r3, r4, r5, r6, r7, r8, r9] ∧ (1 ≤ n → N = nm (n - 1)) := by
  by_cases h0 : n = 0
  · subst h0; exact ⟨_, _, _, _, _, _, _, _, _, _, rfl, fun h => by omega⟩
  · obtain ⟨r1, r2, r3, r4, r5, r6, r7, r8, r9, hr⟩ := row_name (n - 1) (by omega)
    rw [show n - 1 + 1 = n by omega] at hr
    exact ⟨_, r1, r2, r3, r4, r5, r6, r7, r8, r9, hr, fun _ => rfl⟩
def LN (W : World) (i : Value) (wr : World) : Prop := ∃ n : Nat, n ≤ 29 ∧ i = .int .i64 (n : Int) ∧ wr.ownsMap Try.prog 9 (plainElem (H := HH) Try.prog 3) W.heap.size n (NM (n - 1)) ∧ Below W.heap.size W wr
set_option maxHeartbeats 4000000 in
set_option maxRecDepth 100000 in
theorem numbers_any (w : World) : Calls Try.prog 12 #[] w fun e w' => e = .returned (.map (some w.heap.size)) ∧ w'.ownsMap Try.prog 9 (plainElem (H := HH) Try.prog 3) w.heap.size 29 (NM 28) ∧ Below w.heap.size w w' := by
  have hmm := @run_makeMap Try.prog
  have H0 := Lib.hid (World.ownsMap_made w Try.prog 9 (plainElem (H := HH) Try.prog 3))
  go_enter Try.func12, Try.ntmps12
  go_wp2_with ((with_reducible refine (table_any _).mono ?_); rintro e w1 ⟨rfl, g1⟩; have G1 := Lib.hid g1; clear g1)
  have H1 := Lib.hid (own_below H0.out G1.out)
  have B1 := Lib.hid (Below.trans ((Below.refl _ _).alloc (Nat.le_refl _) _) (G1.out.mono (by simp)) : Below w.heap.size w w1)
  clear H0 G1
  go_loopw [2, 3, 6] (fun k p i wr => LN w i wr) (fun _ _ i _ => (29 - intOf i).toNat)
  case atStart => exact ⟨0, by omega, rfl, H1.out, B1.out⟩
  case round =>
    obtain ⟨n, hn, rfl, hown, hbl⟩ := hrel
    have HO := Lib.hid hown
    have HB := Lib.hid hbl
    clear hown hbl H1 B1
    by_cases hlt : n < 29
    · have hx := row_ix0 n (by omega)
      obtain ⟨N, r1, r2, r3, r4, r5, r6, r7, r8, r9, hr, hN⟩ := row_ten' n (by omega)
      have hO := row_one n (by omega)
      rw [hr] at hO hx
      have H1 := Lib.hid hO
      have HN := Lib.hid hN
      clear hr hO hN
      have q1 : IntKind.i64.wrap ((n : Int) + 1) = (n : Int) + 1 := IntWalk.i64_in _ (by omega)
      have HW := Lib.hid (own_below HO.out ((Below.refl _ _).alloc (Nat.le_refl _) (.cells #[.string N, r1, r2, r3, r4, r5, r6, r7, r8, r9] 25)))
      have HC : Hid (Below w.heap.size w (wr.alloc (.cells #[.string N, r1, r2, r3, r4, r5, r6, r7, r8, r9] 25))) := Lib.hid (HB.out.alloc HB.out.size _)
      by_cases h0 : n = 0
      · have t2 : decide (0 < n) = false := by simp; omega
        have H0 := Lib.hid h0
        clear HN h0
        go_wp2_with ((with_reducible refine wpList_store_row (o := ⟨none, .store 25 (.tmp 3) (.tmp 9), _, _, _, _⟩) rfl 25 (.tmp 3) (.tmp 9) rfl wr.heap.size #[.string N, r1, r2, r3, r4, r5, r6, r7, r8, r9] ?ph1 ?ph2 25 #[.string ⟨#[]⟩, .int .i64 0, .int .i64 0, .int .i64 0, .int .i64 0, .int .i64 0, .int .i64 0, .int .i64 0, .bool false, .bool false] (heap_alloc_new _ _) ?ph4 ?ph5 H1.out ?ph7); (case ph1 => rfl); (case ph2 => rfl); (case ph4 => exact info25); (case ph5 => rfl); (rw [World.setRow_alloc_new]))
        go_roundw
        case rel => exact ⟨n + 1, by omega, by go_num, by rw [show n + 1 - 1 = n - 1 by have := H0.out; omega]; exact HW.out.mono (by omega), HC.out⟩
        case measure => simp [intOf]; omega
      · have t2 : decide (0 < n) = true := by simp; omega
        obtain rfl := HN.out (by omega)
        have hkey : keyOf Try.prog 9 (.string (nm (n - 1))) = some (keyN (nm (n - 1))) := keyOf_string_mk Try.underlying9 (by have := nm_size (n - 1) (by omega); unfold maxLen; omega)
        have HK := Lib.hid hkey
        clear hkey HN
        go_wp2_with (first
          | ((with_reducible refine wpList_store_row (o := ⟨none, .store 25 (.tmp 3) (.tmp 9), _, _, _, _⟩) rfl 25 (.tmp 3) (.tmp 9) rfl wr.heap.size #[.string (nm (n - 1)), r1, r2, r3, r4, r5, r6, r7, r8, r9] ?qh1 ?qh2 25 #[.string ⟨#[]⟩, .int .i64 0, .int .i64 0, .int .i64 0, .int .i64 0, .int .i64 0, .int .i64 0, .int .i64 0, .bool false, .bool false] (heap_alloc_new _ _) ?qh4 ?qh5 H1.out ?qh7); (case qh1 => rfl); (case qh2 => rfl); (case qh4 => exact info25); (case qh5 => rfl); (rw [World.setRow_alloc_new]))
          | (at_mapUpdate; refine wpList_mapUpdate_own _ rfl _ _ _ 43 rfl 9 3 lawS Try.underlying43 _ w.heap.size n _ rfl HW.out (by unfold maxLen; omega) _ _ _ rfl rfl HK.out _ [] (plainElem_int Try.underlying3 (WalkArith.wf_i64 (by omega))) ?_; intro w5 hown5 hgrow5; have HO5 := Lib.hid hown5; have HB5 := Lib.hid (HC.out.grown hgrow5 HC.out.size (fun j hj => by cases hj; exact Nat.le_refl _)); clear hown5 hgrow5))
        go_roundw
        case rel =>
          refine ⟨n + 1, by omega, by go_num, ?_, HB5.out⟩
          have e : NM (n + 1 - 1) = (NM (n - 1)).put (keyN (nm (n - 1))) (.lit (.int .i64 (n : Int))) := by
            rw [show n + 1 - 1 = (n - 1) + 1 by omega]
            show (NM (n - 1)).put _ _ = _
            rw [show (((n - 1 : Nat) : Int) + 1) = (n : Int) by omega]
          rw [e]; exact HO5.out
        case measure => simp [intOf]; omega
    · obtain rfl : n = 29 := by omega
      go_wp2
      go_ret
      exact ⟨rfl, HO.out, HB.out⟩
end Go.Proofs.Ytknmpllnclkghaa
