/-
  What must trap does, by the trap that names it: whatever the number is, one of twelve programs is run; each of the twelve runs is reckoned.
-/
import Derived.Test.YtjhmmfoomcoadaaGreatTPB
import Derived.Test.YtjhmmfoomcoadaaGreatTPD
import Derived.Test.YtjhmmfoomcoadaaGreatTPC0
import Derived.Test.YtjhmmfoomcoadaaGreatTPC1
import Derived.Test.YtjhmmfoomcoadaaGreatTPC2
import Derived.Test.YtjhmmfoomcoadaaGreatTPC3
import Derived.Test.YtjhmmfoomcoadaaGreatTPC4
import Derived.Test.YtjhmmfoomcoadaaGreatTPC5
import Derived.Test.YtjhmmfoomcoadaaGreatTPC6
import Derived.Test.YtjhmmfoomcoadaaGreatTPC7
import Derived.Test.YtjhmmfoomcoadaaGreatTPC8
import Derived.Test.YtjhmmfoomcoadaaGreatTPC9
import Derived.Test.YtjhmmfoomcoadaaGreatTPC10
import Derived.Test.YtjhmmfoomcoadaaGreatTPC11
import Derived.Test.YtjhmmfoomcoadaaGreatVKL
import Derived.Test.YtjhmmfoomcoadaaGreatRows
import Derived.WalkKit
import Derived.ProofKit
import Derived.OpenShut
import Derived.Below
import Derived.Lib.SmallJoins
import Derived.ChangeSame
namespace Go.Proofs.YtjhmmfoomcoadaaGreat.vmTraps
open Go.ChangeShapes Go.WideShapes Go.ChangeAt Go.RowKit Go.Joins Ev
set_option linter.unusedVariables false
set_option linter.unusedSimpArgs false
theorem own : ownKnob Tryz.prog.godebug = none := by kernel_rfl
section
variable {H : Type} {enc : TypeId × Value → H} {P : Program}
theorem post_of_below {f : Func} {s : ChangeSpec} {apart fresh handsOn again : Bool} {W W' : World} {args : Array Value} {v : Value} {ds gs : List (DataW H)} {before pa pv : List MemPlace}
    (hW : DataW.Whole enc P f.params.toList s.vars apart W args.toList ds gs before)
    (hres : ∀ (b : Nat) (sp : Nat → Bool) (hd : Bool), DataW.TrodAll enc P W' b sp hd f.resultTypes.toList (v.resultList f.resultTypes.size) (s.fn H (ds ++ gs)).results [])
    (hargs : ∀ sp : Nat → Bool, (∀ p ∈ before, sp p.block = true) → DataW.TrodAll enc P W' 0 sp true f.params.toList args.toList (s.fn H (ds ++ gs)).args pa)
    (hvars : ∀ sp : Nat → Bool, (∀ p ∈ before, sp p.block = true) → DataW.TrodVars enc P W' sp s.vars (s.fn H (ds ++ gs)).vars pv)
    (hps : before = pa ++ pv) (hb : Below W.heap.size W W')
    (hok : ∀ (j : Nat) (t : TypeId) (r : Value), f.resultTypes[j]? = some t → (v.resultList f.resultTypes.size)[j]? = some r → Value.okWide P W' .any 0 t r) :
    s.post enc P f apart fresh handsOn again W args v W' := by
  have hlt : ∀ p ∈ before, p.block < W.heap.size := fun p hp => hW.lt p hp
  have hold : ∀ p ∈ before, (fun b => decide (b < W.heap.size)) p.block = true := fun p hp => by simpa using hlt p hp
  refine ⟨ds, gs, before, [], pa, pv, hW, hres _ _ _, hargs _ hold, hvars _ hold, World.keptBut_mono (fun p hp => ⟨hp, ?_⟩) (hb.frame (· ∈ before)), fun _ => ?_⟩
  · rw [hps, List.mem_append] at hp
    exact Or.inr hp
  · obtain ⟨_, _, _, _, _, hz, hn⟩ := hW
    refine ⟨hok, _, _, ([] ++ pa) ++ pv, ⟨[] ++ pa, pv, trodAll_append (hargs _ (fun _ _ => rfl)) (hres _ _ _), hvars _ (fun _ _ => rfl), rfl, ?_, ?_⟩, ?_⟩
    · intro b off hp
      have hin : MemPlace.cell b off ∈ before := by rw [hps]; simpa using hp
      rw [hb.frozen (hlt _ hin)]
      exact hz b off hin
    · intro ha
      have := hn ha
      rw [hps] at this
      simpa using this
    · intro p hp _
      rw [hps]
      simpa using hp
end
theorem calls_true {x r s k : Int} (hr : x.tmod 12 = r) (hs : IntKind.i64.wrap (r + 12) = s) (hk : s.tmod 12 = k)
    (ht : evC Tryz.prog (evDraw Tryz.prog) 10000 false 40 tR (T6 x r s k) [] (S4 x).2 kT = some ()) (w : World) : Calls Tryz.prog 3 #[.int .i64 x] w fun e w' => e = .returned (.bool true) ∧ Below w.heap.size w w' := by
  have d1 : DrawOk Tryz.prog (evDraw Tryz.prog (α := Tr PV × Nat)) := evDraw_ok (by kernel_rfl)
  have d3 : DrawOk Tryz.prog (evDraw Tryz.prog (α := Unit)) := evDraw_ok (by kernel_rfl)
  have g0 := goes_bare (n := 1000) (N := 40) (c := t0) (T := T0 x) (H := ⟨.lf, 0⟩) (X := (_, 0)) d1 (X0_is x)
  have gA := goes_bare (n := 10000) (N := 40) (c := tA) (H := ⟨.lf, 0⟩) (X := (_, 1197)) d1 (XA_is x)
  have g3 := goes_of (n := 1000) (N := 40) (c := t3) (T := T1 x) (H := ⟨.lf, 1197⟩) d2 (X3_is x)
  have g4 := goes_of (n := 1000) (N := 40) (c := t4) (T := (S3 x).1) (H := (S3 x).2) d2 (X4_is x)
  have g5 := goes5 x (H := (S4 x).2) (S4_at x) hr hs hk
  obtain ⟨T', H', h1, g6⟩ := goes_true (n := 10000) (N := 40) (t := 2) (c := tR) (T := T6 x r s k) (H := (S4 x).2) d3 ht
  have g := Goes.chain g0 (Goes.chain gA (Goes.chain g3 (Goes.chain g4 (Goes.chain g5 g6))))
  exact calls_of_goes (P := Tryz.prog) Tryz.func3 tB_is (args := [.it .i64 x]) (l := [.int .i64 x]) (fun b => .cons _ _ _ _ (.it _ _) .nil) (Nat.le_of_ble_eq_true (by kernel_rfl)) (by kernel_rfl) h1 g w
theorem walk (a0 : Int) (w0 : (Lit.int .i64 a0).wf = true) (w : World) : Calls Tryz.prog 3 #[.int .i64 a0] w fun e w' => e = .returned (.bool true) ∧ Below w.heap.size w w' := by
  have hr : a0.tmod 12 = -11 ∨ a0.tmod 12 = -10 ∨ a0.tmod 12 = -9 ∨ a0.tmod 12 = -8 ∨ a0.tmod 12 = -7 ∨ a0.tmod 12 = -6 ∨ a0.tmod 12 = -5 ∨ a0.tmod 12 = -4 ∨ a0.tmod 12 = -3 ∨ a0.tmod 12 = -2 ∨ a0.tmod 12 = -1 ∨ a0.tmod 12 = 0 ∨ a0.tmod 12 = 1 ∨ a0.tmod 12 = 2 ∨ a0.tmod 12 = 3 ∨ a0.tmod 12 = 4 ∨ a0.tmod 12 = 5 ∨ a0.tmod 12 = 6 ∨ a0.tmod 12 = 7 ∨ a0.tmod 12 = 8 ∨ a0.tmod 12 = 9 ∨ a0.tmod 12 = 10 ∨ a0.tmod 12 = 11 := by
    have h1 := Int.tmod_lt_of_pos a0 (show (0 : Int) < 12 by decide)
    have h2 := Int.lt_tmod_of_pos a0 (show (0 : Int) < 12 by decide)
    omega
  rcases hr with h | h | h | h | h | h | h | h | h | h | h | h | h | h | h | h | h | h | h | h | h | h | h
  · exact calls_true h (s := 1) (k := 1) (by decide) (by decide) (tail1 a0 _ _) w
  · exact calls_true h (s := 2) (k := 2) (by decide) (by decide) (tail2 a0 _ _) w
  · exact calls_true h (s := 3) (k := 3) (by decide) (by decide) (tail3 a0 _ _) w
  · exact calls_true h (s := 4) (k := 4) (by decide) (by decide) (tail4 a0 _ _) w
  · exact calls_true h (s := 5) (k := 5) (by decide) (by decide) (tail5 a0 _ _) w
  · exact calls_true h (s := 6) (k := 6) (by decide) (by decide) (tail6 a0 _ _) w
  · exact calls_true h (s := 7) (k := 7) (by decide) (by decide) (tail7 a0 _ _) w
  · exact calls_true h (s := 8) (k := 8) (by decide) (by decide) (tail8 a0 _ _) w
  · exact calls_true h (s := 9) (k := 9) (by decide) (by decide) (tail9 a0 _ _) w
  · exact calls_true h (s := 10) (k := 10) (by decide) (by decide) (tail10 a0 _ _) w
  · exact calls_true h (s := 11) (k := 11) (by decide) (by decide) (tail11 a0 _ _) w
  · exact calls_true h (s := 12) (k := 0) (by decide) (by decide) (tail0 a0 _ _) w
  · exact calls_true h (s := 13) (k := 1) (by decide) (by decide) (tail1 a0 _ _) w
  · exact calls_true h (s := 14) (k := 2) (by decide) (by decide) (tail2 a0 _ _) w
  · exact calls_true h (s := 15) (k := 3) (by decide) (by decide) (tail3 a0 _ _) w
  · exact calls_true h (s := 16) (k := 4) (by decide) (by decide) (tail4 a0 _ _) w
  · exact calls_true h (s := 17) (k := 5) (by decide) (by decide) (tail5 a0 _ _) w
  · exact calls_true h (s := 18) (k := 6) (by decide) (by decide) (tail6 a0 _ _) w
  · exact calls_true h (s := 19) (k := 7) (by decide) (by decide) (tail7 a0 _ _) w
  · exact calls_true h (s := 20) (k := 8) (by decide) (by decide) (tail8 a0 _ _) w
  · exact calls_true h (s := 21) (k := 9) (by decide) (by decide) (tail9 a0 _ _) w
  · exact calls_true h (s := 22) (k := 10) (by decide) (by decide) (tail10 a0 _ _) w
  · exact calls_true h (s := 23) (k := 11) (by decide) (by decide) (tail11 a0 _ _) w
set_option maxRecDepth 100000 in
theorem lifted (os : Os) (started : os.Started) (H : Type) (enc : TypeId × Value → H) :
    ReturnsInHanded {} Tryz.checked os 3 .any (Rows.vmTrapsSpec.pre6 enc Tryz.prog Tryz.f3 Rows.vmTrapsRow.domain false) (Rows.vmTrapsSpec.post enc Tryz.prog Tryz.f3 false true false false) := by
  refine returnsInHanded_of_change (C := Tryz.checked) own started (by kernel_rfl) Tryz.func3
    (ChangeSpec.witness6 (enc := enc) (C := Tryz.checked) false ⟨#[], #[.int .i64 0], []⟩ 8 (by kernel_rfl) (by kernel_rfl) (by kernel_rfl) (by kernel_rfl)) ?_
  intro W base args ds gs before hval0 hW hcnd _
  have hval : ∀ (j : Nat) t v, Tryz.f3.params[j]? = some t → args[j]? = some v → Value.okWide Tryz.prog W .any base t v := hval0
  have hW' := hW
  obtain ⟨p, q, hA0, hV, rfl, hfz, hnd⟩ := hW
  have hA : DataW.TrodAll enc Tryz.prog W 0 (fun _ => true) true Tryz.f3.params.toList args.toList ds p := hA0
  rw [Tryz.params3] at hA hval
  obtain ⟨v0, vs0, d0, ds0, p0, q0, hargs, rfl, rfl, h0, r0⟩ := trodAll_cons hA
  obtain ⟨rfl, rfl, rfl⟩ := trodAll_nil r0
  obtain rfl : args = #[v0] := by cases args; simp_all
  obtain ⟨rfl, rfl⟩ := trodVars_none hV
  obtain ⟨a0, rfl, rfl, rfl, w0⟩ := open_int Tryz.underlying3 (hval 0 3 v0 rfl rfl) h0
  clear hA0 hval0
  simp only [List.append_nil] at hW'
  refine (walk a0 w0 W).mono fun e W' ⟨he, hg⟩ => ?_
  subst he
  exact ⟨_, rfl, post_of_below (pa := []) (pv := []) hW' (fun _ _ _ => (trodAll_cons_mk (shut_bool Tryz.underlying4 _) trodAll_mk0)) (fun sp _ => (trodAll_cons_mk (shut_int Tryz.underlying3 w0) trodAll_mk0)) (fun _ _ => rfl) rfl
    hg (ok_one (by kernel_rfl) rfl (okWide_bool_mk Tryz.underlying4 _))⟩
theorem j_named : Tryz.pinned.checked.prog.funcNamed Rows.vmTrapsRow.func = some 3 := by kernel_rfl
theorem j_wrap : Tryz.f3.isWrapper Tryz.pinned.checked.prog Rows.vmTrapsRow.wrapper Rows.vmTrapsRow.mainSum := by unfold Func.isWrapper; first | (rw [if_pos (by decide +kernel)]; kernel_rfl) | (rw [if_neg (by decide +kernel)]; exact ⟨rfl, rfl⟩)
theorem over : Rows.vmTrapsRow.holds Tryz.pinned (OpenSpec.ofChange Rows.vmTrapsSpec) :=
  OpenClaim.holds_of_wide 3 Tryz.f3 rfl rfl rfl rfl rfl rfl rfl ⟨rfl, rfl, rfl, rfl, rfl⟩ rfl rfl rfl rfl rfl j_named Tryz.func3 j_closed
    (of_decide_eq_true (by kernel_rfl)) j_wrap
    (fun os started H enc _ => lifted os started H enc)
/-- The statement. -/
theorem proved : Rows.VmTrapsSaid :=
  over
end Go.Proofs.YtjhmmfoomcoadaaGreat.vmTraps
