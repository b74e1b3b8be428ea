/-
  BlockSizes: a size is a power of two from 16 to 4096 that never falls as files grow, and leaves no more blocks than the size has bytes, as far as it is below the greatest; for every two numbers of 32 bits; no condition.
-/
import Derived.Test.YtjiefndjgkhcjaaDoorFr
namespace Go.Proofs.YtjiefndjgkhcjaaDoor.blockSizes
open Go.ChangeShapes Go.WideShapes Go.ChangeAt Go.RowKit Go.Deep Go.ChangeMaps
set_option maxRecDepth 100000

theorem pw_bsz (n : Int) : pw (bsz n) := by
  unfold bsz pw
  repeat' split
  all_goals omega
theorem bsz_up (a : Int) : (a ≤ 256 → bsz a ≤ 16) ∧ (a ≤ 1024 → bsz a ≤ 32) ∧ (a ≤ 4096 → bsz a ≤ 64) ∧ (a ≤ 16384 → bsz a ≤ 128) ∧ (a ≤ 65536 → bsz a ≤ 256) ∧ (a ≤ 262144 → bsz a ≤ 512) ∧ (a ≤ 1048576 → bsz a ≤ 1024) ∧ (a ≤ 4194304 → bsz a ≤ 2048) ∧ bsz a ≤ 4096 := by
  unfold bsz
  repeat' split
  all_goals omega
theorem bsz_mono (a b : Int) (h : a ≤ b) : bsz a ≤ bsz b := by
  obtain ⟨h1, h2, h3, h4, h5, h6, h7, h8, h9⟩ := bsz_up a
  generalize bsz a = x at *
  unfold bsz
  split
  · exact h1 (by omega)
  split
  · exact h2 (by omega)
  split
  · exact h3 (by omega)
  split
  · exact h4 (by omega)
  split
  · exact h5 (by omega)
  split
  · exact h6 (by omega)
  split
  · exact h7 (by omega)
  split
  · exact h8 (by omega)
  · exact h9
theorem bsz_div (a : Int) (_h : 0 ≤ a) (h4 : ¬ bsz a = 4096) : a / bsz a ≤ bsz a ∧ 0 ≤ a / bsz a := by
  unfold bsz at *
  repeat' split
  all_goals first | (simp_all; done) | omega
theorem pw_and (x : Int) (h : pw x) : bits .and .i64 x (x - 1) = 0 := by
  rcases h with rfl | rfl | rfl | rfl | rfl | rfl | rfl | rfl | rfl <;> decide
set_option maxHeartbeats 4000000 in
theorem walk (a b : Int) (w : World) (hw : Ta w) (ha : (Lit.int .u32 a).wf = true) (hb : (Lit.int .u32 b).wf = true) :
    Calls Tryd.prog 8 #[.int .u32 a, .int .u32 b] w fun e w' => e = .returned (.bool true) ∧ Below w.heap.size w w' := by
  have a1 := bounds_u32 ha
  have b1 := bounds_u32 hb
  have CA := awake_any w hw
  have CX := size_any a w
  have CY := size_any b w
  have hp := pw_bsz a
  have x1 : 16 ≤ bsz a := by rcases hp with h | h | h | h | h | h | h | h | h <;> omega
  have x2 : bsz a ≤ 4096 := by rcases hp with h | h | h | h | h | h | h | h | h <;> omega
  have x3 := pw_and _ hp
  have x4 := bsz_mono a b
  have x5 := bsz_div a a1.1
  have c1 : IntKind.i64.wrap a = a := by rw [IntKind.wrap_i64]; omega
  have c2 : IntKind.i64.wrap b = b := by rw [IntKind.wrap_i64]; omega
  clear ha hb hp hw
  generalize bsz a = x at *
  generalize bsz b = y at *
  by_cases hab : b < a
  · clear x4
    by_cases h4 : x = 4096
    · clear x5
      subst h4
      go_enter Tryd.func8, Tryd.ntmps8
      go_wp2_with fail
      refine CX.mono ?_
      rintro e w1 ⟨rfl, hq⟩
      replace hq := hq.symm
      subst hq
      clear CX
      go_wp2_with fail
      refine CY.mono ?_
      rintro e w1 ⟨rfl, hq⟩
      replace hq := hq.symm
      subst hq
      clear CY
      go_wp2_with fail
      refine CA.mono ?_
      rintro e w2 ⟨rfl, b2⟩
      have B2 : Hid (Below w.heap.size w w2) := b2
      clear CA b2
      go_wp2
      go_ret
      exact ⟨rfl, B2.out⟩
    · obtain ⟨d1, d0⟩ := x5 h4
      clear x5
      have h4' : (x == 4096) = false := by simpa using h4
      have hz : ¬ x = 0 := by omega
      go_enter Tryd.func8, Tryd.ntmps8
      go_wp2_with fail
      refine CX.mono ?_
      rintro e w1 ⟨rfl, hq⟩
      replace hq := hq.symm
      subst hq
      clear CX
      go_wp2_with fail
      refine CY.mono ?_
      rintro e w1 ⟨rfl, hq⟩
      replace hq := hq.symm
      subst hq
      clear CY
      go_wp2_with fail
      refine CA.mono ?_
      rintro e w2 ⟨rfl, b2⟩
      have B2 : Hid (Below w.heap.size w w2) := b2
      clear CA b2
      go_wp2
      go_ret
      exact ⟨rfl, B2.out⟩
  · have x6 := x4 (by omega)
    clear x4
    by_cases h4 : x = 4096
    · clear x5
      subst h4
      go_enter Tryd.func8, Tryd.ntmps8
      go_wp2_with fail
      refine CX.mono ?_
      rintro e w1 ⟨rfl, hq⟩
      replace hq := hq.symm
      subst hq
      clear CX
      go_wp2_with fail
      refine CY.mono ?_
      rintro e w1 ⟨rfl, hq⟩
      replace hq := hq.symm
      subst hq
      clear CY
      go_wp2_with fail
      refine CA.mono ?_
      rintro e w2 ⟨rfl, b2⟩
      have B2 : Hid (Below w.heap.size w w2) := b2
      clear CA b2
      go_wp2
      go_ret
      exact ⟨rfl, B2.out⟩
    · obtain ⟨d1, d0⟩ := x5 h4
      clear x5
      have h4' : (x == 4096) = false := by simpa using h4
      have hz : ¬ x = 0 := by omega
      go_enter Tryd.func8, Tryd.ntmps8
      go_wp2_with fail
      refine CX.mono ?_
      rintro e w1 ⟨rfl, hq⟩
      replace hq := hq.symm
      subst hq
      clear CX
      go_wp2_with fail
      refine CY.mono ?_
      rintro e w1 ⟨rfl, hq⟩
      replace hq := hq.symm
      subst hq
      clear CY
      go_wp2_with fail
      refine CA.mono ?_
      rintro e w2 ⟨rfl, b2⟩
      have B2 : Hid (Below w.heap.size w w2) := b2
      clear CA b2
      go_wp2
      go_ret
      exact ⟨rfl, B2.out⟩

theorem contract (H : Type) (enc : TypeId × Value → H) (W : World) (base : Nat) (args : Array Value) (ds gs : List (DataW H)) (before : List MemPlace)
    (hval : ∀ (j : Nat) t v, Tryd.f8.params[j]? = some t → args[j]? = some v → Value.okWide Tryd.prog W .any base t v)
    (hW : DataW.Whole enc Tryd.prog Tryd.f8.params.toList Rows.blockSizesSpec.vars false W args.toList ds gs before) (hL : laidMetH Tryd.prog Rows.blockSizesRow.laid W)
    (hsz0 : (DataW.weightsEach Tryd.prog (Tryd.f8.params.toList ++ Rows.blockSizesSpec.plain.varTypes Tryd.prog) (ds ++ gs)).all (· ≤ reachBytes) = true) :
    Calls Tryd.prog 8 args W fun e W' => ∃ v, e = .returned v ∧ Rows.blockSizesSpec.post enc Tryd.prog Tryd.f8 false true false false W args v W' := by
  have hW' := hW
  obtain ⟨p, q, hA0, hV, rfl, hfz, hnd⟩ := hW
  have hA : DataW.TrodAll enc Tryd.prog W 0 (fun _ => true) true Tryd.f8.params.toList args.toList ds p := hA0
  rw [Tryd.params8] at hA hval hsz0
  obtain ⟨v0, vs0, d0, ds0, p0, q0, hargs, rfl, rfl, h0, r0⟩ := trodAll_cons hA
  obtain ⟨v1, vs1, d1, ds1, p1, q1, rfl, rfl, rfl, h1, r1⟩ := trodAll_cons r0
  obtain ⟨rfl, rfl, rfl⟩ := trodAll_nil r1
  obtain rfl : args = #[v0, v1] := by cases args; simp_all
  obtain ⟨rfl, rfl⟩ := trodVars_none hV
  obtain ⟨a0, rfl, rfl, rfl, w0⟩ := open_int Tryd.underlying44 (hval 0 44 v0 rfl rfl) h0
  obtain ⟨a1, rfl, rfl, rfl, w1⟩ := open_int Tryd.underlying44 (hval 1 44 v1 rfl rfl) h1
  clear hA0
  refine (walk a0 a1 W (ta_of hL) w0 w1).mono fun e W' ⟨he, bel⟩ => ?_
  subst he
  exact ⟨_, rfl, _, _, _, [], _, [], hW', trodAll_mk1 (shut_bool Tryd.underlying4 _), (trodAll_cons_mk (shut_int Tryd.underlying44 w0) (trodAll_cons_mk (shut_int Tryd.underlying44 w1) trodAll_mk0)), rfl, bel.frame _, fun h => by cases h⟩

theorem laid_met (os : Os) : laidMet Tryd.prog Rows.blockSizesRow.laid (({ World.holding Tryd.prog os ⟨#[], #[], []⟩ with heap := ((((World.holding Tryd.prog os ⟨#[], #[], []⟩).heap.modify 0 (fun
      | .cells _ t frozen => .cells shaFirst t frozen
      | o => o)).modify 1 (fun
      | .cells _ t frozen => .cells #[.int .i64 1, .int .i64 2, .int .i64 4, .int .i64 8] t frozen
      | o => o)).modify 2 (fun
      | .cells _ t frozen => .cells shaRounds t frozen
      | o => o)) } : World).forCall (fun _ _ => 0) ⟨#[], #[.int .u32 0, .int .u32 0], []⟩).memory :=
  laidMet_of_run' 8 (by kernel_rfl) (by kernel_rfl)
theorem reads (os : Os) {H : Type} (enc : TypeId × Value → H) : ∃ places, DataW.whole enc Tryd.prog (({ World.holding Tryd.prog os ⟨#[], #[], []⟩ with heap := ((((World.holding Tryd.prog os ⟨#[], #[], []⟩).heap.modify 0 (fun
      | .cells _ t frozen => .cells shaFirst t frozen
      | o => o)).modify 1 (fun
      | .cells _ t frozen => .cells #[.int .i64 1, .int .i64 2, .int .i64 4, .int .i64 8] t frozen
      | o => o)).modify 2 (fun
      | .cells _ t frozen => .cells shaRounds t frozen
      | o => o)) } : World).forCall (fun _ _ => 0) ⟨#[], #[.int .u32 0, .int .u32 0], []⟩).memory Tryd.f8.params.toList Rows.blockSizesSpec.vars false #[Value.int .u32 0, .int .u32 0].toList 8 = some ([.lit (.int .u32 0), .lit (.int .u32 0)], [], places) :=
  ⟨[], by kernel_rfl⟩

set_option maxRecDepth 100000 in
theorem lifted (os : Os) (started : os.Started) (H : Type) (enc : TypeId × Value → H) (F : Stop.Interp) :
    ReturnsInHanded {} Tryd.checked os 8 .any ((OpenSpec.ofChange Rows.blockSizesSpec).preRow enc Tryd.prog Tryd.f8 Rows.blockSizesRow.domain false Rows.blockSizesRow.laid) (((OpenSpec.ofChange Rows.blockSizesSpec).at F).post enc Tryd.prog Tryd.f8 false true false false) := by
  obtain ⟨places, hx⟩ := reads os enc
  refine returnsInHanded_of_row (C := Tryd.checked) (s := OpenSpec.ofChange Rows.blockSizesSpec) own started (by kernel_rfl) Tryd.func8
    (witness_row_at (enc := enc) (C := Tryd.checked) false ({ World.holding Tryd.prog os ⟨#[], #[], []⟩ with heap := ((((World.holding Tryd.prog os ⟨#[], #[], []⟩).heap.modify 0 (fun
      | .cells _ t frozen => .cells shaFirst t frozen
      | o => o)).modify 1 (fun
      | .cells _ t frozen => .cells #[.int .i64 1, .int .i64 2, .int .i64 4, .int .i64 8] t frozen
      | o => o)).modify 2 (fun
      | .cells _ t frozen => .cells shaRounds t frozen
      | o => o)) } : World) #[.int .u32 0, .int .u32 0] rfl (by kernel_rfl) (by kernel_rfl) (by kernel_rfl)
      (OpenSpec.preRow_of_cond 8 hx (by kernel_rfl) (fun k hk => by cases hk) (by kernel_rfl) (laid_met os))) ?_
  intro W base args ds gs before hval hW _ _ hsz hL _ _
  exact contract H enc W base args ds gs before hval hW hL hsz

theorem said : Rows.BlockSizesSaid :=
  OpenClaim.holds_of_cond 8 Tryd.f8 rfl rfl rfl rfl rfl rfl rfl ⟨rfl, rfl, rfl, rfl, rfl⟩ rfl rfl rfl rfl rfl (by kernel_rfl) Tryd.func8 (by kernel_rfl)
    (of_decide_eq_true (by kernel_rfl)) (by unfold Func.isWrapper; first | (rw [if_pos (by decide +kernel)]; kernel_rfl) | (rw [if_neg (by decide +kernel)]; exact ⟨rfl, rfl⟩))
    (fun os started H enc _ F => by rw [OpenClaim.pre_eq_preRow]; exact lifted os started H enc F)

theorem plain (f : FuncId) (fn : Func) (hf : Tryd.pinned.checked.prog.funcNamed "sumpter/sumpterlaw11.BlockSizes" = some f) (hfn : Tryd.pinned.checked.prog.funcs[f]? = some fn) :
    false = Tryd.pinned.checked.prog.looks [] ∧ ∀ (j : Nat) t, fn.params[j]? = some t → Tryd.pinned.checked.prog.wantsStandIn t = false := by
  obtain rfl : f = 8 := Option.some.inj ((show Tryd.prog.funcNamed "sumpter/sumpterlaw11.BlockSizes" = some 8 by kernel_rfl).symm.trans hf) |>.symm
  obtain rfl : fn = Tryd.f8 := (Option.some.inj (Tryd.func8.symm.trans hfn)).symm
  refine ⟨by kernel_rfl, fun j t ht => ?_⟩
  rw [Tryd.params8] at ht
  have hm : t ∈ [44, 44] := by simpa using Array.mem_of_getElem? ht
  have hall : ([44, 44].all fun u => !Tryd.prog.wantsStandIn u) = true := by kernel_rfl
  exact (show Tryd.prog.wantsStandIn t = false by simpa using List.all_eq_true.1 hall t hm)
end Go.Proofs.YtjiefndjgkhcjaaDoor.blockSizes

namespace Go.Proofs.YtjiefndjgkhcjaaDoor
/-- The card of BlockSizes. -/
theorem blockSizes_card : Rows.BlockSizesCardSaid :=
  Claim7.holds_tied_plain_at .later [] _ _ _ _ blockSizes.said (fun _ h => by cases h) (by kernel_rfl) (fun _ h => by cases h) blockSizes_row_tie rfl ⟨rfl, rfl⟩ (by kernel_rfl) rfl blockSizes.plain (by kernel_rfl)
#print axioms blockSizes_card
end Go.Proofs.YtjiefndjgkhcjaaDoor
