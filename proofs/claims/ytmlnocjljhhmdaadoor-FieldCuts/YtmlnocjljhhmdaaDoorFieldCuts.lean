/-
  FieldCuts answers true for every text and every cut, and nothing that was there is changed; the package-level table of widths starts as the program's text lays it (the card ties it).
-/
import Derived.Test.YtmlnocjljhhmdaaDoorFrame
import Derived.Deep.RegionHeld3
namespace Go.Proofs.YtmlnocjljhhmdaaDoor.fieldCuts
open Go.ChangeShapes Go.WideShapes Go.ChangeAt Go.RowKit Go.Deep Go.ChangeMaps

set_option maxHeartbeats 1000000 in
theorem walk (s : ByteArray) (c : Int) (w : World) (hw : Wid w) (ws : s.size ≤ maxLen) (wc : (Lit.int .u16 c).wf = true) :
    Calls Tryd.prog 7 #[.string s, .int .u16 c] w fun e w' => e = .returned (.bool true) ∧ Below w.heap.size w w' := by
  have hc := bounds_u16 wc
  have hp := hw.pos
  clear wc
  unfold maxLen at ws
  by_cases hl : 1000 < s.size
  · go_enter Tryd.func7, Tryd.ntmps7
    go_wp2_with (go_at_call 8; refine (awake_any _ hw).mono ?_; rintro e w' ⟨rfl, hbel⟩)
    go_ret
    exact ⟨rfl, by assumption⟩
  · have c1 := ftext_any s w hw (by omega)
    have tl := textB_len s
    have tl0 := tl.2 (by omega)
    go_enter Tryd.func7, Tryd.ntmps7
    go_wp2_with fail
    refine c1.mono ?_
    rintro e w1 ⟨v1, rfl, sl1, bel1⟩
    clear c1
    have hw1 := hw.below bel1 hp
    obtain ⟨a, cap, rfl, h1, h2, h3, h4⟩ := sl1
    obtain ⟨L, hL⟩ : ∃ L, L = (textB s).length := ⟨_, rfl⟩
    obtain ⟨m, hm⟩ : ∃ m : Nat, c % (L : Int) = m := ⟨(c % (L : Int)).toNat, by have := Int.emod_nonneg c (show (L : Int) ≠ 0 by omega); omega⟩
    have hmL : m < L := by have := Int.emod_lt_of_pos c (show 0 < (L : Int) by omega); omega
    have hne : ((L : Int) == 0) = false := by simp; omega
    have slm : Sl w1 (.slice a m cap) ((textB s).take m) := by
      have hlen : ((textB s).take m).length = m := by rw [List.length_take]; omega
      have hr := h4.cut m (by omega)
      refine ⟨a, cap, by rw [hlen], by rw [hlen]; omega, h2, h3, ?_⟩
      rw [hlen]
      rcases hr with h | ⟨hp, b, off, rfl, h1, h2, hc, hz'⟩
      · exact .inl h
      · refine .inr ⟨hp, b, off, rfl, h1, h2, fun i hi => ?_, fun i => ?_⟩
        · rw [hc i hi]; simp [List.getD, hi]
        · by_cases hi : i < m
          · have := hz' i
            simpa [List.getD, List.getElem?_take, hi] using this
          · simp [List.getD, List.getElem?_take, hi]
    have c2 := new_any _ _ w1 hw1 slm (by rw [List.length_take]; omega)
    obtain ⟨e1, e2, e3⟩ := tx_cut s 1000 m (by omega) (by omega) (by omega)
    have hlm : ((textB s).take m).length = m := by rw [List.length_take]; omega
    rw [← hL] at h1 h4 ⊢
    have hL2 : L ≤ 1008 := by omega
    have hLp : 0 < L := by omega
    unfold maxLen at h2
    clear hL tl tl0 slm h3
    generalize (textB s).take m = X at *
    go_wp2_with fail
    refine c2.mono ?_
    rintro e w2 ⟨g, k, rfl, hg1, hg2, hs, rd2, bel2⟩
    clear c2 h4
    have B2 : Below w.heap.size w w2.drew := (bnext bel1 bel2 bel1.size).drew
    have hw2 := hw.below B2 hp
    have c3 := text_any g k _ 1000 w2.drew hw2 rd2
    rw [e1, e2, e3] at c3
    have e10 : strB [] = ⟨#[]⟩ := rfl
    rw [e10] at c3
    clear e1 e2 e3 e10
    have HG : Hid (w.heap.size ≤ g) := Nat.le_trans bel1.size hg1
    clear hs hg1 hg2 rd2 bel2 bel1 hw1
    have ht : Int.tmod c (L : Int) = (m : Int) := by rw [Int.tmod_eq_emod_of_nonneg hc.1]; exact hm
    have hwm : IntKind.i64.wrap (m : Int) = m := by rw [IntKind.wrap_i64]; omega
    have hwc : IntKind.i64.wrap c = c := by rw [IntKind.wrap_i64]; omega
    have hL0 : ¬ (L : Int) = 0 := by omega
    have hL1 : ¬ L = 0 := by omega
    have hgp : 0 < g := Nat.lt_of_lt_of_le hp HG.out
    go_wp2
    go_region_held3 (fun _ => True) (trivial) (first | (go_at_call 19; refine c3.mono ?_; rintro e w3 ⟨rfl, rd3, off3⟩) | (go_at_call 25; refine (err_any g k X 3 _ rd3).mono ?_; rintro e w4 ⟨rfl, e4⟩; subst e4) | (go_at_call 24; refine (left_any g k X 3 _ rd3).mono ?_; rintro e w4 ⟨rfl, e4⟩; subst e4) | (go_at_call 8; refine (awake_any _ (Wid.off hw2 off3 hgp)).mono ?_; rintro e w5 ⟨rfl, hbel⟩))
    all_goals
      go_wp2
      go_ret
      exact ⟨rfl, B2.trans ((off3.below HG.out).trans (hbel.mono (by have h1 := B2.size; have h2 := off3.size; omega)))⟩

theorem contract (H : Type) (enc : TypeId × Value → H) (W : World) (base : Nat) (args : Array Value) (ds gs : List (DataW H)) (before : List MemPlace)
    (hval : ∀ (j : Nat) t v, Tryd.f7.params[j]? = some t → args[j]? = some v → Value.okWide Tryd.prog W .any base t v)
    (hW : DataW.Whole enc Tryd.prog Tryd.f7.params.toList Rows.fieldCutsSpec.vars false W args.toList ds gs before) (hL : laidMetH Tryd.prog Rows.fieldCutsRow.laid W)
    (hsz0 : (DataW.weightsEach Tryd.prog (Tryd.f7.params.toList ++ Rows.fieldCutsSpec.plain.varTypes Tryd.prog) (ds ++ gs)).all (· ≤ reachBytes) = true) :
    Calls Tryd.prog 7 args W fun e W' => ∃ v, e = .returned v ∧ Rows.fieldCutsSpec.post enc Tryd.prog Tryd.f7 false true false false W args v W' := by
  have hW' := hW
  obtain ⟨p, q, hA0, hV, rfl, hfz, hnd⟩ := hW
  have hA : DataW.TrodAll enc Tryd.prog W 0 (fun _ => true) true Tryd.f7.params.toList args.toList ds p := hA0
  rw [Tryd.params7] at hA hval hsz0
  obtain ⟨v0, vs0, d0, ds0, p0, q0, hargs, rfl, rfl, h0, r0⟩ := trodAll_cons hA
  obtain ⟨v1, vs1, d1, ds1, p1, q1, rfl, rfl, rfl, h1, r1⟩ := trodAll_cons r0
  obtain ⟨rfl, rfl, rfl⟩ := trodAll_nil r1
  obtain rfl : args = #[v0, v1] := by cases args; simp_all
  obtain ⟨rfl, rfl⟩ := trodVars_none hV
  obtain ⟨a0, rfl, rfl, rfl, w0⟩ := open_string Tryd.underlying9 (hval 0 9 v0 rfl rfl) h0
  obtain ⟨a1, rfl, rfl, rfl, w1⟩ := open_int Tryd.underlying53 (hval 1 53 v1 rfl rfl) h1
  clear hA0
  refine (walk a0 a1 W (wid_of hL) w0 w1).mono fun e W' ⟨he, bel⟩ => ?_
  subst he
  exact ⟨_, rfl, _, _, _, [], _, [], hW', trodAll_mk1 (shut_bool Tryd.underlying4 _), (trodAll_cons_mk (shut_string Tryd.underlying9 w0) (trodAll_cons_mk (shut_int Tryd.underlying53 w1) trodAll_mk0)), rfl, bel.frame _, fun h => by cases h⟩

theorem laid_met (os : Os) : laidMet Tryd.prog Rows.fieldCutsRow.laid (({ World.holding Tryd.prog os ⟨#[], #[], []⟩ with heap := (World.holding Tryd.prog os ⟨#[], #[], []⟩).heap.modify 0 fun
      | .cells _ t frozen => .cells #[.int .i64 1, .int .i64 2, .int .i64 4, .int .i64 8] t frozen
      | o => o } : World).forCall (fun _ _ => 0) ⟨#[], #[.string ⟨#[]⟩, .int .u16 0], []⟩).memory :=
  laidMet_of_run' 8 (by kernel_rfl) (by kernel_rfl)
theorem reads (os : Os) {H : Type} (enc : TypeId × Value → H) : ∃ places, DataW.whole enc Tryd.prog (({ World.holding Tryd.prog os ⟨#[], #[], []⟩ with heap := (World.holding Tryd.prog os ⟨#[], #[], []⟩).heap.modify 0 fun
      | .cells _ t frozen => .cells #[.int .i64 1, .int .i64 2, .int .i64 4, .int .i64 8] t frozen
      | o => o } : World).forCall (fun _ _ => 0) ⟨#[], #[.string ⟨#[]⟩, .int .u16 0], []⟩).memory Tryd.f7.params.toList Rows.fieldCutsSpec.vars false #[Value.string ⟨#[]⟩, .int .u16 0].toList 8 = some ([.lit (.string []), .lit (.int .u16 0)], [], places) :=
  ⟨[], by kernel_rfl⟩

set_option maxRecDepth 100000 in
theorem lifted (os : Os) (started : os.Started) (H : Type) (enc : TypeId × Value → H) (F : Stop.Interp) :
    ReturnsInHanded {} Tryd.checked os 7 .any ((OpenSpec.ofChange Rows.fieldCutsSpec).preRow enc Tryd.prog Tryd.f7 Rows.fieldCutsRow.domain false Rows.fieldCutsRow.laid) (((OpenSpec.ofChange Rows.fieldCutsSpec).at F).post enc Tryd.prog Tryd.f7 false true false false) := by
  obtain ⟨places, hx⟩ := reads os enc
  refine returnsInHanded_of_row (C := Tryd.checked) (s := OpenSpec.ofChange Rows.fieldCutsSpec) own started (by kernel_rfl) Tryd.func7
    (witness_row_at (enc := enc) (C := Tryd.checked) false ({ World.holding Tryd.prog os ⟨#[], #[], []⟩ with heap := (World.holding Tryd.prog os ⟨#[], #[], []⟩).heap.modify 0 fun
      | .cells _ t frozen => .cells #[.int .i64 1, .int .i64 2, .int .i64 4, .int .i64 8] t frozen
      | o => o } : World) #[.string ⟨#[]⟩, .int .u16 0] rfl (by kernel_rfl) (by kernel_rfl) (by kernel_rfl)
      (OpenSpec.preRow_of_cond 8 hx (by kernel_rfl) (fun k hk => by cases hk) (by kernel_rfl) (laid_met os))) ?_
  intro W base args ds gs before hval hW _ _ hsz hL _ _
  exact contract H enc W base args ds gs before hval hW hL hsz

theorem said : Rows.FieldCutsSaid :=
  OpenClaim.holds_of_cond 7 Tryd.f7 rfl rfl rfl rfl rfl rfl rfl ⟨rfl, rfl, rfl, rfl, rfl⟩ rfl rfl rfl rfl rfl (by kernel_rfl) Tryd.func7 (by kernel_rfl)
    (of_decide_eq_true (by kernel_rfl)) (by unfold Func.isWrapper; first | (rw [if_pos (by decide +kernel)]; kernel_rfl) | (rw [if_neg (by decide +kernel)]; exact ⟨rfl, rfl⟩))
    (fun os started H enc _ F => by rw [OpenClaim.pre_eq_preRow]; exact lifted os started H enc F)

theorem plain (f : FuncId) (fn : Func) (hf : Tryd.pinned.checked.prog.funcNamed "sumpter/sumpterlaw02.FieldCuts" = some f) (hfn : Tryd.pinned.checked.prog.funcs[f]? = some fn) :
    false = Tryd.pinned.checked.prog.looks [] ∧ ∀ (j : Nat) t, fn.params[j]? = some t → Tryd.pinned.checked.prog.wantsStandIn t = false := by
  obtain rfl : f = 7 := Option.some.inj ((show Tryd.prog.funcNamed "sumpter/sumpterlaw02.FieldCuts" = some 7 by kernel_rfl).symm.trans hf) |>.symm
  obtain rfl : fn = Tryd.f7 := (Option.some.inj (Tryd.func7.symm.trans hfn)).symm
  refine ⟨by kernel_rfl, fun j t ht => ?_⟩
  rw [Tryd.params7] at ht
  have hm : t ∈ [9, 53] := by simpa using Array.mem_of_getElem? ht
  have hall : ([9, 53].all fun u => !Tryd.prog.wantsStandIn u) = true := by kernel_rfl
  exact (show Tryd.prog.wantsStandIn t = false by simpa using List.all_eq_true.1 hall t hm)
end Go.Proofs.YtmlnocjljhhmdaaDoor.fieldCuts

namespace Go.Proofs.YtmlnocjljhhmdaaDoor
/-- The card of FieldCuts. -/
theorem fieldCuts_card : Rows.FieldCutsCardSaid :=
  Claim7.holds_tied_plain_at .later [] _ _ _ _ fieldCuts.said (fun _ h => by cases h) (by kernel_rfl) (fun _ h => by cases h) fieldCuts_row_tie rfl ⟨rfl, rfl⟩ (by kernel_rfl) rfl fieldCuts.plain (by kernel_rfl)
#print axioms fieldCuts_card
end Go.Proofs.YtmlnocjljhhmdaaDoor
