/-
  FieldBounds answers true for every number and every text, and nothing that was there is changed; the package-level table of widths starts as the program's text lays it (the card ties it).
-/
import Derived.Test.YtmlnocjljhhmdaaDoorFrame
namespace Go.Proofs.YtmlnocjljhhmdaaDoor.fieldBounds
open Go.ChangeShapes Go.WideShapes Go.ChangeAt Go.RowKit Go.Deep Go.ChangeMaps

set_option maxHeartbeats 4000000 in
theorem walk (n : Int) (s : ByteArray) (w : World) (hw : Wid w) (wn : (Lit.int .i64 n).wf = true) (ws : s.size ≤ maxLen) :
    Calls Tryd.prog 6 #[.int .i64 n, .string s] w fun e w' => e = .returned (.bool true) ∧ Below w.heap.size w w' := by
  have hn := bounds_i64 wn
  have hp := hw.pos
  clear wn
  unfold maxLen at ws
  by_cases hok : 1 ≤ n ∧ n ≤ 4611686018427387903 ∧ s.size ≤ 1000 ∧ 1 ≤ s.size
  · obtain ⟨o1, o2, o3, o4⟩ := hok
    have hl0 : lenOf n ≠ 0 := by rcases lenOf_cases n with h | h | h | h | h | h <;> omega
    have nl := numB_len n
    have tl := textB_len s
    have nl8 : (numB n).length ≤ 8 := by rcases lenOf_cases n with h | h | h | h | h | h <;> omega
    clear nl
    have c1 := fnum_any n w hw
    go_enter Tryd.func6, Tryd.ntmps6
    go_wp2_with fail
    refine c1.mono ?_
    rintro e w1 ⟨v1, rfl, sl1, bel1⟩
    clear c1
    have hw1 := hw.below bel1 hp
    have c2 := new_any _ _ w1 hw1 sl1 (by omega)
    go_wp2_with fail
    refine c2.mono ?_
    rintro e w2 ⟨ga, sa, rfl, hga1, hga2, hsa, rda, bel2⟩
    clear c2
    have B2 := bnext bel1 bel2 bel1.size
    have hw2 := hw.below B2 hp
    have c3 := ftext_any s w2 hw2 (by omega)
    go_wp2_with fail
    refine c3.mono ?_
    rintro e w3 ⟨v3, rfl, sl3, bel3⟩
    clear c3
    have B3 := bnext B2 bel3 B2.size
    have hw3 := hw.below B3 hp
    have c4 := new_any _ _ w3 hw3 sl3 (by omega)
    go_wp2_with fail
    refine c4.mono ?_
    rintro e w4 ⟨gb, sb', rfl, hgb1, hgb2, hsb, rdb, bel4⟩
    clear c4
    have B4 := bnext B3 bel4 B3.size
    have hw4 := hw.below B4 hp
    have z1 := bel1.size
    have z2 := bel2.size
    have z3 := bel3.size
    have z4 := bel4.size
    have rda4 := (rda.kept bel3).kept bel4
    have c5 := num_any ga sa _ (n - 1) w4 hw4 rda4
    have eN := na_long n (n - 1) [] hl0 (by omega)
    rw [List.append_nil] at eN
    rw [eN.1, eN.2.1, eN.2.2] at c5
    clear eN
    clear rda rda4 sl1 sl3 bel1 bel2 bel3 bel4
    go_wp2_with fail
    refine c5.mono ?_
    rintro e w5 ⟨rfl, rda5, off5⟩
    clear c5
    have rda5 : Rd w5 ga sa (numB n) 5 := rda5
    have rdb5 := rdb.off off5 (show gb ≠ ga by omega) (show sb' ≠ ga by omega)
    have B5 : Below w.heap.size w w5 := B4.trans (off5.below (by omega))
    have hw5 := hw.below B5 hp
    have c6 := text_any gb sb' _ ((s.size : Int) - 1) w5 hw5 rdb5
    have eT := tx_long s ((s.size : Int) - 1) [] (by omega) (by omega)
    rw [List.append_nil] at eT
    rw [eT.1, eT.2.1, eT.2.2] at c6
    have e10 : strB [] = ⟨#[]⟩ := rfl
    rw [e10] at c6
    clear eT e10 rdb rdb5
    go_wp2_with fail
    refine c6.mono ?_
    rintro e w6 ⟨rfl, rdb6, off6⟩
    clear c6
    have rda6 := rda5.off off6 (show ga ≠ gb by omega) (show sa ≠ gb by omega)
    have B6 : Below w.heap.size w w6 := B5.trans (off6.below (by omega))
    have hw6 := hw.below B6 hp
    clear rda5
    have d1 := err_any ga sa _ 5 w6 rda6
    have d2 := left_any ga sa _ 5 w6 rda6
    have d3 := fnum_any n w6 hw6
    go_wp2_with fail
    refine d1.mono ?_
    rintro e w' ⟨rfl, e7⟩
    subst e7
    clear d1
    go_wp2_with fail
    refine d2.mono ?_
    rintro e w' ⟨rfl, e7⟩
    subst e7
    clear d2
    go_wp2_with fail
    refine d3.mono ?_
    rintro e w7 ⟨v7, rfl, sl7, bel7⟩
    clear d3
    clear hl0 nl8 tl
    obtain ⟨a7, cap7, rfl, _⟩ := sl7
    have B7 := bnext B6 bel7 B6.size
    have hw7 := hw.below B7 hp
    have rdb7 := rdb6.kept bel7
    clear bel7 rdb6 rda6 off5 off6
    have d4 := err_any gb sb' _ 5 w7 rdb7
    have d5 := left_any gb sb' _ 5 w7 rdb7
    have d6 := ftext_any s w7 hw7 (by omega)
    go_wp2_with fail
    refine d4.mono ?_
    rintro e w' ⟨rfl, e7⟩
    subst e7
    clear d4
    go_wp2_with fail
    refine d5.mono ?_
    rintro e w' ⟨rfl, e7⟩
    subst e7
    clear d5
    go_wp2_with fail
    refine d6.mono ?_
    rintro e w8 ⟨v8, rfl, sl8, bel8⟩
    clear d6
    obtain ⟨a8, cap8, rfl, _⟩ := sl8
    have B8 := bnext B7 bel8 B7.size
    have hw8 := hw.below B8 hp
    have rdb8 := rdb7.kept bel8
    have d7 := byte_stop gb sb' _ 5 w8 rdb8 (by decide)
    have d8 := awake_any w8 hw8
    clear rdb7 rdb8 bel8 hw1 hw2 hw3 hw4 hw5 hw6 hw7 B2 B3 B4 B5 B6
    go_wp2_with fail
    refine d7.mono ?_
    rintro e w' ⟨rfl, e7⟩
    subst e7
    clear d7
    go_wp2_with fail
    refine d8.mono ?_
    rintro e w9 ⟨rfl, bel9⟩
    go_wp2
    go_ret
    exact ⟨rfl, bnext B8 bel9 B8.size⟩
  · go_enter Tryd.func6, Tryd.ntmps6
    by_cases h1 : n < 1
    · go_wp2_with (go_at_call 8; refine (awake_any _ hw).mono ?_; rintro e w' ⟨rfl, hbel⟩)
      go_ret
      exact ⟨rfl, by assumption⟩
    · by_cases h2 : 4611686018427387903 < n
      · have hd1 : decide (n < 1) = false := by simpa using h1
        go_wp2_with (go_at_call 8; refine (awake_any _ hw).mono ?_; rintro e w' ⟨rfl, hbel⟩)
        go_ret
        exact ⟨rfl, by assumption⟩
      · by_cases h3 : 1000 < s.size
        · have hd1 : decide (n < 1) = false := by simpa using h1
          have hd2 : decide (4611686018427387903 < n) = false := by simpa using h2
          go_wp2_with (go_at_call 8; refine (awake_any _ hw).mono ?_; rintro e w' ⟨rfl, hbel⟩)
          go_ret
          exact ⟨rfl, by assumption⟩
        · have h4 : s.size = 0 := by omega
          have hd1 : decide (n < 1) = false := by simpa using h1
          have hd2 : decide (4611686018427387903 < n) = false := by simpa using h2
          have hd3 : decide (1000 < (s.size : Int)) = false := by simp; omega
          go_wp2_with (go_at_call 8; refine (awake_any _ hw).mono ?_; rintro e w' ⟨rfl, hbel⟩)
          go_ret
          exact ⟨rfl, by assumption⟩

theorem contract (H : Type) (enc : TypeId × Value → H) (W : World) (base : Nat) (args : Array Value) (ds gs : List (DataW H)) (before : List MemPlace)
    (hval : ∀ (j : Nat) t v, Tryd.f6.params[j]? = some t → args[j]? = some v → Value.okWide Tryd.prog W .any base t v)
    (hW : DataW.Whole enc Tryd.prog Tryd.f6.params.toList Rows.fieldBoundsSpec.vars false W args.toList ds gs before) (hL : laidMetH Tryd.prog Rows.fieldBoundsRow.laid W)
    (hsz0 : (DataW.weightsEach Tryd.prog (Tryd.f6.params.toList ++ Rows.fieldBoundsSpec.plain.varTypes Tryd.prog) (ds ++ gs)).all (· ≤ reachBytes) = true) :
    Calls Tryd.prog 6 args W fun e W' => ∃ v, e = .returned v ∧ Rows.fieldBoundsSpec.post enc Tryd.prog Tryd.f6 false true false false W args v W' := by
  have hW' := hW
  obtain ⟨p, q, hA0, hV, rfl, hfz, hnd⟩ := hW
  have hA : DataW.TrodAll enc Tryd.prog W 0 (fun _ => true) true Tryd.f6.params.toList args.toList ds p := hA0
  rw [Tryd.params6] at hA hval hsz0
  obtain ⟨v0, vs0, d0, ds0, p0, q0, hargs, rfl, rfl, h0, r0⟩ := trodAll_cons hA
  obtain ⟨v1, vs1, d1, ds1, p1, q1, rfl, rfl, rfl, h1, r1⟩ := trodAll_cons r0
  obtain ⟨rfl, rfl, rfl⟩ := trodAll_nil r1
  obtain rfl : args = #[v0, v1] := by cases args; simp_all
  obtain ⟨rfl, rfl⟩ := trodVars_none hV
  obtain ⟨a0, rfl, rfl, rfl, w0⟩ := open_int Tryd.underlying3 (hval 0 3 v0 rfl rfl) h0
  obtain ⟨a1, rfl, rfl, rfl, w1⟩ := open_string Tryd.underlying9 (hval 1 9 v1 rfl rfl) h1
  clear hA0
  refine (walk a0 a1 W (wid_of hL) w0 w1).mono fun e W' ⟨he, bel⟩ => ?_
  subst he
  exact ⟨_, rfl, _, _, _, [], _, [], hW', trodAll_mk1 (shut_bool Tryd.underlying4 _), (trodAll_cons_mk (shut_int Tryd.underlying3 w0) (trodAll_cons_mk (shut_string Tryd.underlying9 w1) trodAll_mk0)), rfl, bel.frame _, fun h => by cases h⟩

theorem laid_met (os : Os) : laidMet Tryd.prog Rows.fieldBoundsRow.laid (({ World.holding Tryd.prog os ⟨#[], #[], []⟩ with heap := (World.holding Tryd.prog os ⟨#[], #[], []⟩).heap.modify 0 fun
      | .cells _ t frozen => .cells #[.int .i64 1, .int .i64 2, .int .i64 4, .int .i64 8] t frozen
      | o => o } : World).forCall (fun _ _ => 0) ⟨#[], #[.int .i64 0, .string ⟨#[]⟩], []⟩).memory :=
  laidMet_of_run' 8 (by kernel_rfl) (by kernel_rfl)
theorem reads (os : Os) {H : Type} (enc : TypeId × Value → H) : ∃ places, DataW.whole enc Tryd.prog (({ World.holding Tryd.prog os ⟨#[], #[], []⟩ with heap := (World.holding Tryd.prog os ⟨#[], #[], []⟩).heap.modify 0 fun
      | .cells _ t frozen => .cells #[.int .i64 1, .int .i64 2, .int .i64 4, .int .i64 8] t frozen
      | o => o } : World).forCall (fun _ _ => 0) ⟨#[], #[.int .i64 0, .string ⟨#[]⟩], []⟩).memory Tryd.f6.params.toList Rows.fieldBoundsSpec.vars false #[Value.int .i64 0, .string ⟨#[]⟩].toList 8 = some ([.lit (.int .i64 0), .lit (.string [])], [], places) :=
  ⟨[], by kernel_rfl⟩

set_option maxRecDepth 100000 in
theorem lifted (os : Os) (started : os.Started) (H : Type) (enc : TypeId × Value → H) (F : Stop.Interp) :
    ReturnsInHanded {} Tryd.checked os 6 .any ((OpenSpec.ofChange Rows.fieldBoundsSpec).preRow enc Tryd.prog Tryd.f6 Rows.fieldBoundsRow.domain false Rows.fieldBoundsRow.laid) (((OpenSpec.ofChange Rows.fieldBoundsSpec).at F).post enc Tryd.prog Tryd.f6 false true false false) := by
  obtain ⟨places, hx⟩ := reads os enc
  refine returnsInHanded_of_row (C := Tryd.checked) (s := OpenSpec.ofChange Rows.fieldBoundsSpec) own started (by kernel_rfl) Tryd.func6
    (witness_row_at (enc := enc) (C := Tryd.checked) false ({ World.holding Tryd.prog os ⟨#[], #[], []⟩ with heap := (World.holding Tryd.prog os ⟨#[], #[], []⟩).heap.modify 0 fun
      | .cells _ t frozen => .cells #[.int .i64 1, .int .i64 2, .int .i64 4, .int .i64 8] t frozen
      | o => o } : World) #[.int .i64 0, .string ⟨#[]⟩] rfl (by kernel_rfl) (by kernel_rfl) (by kernel_rfl)
      (OpenSpec.preRow_of_cond 8 hx (by kernel_rfl) (fun k hk => by cases hk) (by kernel_rfl) (laid_met os))) ?_
  intro W base args ds gs before hval hW _ _ hsz hL _ _
  exact contract H enc W base args ds gs before hval hW hL hsz

theorem said : Rows.FieldBoundsSaid :=
  OpenClaim.holds_of_cond 6 Tryd.f6 rfl rfl rfl rfl rfl rfl rfl ⟨rfl, rfl, rfl, rfl, rfl⟩ rfl rfl rfl rfl rfl (by kernel_rfl) Tryd.func6 (by kernel_rfl)
    (of_decide_eq_true (by kernel_rfl)) (by unfold Func.isWrapper; first | (rw [if_pos (by decide +kernel)]; kernel_rfl) | (rw [if_neg (by decide +kernel)]; exact ⟨rfl, rfl⟩))
    (fun os started H enc _ F => by rw [OpenClaim.pre_eq_preRow]; exact lifted os started H enc F)

theorem plain (f : FuncId) (fn : Func) (hf : Tryd.pinned.checked.prog.funcNamed "sumpter/sumpterlaw02.FieldBounds" = some f) (hfn : Tryd.pinned.checked.prog.funcs[f]? = some fn) :
    false = Tryd.pinned.checked.prog.looks [] ∧ ∀ (j : Nat) t, fn.params[j]? = some t → Tryd.pinned.checked.prog.wantsStandIn t = false := by
  obtain rfl : f = 6 := Option.some.inj ((show Tryd.prog.funcNamed "sumpter/sumpterlaw02.FieldBounds" = some 6 by kernel_rfl).symm.trans hf) |>.symm
  obtain rfl : fn = Tryd.f6 := (Option.some.inj (Tryd.func6.symm.trans hfn)).symm
  refine ⟨by kernel_rfl, fun j t ht => ?_⟩
  rw [Tryd.params6] at ht
  have hm : t ∈ [3, 9] := by simpa using Array.mem_of_getElem? ht
  have hall : ([3, 9].all fun u => !Tryd.prog.wantsStandIn u) = true := by kernel_rfl
  exact (show Tryd.prog.wantsStandIn t = false by simpa using List.all_eq_true.1 hall t hm)
end Go.Proofs.YtmlnocjljhhmdaaDoor.fieldBounds

namespace Go.Proofs.YtmlnocjljhhmdaaDoor
/-- The card of FieldBounds. -/
theorem fieldBounds_card : Rows.FieldBoundsCardSaid :=
  Claim7.holds_tied_plain_at .later [] _ _ _ _ fieldBounds.said (fun _ h => by cases h) (by kernel_rfl) (fun _ h => by cases h) fieldBounds_row_tie rfl ⟨rfl, rfl⟩ (by kernel_rfl) rfl fieldBounds.plain (by kernel_rfl)
#print axioms fieldBounds_card
end Go.Proofs.YtmlnocjljhhmdaaDoor
