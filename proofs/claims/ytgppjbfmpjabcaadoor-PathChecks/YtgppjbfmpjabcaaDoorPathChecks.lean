/-
  Which texts are names and paths, and which are reserved, is told as the document says: for every text, no condition.
-/
import Derived.Test.YtgppjbfmpjabcaaDoorFr
import Derived.Test.YtgppjbfmpjabcaaDoorRc
namespace Go.Proofs.YtgppjbfmpjabcaaDoor.pathChecks
open Go.ChangeShapes Go.WideShapes Go.ChangeAt Go.RowKit Go.Deep Go.ChangeMaps

set_option maxHeartbeats 2000000 in
theorem walk (p : ByteArray) (w : World) (hw : Mx w) (wp : p.size ≤ maxLen) :
    Calls Tryd.prog 3 #[.string p] w fun e w' => e = .returned (.bool true) ∧ Below w.heap.size w w' := by
  have M0 : Hid (Mx w) := hw
  have B0 : Hid (Below w.heap.size w w) := Below.refl _ _
  clear hw
  by_cases hl : 1000 < p.size
  · have hl' : 1000 < (p.size : Int) := by omega
    go_enter Tryd.func3, Tryd.ntmps3
    go_wp2_with fail
    refine (awake_any w M0.out).mono ?_
    rintro e w1 ⟨rfl, b⟩
    have M1 : Hid (Mx w1) := M0.out.kept b
    have B1 : Hid (Below w.heap.size w w1) := B0.out.trans (b.mono B0.out.size)
    clear b
    go_wp2
    go_ret
    exact ⟨rfl, B1.out⟩
  have hl' : ¬ 1000 < (p.size : Int) := by omega
  have N1 : Hid (∀ w, Calls Tryd.prog 10 #[.string p] w fun e w' => e = .returned (.bool (nameB (dl p))) ∧ w' = w) := fun w => name_any p w wp
  have N2 : Hid (∀ w, Calls Tryd.prog 11 #[.string p] w fun e w' => e = .returned (.bool (nameB (dl p))) ∧ w' = w) := fun w => rname_any p w wp
  have C1 : Hid (∀ w, Mx w → Calls Tryd.prog 12 #[.string p] w fun e w' => e = .returned (.int .i64 (chk (dl p))) ∧ Below w.heap.size w w') := fun w hm => check_any p w hm wp
  have C2 : Hid (∀ w, Calls Tryd.prog 13 #[.string p] w fun e w' => e = .returned (.int .i64 (chk (dl p))) ∧ Below w.heap.size w w') := fun w => rcheck_any p w wp
  have R1 : Hid (∀ w, Calls Tryd.prog 14 #[.string p] w fun e w' => e = .returned (.bool (res (dl p))) ∧ w' = w) := fun w => reserved_any p w
  have R2 : Hid (∀ w, Calls Tryd.prog 15 #[.string p] w fun e w' => e = .returned (.bool (res (dl p))) ∧ w' = w) := fun w => rreserved_any p w
  have K1 : Hid (∀ w, Mx w → Calls Tryd.prog 16 #[.string p] w fun e w' => e = .returned (.string (mk (kep (dl p)))) ∧ Below w.heap.size w w') := fun w hm => kept_any p w hm (by omega)
  have K2 : Hid (∀ w, Calls Tryd.prog 17 #[.string p] w fun e w' => e = .returned (.string (mk (kep (dl p)))) ∧ Below w.heap.size w w') := fun w => rkept_any p w (by omega)
  generalize nameB (dl p) = nb at *
  generalize chk (dl p) = ck at *
  generalize res (dl p) = rb at *
  generalize mk (kep (dl p)) = kb at *
  clear wp hl
  go_enter Tryd.func3, Tryd.ntmps3
  go_wp2_with fail
  refine (N1.out w).mono ?_
  rintro e wq ⟨rfl, hq⟩
  replace hq := hq.symm
  subst hq
  go_wp2_with fail
  refine (N2.out w).mono ?_
  rintro e wq ⟨rfl, hq⟩
  replace hq := hq.symm
  subst hq
  go_wp2_with fail
  refine (C1.out w M0.out).mono ?_
  rintro e w1 ⟨rfl, b⟩
  have M1 : Hid (Mx w1) := M0.out.kept b
  have B1 : Hid (Below w.heap.size w w1) := B0.out.trans (b.mono B0.out.size)
  clear b
  go_wp2_with fail
  refine (C2.out w1).mono ?_
  rintro e w2 ⟨rfl, b⟩
  have M2 : Hid (Mx w2) := M1.out.kept b
  have B2 : Hid (Below w.heap.size w w2) := B1.out.trans (b.mono B1.out.size)
  clear b
  go_wp2_with fail
  refine (R1.out w2).mono ?_
  rintro e wq ⟨rfl, hq⟩
  replace hq := hq.symm
  subst hq
  go_wp2_with fail
  refine (R2.out w2).mono ?_
  rintro e wq ⟨rfl, hq⟩
  replace hq := hq.symm
  subst hq
  go_wp2_with fail
  refine (K1.out w2 M2.out).mono ?_
  rintro e w3 ⟨rfl, b⟩
  have M3 : Hid (Mx w3) := M2.out.kept b
  have B3 : Hid (Below w.heap.size w w3) := B2.out.trans (b.mono B2.out.size)
  clear b
  go_wp2_with fail
  refine (K2.out w3).mono ?_
  rintro e w4 ⟨rfl, b⟩
  have M4 : Hid (Mx w4) := M3.out.kept b
  have B4 : Hid (Below w.heap.size w w4) := B3.out.trans (b.mono B3.out.size)
  clear b
  go_wp2_with fail
  refine (awake_any w4 M4.out).mono ?_
  rintro e w5 ⟨rfl, b⟩
  have M5 : Hid (Mx w5) := M4.out.kept b
  have B5 : Hid (Below w.heap.size w w5) := B4.out.trans (b.mono B4.out.size)
  clear b
  go_wp2
  go_ret
  exact ⟨rfl, B5.out⟩

theorem contract (H : Type) (enc : TypeId × Value → H) (W : World) (base : Nat) (args : Array Value) (ds gs : List (DataW H)) (before : List MemPlace)
    (hval : ∀ (j : Nat) t v, Tryd.f3.params[j]? = some t → args[j]? = some v → Value.okWide Tryd.prog W .any base t v)
    (hW : DataW.Whole enc Tryd.prog Tryd.f3.params.toList Rows.pathChecksSpec.vars false W args.toList ds gs before) (_hL : laidMetH Tryd.prog Rows.pathChecksRow.laid W) (hsh : W.ShapedOpen Tryd.prog)
    (hsz0 : (DataW.weightsEach Tryd.prog (Tryd.f3.params.toList ++ Rows.pathChecksSpec.plain.varTypes Tryd.prog) (ds ++ gs)).all (· ≤ reachBytes) = true) :
    Calls Tryd.prog 3 args W fun e W' => ∃ v, e = .returned v ∧ Rows.pathChecksSpec.post enc Tryd.prog Tryd.f3 false true false false W args v W' := by
  have hW' := hW
  obtain ⟨p, q, hA0, hV, rfl, hfz, hnd⟩ := hW
  have hA : DataW.TrodAll enc Tryd.prog W 0 (fun _ => true) true Tryd.f3.params.toList args.toList ds p := hA0
  rw [Tryd.params3] at hA hval hsz0
  obtain ⟨v0, vs0, d0, ds0, p0, q0, hargs, rfl, rfl, h0, r0⟩ := trodAll_cons hA
  obtain ⟨rfl, rfl, rfl⟩ := trodAll_nil r0
  obtain rfl : args = #[v0] := by cases args; simp_all
  obtain ⟨rfl, rfl⟩ := trodVars_none hV
  obtain ⟨a0, rfl, rfl, rfl, w0⟩ := open_string Tryd.underlying9 (hval 0 9 v0 rfl rfl) h0
  clear hA0
  refine (walk a0 W (mx_of hsh) w0).mono fun e W' ⟨he, bel⟩ => ?_
  subst he
  exact ⟨_, rfl, _, _, _, [], _, [], hW', trodAll_mk1 (shut_bool Tryd.underlying4 _), (trodAll_cons_mk (shut_string Tryd.underlying9 w0) trodAll_mk0), rfl, bel.frame _, fun h => by cases h⟩

theorem laid_met (os : Os) : laidMet Tryd.prog Rows.pathChecksRow.laid (({ World.holding Tryd.prog os ⟨#[], #[], []⟩ with heap := ((((World.holding Tryd.prog os ⟨#[], #[], []⟩).heap.modify 0 (fun
      | .cells _ t frozen => .cells #[.int .i64 0] t frozen
      | o => o)).modify 1 (fun
      | .cells _ t frozen => .cells firstCells t frozen
      | o => o)).modify 2 (fun
      | .cells _ t frozen => .cells rangeCells t frozen
      | o => o)) } : World).forCall (fun _ _ => 0) ⟨#[], #[.string ⟨#[]⟩], []⟩).memory :=
  laidMet_of_run' 8 (by kernel_rfl) (by kernel_rfl)
theorem reads (os : Os) {H : Type} (enc : TypeId × Value → H) : ∃ places, DataW.whole enc Tryd.prog (({ World.holding Tryd.prog os ⟨#[], #[], []⟩ with heap := ((((World.holding Tryd.prog os ⟨#[], #[], []⟩).heap.modify 0 (fun
      | .cells _ t frozen => .cells #[.int .i64 0] t frozen
      | o => o)).modify 1 (fun
      | .cells _ t frozen => .cells firstCells t frozen
      | o => o)).modify 2 (fun
      | .cells _ t frozen => .cells rangeCells t frozen
      | o => o)) } : World).forCall (fun _ _ => 0) ⟨#[], #[.string ⟨#[]⟩], []⟩).memory Tryd.f3.params.toList Rows.pathChecksSpec.vars false #[Value.string ⟨#[]⟩].toList 8 = some ([.lit (.string [])], [], places) :=
  ⟨[], by kernel_rfl⟩

set_option maxRecDepth 100000 in
theorem lifted (os : Os) (started : os.Started) (H : Type) (enc : TypeId × Value → H) (F : Stop.Interp) :
    ReturnsInHanded {} Tryd.checked os 3 .any ((OpenSpec.ofChange Rows.pathChecksSpec).preRow enc Tryd.prog Tryd.f3 Rows.pathChecksRow.domain false Rows.pathChecksRow.laid) (((OpenSpec.ofChange Rows.pathChecksSpec).at F).post enc Tryd.prog Tryd.f3 false true false false) := by
  obtain ⟨places, hx⟩ := reads os enc
  refine returnsInHanded_of_row (C := Tryd.checked) (s := OpenSpec.ofChange Rows.pathChecksSpec) own started (by kernel_rfl) Tryd.func3
    (witness_row_at (enc := enc) (C := Tryd.checked) false ({ World.holding Tryd.prog os ⟨#[], #[], []⟩ with heap := ((((World.holding Tryd.prog os ⟨#[], #[], []⟩).heap.modify 0 (fun
      | .cells _ t frozen => .cells #[.int .i64 0] t frozen
      | o => o)).modify 1 (fun
      | .cells _ t frozen => .cells firstCells t frozen
      | o => o)).modify 2 (fun
      | .cells _ t frozen => .cells rangeCells t frozen
      | o => o)) } : World) #[.string ⟨#[]⟩] rfl (by kernel_rfl) (by kernel_rfl) (by kernel_rfl)
      (OpenSpec.preRow_of_cond 8 hx (by kernel_rfl) (fun k hk => by cases hk) (by kernel_rfl) (laid_met os))) ?_
  intro W base args ds gs before hval hW _ _ hsz hL hsh _
  exact contract H enc W base args ds gs before hval hW hL hsh hsz

theorem said : Rows.PathChecksSaid :=
  OpenClaim.holds_of_cond 3 Tryd.f3 rfl rfl rfl rfl rfl rfl rfl ⟨rfl, rfl, rfl, rfl, rfl⟩ rfl rfl rfl rfl rfl (by kernel_rfl) Tryd.func3 (by kernel_rfl)
    (of_decide_eq_true (by kernel_rfl)) (by unfold Func.isWrapper; first | (rw [if_pos (by decide +kernel)]; kernel_rfl) | (rw [if_neg (by decide +kernel)]; exact ⟨rfl, rfl⟩))
    (fun os started H enc _ F => by rw [OpenClaim.pre_eq_preRow]; exact lifted os started H enc F)

theorem plain (f : FuncId) (fn : Func) (hf : Tryd.pinned.checked.prog.funcNamed "sumpter/sumpterlaw07.PathChecks" = some f) (hfn : Tryd.pinned.checked.prog.funcs[f]? = some fn) :
    false = Tryd.pinned.checked.prog.looks [] ∧ ∀ (j : Nat) t, fn.params[j]? = some t → Tryd.pinned.checked.prog.wantsStandIn t = false := by
  obtain rfl : f = 3 := Option.some.inj ((show Tryd.prog.funcNamed "sumpter/sumpterlaw07.PathChecks" = some 3 by kernel_rfl).symm.trans hf) |>.symm
  obtain rfl : fn = Tryd.f3 := (Option.some.inj (Tryd.func3.symm.trans hfn)).symm
  refine ⟨by kernel_rfl, fun j t ht => ?_⟩
  rw [Tryd.params3] at ht
  have hm : t ∈ [9] := by simpa using Array.mem_of_getElem? ht
  have hall : ([9].all fun u => !Tryd.prog.wantsStandIn u) = true := by kernel_rfl
  exact (show Tryd.prog.wantsStandIn t = false by simpa using List.all_eq_true.1 hall t hm)
end Go.Proofs.YtgppjbfmpjabcaaDoor.pathChecks

namespace Go.Proofs.YtgppjbfmpjabcaaDoor
/-- The card of PathChecks. -/
theorem pathChecks_card : Rows.PathChecksCardSaid :=
  Claim7.holds_tied_plain_at .later [] _ _ _ _ pathChecks.said (fun _ h => by cases h) (by kernel_rfl) (fun _ h => by cases h) pathChecks_row_tie rfl ⟨rfl, rfl⟩ (by kernel_rfl) rfl pathChecks.plain (by kernel_rfl)
#print axioms pathChecks_card
end Go.Proofs.YtgppjbfmpjabcaaDoor
