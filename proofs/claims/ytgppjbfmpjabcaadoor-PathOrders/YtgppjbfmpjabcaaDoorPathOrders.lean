/-
  Which of any two texts is under the other one, and which stands ahead, is told as the document says: for every two texts, no condition.
-/
import Derived.Test.YtgppjbfmpjabcaaDoorFr
import Derived.Test.YtgppjbfmpjabcaaDoorRl
namespace Go.Proofs.YtgppjbfmpjabcaaDoor.pathOrders
open Go.ChangeShapes Go.WideShapes Go.ChangeAt Go.RowKit Go.Deep Go.ChangeMaps

set_option maxHeartbeats 2000000 in
theorem walk (a b : ByteArray) (w : World) (hw : Mx w) (_wa : a.size ≤ maxLen) (_wb : b.size ≤ maxLen) :
    Calls Tryd.prog 5 #[.string a, .string b] w fun e w' => e = .returned (.bool true) ∧ Below w.heap.size w w' := by
  have M0 : Hid (Mx w) := hw
  have B0 : Hid (Below w.heap.size w w) := Below.refl _ _
  clear hw
  by_cases ha : 1000 < a.size
  · have ha' : 1000 < (a.size : Int) := by omega
    go_enter Tryd.func5, Tryd.ntmps5
    go_wp2_with fail
    refine (awake_any w M0.out).mono ?_
    rintro e w1 ⟨rfl, b⟩
    have M1 : Hid (Mx w1) := M0.out.kept b
    have B1 : Hid (Below w.heap.size w w1) := B0.out.trans (b.mono B0.out.size)
    clear b
    go_wp2
    go_ret
    exact ⟨rfl, B1.out⟩
  have ha' : ¬ 1000 < (a.size : Int) := by omega
  by_cases hb : 1000 < b.size
  · have hb' : 1000 < (b.size : Int) := by omega
    go_enter Tryd.func5, Tryd.ntmps5
    go_wp2_with fail
    refine (awake_any w M0.out).mono ?_
    rintro e w1 ⟨rfl, b⟩
    have M1 : Hid (Mx w1) := M0.out.kept b
    have B1 : Hid (Below w.heap.size w w1) := B0.out.trans (b.mono B0.out.size)
    clear b
    go_wp2
    go_ret
    exact ⟨rfl, B1.out⟩
  have hb' : ¬ 1000 < (b.size : Int) := by omega
  have U1 : Hid (∀ w, Calls Tryd.prog 26 #[.string a, .string b] w fun e w' => e = .returned (.bool (und (dl a) (dl b))) ∧ w' = w) := fun w => under_any a b w (by omega)
  have U2 : Hid (∀ w, Calls Tryd.prog 27 #[.string a, .string b] w fun e w' => e = .returned (.bool (und (dl a) (dl b))) ∧ w' = w) := fun w => runder_any a b w
  have L1 : Hid (∀ w, Mx w → Calls Tryd.prog 28 #[.string a, .string b] w fun e w' => e = .returned (.bool (les (dl a) (dl b))) ∧ Below w.heap.size w w') := fun w hm => less_any a b w hm (by omega) (by omega)
  have L2 : Hid (∀ w, Calls Tryd.prog 29 #[.string a, .string b] w fun e w' => e = .returned (.bool (les (dl a) (dl b))) ∧ Below w.heap.size w w') := fun w => rless_any a b w (by omega) (by omega)
  generalize und (dl a) (dl b) = ub at *
  generalize les (dl a) (dl b) = lb at *
  clear ha hb
  go_enter Tryd.func5, Tryd.ntmps5
  go_wp2_with fail
  refine (U1.out w).mono ?_
  rintro e wq ⟨rfl, hq⟩
  replace hq := hq.symm
  subst hq
  go_wp2_with fail
  refine (U2.out w).mono ?_
  rintro e wq ⟨rfl, hq⟩
  replace hq := hq.symm
  subst hq
  go_wp2_with fail
  refine (L1.out w M0.out).mono ?_
  rintro e w1 ⟨rfl, b⟩
  have M1 : Hid (Mx w1) := M0.out.kept b
  have B1 : Hid (Below w.heap.size w w1) := B0.out.trans (b.mono B0.out.size)
  clear b
  go_wp2_with fail
  refine (L2.out w1).mono ?_
  rintro e w2 ⟨rfl, b⟩
  have M2 : Hid (Mx w2) := M1.out.kept b
  have B2 : Hid (Below w.heap.size w w2) := B1.out.trans (b.mono B1.out.size)
  clear b
  go_wp2_with fail
  refine (awake_any w2 M2.out).mono ?_
  rintro e w3 ⟨rfl, b⟩
  have M3 : Hid (Mx w3) := M2.out.kept b
  have B3 : Hid (Below w.heap.size w w3) := B2.out.trans (b.mono B2.out.size)
  clear b
  go_wp2
  go_ret
  exact ⟨rfl, B3.out⟩

theorem contract (H : Type) (enc : TypeId × Value → H) (W : World) (base : Nat) (args : Array Value) (ds gs : List (DataW H)) (before : List MemPlace)
    (hval : ∀ (j : Nat) t v, Tryd.f5.params[j]? = some t → args[j]? = some v → Value.okWide Tryd.prog W .any base t v)
    (hW : DataW.Whole enc Tryd.prog Tryd.f5.params.toList Rows.pathOrdersSpec.vars false W args.toList ds gs before) (_hL : laidMetH Tryd.prog Rows.pathOrdersRow.laid W) (hsh : W.ShapedOpen Tryd.prog)
    (hsz0 : (DataW.weightsEach Tryd.prog (Tryd.f5.params.toList ++ Rows.pathOrdersSpec.plain.varTypes Tryd.prog) (ds ++ gs)).all (· ≤ reachBytes) = true) :
    Calls Tryd.prog 5 args W fun e W' => ∃ v, e = .returned v ∧ Rows.pathOrdersSpec.post enc Tryd.prog Tryd.f5 false true false false W args v W' := by
  have hW' := hW
  obtain ⟨p, q, hA0, hV, rfl, hfz, hnd⟩ := hW
  have hA : DataW.TrodAll enc Tryd.prog W 0 (fun _ => true) true Tryd.f5.params.toList args.toList ds p := hA0
  rw [Tryd.params5] at hA hval hsz0
  obtain ⟨v0, vs0, d0, ds0, p0, q0, hargs, rfl, rfl, h0, r0⟩ := trodAll_cons hA
  obtain ⟨v1, vs1, d1, ds1, p1, q1, rfl, rfl, rfl, h1, r1⟩ := trodAll_cons r0
  obtain ⟨rfl, rfl, rfl⟩ := trodAll_nil r1
  obtain rfl : args = #[v0, v1] := by cases args; simp_all
  obtain ⟨rfl, rfl⟩ := trodVars_none hV
  obtain ⟨a0, rfl, rfl, rfl, w0⟩ := open_string Tryd.underlying9 (hval 0 9 v0 rfl rfl) h0
  obtain ⟨a1, rfl, rfl, rfl, w1⟩ := open_string Tryd.underlying9 (hval 1 9 v1 rfl rfl) h1
  clear hA0
  refine (walk a0 a1 W (mx_of hsh) w0 w1).mono fun e W' ⟨he, bel⟩ => ?_
  subst he
  exact ⟨_, rfl, _, _, _, [], _, [], hW', trodAll_mk1 (shut_bool Tryd.underlying4 _), (trodAll_cons_mk (shut_string Tryd.underlying9 w0) (trodAll_cons_mk (shut_string Tryd.underlying9 w1) trodAll_mk0)), rfl, bel.frame _, fun h => by cases h⟩

theorem laid_met (os : Os) : laidMet Tryd.prog Rows.pathOrdersRow.laid (({ World.holding Tryd.prog os ⟨#[], #[], []⟩ with heap := ((((World.holding Tryd.prog os ⟨#[], #[], []⟩).heap.modify 0 (fun
      | .cells _ t frozen => .cells #[.int .i64 0] t frozen
      | o => o)).modify 1 (fun
      | .cells _ t frozen => .cells firstCells t frozen
      | o => o)).modify 2 (fun
      | .cells _ t frozen => .cells rangeCells t frozen
      | o => o)) } : World).forCall (fun _ _ => 0) ⟨#[], #[.string ⟨#[]⟩, .string ⟨#[]⟩], []⟩).memory :=
  laidMet_of_run' 8 (by kernel_rfl) (by kernel_rfl)
theorem reads (os : Os) {H : Type} (enc : TypeId × Value → H) : ∃ places, DataW.whole enc Tryd.prog (({ World.holding Tryd.prog os ⟨#[], #[], []⟩ with heap := ((((World.holding Tryd.prog os ⟨#[], #[], []⟩).heap.modify 0 (fun
      | .cells _ t frozen => .cells #[.int .i64 0] t frozen
      | o => o)).modify 1 (fun
      | .cells _ t frozen => .cells firstCells t frozen
      | o => o)).modify 2 (fun
      | .cells _ t frozen => .cells rangeCells t frozen
      | o => o)) } : World).forCall (fun _ _ => 0) ⟨#[], #[.string ⟨#[]⟩, .string ⟨#[]⟩], []⟩).memory Tryd.f5.params.toList Rows.pathOrdersSpec.vars false #[Value.string ⟨#[]⟩, .string ⟨#[]⟩].toList 8 = some ([.lit (.string []), .lit (.string [])], [], places) :=
  ⟨[], by kernel_rfl⟩

set_option maxRecDepth 100000 in
theorem lifted (os : Os) (started : os.Started) (H : Type) (enc : TypeId × Value → H) (F : Stop.Interp) :
    ReturnsInHanded {} Tryd.checked os 5 .any ((OpenSpec.ofChange Rows.pathOrdersSpec).preRow enc Tryd.prog Tryd.f5 Rows.pathOrdersRow.domain false Rows.pathOrdersRow.laid) (((OpenSpec.ofChange Rows.pathOrdersSpec).at F).post enc Tryd.prog Tryd.f5 false true false false) := by
  obtain ⟨places, hx⟩ := reads os enc
  refine returnsInHanded_of_row (C := Tryd.checked) (s := OpenSpec.ofChange Rows.pathOrdersSpec) own started (by kernel_rfl) Tryd.func5
    (witness_row_at (enc := enc) (C := Tryd.checked) false ({ World.holding Tryd.prog os ⟨#[], #[], []⟩ with heap := ((((World.holding Tryd.prog os ⟨#[], #[], []⟩).heap.modify 0 (fun
      | .cells _ t frozen => .cells #[.int .i64 0] t frozen
      | o => o)).modify 1 (fun
      | .cells _ t frozen => .cells firstCells t frozen
      | o => o)).modify 2 (fun
      | .cells _ t frozen => .cells rangeCells t frozen
      | o => o)) } : World) #[.string ⟨#[]⟩, .string ⟨#[]⟩] rfl (by kernel_rfl) (by kernel_rfl) (by kernel_rfl)
      (OpenSpec.preRow_of_cond 8 hx (by kernel_rfl) (fun k hk => by cases hk) (by kernel_rfl) (laid_met os))) ?_
  intro W base args ds gs before hval hW _ _ hsz hL hsh _
  exact contract H enc W base args ds gs before hval hW hL hsh hsz

theorem said : Rows.PathOrdersSaid :=
  OpenClaim.holds_of_cond 5 Tryd.f5 rfl rfl rfl rfl rfl rfl rfl ⟨rfl, rfl, rfl, rfl, rfl⟩ rfl rfl rfl rfl rfl (by kernel_rfl) Tryd.func5 (by kernel_rfl)
    (of_decide_eq_true (by kernel_rfl)) (by unfold Func.isWrapper; first | (rw [if_pos (by decide +kernel)]; kernel_rfl) | (rw [if_neg (by decide +kernel)]; exact ⟨rfl, rfl⟩))
    (fun os started H enc _ F => by rw [OpenClaim.pre_eq_preRow]; exact lifted os started H enc F)

theorem plain (f : FuncId) (fn : Func) (hf : Tryd.pinned.checked.prog.funcNamed "sumpter/sumpterlaw07.PathOrders" = some f) (hfn : Tryd.pinned.checked.prog.funcs[f]? = some fn) :
    false = Tryd.pinned.checked.prog.looks [] ∧ ∀ (j : Nat) t, fn.params[j]? = some t → Tryd.pinned.checked.prog.wantsStandIn t = false := by
  obtain rfl : f = 5 := Option.some.inj ((show Tryd.prog.funcNamed "sumpter/sumpterlaw07.PathOrders" = some 5 by kernel_rfl).symm.trans hf) |>.symm
  obtain rfl : fn = Tryd.f5 := (Option.some.inj (Tryd.func5.symm.trans hfn)).symm
  refine ⟨by kernel_rfl, fun j t ht => ?_⟩
  rw [Tryd.params5] at ht
  have hm : t ∈ [9, 9] := by simpa using Array.mem_of_getElem? ht
  have hall : ([9, 9].all fun u => !Tryd.prog.wantsStandIn u) = true := by kernel_rfl
  exact (show Tryd.prog.wantsStandIn t = false by simpa using List.all_eq_true.1 hall t hm)
end Go.Proofs.YtgppjbfmpjabcaaDoor.pathOrders

namespace Go.Proofs.YtgppjbfmpjabcaaDoor
/-- The card of PathOrders. -/
theorem pathOrders_card : Rows.PathOrdersCardSaid :=
  Claim7.holds_tied_plain_at .later [] _ _ _ _ pathOrders.said (fun _ h => by cases h) (by kernel_rfl) (fun _ h => by cases h) pathOrders_row_tie rfl ⟨rfl, rfl⟩ (by kernel_rfl) rfl pathOrders.plain (by kernel_rfl)
#print axioms pathOrders_card
end Go.Proofs.YtgppjbfmpjabcaaDoor
