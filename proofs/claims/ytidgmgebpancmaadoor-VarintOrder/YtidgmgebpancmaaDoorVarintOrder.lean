/-
  VarintOrder answers true for every two numbers, and nothing that was there is changed; the package-level table of widths starts as the program's text lays it (the card ties it).
-/
import Derived.Test.YtidgmgebpancmaaDoorFrame
import Derived.Test.YtidgmgebpancmaaDoorLess
namespace Go.Proofs.YtidgmgebpancmaaDoor.varintOrder
open Go.ChangeShapes Go.WideShapes Go.ChangeAt Go.RowKit

theorem width_of (n : Int) (h : lenOf n ≠ 0) : ∃ W : Nat, lenOf n = W ∧ W ≠ 0 ∧ IsW W ∧ 0 ≤ n ∧ n < lim W := by
  obtain ⟨W, hW⟩ : ∃ W : Nat, lenOf n = W := ⟨(lenOf n).toNat, by rcases lenOf_cases n with h | h | h | h | h | h <;> omega⟩
  obtain ⟨hI, h1, h2⟩ := lenOf_eq n W hW (by omega)
  exact ⟨W, hW, by omega, hI, h1, h2⟩

theorem conv_put (n : Int) (W : Nat) (w w' : World) (hI : IsW W) (h1 : 0 ≤ n) (h2 : n < lim W) (hb : Below (w.heap.size + 1) (w.alloc (.cells (pbA n W) 5)) w') :
    (convert 25 9 (.slice (some ⟨w.heap.size, 0, none⟩) W W)).run Tryd.prog w' = .ok (.string (strB (pb n W))) w' := by
  have hr := (row_put n W w hI h1 h2).below hb (fun b hb => by cases hb; exact Nat.lt_succ_self _)
  have h := conv_any _ W W _ _ (by rw [pb_len n W hI]; exact Nat.le_refl _) hr
  rwa [List.take_of_length_le (by rw [pb_len n W hI]; exact Nat.le_refl _)] at h

set_option maxHeartbeats 2000000 in
theorem walk_both (a b : Int) (U W : Nat) (w : World) (hw : Wid w) (hU : lenOf a = U) (hU0 : U ≠ 0) (uI : IsW U) (a1 : 0 ≤ a) (a2 : a < lim U) (hW : lenOf b = W) (hW0 : W ≠ 0) (wI : IsW W) (b1 : 0 ≤ b) (b2 : b < lim W) :
    Calls Tryd.prog 8 #[.int .i64 a, .int .i64 b] w fun e w' => e = .returned (.bool true) ∧ Below w.heap.size w w' := by
  have p1 := put_ok a U w hw hU hU0
  have w1 : Wid (w.alloc (.cells (pbA a U) 5)) := hw.alloc _
  have p2 := put_ok b W _ w1 hW hW0
  have w2 := w1.alloc (.cells (pbA b W) 5)
  have hbel : Below w.heap.size w ((w.alloc (.cells (pbA a U) 5)).alloc (.cells (pbA b W) 5)) := ((Below.refl _ _).alloc (Nat.le_refl _) _).alloc (by simp) _
  have v1 := conv_put a U w ((w.alloc (.cells (pbA a U) 5)).alloc (.cells (pbA b W) 5)) uI a1 a2 ((Below.refl _ _).alloc (by simp) _)
  have v2 := conv_put b W (w.alloc (.cells (pbA a U) 5)) ((w.alloc (.cells (pbA a U) 5)).alloc (.cells (pbA b W) 5)) wI b1 b2 (Below.refl _ _)
  have hs : (w.alloc (.cells (pbA a U) 5)).heap.size = w.heap.size + 1 := by simp
  rw [hs] at p2 v2
  have aw := awake_any _ w2
  by_cases he : a = b
  · subst he
    obtain rfl : U = W := by omega
    have hl := less_pb a a U uI a1 a2 a1 a2
    clear p2
    have p2 := put_ok a U _ w1 hW hW0
    rw [hs] at p2
    clear hU hW hU0 hW0
    rw [show decide (a < a) = false by simp] at hl
    go_enter Tryd.func8, Tryd.ntmps8
    go_wp2_with fail
    refine p1.mono ?_
    rintro e w' ⟨rfl, rfl⟩
    go_wp2_with fail
    refine p2.mono ?_
    rintro e w' ⟨rfl, rfl⟩
    go_wp2_with (go_at_call 11; refine aw.mono ?_; rintro e w' ⟨rfl, hb3⟩)
    go_ret
    exact ⟨rfl, hbel.trans (Below.mono (by assumption) (by simp; omega))⟩
  · have hn := same_pb a b U W uI wI a1 a2 b1 b2 he
    have hne : (a == b) = false := by simpa using he
    by_cases hUW : U = W
    · subst hUW
      have hl := less_pb a b U uI a1 a2 b1 b2
      clear he
      rcases Int.lt_trichotomy a b with hlt | heq | hgt
      · rw [show decide (a < b) = true by simp [hlt]] at hl
        clear hU hW hU0 hW0
        go_enter Tryd.func8, Tryd.ntmps8
        go_wp2_with fail
        refine p1.mono ?_
        rintro e w' ⟨rfl, rfl⟩
        go_wp2_with fail
        refine p2.mono ?_
        rintro e w' ⟨rfl, rfl⟩
        go_wp2_with (go_at_call 11; refine aw.mono ?_; rintro e w' ⟨rfl, hb3⟩)
        go_ret
        exact ⟨rfl, hbel.trans (Below.mono (by assumption) (by simp; omega))⟩
      · simp [heq] at hne
      · rw [show decide (a < b) = false by simp; omega] at hl
        clear hU hW hU0 hW0
        go_enter Tryd.func8, Tryd.ntmps8
        go_wp2_with fail
        refine p1.mono ?_
        rintro e w' ⟨rfl, rfl⟩
        go_wp2_with fail
        refine p2.mono ?_
        rintro e w' ⟨rfl, rfl⟩
        go_wp2_with (go_at_call 11; refine aw.mono ?_; rintro e w' ⟨rfl, hb3⟩)
        go_ret
        exact ⟨rfl, hbel.trans (Below.mono (by assumption) (by simp; omega))⟩
    · have hdf : ((U : Int) == (W : Int)) = false := by simp; omega
      clear hU hW hU0 hW0 hUW he
      go_enter Tryd.func8, Tryd.ntmps8
      go_wp2_with fail
      refine p1.mono ?_
      rintro e w' ⟨rfl, rfl⟩
      go_wp2_with fail
      refine p2.mono ?_
      rintro e w' ⟨rfl, rfl⟩
      go_wp2_with (go_at_call 11; refine aw.mono ?_; rintro e w' ⟨rfl, hb3⟩)
      go_ret
      exact ⟨rfl, hbel.trans (Below.mono (by assumption) (by simp; omega))⟩

set_option maxHeartbeats 2000000 in
theorem walk (a b : Int) (w : World) (hw : Wid w) (_wa : (Lit.int .i64 a).wf = true) (_wb : (Lit.int .i64 b).wf = true) :
    Calls Tryd.prog 8 #[.int .i64 a, .int .i64 b] w fun e w' => e = .returned (.bool true) ∧ Below w.heap.size w w' := by
  by_cases ha : lenOf a = 0
  · have p1 := put_no a w hw ha
    by_cases hb : lenOf b = 0
    · have p2 := put_no b w hw hb
      go_enter Tryd.func8, Tryd.ntmps8
      go_wp2_with fail
      refine p1.mono ?_
      rintro e w' ⟨rfl, rfl⟩
      go_wp2_with fail
      refine p2.mono ?_
      rintro e w' ⟨rfl, rfl⟩
      go_wp2_with (go_at_call 11; refine (awake_any _ hw).mono ?_; rintro e w' ⟨rfl, hb3⟩)
      go_ret
      exact ⟨rfl, by assumption⟩
    · obtain ⟨W, hW, hW0, wI, b1, b2⟩ := width_of b hb
      have p2 := put_ok b W w hw hW hW0
      have w1 : Wid (w.alloc (.cells (pbA b W) 5)) := hw.alloc _
      have hbel : Below w.heap.size w (w.alloc (.cells (pbA b W) 5)) := (Below.refl _ _).alloc (Nat.le_refl _) _
      clear hb hW hW0 ha
      go_enter Tryd.func8, Tryd.ntmps8
      go_wp2_with fail
      refine p1.mono ?_
      rintro e w' ⟨rfl, rfl⟩
      go_wp2_with fail
      refine p2.mono ?_
      rintro e w' ⟨rfl, rfl⟩
      go_wp2_with (go_at_call 11; refine (awake_any _ w1).mono ?_; rintro e w' ⟨rfl, hb3⟩)
      go_ret
      exact ⟨rfl, hbel.trans (Below.mono (by assumption) (by simp))⟩
  · obtain ⟨U, hU, hU0, uI, a1, a2⟩ := width_of a ha
    by_cases hb : lenOf b = 0
    · have p1 := put_ok a U w hw hU hU0
      have w1 : Wid (w.alloc (.cells (pbA a U) 5)) := hw.alloc _
      have p2 := put_no b _ w1 hb
      have hbel : Below w.heap.size w (w.alloc (.cells (pbA a U) 5)) := (Below.refl _ _).alloc (Nat.le_refl _) _
      clear hb hU hU0 ha
      go_enter Tryd.func8, Tryd.ntmps8
      go_wp2_with fail
      refine p1.mono ?_
      rintro e w' ⟨rfl, rfl⟩
      go_wp2_with fail
      refine p2.mono ?_
      rintro e w' ⟨rfl, rfl⟩
      go_wp2_with (go_at_call 11; refine (awake_any _ w1).mono ?_; rintro e w' ⟨rfl, hb3⟩)
      go_ret
      exact ⟨rfl, hbel.trans (Below.mono (by assumption) (by simp))⟩
    · obtain ⟨W, hW, hW0, wI, b1, b2⟩ := width_of b hb
      exact walk_both a b U W w hw hU hU0 uI a1 a2 hW hW0 wI b1 b2

theorem contract (H : Type) (enc : TypeId × Value → H) (W : World) (base : Nat) (args : Array Value) (ds gs : List (DataW H)) (before : List MemPlace)
    (hval : ∀ (j : Nat) t v, Tryd.f8.params[j]? = some t → args[j]? = some v → Value.okWide Tryd.prog W .any base t v)
    (hW : DataW.Whole enc Tryd.prog Tryd.f8.params.toList Rows.varintOrderSpec.vars false W args.toList ds gs before) (hL : laidMetH Tryd.prog Rows.varintOrderRow.laid W)
    (hsz0 : (DataW.weightsEach Tryd.prog (Tryd.f8.params.toList ++ Rows.varintOrderSpec.plain.varTypes Tryd.prog) (ds ++ gs)).all (· ≤ reachBytes) = true) :
    Calls Tryd.prog 8 args W fun e W' => ∃ v, e = .returned v ∧ Rows.varintOrderSpec.post enc Tryd.prog Tryd.f8 false true false false W args v W' := by
  have hW' := hW
  obtain ⟨p, q, hA0, hV, rfl, hfz, hnd⟩ := hW
  have hA : DataW.TrodAll enc Tryd.prog W 0 (fun _ => true) true Tryd.f8.params.toList args.toList ds p := hA0
  rw [Tryd.params8] at hA hval hsz0
  obtain ⟨v0, vs0, d0, ds0, p0, q0, hargs, rfl, rfl, h0, r0⟩ := trodAll_cons hA
  obtain ⟨v1, vs1, d1, ds1, p1, q1, rfl, rfl, rfl, h1, r1⟩ := trodAll_cons r0
  obtain ⟨rfl, rfl, rfl⟩ := trodAll_nil r1
  obtain rfl : args = #[v0, v1] := by cases args; simp_all
  obtain ⟨rfl, rfl⟩ := trodVars_none hV
  obtain ⟨a0, rfl, rfl, rfl, w0⟩ := open_int Tryd.underlying3 (hval 0 3 v0 rfl rfl) h0
  obtain ⟨a1, rfl, rfl, rfl, w1⟩ := open_int Tryd.underlying3 (hval 1 3 v1 rfl rfl) h1
  clear hA0
  refine (walk a0 a1 W (wid_of hL) w0 w1).mono fun e W' ⟨he, bel⟩ => ?_
  subst he
  exact ⟨_, rfl, _, _, _, [], _, [], hW', trodAll_mk1 (shut_bool Tryd.underlying4 _), (trodAll_cons_mk (shut_int Tryd.underlying3 w0) (trodAll_cons_mk (shut_int Tryd.underlying3 w1) trodAll_mk0)), rfl, bel.frame _, fun h => by cases h⟩

theorem laid_met (os : Os) : laidMet Tryd.prog Rows.varintOrderRow.laid (({ World.holding Tryd.prog os ⟨#[], #[], []⟩ with heap := (World.holding Tryd.prog os ⟨#[], #[], []⟩).heap.modify 0 fun
      | .cells _ t frozen => .cells #[.int .i64 1, .int .i64 2, .int .i64 4, .int .i64 8] t frozen
      | o => o } : World).forCall (fun _ _ => 0) ⟨#[], #[.int .i64 0, .int .i64 0], []⟩).memory :=
  laidMet_of_run' 8 (by kernel_rfl) (by kernel_rfl)
theorem reads (os : Os) {H : Type} (enc : TypeId × Value → H) : ∃ places, DataW.whole enc Tryd.prog (({ World.holding Tryd.prog os ⟨#[], #[], []⟩ with heap := (World.holding Tryd.prog os ⟨#[], #[], []⟩).heap.modify 0 fun
      | .cells _ t frozen => .cells #[.int .i64 1, .int .i64 2, .int .i64 4, .int .i64 8] t frozen
      | o => o } : World).forCall (fun _ _ => 0) ⟨#[], #[.int .i64 0, .int .i64 0], []⟩).memory Tryd.f8.params.toList Rows.varintOrderSpec.vars false #[Value.int .i64 0, .int .i64 0].toList 8 = some ([.lit (.int .i64 0), .lit (.int .i64 0)], [], places) :=
  ⟨[], by kernel_rfl⟩

set_option maxRecDepth 100000 in
theorem lifted (os : Os) (started : os.Started) (H : Type) (enc : TypeId × Value → H) (F : Stop.Interp) :
    ReturnsInHanded {} Tryd.checked os 8 .any ((OpenSpec.ofChange Rows.varintOrderSpec).preRow enc Tryd.prog Tryd.f8 Rows.varintOrderRow.domain false Rows.varintOrderRow.laid) (((OpenSpec.ofChange Rows.varintOrderSpec).at F).post enc Tryd.prog Tryd.f8 false true false false) := by
  obtain ⟨places, hx⟩ := reads os enc
  refine returnsInHanded_of_row (C := Tryd.checked) (s := OpenSpec.ofChange Rows.varintOrderSpec) own started (by kernel_rfl) Tryd.func8
    (witness_row_at (enc := enc) (C := Tryd.checked) false ({ World.holding Tryd.prog os ⟨#[], #[], []⟩ with heap := (World.holding Tryd.prog os ⟨#[], #[], []⟩).heap.modify 0 fun
      | .cells _ t frozen => .cells #[.int .i64 1, .int .i64 2, .int .i64 4, .int .i64 8] t frozen
      | o => o } : World) #[.int .i64 0, .int .i64 0] rfl (by kernel_rfl) (by kernel_rfl) (by kernel_rfl)
      (OpenSpec.preRow_of_cond 8 hx (by kernel_rfl) (fun k hk => by cases hk) (by kernel_rfl) (laid_met os))) ?_
  intro W base args ds gs before hval hW _ _ hsz hL _ _
  exact contract H enc W base args ds gs before hval hW hL hsz

theorem said : Rows.VarintOrderSaid :=
  OpenClaim.holds_of_cond 8 Tryd.f8 rfl rfl rfl rfl rfl rfl rfl ⟨rfl, rfl, rfl, rfl, rfl⟩ rfl rfl rfl rfl rfl (by kernel_rfl) Tryd.func8 (by kernel_rfl)
    (of_decide_eq_true (by kernel_rfl)) (by unfold Func.isWrapper; first | (rw [if_pos (by decide +kernel)]; kernel_rfl) | (rw [if_neg (by decide +kernel)]; exact ⟨rfl, rfl⟩))
    (fun os started H enc _ F => by rw [OpenClaim.pre_eq_preRow]; exact lifted os started H enc F)

theorem plain (f : FuncId) (fn : Func) (hf : Tryd.pinned.checked.prog.funcNamed "sumpter/sumpterlaw01.VarintOrder" = some f) (hfn : Tryd.pinned.checked.prog.funcs[f]? = some fn) :
    false = Tryd.pinned.checked.prog.looks [] ∧ ∀ (j : Nat) t, fn.params[j]? = some t → Tryd.pinned.checked.prog.wantsStandIn t = false := by
  obtain rfl : f = 8 := Option.some.inj ((show Tryd.prog.funcNamed "sumpter/sumpterlaw01.VarintOrder" = some 8 by kernel_rfl).symm.trans hf) |>.symm
  obtain rfl : fn = Tryd.f8 := (Option.some.inj (Tryd.func8.symm.trans hfn)).symm
  refine ⟨by kernel_rfl, fun j t ht => ?_⟩
  rw [Tryd.params8] at ht
  have hm : t ∈ [3, 3] := by simpa using Array.mem_of_getElem? ht
  have hall : ([3, 3].all fun u => !Tryd.prog.wantsStandIn u) = true := by kernel_rfl
  exact (show Tryd.prog.wantsStandIn t = false by simpa using List.all_eq_true.1 hall t hm)
end Go.Proofs.YtidgmgebpancmaaDoor.varintOrder

namespace Go.Proofs.YtidgmgebpancmaaDoor
/-- The card of VarintOrder. -/
theorem varintOrder_card : Rows.VarintOrderCardSaid :=
  Claim7.holds_tied_plain_at .later [] _ _ _ _ varintOrder.said (fun _ h => by cases h) (by kernel_rfl) (fun _ h => by cases h) varintOrder_row_tie rfl ⟨rfl, rfl⟩ (by kernel_rfl) rfl varintOrder.plain (by kernel_rfl)
#print axioms varintOrder_card
end Go.Proofs.YtidgmgebpancmaaDoor
