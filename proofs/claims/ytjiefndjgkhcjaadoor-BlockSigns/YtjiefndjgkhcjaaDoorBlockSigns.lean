/-
  BlockSigns: any bytes (of up to 700) have, in any size, the sums that the document says, or it is told why not; any number of bytes (up to 2 to the 40th) the size that it says; no condition.
-/
import Derived.Test.YtjiefndjgkhcjaaDoorFr
import Derived.Test.YtjiefndjgkhcjaaDoorRg
import Derived.Test.YtjiefndjgkhcjaaDoorRs
namespace Go.Proofs.YtjiefndjgkhcjaaDoor.blockSigns
open Go.ChangeShapes Go.WideShapes Go.ChangeAt Go.RowKit Go.Deep Go.ChangeMaps
set_option maxRecDepth 100000

set_option maxHeartbeats 8000000 in
theorem walk (v0 : Value) (b : List Int) (z n : Int) (w : World) (hw : Ta w) (h0 : Sl w v0 b) (_hz : (Lit.int .i64 z).wf = true) (_hn : (Lit.int .i64 n).wf = true) :
    Calls Tryd.prog 3 #[v0, .int .i64 z, .int .i64 n] w fun e w' => e = .returned (.bool true) ∧ Below w.heap.size w w' := by
  have CA : Hid (∀ W, Below w.heap.size w W → Calls Tryd.prog 9 #[] W fun e w' => e = .returned (.bool true) ∧ Below W.heap.size W w') := fun W hb => awake_any W (hw.kept hb)
  have C1 := sign_any v0 b z w h0 hw
  have C2 : Hid (∀ W, Below w.heap.size w W → Calls Tryd.prog 11 #[v0, .int .i64 z] W fun e w' => ∃ v', e = .returned (.tuple #[v', .int .i64 (bsig b z).2]) ∧ RI w' W.heap.size v' (bsig b z).1 ∧ Below W.heap.size W w') := fun W hb => rsign_any v0 b z W (h0.kept hb)
  have HLN : Hid (b.length ≤ 700 → (bsig b z).1.length ≤ 100000) := fun h => by
    unfold bsig
    split
    · simp
    · split
      · simp
      · rw [sgs_len]
        exact Nat.le_trans (Nat.div_le_self _ _) (by omega)
  obtain ⟨a0, c0, rfl, hc, hm, h3, -⟩ := id h0
  obtain ⟨L, hL⟩ : ∃ L, L = b.length := ⟨_, rfl⟩
  rw [← hL] at C1 C2 HLN ⊢
  have hm2 : (L : Int) ≤ 9223372036854775807 := by unfold maxLen at hm; omega
  clear h0 hw h3 hL hc hm
  generalize bsig b z = R at *
  obtain ⟨l, e⟩ := R
  simp only at C1 C2 HLN
  by_cases h4 : 700 < L
  · have h5 : 700 < (L : Int) := by omega
    have ca := CA.out w (Below.refl _ _)
    go_enter Tryd.func3, Tryd.ntmps3
    go_wp2_with fail
    refine ca.mono ?_
    rintro e w2 ⟨rfl, b2⟩
    have B2 : Hid (Below w.heap.size w w2) := b2
    clear ca b2
    go_wp2
    go_ret
    exact ⟨rfl, B2.out⟩
  · have h5 : ¬ 700 < (L : Int) := by omega
    have HLL : Hid (l.length ≤ 100000) := HLN.out (by omega)
    clear HLN
    go_enter Tryd.func3, Tryd.ntmps3
    go_wp2_with fail
    refine C1.mono ?_
    rintro e' w2 ⟨v2, rfl, r2, b2⟩
    clear C1
    have B2 : Hid (Below w.heap.size w w2) := b2
    have R2 : Hid (RI w2 w.heap.size v2 l) := r2
    have c2 := C2.out w2 b2
    obtain ⟨a2, k2, rfl, -⟩ := r2.is.shape
    clear r2 b2 C2
    obtain ⟨ll, hll⟩ : ∃ ll, ll = l.length := ⟨_, rfl⟩
    rw [← hll] at R2 ⊢
    have HLQ : Hid (ll = l.length) := hll
    clear hll
    go_wp2_with fail
    refine c2.mono ?_
    rintro e' w3 ⟨v3, rfl, r3, b3⟩
    clear c2
    have B3 : Hid (Below w.heap.size w w3) := B2.out.trans (b3.mono B2.out.size)
    have CM := rsame_eq (.slice a2 ll k2) v3 l w3 (R2.out.below b3).is r3.is HLL.out
    obtain ⟨a3, k3, rfl, -⟩ := r3.is.shape
    rw [← HLQ.out] at CM ⊢
    clear r3 b3 R2 B2
    by_cases hn : n ≤ 1099511627776
    · have D1 := size_any n w3
      have D2 := rsize_any n w3
      generalize bsz n = x at *
      have t0 : (x != x) = false := by simp
      go_wp2_with fail
      refine D1.mono ?_
      rintro e w5 ⟨rfl, hq5⟩
      replace hq5 := hq5.symm
      subst hq5
      clear D1
      go_wp2_with fail
      refine D2.mono ?_
      rintro e w5 ⟨rfl, hq5⟩
      replace hq5 := hq5.symm
      subst hq5
      clear D2
      go_wp2_with fail
      refine CM.mono ?_
      rintro e' w4 ⟨rfl, b4⟩
      clear CM
      have B4 : Hid (Below w.heap.size w w4) := B3.out.trans (b4.mono B3.out.size)
      have ca := CA.out w4 B4.out
      have t1 : (e == e) = true := by simp
      clear b4
      go_wp2_with fail
      refine ca.mono ?_
      rintro e' w6 ⟨rfl, b6⟩
      have B6 : Hid (Below w.heap.size w w6) := B4.out.trans (b6.mono B4.out.size)
      clear ca b6
      go_wp2
      go_ret
      exact ⟨rfl, B6.out⟩
    · have hn2 : decide (n ≤ 1099511627776) = false := decide_eq_false hn
      go_wp2_with fail
      refine CM.mono ?_
      rintro e' w4 ⟨rfl, b4⟩
      clear CM
      have B4 : Hid (Below w.heap.size w w4) := B3.out.trans (b4.mono B3.out.size)
      have ca := CA.out w4 B4.out
      have t1 : (e == e) = true := by simp
      clear b4
      go_wp2_with fail
      refine ca.mono ?_
      rintro e' w6 ⟨rfl, b6⟩
      have B6 : Hid (Below w.heap.size w w6) := B4.out.trans (b6.mono B4.out.size)
      clear ca b6
      go_wp2
      go_ret
      exact ⟨rfl, B6.out⟩

theorem contract (H : Type) (enc : TypeId × Value → H) (W : World) (base : Nat) (args : Array Value) (ds gs : List (DataW H)) (before : List MemPlace)
    (hval : ∀ (j : Nat) t v, Tryd.f3.params[j]? = some t → args[j]? = some v → Value.okWide Tryd.prog W .any base t v)
    (hW : DataW.Whole enc Tryd.prog Tryd.f3.params.toList Rows.blockSignsSpec.vars false W args.toList ds gs before) (hL : laidMetH Tryd.prog Rows.blockSignsRow.laid W)
    (hsz0 : (DataW.weightsEach Tryd.prog (Tryd.f3.params.toList ++ Rows.blockSignsSpec.plain.varTypes Tryd.prog) (ds ++ gs)).all (· ≤ reachBytes) = true) :
    Calls Tryd.prog 3 args W fun e W' => ∃ v, e = .returned v ∧ Rows.blockSignsSpec.post enc Tryd.prog Tryd.f3 false true false false W args v W' := by
  have hW' := hW
  obtain ⟨p, q, hA0, hV, rfl, hfz, hnd⟩ := hW
  have hA : DataW.TrodAll enc Tryd.prog W 0 (fun _ => true) true Tryd.f3.params.toList args.toList ds p := hA0
  rw [Tryd.params3] at hA hval hsz0
  obtain ⟨v0, vs0, d0, ds0, p0, q0, hargs, rfl, rfl, h0, r0⟩ := trodAll_cons hA
  obtain ⟨v1, vs1, d1, ds1, p1, q1, rfl, rfl, rfl, h1, r1⟩ := trodAll_cons r0
  obtain ⟨v2, vs2, d2, ds2, p2, q2, rfl, rfl, rfl, h2, r2⟩ := trodAll_cons r1
  obtain ⟨rfl, rfl, rfl⟩ := trodAll_nil r2
  obtain rfl : args = #[v0, v1, v2] := by cases args; simp_all
  obtain ⟨rfl, rfl⟩ := trodVars_none hV
  have k0 := h0
  have lt0 : ∀ x ∈ p0, x.block < W.heap.size := by obtain ⟨m, hm⟩ := k0; exact DataW.trod_lt m _ _ _ hm
  obtain ⟨L0, w0⟩ := sl_in (hval 0 22 v0 rfl rfl) h0
  obtain ⟨a1, rfl, rfl, rfl, w1⟩ := open_int Tryd.underlying3 (hval 1 3 v1 rfl rfl) h1
  obtain ⟨a2, rfl, rfl, rfl, w2⟩ := open_int Tryd.underlying3 (hval 2 3 v2 rfl rfl) h2
  clear hA0
  refine (walk v0 L0 a1 a2 W (ta_of hL) w0 w1 w2).mono fun e W' ⟨he, bel⟩ => ?_
  subst he
  exact ⟨_, rfl, _, _, _, [], _, [], hW', trodAll_mk1 (shut_bool Tryd.underlying4 _), (trodAll_cons_mk (Below.trod laidOut (by kernel_rfl) (of_decide_eq_true (by kernel_rfl)) k0 bel lt0) (trodAll_cons_mk (shut_int Tryd.underlying3 w1) (trodAll_cons_mk (shut_int Tryd.underlying3 w2) trodAll_mk0))), rfl, bel.frame _, fun h => by cases h⟩

theorem laid_met (os : Os) : laidMet Tryd.prog Rows.blockSignsRow.laid (({ World.holding Tryd.prog os ⟨#[], #[], []⟩ with heap := ((((World.holding Tryd.prog os ⟨#[], #[], []⟩).heap.modify 0 (fun
      | .cells _ t frozen => .cells shaFirst t frozen
      | o => o)).modify 1 (fun
      | .cells _ t frozen => .cells #[.int .i64 1, .int .i64 2, .int .i64 4, .int .i64 8] t frozen
      | o => o)).modify 2 (fun
      | .cells _ t frozen => .cells shaRounds t frozen
      | o => o)) } : World).forCall (fun _ _ => 0) ⟨#[], #[.slice none 0 0, .int .i64 0, .int .i64 0], []⟩).memory :=
  laidMet_of_run' 8 (by kernel_rfl) (by kernel_rfl)
theorem reads (os : Os) {H : Type} (enc : TypeId × Value → H) : ∃ places, DataW.whole enc Tryd.prog (({ World.holding Tryd.prog os ⟨#[], #[], []⟩ with heap := ((((World.holding Tryd.prog os ⟨#[], #[], []⟩).heap.modify 0 (fun
      | .cells _ t frozen => .cells shaFirst t frozen
      | o => o)).modify 1 (fun
      | .cells _ t frozen => .cells #[.int .i64 1, .int .i64 2, .int .i64 4, .int .i64 8] t frozen
      | o => o)).modify 2 (fun
      | .cells _ t frozen => .cells shaRounds t frozen
      | o => o)) } : World).forCall (fun _ _ => 0) ⟨#[], #[.slice none 0 0, .int .i64 0, .int .i64 0], []⟩).memory Tryd.f3.params.toList Rows.blockSignsSpec.vars false #[Value.slice none 0 0, .int .i64 0, .int .i64 0].toList 8 = some ([.nil, .lit (.int .i64 0), .lit (.int .i64 0)], [], places) :=
  ⟨[], by kernel_rfl⟩

set_option maxRecDepth 100000 in
theorem lifted (os : Os) (started : os.Started) (H : Type) (enc : TypeId × Value → H) (F : Stop.Interp) :
    ReturnsInHanded {} Tryd.checked os 3 .any ((OpenSpec.ofChange Rows.blockSignsSpec).preRow enc Tryd.prog Tryd.f3 Rows.blockSignsRow.domain false Rows.blockSignsRow.laid) (((OpenSpec.ofChange Rows.blockSignsSpec).at F).post enc Tryd.prog Tryd.f3 false true false false) := by
  obtain ⟨places, hx⟩ := reads os enc
  refine returnsInHanded_of_row (C := Tryd.checked) (s := OpenSpec.ofChange Rows.blockSignsSpec) own started (by kernel_rfl) Tryd.func3
    (witness_row_at (enc := enc) (C := Tryd.checked) false ({ World.holding Tryd.prog os ⟨#[], #[], []⟩ with heap := ((((World.holding Tryd.prog os ⟨#[], #[], []⟩).heap.modify 0 (fun
      | .cells _ t frozen => .cells shaFirst t frozen
      | o => o)).modify 1 (fun
      | .cells _ t frozen => .cells #[.int .i64 1, .int .i64 2, .int .i64 4, .int .i64 8] t frozen
      | o => o)).modify 2 (fun
      | .cells _ t frozen => .cells shaRounds t frozen
      | o => o)) } : World) #[.slice none 0 0, .int .i64 0, .int .i64 0] rfl (by kernel_rfl) (by kernel_rfl) (by kernel_rfl)
      (OpenSpec.preRow_of_cond 8 hx (by kernel_rfl) (fun k hk => by cases hk) (by kernel_rfl) (laid_met os))) ?_
  intro W base args ds gs before hval hW _ _ hsz hL _ _
  exact contract H enc W base args ds gs before hval hW hL hsz

theorem said : Rows.BlockSignsSaid :=
  OpenClaim.holds_of_cond 3 Tryd.f3 rfl rfl rfl rfl rfl rfl rfl ⟨rfl, rfl, rfl, rfl, rfl⟩ rfl rfl rfl rfl rfl (by kernel_rfl) Tryd.func3 (by kernel_rfl)
    (of_decide_eq_true (by kernel_rfl)) (by unfold Func.isWrapper; first | (rw [if_pos (by decide +kernel)]; kernel_rfl) | (rw [if_neg (by decide +kernel)]; exact ⟨rfl, rfl⟩))
    (fun os started H enc _ F => by rw [OpenClaim.pre_eq_preRow]; exact lifted os started H enc F)

theorem plain (f : FuncId) (fn : Func) (hf : Tryd.pinned.checked.prog.funcNamed "sumpter/sumpterlaw11.BlockSigns" = some f) (hfn : Tryd.pinned.checked.prog.funcs[f]? = some fn) :
    false = Tryd.pinned.checked.prog.looks [] ∧ ∀ (j : Nat) t, fn.params[j]? = some t → Tryd.pinned.checked.prog.wantsStandIn t = false := by
  obtain rfl : f = 3 := Option.some.inj ((show Tryd.prog.funcNamed "sumpter/sumpterlaw11.BlockSigns" = some 3 by kernel_rfl).symm.trans hf) |>.symm
  obtain rfl : fn = Tryd.f3 := (Option.some.inj (Tryd.func3.symm.trans hfn)).symm
  refine ⟨by kernel_rfl, fun j t ht => ?_⟩
  rw [Tryd.params3] at ht
  have hm : t ∈ [22, 3, 3] := by simpa using Array.mem_of_getElem? ht
  have hall : ([22, 3, 3].all fun u => !Tryd.prog.wantsStandIn u) = true := by kernel_rfl
  exact (show Tryd.prog.wantsStandIn t = false by simpa using List.all_eq_true.1 hall t hm)
end Go.Proofs.YtjiefndjgkhcjaaDoor.blockSigns

namespace Go.Proofs.YtjiefndjgkhcjaaDoor
/-- The card of BlockSigns. -/
theorem blockSigns_card : Rows.BlockSignsCardSaid :=
  Claim7.holds_tied_plain_at .later [] _ _ _ _ blockSigns.said (fun _ h => by cases h) (by kernel_rfl) (fun _ h => by cases h) blockSigns_row_tie rfl ⟨rfl, rfl⟩ (by kernel_rfl) rfl blockSigns.plain (by kernel_rfl)
#print axioms blockSigns_card
end Go.Proofs.YtjiefndjgkhcjaaDoor
