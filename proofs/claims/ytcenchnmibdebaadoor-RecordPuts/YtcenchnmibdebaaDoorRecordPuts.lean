/-
  RecordPuts: any record has the bytes that the document says, or it is told why not; paths of at most 300 bytes, else the closed case alone is asked. It holds for every input of the row; varint's table of widths, crc's table of halves and Go's tables of utf8 (first, acceptRanges) hold what their declarations lay when the call begins.
-/
import Derived.Test.YtcenchnmibdebaaDoorFr
import Derived.Test.YtcenchnmibdebaaDoorRput
import Derived.Test.YtcenchnmibdebaaDoorOwn
import Derived.Test.YtcenchnmibdebaaDoorAw0
import Derived.Test.YtcenchnmibdebaaDoorGd
import Derived.Deep.QuietTactic
import Derived.BigQuiet
namespace Go.Proofs.YtcenchnmibdebaaDoor.recordPuts
open Go.ChangeShapes Go.WideShapes Go.ChangeAt Go.RowKit Go.Deep Go.ChangeMaps
set_option maxRecDepth 100000

set_option maxHeartbeats 4000000 in
theorem walk (v : Value) (x : Rc) (w : World) (ht : Tb w) (h : v = x.val ∧ x.ok) :
    Calls Tryd.prog 3 #[v] w fun e w' => e = .returned (.bool true) ∧ Below w.heap.size w w' := by
  obtain ⟨rfl, hx⟩ := h
  unfold Rc.val
  obtain ⟨W1, hW1⟩ : ∃ W1, W1 = w.alloc (.cells x.cells.toArray 25) := ⟨_, rfl⟩
  have b1 : Below w.heap.size w W1 := by rw [hW1]; exact al_below _ _
  have r1 : W1.rangeAt w.heap.size 0 x.cells := by rw [hW1]; exact rq_new w x
  obtain ⟨-, -, k2, -, -, -⟩ := rcC r1 hx
  simp only [Nat.zero_add] at k2
  have B1 : Hid (Below w.heap.size w W1) := b1
  have hW1' : w.alloc (.cells x.cells.toArray 25) = W1 := hW1.symm
  have CA : Hid (∀ W, Below W1.heap.size W1 W → Calls Tryd.prog 5 #[] W fun e w' => e = .returned (.bool true) ∧ Below W.heap.size W w') := fun W hb => awake_any W ((ht.kept b1).kept hb)
  have RN : Hid (∀ W, Below W1.heap.size W1 W → W.rangeAt w.heap.size 0 x.cells) := fun W hb => range_kept r1 hb
  have ZQ : Hid ((Tryd.prog.info? 25).map (·.size) = some x.cells.length) := by unfold Hid; rw [Rc.len hx]; kernel_rfl
  by_cases h300 : 300 < x.x.p.size
  · have d3 : decide ((300 : Int) < (x.x.p.size : Int)) = true := by simp; omega
    have aw := CA.out W1 (Below.refl _ _)
    clear hx ht b1 r1 hW1 CA RN ZQ
    generalize x.cells = cs at *
    go_enter Tryd.func3, Tryd.ntmps3
    go_wp2_with fail
    refine aw.mono ?_
    rintro e w2 ⟨rfl, b2⟩
    have B2 : Hid (Below w.heap.size w w2) := B1.out.trans (b2.mono B1.out.size)
    clear aw b2
    go_wp2
    go_ret
    exact ⟨rfl, B2.out⟩
  have d3 : decide ((300 : Int) < (x.x.p.size : Int)) = false := by simp; omega
  have CO : Hid (∀ W, Calls Tryd.prog 7 #[.agg x.cells.toArray] W fun e w' => e = .returned (.agg x.cells.toArray) ∧ Below W.heap.size W w') := fun W => own_any x W hx
  have CP : Hid (∀ W, Below W1.heap.size W1 W → Calls Tryd.prog 6 #[.agg x.cells.toArray] W fun e w' => ∃ v, e = .returned (.tuple #[v, .int .i64 (rck x)]) ∧ Sl w' v (putB x) ∧ Below W.heap.size W w') := fun W hb => put_any x W hx ((ht.kept b1).kept hb) (by omega)
  have CD : Hid (∀ W, Calls Tryd.prog 8 #[.agg x.cells.toArray] W fun e w' => ∃ v, e = .returned (.tuple #[v, .int .i64 (rck x)]) ∧ Sl w' v (putB x) ∧ Below W.heap.size W w') := fun W => dput_any x W hx (by omega)
  have CC : Hid (∀ W, Below W1.heap.size W1 W → Calls Tryd.prog 9 #[.agg x.cells.toArray] W fun e w' => e = .returned (.int .i64 (rck x)) ∧ Below W.heap.size W w') := fun W hb => rcheck_any x W hx ((ht.kept b1).kept hb).2.2 (by unfold maxLen; omega)
  clear hx ht b1 r1 hW1 h300
  generalize x.x.p = pp at *
  generalize rck x = k at *
  generalize putB x = Y at *
  generalize x.cells = cs at *
  have co := CO.out W1
  go_enter Tryd.func3, Tryd.ntmps3
  go_wp2_with (refine wpList_load_mid rfl 25 _ rfl w.heap.size 0 rfl cs _ (RN.out W1 (Below.refl _ _)) Tryd.underlying25 rfl ZQ.out ?_)
  refine co.mono ?_
  rintro e w2 ⟨rfl, b2⟩
  have B2 : Hid (Below W1.heap.size W1 w2) := b2
  have cp := CP.out w2 b2
  clear co b2 CP k2 hW1' d3
  go_wp2_with fail
  refine cp.mono ?_
  rintro e w3 ⟨v3, rfl, s3, b3⟩
  have B3 : Hid (Below W1.heap.size W1 w3) := B2.out.trans (b3.mono B2.out.size)
  have S3 : Hid (Sl w3 v3 Y) := s3
  obtain ⟨a3, c3, rfl, -⟩ := id s3
  have cd := CD.out w3
  clear cp s3 b3 CD B2
  obtain ⟨yl, hyl⟩ : ∃ yl, yl = Y.length := ⟨_, rfl⟩
  have HYL : Hid (yl = Y.length) := hyl
  rw [← hyl] at S3 ⊢
  clear hyl
  go_wp2_with (refine wpList_load_mid rfl 25 _ rfl w.heap.size 0 rfl cs _ (RN.out w3 B3.out) Tryd.underlying25 rfl ZQ.out ?_)
  refine cd.mono ?_
  rintro e w4 ⟨v4, rfl, s4, b4⟩
  have B4 : Hid (Below W1.heap.size W1 w4) := B3.out.trans (b4.mono B3.out.size)
  obtain ⟨a4, c4, rfl, -⟩ := id s4
  have cv3 := (S3.out.kept b4).conv
  have cv4 := s4.conv
  rw [← HYL.out] at cv4 ⊢
  have co := CO.out w4
  clear cd s4 b4 B3 S3 CO
  generalize strB Y = SY at *
  have d5 : (SY.toList == SY.toList) = true := by simp
  have d6 : (k == k) = true := by simp
  go_wp2_with (refine wpList_load_midG (by rfl) 25 _ rfl w.heap.size 0 rfl cs _ (RN.out w4 B4.out) Tryd.underlying25 rfl ZQ.out ?_)
  refine co.mono ?_
  rintro e w5 ⟨rfl, b5⟩
  have B5 : Hid (Below W1.heap.size W1 w5) := B4.out.trans (b5.mono B4.out.size)
  have cc := CC.out w5 B5.out
  clear co b5 CC B4 cv3 cv4
  go_wp2_with fail
  refine cc.mono ?_
  rintro e w6 ⟨rfl, b6⟩
  have B6 : Hid (Below W1.heap.size W1 w6) := B5.out.trans (b6.mono B5.out.size)
  have aw := CA.out w6 B6.out
  clear cc b6 CA B5
  go_wp2_with fail
  refine aw.mono ?_
  rintro e w7 ⟨rfl, b7⟩
  have B7 : Hid (Below w.heap.size w w7) := B1.out.trans ((B6.out.trans (b7.mono B6.out.size)).mono B1.out.size)
  clear aw b7
  go_wp2
  go_ret
  exact ⟨rfl, B7.out⟩

theorem contract (H : Type) (enc : TypeId × Value → H) (W : World) (base : Nat) (args : Array Value) (ds gs : List (DataW H)) (before : List MemPlace)
    (hval : ∀ (j : Nat) t v, Tryd.f3.params[j]? = some t → args[j]? = some v → Value.okWide Tryd.prog W .any base t v)
    (hW : DataW.Whole enc Tryd.prog Tryd.f3.params.toList Rows.recordPutsSpec.vars false W args.toList ds gs before) (hL : laidMetH Tryd.prog Rows.recordPutsRow.laid W) (hsh : W.ShapedOpen Tryd.prog)
    (hsz0 : (DataW.weightsEach Tryd.prog (Tryd.f3.params.toList ++ Rows.recordPutsSpec.plain.varTypes Tryd.prog) (ds ++ gs)).all (· ≤ reachBytes) = true) :
    Calls Tryd.prog 3 args W fun e W' => ∃ v, e = .returned v ∧ Rows.recordPutsSpec.post enc Tryd.prog Tryd.f3 false true false false W args v W' := by
  have hW' := hW
  obtain ⟨p, q, hA0, hV, rfl, hfz, hnd⟩ := hW
  have hA : DataW.TrodAll enc Tryd.prog W 0 (fun _ => true) true Tryd.f3.params.toList args.toList ds p := hA0
  rw [Tryd.params3] at hA hval hsz0
  obtain ⟨v0, vs0, d0, ds0, p0, q0, hargs, rfl, rfl, h0, r0⟩ := trodAll_cons hA
  obtain ⟨rfl, rfl, rfl⟩ := trodAll_nil r0
  obtain rfl : args = #[v0] := by cases args; simp_all
  obtain ⟨rfl, rfl⟩ := trodVars_none hV
  have k0 := h0
  have lt0 : ∀ x ∈ p0, x.block < W.heap.size := by obtain ⟨m, hm⟩ := k0; exact DataW.trod_lt m _ _ _ hm
  obtain ⟨L0, w0⟩ := rec_in (hval 0 25 v0 rfl rfl) h0
  clear hA0
  refine (walk v0 L0 W (tb_of hL hsh) w0).mono fun e W' ⟨he, bel⟩ => ?_
  subst he
  exact ⟨_, rfl, _, _, _, [], _, [], hW', trodAll_mk1 (shut_bool Tryd.underlying4 _), (trodAll_cons_mk (Below.trod laidOut (by kernel_rfl) (of_decide_eq_true (by kernel_rfl)) k0 bel lt0) trodAll_mk0), rfl, bel.frame _, fun h => by cases h⟩

theorem laid_met (os : Os) : laidMet Tryd.prog Rows.recordPutsRow.laid (({ World.holding Tryd.prog os ⟨#[], #[], []⟩ with heap := ((((((World.holding Tryd.prog os ⟨#[], #[], []⟩).heap.modify 0 (fun
      | .cells _ t frozen => .cells #[.int .i64 1, .int .i64 2, .int .i64 4, .int .i64 8] t frozen
      | o => o)).modify 1 (fun
      | .cells _ t frozen => .cells halfCells t frozen
      | o => o)).modify 2 (fun
      | .cells _ t frozen => .cells #[.int .i64 0] t frozen
      | o => o)).modify 3 (fun
      | .cells _ t frozen => .cells firstCells t frozen
      | o => o)).modify 4 (fun
      | .cells _ t frozen => .cells rangeCells t frozen
      | o => o)) } : World).forCall (fun _ _ => 0) ⟨#[], #[.agg rzc], []⟩).memory :=
  laidMet_of_run' 8 (by kernel_rfl) (by kernel_rfl)
theorem reads (os : Os) {H : Type} (enc : TypeId × Value → H) : ∃ places, DataW.whole enc Tryd.prog (({ World.holding Tryd.prog os ⟨#[], #[], []⟩ with heap := ((((((World.holding Tryd.prog os ⟨#[], #[], []⟩).heap.modify 0 (fun
      | .cells _ t frozen => .cells #[.int .i64 1, .int .i64 2, .int .i64 4, .int .i64 8] t frozen
      | o => o)).modify 1 (fun
      | .cells _ t frozen => .cells halfCells t frozen
      | o => o)).modify 2 (fun
      | .cells _ t frozen => .cells #[.int .i64 0] t frozen
      | o => o)).modify 3 (fun
      | .cells _ t frozen => .cells firstCells t frozen
      | o => o)).modify 4 (fun
      | .cells _ t frozen => .cells rangeCells t frozen
      | o => o)) } : World).forCall (fun _ _ => 0) ⟨#[], #[.agg rzc], []⟩).memory Tryd.f3.params.toList Rows.recordPutsSpec.vars false #[Value.agg rzc].toList 8 = some ([.agg [.lit (.int .u8 0), .lit (.int .i64 0), .lit (.string []), .agg [.lit (.int .u8 0), .lit (.int .u8 0), .lit (.int .u8 0), .lit (.int .u8 0), .lit (.int .u8 0), .lit (.int .u8 0), .lit (.int .u8 0), .lit (.int .u8 0), .lit (.int .u8 0), .lit (.int .u8 0), .lit (.int .u8 0), .lit (.int .u8 0), .lit (.int .u8 0), .lit (.int .u8 0), .lit (.int .u8 0), .lit (.int .u8 0), .lit (.int .u8 0), .lit (.int .u8 0), .lit (.int .u8 0), .lit (.int .u8 0), .lit (.int .u8 0), .lit (.int .u8 0), .lit (.int .u8 0), .lit (.int .u8 0), .lit (.int .u8 0), .lit (.int .u8 0), .lit (.int .u8 0), .lit (.int .u8 0), .lit (.int .u8 0), .lit (.int .u8 0), .lit (.int .u8 0), .lit (.int .u8 0)], .lit (.int .i64 0), .lit (.int .i64 0)]], [], places) :=
  ⟨[], by kernel_rfl⟩

set_option maxRecDepth 100000 in
theorem lifted (os : Os) (started : os.Started) (H : Type) (enc : TypeId × Value → H) (F : Stop.Interp) :
    ReturnsInHanded {} Tryd.checked os 3 .any ((OpenSpec.ofChange Rows.recordPutsSpec).preRow enc Tryd.prog Tryd.f3 Rows.recordPutsRow.domain false Rows.recordPutsRow.laid) (((OpenSpec.ofChange Rows.recordPutsSpec).at F).post enc Tryd.prog Tryd.f3 false true false false) := by
  obtain ⟨places, hx⟩ := reads os enc
  refine returnsInHanded_of_row (C := Tryd.checked) (s := OpenSpec.ofChange Rows.recordPutsSpec) own started (by kernel_rfl) Tryd.func3
    (witness_row_at (enc := enc) (C := Tryd.checked) false ({ World.holding Tryd.prog os ⟨#[], #[], []⟩ with heap := ((((((World.holding Tryd.prog os ⟨#[], #[], []⟩).heap.modify 0 (fun
      | .cells _ t frozen => .cells #[.int .i64 1, .int .i64 2, .int .i64 4, .int .i64 8] t frozen
      | o => o)).modify 1 (fun
      | .cells _ t frozen => .cells halfCells t frozen
      | o => o)).modify 2 (fun
      | .cells _ t frozen => .cells #[.int .i64 0] t frozen
      | o => o)).modify 3 (fun
      | .cells _ t frozen => .cells firstCells t frozen
      | o => o)).modify 4 (fun
      | .cells _ t frozen => .cells rangeCells t frozen
      | o => o)) } : World) #[.agg rzc] rfl (by kernel_rfl) (by kernel_rfl) (by kernel_rfl)
      (OpenSpec.preRow_of_cond 8 hx (by kernel_rfl) (fun k hk => by cases hk) (by kernel_rfl) (laid_met os))) ?_
  intro W base args ds gs before hval hW _ _ hsz hL hsh _
  exact contract H enc W base args ds gs before hval hW hL hsh hsz

theorem said : Rows.RecordPutsSaid :=
  OpenClaim.holds_of_cond 3 Tryd.f3 rfl rfl rfl rfl rfl rfl rfl ⟨rfl, rfl, rfl, rfl, rfl⟩ rfl rfl rfl rfl rfl (by kernel_rfl) Tryd.func3 (by kernel_rfl)
    (of_decide_eq_true (by kernel_rfl)) (by unfold Func.isWrapper; first | (rw [if_pos (by decide +kernel)]; kernel_rfl) | (rw [if_neg (by decide +kernel)]; exact ⟨rfl, rfl⟩))
    (fun os started H enc _ F => by rw [OpenClaim.pre_eq_preRow]; exact lifted os started H enc F)

theorem plain (f : FuncId) (fn : Func) (hf : Tryd.pinned.checked.prog.funcNamed "sumpter/sumpterlaw15.RecordPuts" = some f) (hfn : Tryd.pinned.checked.prog.funcs[f]? = some fn) :
    false = Tryd.pinned.checked.prog.looks [] ∧ ∀ (j : Nat) t, fn.params[j]? = some t → Tryd.pinned.checked.prog.wantsStandIn t = false := by
  obtain rfl : f = 3 := Option.some.inj ((show Tryd.prog.funcNamed "sumpter/sumpterlaw15.RecordPuts" = some 3 by kernel_rfl).symm.trans hf) |>.symm
  obtain rfl : fn = Tryd.f3 := (Option.some.inj (Tryd.func3.symm.trans hfn)).symm
  refine ⟨by kernel_rfl, fun j t ht => ?_⟩
  rw [Tryd.params3] at ht
  have hm : t ∈ [25] := by simpa using Array.mem_of_getElem? ht
  have hall : ([25].all fun u => !Tryd.prog.wantsStandIn u) = true := by kernel_rfl
  exact (show Tryd.prog.wantsStandIn t = false by simpa using List.all_eq_true.1 hall t hm)
end Go.Proofs.YtcenchnmibdebaaDoor.recordPuts

namespace Go.Proofs.YtcenchnmibdebaaDoor
/-- The card of RecordPuts. -/
theorem recordPuts_card : Rows.RecordPutsCardSaid :=
  Claim7.holds_tied_plain_at .later [] _ _ _ _ recordPuts.said (fun _ h => by cases h) (by kernel_rfl) (fun _ h => by cases h) recordPuts_row_tie rfl ⟨rfl, rfl⟩ (by kernel_rfl) rfl recordPuts.plain (by kernel_rfl)
#print axioms recordPuts_card
end Go.Proofs.YtcenchnmibdebaaDoor
