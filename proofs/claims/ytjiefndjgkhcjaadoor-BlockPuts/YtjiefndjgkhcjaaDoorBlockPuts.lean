/-
  BlockPuts: any sums (of up to 200) have the bytes that the document says, or it is told why not; any bytes (of up to 8000) are the sums that it says, or none; no condition.
-/
import Derived.Test.YtjiefndjgkhcjaaDoorFr
import Derived.Test.YtjiefndjgkhcjaaDoorPkr
import Derived.Test.YtjiefndjgkhcjaaDoorRs
namespace Go.Proofs.YtjiefndjgkhcjaaDoor.blockPuts
open Go.ChangeShapes Go.WideShapes Go.ChangeAt Go.RowKit Go.Deep Go.ChangeMaps
set_option maxRecDepth 100000

theorem trio3 {w : World} {b : Nat} {x y z : Value} {t : TypeId} (h : w.heap[b]? = some (.cells #[x, y, z] t (0, 0))) : w.cell? ⟨b, 0, none⟩ = some x ∧ w.cell? ⟨b, 1, none⟩ = some y ∧ w.cell? ⟨b, 2, none⟩ = some z :=
  ⟨by rw [cell_of_row _ _ _ _ _ _ h]; rfl, by rw [cell_of_row _ _ _ _ _ _ h]; rfl, by rw [cell_of_row _ _ _ _ _ _ h]; rfl⟩
theorem bget_len (b : List Int) : (bget b).2.2.1.length ≤ 90000 := by
  rcases bget_cases b with ⟨hg, hp⟩ | hg
  · have := chk_zero _ _ _ (bput_zero _ _ _ (by rw [hp]))
    rw [hg]
    show (rdA b).length ≤ 90000
    omega
  · rw [hg]; simp
set_option maxHeartbeats 16000000 in
theorem walk (v0 : Value) (X : Sm) (v1 : Value) (raw : List Int) (w : World) (hw : Tb w) (h0 : SM w v0 X) (h1x : SlX w v1 raw) :
    Calls Tryd.prog 4 #[v0, v1] w fun e w' => e = .returned (.bool true) ∧ Below w.heap.size w w' := by
  obtain ⟨h1, hsp⟩ := h1x
  have CA : Hid (∀ W, Below w.heap.size w W → Calls Tryd.prog 9 #[] W fun e w' => e = .returned (.bool true) ∧ Below W.heap.size W w') := fun W hb => awake_any W (hw.kept hb).1
  obtain ⟨u, rfl, hg, hz0, hn0⟩ := h0
  obtain ⟨a, c, rfl, hc, hm, h4⟩ := hg.shape
  have HG : Hid (GS w (.slice a X.l.length c) X.l) := hg
  have HGL : Hid ((bget raw).2.2.1.length ≤ 90000) := bget_len raw
  have HL1 : Hid (∀ W, Below w.heap.size w W → raw.length ≤ 8000 → Calls Tryd.prog 17 #[v1] W fun e w' => ∃ v', e = .returned (.tuple #[.int .i64 (bget raw).1, .int .i64 (bget raw).2.1, v', .int .i64 (bget raw).2.2.2]) ∧ RI w' W.heap.size v' (bget raw).2.2.1 ∧ Below W.heap.size W w') := fun W hb hl => get_any v1 raw W (h1.kept hb) (by omega) (hw.kept hb).2
  have HL2 : Hid (∀ W, Below w.heap.size w W → raw.length ≤ 8000 → Calls Tryd.prog 18 #[v1] W fun e w' => ∃ v', e = .returned (.tuple #[.int .i64 (bget raw).1, .int .i64 (bget raw).2.1, v', .int .i64 (bget raw).2.2.2]) ∧ RI w' W.heap.size v' (bget raw).2.2.1 ∧ Below W.heap.size W w') := fun W hb hl => rgetB_any v1 raw W (h1.kept hb) hsp (by omega)
  obtain ⟨va, vc, rfl, hvc, hvm, -⟩ := id h1
  have HW : Hid (Tb w) := hw
  obtain ⟨z, n, l⟩ := X
  simp only at HG hc hz0 hn0 ⊢
  obtain ⟨L, hL⟩ : ∃ L, L = l.length := ⟨_, rfl⟩
  have HL : Hid (L = l.length) := hL
  obtain ⟨B, hB⟩ : ∃ B, B = raw.length := ⟨_, rfl⟩
  rw [← hL] at HG hc ⊢
  rw [← hB] at HL1 HL2 hvc ⊢
  have lm : (L : Int) ≤ 9223372036854775807 := by unfold maxLen at hm; omega
  have bm : (B : Int) ≤ 9223372036854775807 := by unfold maxLen at hvm; omega
  obtain ⟨W1, hW1⟩ : ∃ W1, W1 = w.alloc (.cells #[.int .i64 z, .int .i64 n, .slice a L c] 34) := ⟨_, rfl⟩
  have b1 : Below w.heap.size w W1 := by rw [hW1]; exact al_below _ _
  have g1 : W1.heap[w.heap.size]? = some (.cells #[.int .i64 z, .int .i64 n, .slice a L c] 34 (0, 0)) := by rw [hW1]; exact heap_alloc_new _ _
  have B1 : Hid (Below w.heap.size w W1) := b1
  have FT : Hid (∀ x, Below W1.heap.size W1 x → x.cell? ⟨w.heap.size, 0, none⟩ = some (.int .i64 z) ∧ x.cell? ⟨w.heap.size, 1, none⟩ = some (.int .i64 n) ∧ x.cell? ⟨w.heap.size, 2, none⟩ = some (.slice a L c)) := fun x hx => trio3 ((hx.block _ (Array.getElem?_eq_some_iff.1 g1).1).trans g1)
  obtain ⟨k0, k1, k2⟩ := FT.out W1 (Below.refl _ _)
  clear b1 g1 h1 hsp hg hw hL hB hm hvm h4
  go_enter Tryd.func4, Tryd.ntmps4
  by_cases h5 : 200 < L ∨ 8000 < B
  · have ca := CA.out W1 B1.out
    by_cases h6 : 200 < L
    · have h7 : 200 < (L : Int) := by omega
      clear h5
      go_wp2_with fail
      try rw [← hW1]
      clear hW1 k0 k1 k2
      refine ca.mono ?_
      rintro e w2 ⟨rfl, b2⟩
      have B2 : Hid (Below w.heap.size w w2) := B1.out.trans (b2.mono B1.out.size)
      clear ca b2
      go_wp2
      go_ret
      exact ⟨rfl, B2.out⟩
    · have h7 : ¬ 200 < (L : Int) := by omega
      have h8 : 8000 < (B : Int) := by omega
      clear h5
      go_wp2_with fail
      try rw [← hW1]
      clear hW1 k0 k1 k2
      refine ca.mono ?_
      rintro e w2 ⟨rfl, b2⟩
      have B2 : Hid (Below w.heap.size w w2) := B1.out.trans (b2.mono B1.out.size)
      clear ca b2
      go_wp2
      go_ret
      exact ⟨rfl, B2.out⟩
  · have h7 : ¬ 200 < (L : Int) := by omega
    have h8 : ¬ 8000 < (B : Int) := by omega
    have cp := put_any z n (.slice a L c) l W1 (HG.out.kept B1.out) (by rw [← HL.out]; omega) (HW.out.kept B1.out).2
    have CR : Hid (∀ W, Below w.heap.size w W → Calls Tryd.prog 16 #[.int .i64 z, .int .i64 n, .slice a L c] W fun e w' => ∃ v', e = .returned (.tuple #[v', .int .i64 (bput z n l).2]) ∧ Ow w' W.heap.size v' (bput z n l).1 ∧ Below W.heap.size W w') := fun W hb => rput_any z n _ l W (HG.out.kept hb) (by rw [← HL.out]; omega)
    have G1 : Hid (∀ W, Below w.heap.size w W → Calls Tryd.prog 17 #[.slice va B vc] W fun e w' => ∃ v', e = .returned (.tuple #[.int .i64 (bget raw).1, .int .i64 (bget raw).2.1, v', .int .i64 (bget raw).2.2.2]) ∧ RI w' W.heap.size v' (bget raw).2.2.1 ∧ Below W.heap.size W w') := fun W hb => HL1.out W hb (by omega)
    have G2 : Hid (∀ W, Below w.heap.size w W → Calls Tryd.prog 18 #[.slice va B vc] W fun e w' => ∃ v', e = .returned (.tuple #[.int .i64 (bget raw).1, .int .i64 (bget raw).2.1, v', .int .i64 (bget raw).2.2.2]) ∧ RI w' W.heap.size v' (bget raw).2.2.1 ∧ Below W.heap.size W w') := fun W hb => HL2.out W hb (by omega)
    clear h5 HL1 HL2
    generalize bput z n l = P at *
    obtain ⟨pb, pe⟩ := P
    generalize bget raw = T at *
    obtain ⟨tz, tn, tl, te⟩ := T
    simp only at cp CR G1 G2 HGL
    go_wp2_with fail
    try rw [← hW1]
    clear hW1 k0 k1 k2
    refine cp.mono ?_
    rintro e w2 ⟨v2, rfl, o2, b2⟩
    clear cp
    have B2 : Hid (Below W1.heap.size W1 w2) := b2
    have BW2 : Hid (Below w.heap.size w w2) := B1.out.trans (b2.mono B1.out.size)
    have S2 : Hid (∀ x, Below w2.heap.size w2 x → Sl x v2 pb) := fun x hx => o2.sl.kept hx
    obtain ⟨pa, pc, rfl⟩ := o2.shape
    obtain ⟨np, hnp⟩ : ∃ np, np = pb.length := ⟨_, rfl⟩
    have HNP : Hid (np = pb.length) := hnp
    rw [← hnp] at S2 ⊢
    obtain ⟨k0, k1, k2⟩ := FT.out w2 B2.out
    have cr := CR.out w2 BW2.out
    clear o2 b2 hnp CR
    go_wp2_with fail
    refine cr.mono ?_
    rintro e w3 ⟨v3, rfl, o3, b3⟩
    clear cr k0 k1 k2
    have B23 : Hid (Below w2.heap.size w2 w3) := b3
    have BW3 : Hid (Below w.heap.size w w3) := BW2.out.trans (b3.mono BW2.out.size)
    have S3 : Hid (∀ x, Below w3.heap.size w3 x → Sl x v3 pb) := fun x hx => o3.sl.kept hx
    obtain ⟨qa, qc, rfl⟩ := o3.shape
    rw [← HNP.out] at S3 ⊢
    have cg1 := G1.out w3 BW3.out
    clear o3 b3 G1 BW2
    go_wp2_with fail
    refine cg1.mono ?_
    rintro e w4 ⟨v4, rfl, r4, b4⟩
    clear cg1
    have B34 : Hid (Below w3.heap.size w3 w4) := b4
    have BW4 : Hid (Below w.heap.size w w4) := BW3.out.trans (b4.mono BW3.out.size)
    have R4 : Hid (RI w4 w3.heap.size v4 tl) := r4
    obtain ⟨ra, rc, rfl, -⟩ := r4.is.shape
    obtain ⟨nt, hnt⟩ : ∃ nt, nt = tl.length := ⟨_, rfl⟩
    have HNT : Hid (nt = tl.length) := hnt
    rw [← hnt] at R4 ⊢
    have cg2 := G2.out w4 BW4.out
    clear r4 b4 G2 BW3 hnt
    go_wp2_with fail
    refine cg2.mono ?_
    rintro e w5 ⟨v5, rfl, r5, b5⟩
    clear cg2
    have BW5 : Hid (Below w.heap.size w w5) := BW4.out.trans (b5.mono BW4.out.size)
    have B35 : Below w3.heap.size w3 w5 := B34.out.trans (b5.mono B34.out.size)
    have B25 : Below w2.heap.size w2 w5 := B23.out.trans (B35.mono B23.out.size)
    have CM := rsame_eq (.slice ra nt rc) v5 tl w5 (R4.out.below b5).is r5.is (by have := HGL.out; omega)
    obtain ⟨sa, sc, rfl, -⟩ := r5.is.shape
    rw [← HNT.out] at CM ⊢
    have c1 := (S2.out w5 B25).conv
    have c2 := (S3.out w5 B35).conv
    generalize strB pb = SP at *
    have tS : (SP.toList == SP.toList) = true := by simp
    have t1 : (pe == pe) = true := by simp
    have t2 : (tz == tz) = true := by simp
    have t3 : (tn == tn) = true := by simp
    have t4 : (te == te) = true := by simp
    clear r5 b5 B35 B25 S2 S3 R4 B34 B23 BW4
    go_wp2_with fail
    refine CM.mono ?_
    rintro e w6 ⟨rfl, b6⟩
    clear CM
    have BW6 : Hid (Below w.heap.size w w6) := BW5.out.trans (b6.mono BW5.out.size)
    have ca := CA.out w6 BW6.out
    clear b6 c1 c2 BW5
    go_wp2_with fail
    refine ca.mono ?_
    rintro e w7 ⟨rfl, b7⟩
    have BW7 : Hid (Below w.heap.size w w7) := BW6.out.trans (b7.mono BW6.out.size)
    clear ca b7
    go_wp2
    go_ret
    exact ⟨rfl, BW7.out⟩

theorem contract (H : Type) (enc : TypeId × Value → H) (W : World) (base : Nat) (args : Array Value) (ds gs : List (DataW H)) (before : List MemPlace)
    (hval : ∀ (j : Nat) t v, Tryd.f4.params[j]? = some t → args[j]? = some v → Value.okWide Tryd.prog W .any base t v)
    (hW : DataW.Whole enc Tryd.prog Tryd.f4.params.toList Rows.blockPutsSpec.vars false W args.toList ds gs before) (hL : laidMetH Tryd.prog Rows.blockPutsRow.laid W)
    (hsz0 : (DataW.weightsEach Tryd.prog (Tryd.f4.params.toList ++ Rows.blockPutsSpec.plain.varTypes Tryd.prog) (ds ++ gs)).all (· ≤ reachBytes) = true) :
    Calls Tryd.prog 4 args W fun e W' => ∃ v, e = .returned v ∧ Rows.blockPutsSpec.post enc Tryd.prog Tryd.f4 false true false false W args v W' := by
  have hW' := hW
  obtain ⟨p, q, hA0, hV, rfl, hfz, hnd⟩ := hW
  have hA : DataW.TrodAll enc Tryd.prog W 0 (fun _ => true) true Tryd.f4.params.toList args.toList ds p := hA0
  rw [Tryd.params4] at hA hval hsz0
  obtain ⟨v0, vs0, d0, ds0, p0, q0, hargs, rfl, rfl, h0, r0⟩ := trodAll_cons hA
  obtain ⟨v1, vs1, d1, ds1, p1, q1, rfl, rfl, rfl, h1, r1⟩ := trodAll_cons r0
  obtain ⟨rfl, rfl, rfl⟩ := trodAll_nil r1
  obtain rfl : args = #[v0, v1] := by cases args; simp_all
  obtain ⟨rfl, rfl⟩ := trodVars_none hV
  have k0 := h0
  have lt0 : ∀ x ∈ p0, x.block < W.heap.size := by obtain ⟨m, hm⟩ := k0; exact DataW.trod_lt m _ _ _ hm
  obtain ⟨L0, w0⟩ := sums_in (hval 0 34 v0 rfl rfl) h0
  have k1 := h1
  have lt1 : ∀ x ∈ p1, x.block < W.heap.size := by obtain ⟨m, hm⟩ := k1; exact DataW.trod_lt m _ _ _ hm
  obtain ⟨L1, w1⟩ := slx_in (hval 1 22 v1 rfl rfl) h1
  clear hA0
  refine (walk v0 L0 v1 L1 W (tb_of hL) w0 w1).mono fun e W' ⟨he, bel⟩ => ?_
  subst he
  exact ⟨_, rfl, _, _, _, [], _, [], hW', trodAll_mk1 (shut_bool Tryd.underlying4 _), (trodAll_cons_mk (Below.trod laidOut (by kernel_rfl) (of_decide_eq_true (by kernel_rfl)) k0 bel lt0) (trodAll_cons_mk (Below.trod laidOut (by kernel_rfl) (of_decide_eq_true (by kernel_rfl)) k1 bel lt1) trodAll_mk0)), rfl, bel.frame _, fun h => by cases h⟩

theorem laid_met (os : Os) : laidMet Tryd.prog Rows.blockPutsRow.laid (({ World.holding Tryd.prog os ⟨#[], #[], []⟩ with heap := ((((World.holding Tryd.prog os ⟨#[], #[], []⟩).heap.modify 0 (fun
      | .cells _ t frozen => .cells shaFirst t frozen
      | o => o)).modify 1 (fun
      | .cells _ t frozen => .cells #[.int .i64 1, .int .i64 2, .int .i64 4, .int .i64 8] t frozen
      | o => o)).modify 2 (fun
      | .cells _ t frozen => .cells shaRounds t frozen
      | o => o)) } : World).forCall (fun _ _ => 0) ⟨#[], #[.agg #[.int .i64 0, .int .i64 0, .slice none 0 0], .slice none 0 0], []⟩).memory :=
  laidMet_of_run' 8 (by kernel_rfl) (by kernel_rfl)
theorem reads (os : Os) {H : Type} (enc : TypeId × Value → H) : ∃ places, DataW.whole enc Tryd.prog (({ World.holding Tryd.prog os ⟨#[], #[], []⟩ with heap := ((((World.holding Tryd.prog os ⟨#[], #[], []⟩).heap.modify 0 (fun
      | .cells _ t frozen => .cells shaFirst t frozen
      | o => o)).modify 1 (fun
      | .cells _ t frozen => .cells #[.int .i64 1, .int .i64 2, .int .i64 4, .int .i64 8] t frozen
      | o => o)).modify 2 (fun
      | .cells _ t frozen => .cells shaRounds t frozen
      | o => o)) } : World).forCall (fun _ _ => 0) ⟨#[], #[.agg #[.int .i64 0, .int .i64 0, .slice none 0 0], .slice none 0 0], []⟩).memory Tryd.f4.params.toList Rows.blockPutsSpec.vars false #[Value.agg #[.int .i64 0, .int .i64 0, .slice none 0 0], .slice none 0 0].toList 8 = some ([.agg [.lit (.int .i64 0), .lit (.int .i64 0), .nil], .nil], [], places) :=
  ⟨[], by kernel_rfl⟩

set_option maxRecDepth 100000 in
theorem lifted (os : Os) (started : os.Started) (H : Type) (enc : TypeId × Value → H) (F : Stop.Interp) :
    ReturnsInHanded {} Tryd.checked os 4 .any ((OpenSpec.ofChange Rows.blockPutsSpec).preRow enc Tryd.prog Tryd.f4 Rows.blockPutsRow.domain false Rows.blockPutsRow.laid) (((OpenSpec.ofChange Rows.blockPutsSpec).at F).post enc Tryd.prog Tryd.f4 false true false false) := by
  obtain ⟨places, hx⟩ := reads os enc
  refine returnsInHanded_of_row (C := Tryd.checked) (s := OpenSpec.ofChange Rows.blockPutsSpec) own started (by kernel_rfl) Tryd.func4
    (witness_row_at (enc := enc) (C := Tryd.checked) false ({ World.holding Tryd.prog os ⟨#[], #[], []⟩ with heap := ((((World.holding Tryd.prog os ⟨#[], #[], []⟩).heap.modify 0 (fun
      | .cells _ t frozen => .cells shaFirst t frozen
      | o => o)).modify 1 (fun
      | .cells _ t frozen => .cells #[.int .i64 1, .int .i64 2, .int .i64 4, .int .i64 8] t frozen
      | o => o)).modify 2 (fun
      | .cells _ t frozen => .cells shaRounds t frozen
      | o => o)) } : World) #[.agg #[.int .i64 0, .int .i64 0, .slice none 0 0], .slice none 0 0] rfl (by kernel_rfl) (by kernel_rfl) (by kernel_rfl)
      (OpenSpec.preRow_of_cond 8 hx (by kernel_rfl) (fun k hk => by cases hk) (by kernel_rfl) (laid_met os))) ?_
  intro W base args ds gs before hval hW _ _ hsz hL _ _
  exact contract H enc W base args ds gs before hval hW hL hsz

theorem said : Rows.BlockPutsSaid :=
  OpenClaim.holds_of_cond 4 Tryd.f4 rfl rfl rfl rfl rfl rfl rfl ⟨rfl, rfl, rfl, rfl, rfl⟩ rfl rfl rfl rfl rfl (by kernel_rfl) Tryd.func4 (by kernel_rfl)
    (of_decide_eq_true (by kernel_rfl)) (by unfold Func.isWrapper; first | (rw [if_pos (by decide +kernel)]; kernel_rfl) | (rw [if_neg (by decide +kernel)]; exact ⟨rfl, rfl⟩))
    (fun os started H enc _ F => by rw [OpenClaim.pre_eq_preRow]; exact lifted os started H enc F)

theorem plain (f : FuncId) (fn : Func) (hf : Tryd.pinned.checked.prog.funcNamed "sumpter/sumpterlaw11.BlockPuts" = some f) (hfn : Tryd.pinned.checked.prog.funcs[f]? = some fn) :
    false = Tryd.pinned.checked.prog.looks [] ∧ ∀ (j : Nat) t, fn.params[j]? = some t → Tryd.pinned.checked.prog.wantsStandIn t = false := by
  obtain rfl : f = 4 := Option.some.inj ((show Tryd.prog.funcNamed "sumpter/sumpterlaw11.BlockPuts" = some 4 by kernel_rfl).symm.trans hf) |>.symm
  obtain rfl : fn = Tryd.f4 := (Option.some.inj (Tryd.func4.symm.trans hfn)).symm
  refine ⟨by kernel_rfl, fun j t ht => ?_⟩
  rw [Tryd.params4] at ht
  have hm : t ∈ [34, 22] := by simpa using Array.mem_of_getElem? ht
  have hall : ([34, 22].all fun u => !Tryd.prog.wantsStandIn u) = true := by kernel_rfl
  exact (show Tryd.prog.wantsStandIn t = false by simpa using List.all_eq_true.1 hall t hm)
end Go.Proofs.YtjiefndjgkhcjaaDoor.blockPuts

namespace Go.Proofs.YtjiefndjgkhcjaaDoor
/-- The card of BlockPuts. -/
theorem blockPuts_card : Rows.BlockPutsCardSaid :=
  Claim7.holds_tied_plain_at .later [] _ _ _ _ blockPuts.said (fun _ h => by cases h) (by kernel_rfl) (fun _ h => by cases h) blockPuts_row_tie rfl ⟨rfl, rfl⟩ (by kernel_rfl) rfl blockPuts.plain (by kernel_rfl)
#print axioms blockPuts_card
end Go.Proofs.YtjiefndjgkhcjaaDoor
