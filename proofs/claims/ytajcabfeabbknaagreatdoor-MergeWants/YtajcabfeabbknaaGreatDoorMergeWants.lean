/-
  What Want and Plan answer is what the document says, entry for entry and step for step, and what they are told alike: for every two lists of entries and every policy, no condition.
-/
import Derived.Test.YtajcabfeabbknaaGreatDoorFz
import Derived.Test.YtajcabfeabbknaaGreatDoorLz
import Derived.Test.YtajcabfeabbknaaGreatDoorAw
import Derived.Test.YtajcabfeabbknaaGreatDoorWn
import Derived.Test.YtajcabfeabbknaaGreatDoorPn
import Derived.Test.YtajcabfeabbknaaGreatDoorRh
import Derived.Test.YtajcabfeabbknaaGreatDoorLa
import Derived.Test.YtajcabfeabbknaaGreatDoorRsa
import Derived.Test.YtajcabfeabbknaaGreatDoorRpl
namespace Go.Proofs.YtajcabfeabbknaaGreatDoor.mergeWants
open Go.ChangeShapes Go.WideShapes Go.ChangeAt Go.RowKit Go.Deep Go.ChangeMaps
set_option maxRecDepth 100000

theorem want_len {s d : List En} {P : Pol} : (want s d P).1.length ≤ 64 := by
  unfold want
  split
  · simp
  · split
    · simp
    · split
      · simp
      · simp only; omega
theorem plan_len {s d : List En} {P : Pol} (hs : Lt s) (hd : Lt d) : (plan s d P).1.length ≤ 1000 := by
  unfold plan
  split
  · simp
  · have w := want_len (s := s) (d := d) (P := P)
    have e1 := List.length_filter_le (f1 s d P) d
    have e2 := List.length_filter_le (f2 (want s d P).1) d
    have e3 := List.length_filter_le (f3 d) (want s d P).1
    have e4 := List.length_filter_le (f4 d) s
    have h1 := hs.1
    have h2 := hd.1
    simp only [pln, List.length_append, List.length_map, List.length_reverse]
    omega
set_option maxHeartbeats 8000000 in
set_option maxRecDepth 100000 in
theorem walk (v : Value) (s : List En) (u : Value) (d : List En) (pv : Value) (P : Pol) (w : World) (hw : Mx w) (hs : ES w v s) (hd : ES w u d) (hp : pv = .agg #[.bool P.del, .bool P.bak]) :
    Calls Tryz.prog 3 #[v, u, pv] w fun e w' => e = .returned (.bool true) ∧ Below w.heap.size w w' := by
  subst hp
  obtain ⟨a, c, rfl, g2, g3, _⟩ := hs.shape
  obtain ⟨a2, c2, rfl, g4, g5, _⟩ := hd.shape
  obtain ⟨W1, hW1⟩ : ∃ W1, W1 = w.alloc (.cells #[.bool P.del, .bool P.bak] 24) := ⟨_, rfl⟩
  have b1 : Below w.heap.size w W1 := by rw [hW1]; exact (Below.refl _ _).alloc (Nat.le_refl _) _
  have k1 : W1.cell? ⟨w.heap.size, 0, none⟩ = some (.bool P.del) ∧ W1.cell? ⟨w.heap.size, 1, none⟩ = some (.bool P.bak) := by
    rw [hW1, World.cell?_alloc_at _ _ _ _ rfl, World.cell?_alloc_at _ _ _ _ rfl]; exact ⟨rfl, rfl⟩
  have HK : Hid (∀ W, Below W1.heap.size W1 W → W.cell? ⟨w.heap.size, 0, none⟩ = some (.bool P.del) ∧ W.cell? ⟨w.heap.size, 1, none⟩ = some (.bool P.bak)) := fun W hb =>
    ⟨(hb.cell (World.block_lt_of_cell? _ _ k1.1)).trans k1.1, (hb.cell (World.block_lt_of_cell? _ _ k1.2)).trans k1.2⟩
  have HES : Hid (ES W1 (.slice a s.length c) s) := hs.kept b1
  have HED : Hid (ES W1 (.slice a2 d.length c2) d) := hd.kept b1
  have HM : Hid (Mx W1) := hw.kept b1
  have B1 : Hid (Below w.heap.size w W1) := b1
  have CAW : Hid (∀ W, Below W1.heap.size W1 W → Calls Tryz.prog 6 #[] W fun e w' => e = .returned (.bool true) ∧ Below W.heap.size W w') := fun W hb => awake_any W (HM.out.kept hb)
  have CL1 := light2_any _ _ s d W1 HES.out HED.out
  have CW : Hid (∀ W, Below W1.heap.size W1 W → Lt s → Lt d → Calls Tryz.prog 7 #[.slice a s.length c, .slice a2 d.length c2, .agg #[.bool P.del, .bool P.bak]] W fun e w' => ∃ v', e = .returned (.tuple #[v', .int .i64 (want s d P).2]) ∧ OE w' W.heap.size v' (want s d P).1 ∧ Below W.heap.size W w') := fun W hb l1 l2 => want_any _ _ s d P W (HES.out.kept hb) l1 (HED.out.kept hb) l2 (HM.out.kept hb)
  have CR : Hid (∀ W, Below W1.heap.size W1 W → Lt s → Lt d → Calls Tryz.prog 8 #[.slice a s.length c, .slice a2 d.length c2, .agg #[.bool P.del, .bool P.bak]] W fun e w' => ∃ v', e = .returned (.tuple #[v', .int .i64 (want s d P).2]) ∧ ES w' v' (want s d P).1 ∧ Below W.heap.size W w') := fun W hb l1 l2 => rwant_any _ _ s d P W (HES.out.kept hb) l1 (HED.out.kept hb) l2
  have CP : Hid (∀ W, Below W1.heap.size W1 W → Lt s → Lt d → Calls Tryz.prog 9 #[.slice a s.length c, .slice a2 d.length c2, .agg #[.bool P.del, .bool P.bak]] W fun e w' => ∃ v', e = .returned (.tuple #[v', .int .i64 (plan s d P).2]) ∧ SR w' W.heap.size v' (plan s d P).1 ∧ Below W.heap.size W w') := fun W hb l1 l2 => plan_any _ _ s d P W (HES.out.kept hb) l1 (HED.out.kept hb) l2 (HM.out.kept hb)
  have CQ : Hid (∀ W, Below W1.heap.size W1 W → Lt s → Lt d → Calls Tryz.prog 10 #[.slice a s.length c, .slice a2 d.length c2, .agg #[.bool P.del, .bool P.bak]] W fun e w' => ∃ v', e = .returned (.tuple #[v', .int .i64 (plan s d P).2]) ∧ RS w' W.heap.size v' (plan s d P).1 ∧ Below W.heap.size W w') := fun W hb l1 l2 => rplan_any _ _ s d P W (HES.out.kept hb) l1 (HED.out.kept hb) l2
  have CS : Hid (∀ W v1 v2 l, l.length ≤ 1000 → ES W v1 l → ES W v2 l → Calls Tryz.prog 11 #[v1, v2] W fun e w' => e = .returned (.bool true) ∧ Below W.heap.size W w') := fun W v1 v2 l hl h1 h2 => by
    have := rsame_any v1 v2 l l W h1 h2 (by omega) (by omega)
    rw [(sam_iff l l).2 rfl] at this
    exact this
  have LW : Hid ((want s d P).1.length ≤ 64) := want_len
  have LP : Hid (Lt s → Lt d → (plan s d P).1.length ≤ 1000) := fun l1 l2 => plan_len l1 l2
  obtain ⟨G1, hG1⟩ : ∃ G1 : Prop, G1 = (Sm66 s ∧ Sm66 d) := ⟨_, rfl⟩
  rw [← hG1] at CL1
  have HG1 : Hid (G1 → Lt s ∧ Lt d) := fun h => by rw [hG1] at h; exact ⟨h.1.lt, h.2.lt⟩
  obtain ⟨c0, c1⟩ := k1
  clear hw hs hd g2 g3 g4 g5 b1 hG1
  rw [hW1] at c0 c1
  generalize want s d P = R at *
  generalize plan s d P = T at *
  generalize s.length = n at *
  generalize d.length = m at *
  go_enter Tryz.func3, Tryz.ntmps3
  go_wp2_with fail
  rw [← hW1]
  clear c0 c1 hW1
  refine CL1.mono ?_
  rintro e wq ⟨r1, rfl, hq, hr⟩
  replace hq := hq.symm
  subst hq
  have HR1 : Hid (r1 = true → G1) := hr
  clear hr CL1
  cases r1 with
  | false =>
    go_wp2_with fail
    refine (CAW.out W1 (Below.refl _ _)).mono ?_
    rintro e w5 ⟨rfl, b5⟩
    have B5 : Hid (Below w.heap.size w w5) := B1.out.trans (b5.mono B1.out.size)
    clear b5
    go_wp2
    go_ret
    exact ⟨rfl, B5.out⟩
  | true =>
  obtain ⟨ls, ld⟩ := HG1.out (HR1.out rfl)
  have LS : Hid (Lt s) := ls
  have LD : Hid (Lt d) := ld
  have LT : Hid (T.1.length ≤ 1000) := LP.out ls ld
  clear ls ld HG1 HR1 LP
  obtain ⟨c0, c1⟩ := HK.out W1 (Below.refl _ _)
  go_wp2_with fail
  refine (CW.out W1 (Below.refl _ _) LS.out LD.out).mono ?_
  rintro e w2 ⟨v2, rfl, o2, b2⟩
  have B2 : Hid (Below W1.heap.size W1 w2) := b2
  have E2 : Hid (ES w2 v2 R.1) := o2.es
  clear o2 b2 c0 c1
  obtain ⟨c0, c1⟩ := HK.out w2 B2.out
  obtain ⟨a3, c3, rfl, _, _, _⟩ := E2.out.shape
  obtain ⟨nr, hnr⟩ : ∃ nr, nr = R.1.length := ⟨_, rfl⟩
  rw [← hnr] at E2 ⊢
  have HNR : Hid (nr = R.1.length) := hnr
  clear hnr
  generalize hrk : R.2 = rk at *
  clear hrk
  go_wp2_with fail
  refine (CR.out w2 B2.out LS.out LD.out).mono ?_
  rintro e w3 ⟨v3, rfl, o3, b3⟩
  have B3 : Hid (Below W1.heap.size W1 w3) := B2.out.trans (b3.mono B2.out.size)
  have E3 : Hid (ES w3 (.slice a3 nr c3) R.1 ∧ ES w3 v3 R.1) := ⟨E2.out.kept b3, o3⟩
  obtain ⟨a4, c4, rfl, _, _, _⟩ := o3.shape
  rw [← HNR.out] at E3 ⊢
  clear o3 b3 c0 c1 E2
  obtain ⟨c0, c1⟩ := HK.out w3 B3.out
  go_wp2_with fail
  refine (CP.out w3 B3.out LS.out LD.out).mono ?_
  rintro e w4 ⟨v4, rfl, o4, b4⟩
  have B4 : Hid (Below W1.heap.size W1 w4) := B3.out.trans (b4.mono B3.out.size)
  have E4 : Hid (ES w4 (.slice a3 nr c3) R.1 ∧ ES w4 (.slice a4 nr c4) R.1) := ⟨E3.out.1.kept b4, E3.out.2.kept b4⟩
  have T4 : Hid (TS w4 v4 T.1) := o4.ts
  obtain ⟨a5, c5, rfl, _⟩ := T4.out.shape
  clear o4 b4 c0 c1 E3
  obtain ⟨c0, c1⟩ := HK.out w4 B4.out
  obtain ⟨nt, hnt⟩ : ∃ nt, nt = T.1.length := ⟨_, rfl⟩
  rw [← hnt] at T4 ⊢
  have HNT : Hid (nt = T.1.length) := hnt
  clear hnt
  generalize htk : T.2 = tk at *
  clear htk
  go_wp2_with fail
  refine (CQ.out w4 B4.out LS.out LD.out).mono ?_
  rintro e w5 ⟨v5, rfl, o5, b5⟩
  have B5 : Hid (Below W1.heap.size W1 w5) := B4.out.trans (b5.mono B4.out.size)
  have T5 : Hid (TS w5 (.slice a5 nt c5) T.1 ∧ TS w5 v5 T.1) := ⟨T4.out.keep b5, o5.ts⟩
  have E5 : ES w5 (.slice a3 nr c3) R.1 ∧ ES w5 (.slice a4 nr c4) R.1 := ⟨E4.out.1.kept b5, E4.out.2.kept b5⟩
  obtain ⟨a6, c6, rfl, _⟩ := T5.out.2.shape
  rw [← HNT.out] at T5 ⊢
  have CS5 := CS.out w5 _ _ R.1 (by have := LW.out; omega) E5.1 E5.2
  clear o5 b5 c0 c1 T4 E4 E5 HK CP CR CW CQ CS
  have t1 : (rk == rk) = true := by simp
  have t2 : (tk == tk) = true := by simp
  go_wp2_with fail
  refine CS5.mono ?_
  rintro e w6 ⟨rfl, b6⟩
  have B6 : Hid (Below W1.heap.size W1 w6) := B5.out.trans (b6.mono B5.out.size)
  have C6 := steps_same _ _ T.1 w6 (T5.out.1.keep b6) (T5.out.2.keep b6) LT.out
  clear b6 CS5 T5
  go_wp2_with fail
  refine C6.mono ?_
  rintro e w7 ⟨rfl, b7⟩
  have B7 : Hid (Below W1.heap.size W1 w7) := B6.out.trans (b7.mono B6.out.size)
  clear b7 C6
  go_wp2_with fail
  refine (CAW.out w7 B7.out).mono ?_
  rintro e w8 ⟨rfl, b8⟩
  have B8 : Hid (Below w.heap.size w w8) := B1.out.trans ((B7.out.trans (b8.mono B7.out.size)).mono B1.out.size)
  clear b8
  go_wp2
  go_ret
  exact ⟨rfl, B8.out⟩

theorem contract (H : Type) (enc : TypeId × Value → H) (W : World) (base : Nat) (args : Array Value) (ds gs : List (DataW H)) (before : List MemPlace)
    (hval : ∀ (j : Nat) t v, Tryz.f3.params[j]? = some t → args[j]? = some v → Value.okWide Tryz.prog W .any base t v)
    (hW : DataW.Whole enc Tryz.prog Tryz.f3.params.toList Rows.mergeWantsSpec.vars false W args.toList ds gs before) (_hL : laidMetH Tryz.prog Rows.mergeWantsRow.laid W) (hsh : W.ShapedOpen Tryz.prog)
    (hsz0 : (DataW.weightsEach Tryz.prog (Tryz.f3.params.toList ++ Rows.mergeWantsSpec.plain.varTypes Tryz.prog) (ds ++ gs)).all (· ≤ reachBytes) = true) :
    Calls Tryz.prog 3 args W fun e W' => ∃ v, e = .returned v ∧ Rows.mergeWantsSpec.post enc Tryz.prog Tryz.f3 false true false false W args v W' := by
  have hW' := hW
  obtain ⟨p, q, hA0, hV, rfl, hfz, hnd⟩ := hW
  have hA : DataW.TrodAll enc Tryz.prog W 0 (fun _ => true) true Tryz.f3.params.toList args.toList ds p := hA0
  rw [Tryz.params3] at hA hval hsz0
  obtain ⟨v0, vs0, d0, ds0, p0, q0, hargs, rfl, rfl, h0, r0⟩ := trodAll_cons hA
  obtain ⟨v1, vs1, d1, ds1, p1, q1, rfl, rfl, rfl, h1, r1⟩ := trodAll_cons r0
  obtain ⟨v2, vs2, d2, ds2, p2, q2, rfl, rfl, rfl, h2, r2⟩ := trodAll_cons r1
  obtain ⟨rfl, rfl, rfl⟩ := trodAll_nil r2
  obtain rfl : args = #[v0, v1, v2] := by cases args; simp_all
  obtain ⟨rfl, rfl⟩ := trodVars_none hV
  have k0 := h0
  have lt0 : ∀ x ∈ p0, x.block < W.heap.size := by obtain ⟨m, hm⟩ := k0; exact DataW.trod_lt m _ _ _ hm
  obtain ⟨L0, w0⟩ := ents_in (hval 0 22 v0 rfl rfl) h0
  have k1 := h1
  have lt1 : ∀ x ∈ p1, x.block < W.heap.size := by obtain ⟨m, hm⟩ := k1; exact DataW.trod_lt m _ _ _ hm
  obtain ⟨L1, w1⟩ := ents_in (hval 1 22 v1 rfl rfl) h1
  have k2 := h2
  have lt2 : ∀ x ∈ p2, x.block < W.heap.size := by obtain ⟨m, hm⟩ := k2; exact DataW.trod_lt m _ _ _ hm
  obtain ⟨L2, w2⟩ := pol_in (hval 2 24 v2 rfl rfl) h2
  clear hA0
  refine (walk v0 L0 v1 L1 v2 L2 W (mx_of hsh) w0 w1 w2).mono fun e W' ⟨he, bel⟩ => ?_
  subst he
  exact ⟨_, rfl, _, _, _, [], _, [], hW', trodAll_mk1 (shut_bool Tryz.underlying4 _), (trodAll_cons_mk (Below.trod laidOut (by kernel_rfl) (of_decide_eq_true (by kernel_rfl)) k0 bel lt0) (trodAll_cons_mk (Below.trod laidOut (by kernel_rfl) (of_decide_eq_true (by kernel_rfl)) k1 bel lt1) (trodAll_cons_mk (Below.trod laidOut (by kernel_rfl) (of_decide_eq_true (by kernel_rfl)) k2 bel lt2) trodAll_mk0))), rfl, bel.frame _, fun h => by cases h⟩

theorem laid_met (os : Os) : laidMet Tryz.prog Rows.mergeWantsRow.laid (({ World.holding Tryz.prog os ⟨#[], #[], []⟩ with heap := ((((World.holding Tryz.prog os ⟨#[], #[], []⟩).heap.modify 0 (fun
      | .cells _ t frozen => .cells #[.int .i64 0] t frozen
      | o => o)).modify 1 (fun
      | .cells _ t frozen => .cells firstCells t frozen
      | o => o)).modify 2 (fun
      | .cells _ t frozen => .cells rangeCells t frozen
      | o => o)) } : World).forCall (fun _ _ => 0) ⟨#[], #[.slice none 0 0, .slice none 0 0, .agg #[.bool false, .bool false]], []⟩).memory :=
  laidMet_of_run' 8 (by kernel_rfl) (by kernel_rfl)
theorem reads (os : Os) {H : Type} (enc : TypeId × Value → H) : ∃ places, DataW.whole enc Tryz.prog (({ World.holding Tryz.prog os ⟨#[], #[], []⟩ with heap := ((((World.holding Tryz.prog os ⟨#[], #[], []⟩).heap.modify 0 (fun
      | .cells _ t frozen => .cells #[.int .i64 0] t frozen
      | o => o)).modify 1 (fun
      | .cells _ t frozen => .cells firstCells t frozen
      | o => o)).modify 2 (fun
      | .cells _ t frozen => .cells rangeCells t frozen
      | o => o)) } : World).forCall (fun _ _ => 0) ⟨#[], #[.slice none 0 0, .slice none 0 0, .agg #[.bool false, .bool false]], []⟩).memory Tryz.f3.params.toList Rows.mergeWantsSpec.vars false #[Value.slice none 0 0, .slice none 0 0, .agg #[.bool false, .bool false]].toList 8 = some ([.nil, .nil, .agg [.lit (.bool false), .lit (.bool false)]], [], places) :=
  ⟨[], by kernel_rfl⟩

set_option maxRecDepth 100000 in
theorem lifted (os : Os) (started : os.Started) (H : Type) (enc : TypeId × Value → H) (F : Stop.Interp) :
    ReturnsInHanded {} Tryz.checked os 3 .any ((OpenSpec.ofChange Rows.mergeWantsSpec).preRow enc Tryz.prog Tryz.f3 Rows.mergeWantsRow.domain false Rows.mergeWantsRow.laid) (((OpenSpec.ofChange Rows.mergeWantsSpec).at F).post enc Tryz.prog Tryz.f3 false true false false) := by
  obtain ⟨places, hx⟩ := reads os enc
  refine returnsInHanded_of_row (C := Tryz.checked) (s := OpenSpec.ofChange Rows.mergeWantsSpec) own started (by kernel_rfl) Tryz.func3
    (witness_row_at (enc := enc) (C := Tryz.checked) false ({ World.holding Tryz.prog os ⟨#[], #[], []⟩ with heap := ((((World.holding Tryz.prog os ⟨#[], #[], []⟩).heap.modify 0 (fun
      | .cells _ t frozen => .cells #[.int .i64 0] t frozen
      | o => o)).modify 1 (fun
      | .cells _ t frozen => .cells firstCells t frozen
      | o => o)).modify 2 (fun
      | .cells _ t frozen => .cells rangeCells t frozen
      | o => o)) } : World) #[.slice none 0 0, .slice none 0 0, .agg #[.bool false, .bool false]] rfl (by kernel_rfl) (by kernel_rfl) (by kernel_rfl)
      (OpenSpec.preRow_of_cond 8 hx (by kernel_rfl) (fun k hk => by cases hk) (by kernel_rfl) (laid_met os))) ?_
  intro W base args ds gs before hval hW _ _ hsz hL hsh _
  exact contract H enc W base args ds gs before hval hW hL hsh hsz

theorem said : Rows.MergeWantsSaid :=
  OpenClaim.holds_of_cond 3 Tryz.f3 rfl rfl rfl rfl rfl rfl rfl ⟨rfl, rfl, rfl, rfl, rfl⟩ rfl rfl rfl rfl rfl (by kernel_rfl) Tryz.func3 (by kernel_rfl)
    (of_decide_eq_true (by kernel_rfl)) (by unfold Func.isWrapper; first | (rw [if_pos (by decide +kernel)]; kernel_rfl) | (rw [if_neg (by decide +kernel)]; exact ⟨rfl, rfl⟩))
    (fun os started H enc _ F => by rw [OpenClaim.pre_eq_preRow]; exact lifted os started H enc F)

theorem plain (f : FuncId) (fn : Func) (hf : Tryz.pinned.checked.prog.funcNamed "sumpter/sumpterlaw09.MergeWants" = some f) (hfn : Tryz.pinned.checked.prog.funcs[f]? = some fn) :
    false = Tryz.pinned.checked.prog.looks [] ∧ ∀ (j : Nat) t, fn.params[j]? = some t → Tryz.pinned.checked.prog.wantsStandIn t = false := by
  obtain rfl : f = 3 := Option.some.inj ((show Tryz.prog.funcNamed "sumpter/sumpterlaw09.MergeWants" = some 3 by kernel_rfl).symm.trans hf) |>.symm
  obtain rfl : fn = Tryz.f3 := (Option.some.inj (Tryz.func3.symm.trans hfn)).symm
  refine ⟨by kernel_rfl, fun j t ht => ?_⟩
  rw [Tryz.params3] at ht
  have hm : t ∈ [22, 22, 24] := by simpa using Array.mem_of_getElem? ht
  have hall : ([22, 22, 24].all fun u => !Tryz.prog.wantsStandIn u) = true := by kernel_rfl
  exact (show Tryz.prog.wantsStandIn t = false by simpa using List.all_eq_true.1 hall t hm)
end Go.Proofs.YtajcabfeabbknaaGreatDoor.mergeWants

namespace Go.Proofs.YtajcabfeabbknaaGreatDoor
/-- The card of MergeWants. -/
theorem mergeWants_card : Rows.MergeWantsCardSaid :=
  Claim7.holds_tied_plain_at .later [] _ _ _ _ mergeWants.said (fun _ h => by cases h) (by kernel_rfl) (fun _ h => by cases h) mergeWants_row_tie rfl ⟨rfl, rfl⟩ (by kernel_rfl) rfl mergeWants.plain (by kernel_rfl)
#print axioms mergeWants_card
end Go.Proofs.YtajcabfeabbknaaGreatDoor
