/-
  CrcOpens answers true for all bytes, and nothing that was there is changed; the package-level table of half bytes starts as the program's text lays it (the card ties it).
-/
import Derived.Test.YtecmdhbalcenfaaDoorFrame
import Derived.Test.YtecmdhbalcenfaaDoorROpen
import Derived.Deep.RegionHeld3
namespace Go.Proofs.YtecmdhbalcenfaaDoor.crcOpens
open Go.ChangeShapes Go.WideShapes Go.ChangeAt Go.RowKit Go.Deep Go.ChangeMaps

/-- A value that stays the string S, told as a slice of L bytes. -/
theorem sl_str {w : World} {v : Value} {X : List Int} (h : Sl w v X) : ∃ a c, v = .slice a X.length c ∧ ∀ W, Below w.heap.size w W → (convert 23 9 (.slice a X.length c)).run Tryd.prog W = .ok (.string (strB X)) W := by
  obtain ⟨a, c, rfl, _⟩ := id h
  exact ⟨a, c, rfl, fun W hb => (h.kept hb).conv⟩

theorem seal_str (v : Value) (xs : List Int) (w : World) (hw : Tab w) (sl : Sl w v xs) (hbig : xs.length ≤ 100000000000000) :
    Calls Tryd.prog 17 #[v] w fun r w' => ∃ a c, r = .returned (.slice a (xs ++ leB (sumOf xs)).length c) ∧ (∀ W, Below w'.heap.size w' W → (convert 23 9 (.slice a (xs ++ leB (sumOf xs)).length c)).run Tryd.prog W = .ok (.string (strB (xs ++ leB (sumOf xs)))) W) ∧ Below w.heap.size w w' := by
  refine (seal_any v xs w hw sl hbig).mono ?_
  rintro e w' ⟨v', rfl, own, bel⟩
  obtain ⟨a, c, rfl, h⟩ := sl_str (sl_owned own (seal_bytes sl.bytes))
  exact ⟨a, c, rfl, h, bel⟩
theorem rseal_str (v : Value) (xs : List Int) (w : World) (sl : Sl w v xs) (hbig : xs.length ≤ 100000000000000) :
    Calls Tryd.prog 18 #[v] w fun r w' => ∃ a c, r = .returned (.slice a (xs ++ leB (sumOf xs)).length c) ∧ (∀ W, Below w'.heap.size w' W → (convert 23 9 (.slice a (xs ++ leB (sumOf xs)).length c)).run Tryd.prog W = .ok (.string (strB (xs ++ leB (sumOf xs)))) W) ∧ Below w.heap.size w w' := by
  refine (rseal_any v xs w sl hbig).mono ?_
  rintro e w' ⟨v', rfl, sl', bel⟩
  obtain ⟨a, c, rfl, h⟩ := sl_str sl'
  exact ⟨a, c, rfl, h, bel⟩

set_option maxHeartbeats 20000000 in
theorem walk (a : Option Addr) (len cap : Nat) (zs : List Int) (w : World) (hw : Tab w) (hb : Bytes w a len cap zs) :
    Calls Tryd.prog 4 #[.slice a len cap] w fun e w' => e = .returned (.bool true) ∧ Below w.heap.size w w' := by
  have hp := hw.pos
  have hm : len ≤ 140737488351232 ∧ len ≤ cap ∧ zs.length = cap ∧ cap ≤ 140737488351232 := ⟨by have := hb.2.2; omega, hb.2.2.1, hb.2.1, hb.2.2.2.1⟩
  obtain ⟨hm1, hm2, hm3, hm4⟩ := hm
  by_cases hl : 4000 < len
  · clear hb
    go_enter Tryd.func4, Tryd.ntmps4
    go_wp2_with (go_at_call 8; refine (awake_any _ hw).mono ?_; rintro e w' ⟨rfl, hbel⟩)
    go_ret
    exact ⟨rfl, by assumption⟩
  · have hs := hb.sl
    have hlx : (zs.take len).length ≤ 100000000000000 := by rw [List.length_take]; omega
    generalize zs.take len = xs at *
    have c1 := open_any _ xs w hw hs hlx
    have HS : Hid (∀ W, Below w.heap.size w W → Sl W (.slice a len cap) xs) := fun W h => hs.kept h
    have HW : Hid (∀ W, Below w.heap.size w W → Tab W) := fun W h => hw.below h hp
    clear hs hb hw hp hm3
    go_enter Tryd.func4, Tryd.ntmps4
    go_wp2_with fail
    refine c1.mono ?_
    rintro e w1 ⟨v1, rfl, sl1, bel1⟩
    clear c1
    have c2 := ropen_any _ xs w1 (HS.out _ bel1) hlx
    obtain ⟨ax, cx, rfl, kx⟩ := sl_str sl1
    have KX : Hid (∀ W, Below w1.heap.size w1 W → (convert 23 9 (.slice ax (opX xs).length cx)).run Tryd.prog W = .ok (.string (strB (opX xs))) W) := kx
    clear kx sl1
    go_wp2_with fail
    refine c2.mono ?_
    rintro e w2 ⟨v2, rfl, sl2, bel2⟩
    clear c2
    obtain ⟨ay, cy, rfl, ky⟩ := sl_str sl2
    have KY : Hid (∀ W, Below w2.heap.size w2 W → (convert 23 9 (.slice ay (opX xs).length cy)).run Tryd.prog W = .ok (.string (strB (opX xs))) W) := ky
    have KX : Hid (∀ W, Below w2.heap.size w2 W → (convert 23 9 (.slice ax (opX xs).length cx)).run Tryd.prog W = .ok (.string (strB (opX xs))) W) := fun W h => KX.out W (bel2.trans (h.mono bel2.size))
    have B2 : Hid (Below w.heap.size w w2) := bel1.trans (bel2.mono bel1.size)
    have HW : Hid (∀ W, Below w2.heap.size w2 W → Tab W) := fun W h => HW.out W (B2.out.trans (h.mono B2.out.size))
    have HS : Hid (∀ W, Below w2.heap.size w2 W → Sl W (.slice a len cap) xs) := fun W h => HS.out W (B2.out.trans (h.mono B2.out.size))
    have B0 : Hid (Below w2.heap.size w2 w2.drew) := (Below.refl _ w2).drew
    have S17 : Hid (∀ W, Below w2.heap.size w2 W → _) := fun W h => seal_str _ xs W (HW.out W h) (HS.out W h) hlx
    have S18 : Hid (∀ W, Below w2.heap.size w2 W → _) := fun W h => rseal_str _ xs W (HS.out W h) hlx
    clear ky sl2 bel1 bel2 HS hlx
    generalize strB (opX xs) = SX at *
    generalize (opX xs).length = LX at *
    generalize opE xs = E at *
    generalize strB (xs ++ leB (sumOf xs)) = SS at *
    generalize (xs ++ leB (sumOf xs)).length = LS at *
    go_wp2
    go_region_with (first
      | (go_at_call 17; refine (S17.out _ (by first | exact B0.out | exact B7)).mono ?_; rintro e w6 ⟨a6, c6, rfl, cv6, bel6⟩; have B6 : Below w2.heap.size w2 w6 := (by first | exact B0.out.trans (bel6.mono B0.out.size) | exact B7.trans (bel6.mono B7.size)); have k6 := cv6 _ (Below.refl _ _); try (have k67 := cv7 _ bel6); have kx6 := KX.out _ B6; have ky6 := KY.out _ B6)
      | (go_at_call 18; refine (S18.out _ (by first | exact B0.out | exact B6)).mono ?_; rintro e w7 ⟨a7, c7, rfl, cv7, bel7⟩; have B7 : Below w2.heap.size w2 w7 := (by first | exact B0.out.trans (bel7.mono B0.out.size) | exact B6.trans (bel7.mono B6.size)); have k7 := cv7 _ (Below.refl _ _); try (have k76 := cv6 _ bel7); have kx7 := KX.out _ B7; have ky7 := KY.out _ B7)
      | (go_at_call 8; refine (awake_any _ (HW.out _ (by first | exact B6 | exact B7))).mono ?_; rintro e w8 ⟨rfl, bel8⟩; have B8 : Below w.heap.size w w8 := (by first | exact (B2.out.trans (B6.mono B2.out.size)).trans (bel8.mono (B2.out.trans (B6.mono B2.out.size)).size) | exact (B2.out.trans (B7.mono B2.out.size)).trans (bel8.mono (B2.out.trans (B7.mono B2.out.size)).size))))
    all_goals
      go_wp2
      go_ret
      exact ⟨rfl, B8⟩

theorem contract (H : Type) (enc : TypeId × Value → H) (W : World) (base : Nat) (args : Array Value) (ds gs : List (DataW H)) (before : List MemPlace)
    (hval : ∀ (j : Nat) t v, Tryd.f4.params[j]? = some t → args[j]? = some v → Value.okWide Tryd.prog W .any base t v)
    (hW : DataW.Whole enc Tryd.prog Tryd.f4.params.toList Rows.crcOpensSpec.vars false W args.toList ds gs before) (hL : laidMetH Tryd.prog Rows.crcOpensRow.laid W)
    (hsz0 : (DataW.weightsEach Tryd.prog (Tryd.f4.params.toList ++ Rows.crcOpensSpec.plain.varTypes Tryd.prog) (ds ++ gs)).all (· ≤ reachBytes) = true) :
    Calls Tryd.prog 4 args W fun e W' => ∃ v, e = .returned v ∧ Rows.crcOpensSpec.post enc Tryd.prog Tryd.f4 false true false false W args v W' := by
  have hW' := hW
  obtain ⟨p, q, hA0, hV, rfl, hfz, hnd⟩ := hW
  have hA : DataW.TrodAll enc Tryd.prog W 0 (fun _ => true) true Tryd.f4.params.toList args.toList ds p := hA0
  rw [Tryd.params4] at hA hval hsz0
  obtain ⟨v0, vs0, d0, ds0, p0, q0, hargs, rfl, rfl, h0, r0⟩ := trodAll_cons hA
  obtain ⟨rfl, rfl, rfl⟩ := trodAll_nil r0
  obtain rfl : args = #[v0] := by cases args; simp_all
  obtain ⟨rfl, rfl⟩ := trodVars_none hV
  have hsz : (DataW.weightsEach Tryd.prog [23] [d0]).all (· ≤ reachBytes) = true := hsz0
  have k0 := h0
  have lt0 : ∀ x ∈ p0, x.block < W.heap.size := by obtain ⟨m, hm⟩ := k0; exact DataW.trod_lt m _ _ _ hm
  obtain ⟨a0, len0, cap0, z0, rfl, w0⟩ := bytes_open 0 (hval 0 23 v0 rfl rfl) h0 hsz rfl rfl
  clear hA0
  refine (walk a0 len0 cap0 z0 W (tab_of hL) w0).mono fun e W' ⟨he, bel⟩ => ?_
  subst he
  exact ⟨_, rfl, _, _, _, [], _, [], hW', trodAll_mk1 (shut_bool Tryd.underlying4 _), (trodAll_cons_mk (Below.trod laidOut (by kernel_rfl) (of_decide_eq_true (by kernel_rfl)) k0 bel lt0) trodAll_mk0), rfl, bel.frame _, fun h => by cases h⟩

theorem laid_met (os : Os) : laidMet Tryd.prog Rows.crcOpensRow.laid (({ World.holding Tryd.prog os ⟨#[], #[], []⟩ with heap := (World.holding Tryd.prog os ⟨#[], #[], []⟩).heap.modify 0 fun
      | .cells _ t frozen => .cells #[.int .u32 0, .int .u32 498536548, .int .u32 997073096, .int .u32 651767980, .int .u32 1994146192, .int .u32 1802195444, .int .u32 1303535960, .int .u32 1342533948, .int .u32 3988292384, .int .u32 4027552580, .int .u32 3604390888, .int .u32 3412177804, .int .u32 2607071920, .int .u32 2262029012, .int .u32 2685067896, .int .u32 3183342108] t frozen
      | o => o } : World).forCall (fun _ _ => 0) ⟨#[], #[.slice none 0 0], []⟩).memory :=
  laidMet_of_run' 8 (by kernel_rfl) (by kernel_rfl)
theorem reads (os : Os) {H : Type} (enc : TypeId × Value → H) : ∃ places, DataW.whole enc Tryd.prog (({ World.holding Tryd.prog os ⟨#[], #[], []⟩ with heap := (World.holding Tryd.prog os ⟨#[], #[], []⟩).heap.modify 0 fun
      | .cells _ t frozen => .cells #[.int .u32 0, .int .u32 498536548, .int .u32 997073096, .int .u32 651767980, .int .u32 1994146192, .int .u32 1802195444, .int .u32 1303535960, .int .u32 1342533948, .int .u32 3988292384, .int .u32 4027552580, .int .u32 3604390888, .int .u32 3412177804, .int .u32 2607071920, .int .u32 2262029012, .int .u32 2685067896, .int .u32 3183342108] t frozen
      | o => o } : World).forCall (fun _ _ => 0) ⟨#[], #[.slice none 0 0], []⟩).memory Tryd.f4.params.toList Rows.crcOpensSpec.vars false #[Value.slice none 0 0].toList 8 = some ([.nil], [], places) :=
  ⟨[], by kernel_rfl⟩

set_option maxRecDepth 100000 in
theorem lifted (os : Os) (started : os.Started) (H : Type) (enc : TypeId × Value → H) (F : Stop.Interp) :
    ReturnsInHanded {} Tryd.checked os 4 .any ((OpenSpec.ofChange Rows.crcOpensSpec).preRow enc Tryd.prog Tryd.f4 Rows.crcOpensRow.domain false Rows.crcOpensRow.laid) (((OpenSpec.ofChange Rows.crcOpensSpec).at F).post enc Tryd.prog Tryd.f4 false true false false) := by
  obtain ⟨places, hx⟩ := reads os enc
  refine returnsInHanded_of_row (C := Tryd.checked) (s := OpenSpec.ofChange Rows.crcOpensSpec) own started (by kernel_rfl) Tryd.func4
    (witness_row_at (enc := enc) (C := Tryd.checked) false ({ World.holding Tryd.prog os ⟨#[], #[], []⟩ with heap := (World.holding Tryd.prog os ⟨#[], #[], []⟩).heap.modify 0 fun
      | .cells _ t frozen => .cells #[.int .u32 0, .int .u32 498536548, .int .u32 997073096, .int .u32 651767980, .int .u32 1994146192, .int .u32 1802195444, .int .u32 1303535960, .int .u32 1342533948, .int .u32 3988292384, .int .u32 4027552580, .int .u32 3604390888, .int .u32 3412177804, .int .u32 2607071920, .int .u32 2262029012, .int .u32 2685067896, .int .u32 3183342108] t frozen
      | o => o } : World) #[.slice none 0 0] rfl (by kernel_rfl) (by kernel_rfl) (by kernel_rfl)
      (OpenSpec.preRow_of_cond 8 hx (by kernel_rfl) (fun k hk => by cases hk) (by kernel_rfl) (laid_met os))) ?_
  intro W base args ds gs before hval hW _ _ hsz hL _ _
  exact contract H enc W base args ds gs before hval hW hL hsz

theorem said : Rows.CrcOpensSaid :=
  OpenClaim.holds_of_cond 4 Tryd.f4 rfl rfl rfl rfl rfl rfl rfl ⟨rfl, rfl, rfl, rfl, rfl⟩ rfl rfl rfl rfl rfl (by kernel_rfl) Tryd.func4 (by kernel_rfl)
    (of_decide_eq_true (by kernel_rfl)) (by unfold Func.isWrapper; first | (rw [if_pos (by decide +kernel)]; kernel_rfl) | (rw [if_neg (by decide +kernel)]; exact ⟨rfl, rfl⟩))
    (fun os started H enc _ F => by rw [OpenClaim.pre_eq_preRow]; exact lifted os started H enc F)

theorem plain (f : FuncId) (fn : Func) (hf : Tryd.pinned.checked.prog.funcNamed "sumpter/sumpterlaw03.CrcOpens" = some f) (hfn : Tryd.pinned.checked.prog.funcs[f]? = some fn) :
    false = Tryd.pinned.checked.prog.looks [] ∧ ∀ (j : Nat) t, fn.params[j]? = some t → Tryd.pinned.checked.prog.wantsStandIn t = false := by
  obtain rfl : f = 4 := Option.some.inj ((show Tryd.prog.funcNamed "sumpter/sumpterlaw03.CrcOpens" = some 4 by kernel_rfl).symm.trans hf) |>.symm
  obtain rfl : fn = Tryd.f4 := (Option.some.inj (Tryd.func4.symm.trans hfn)).symm
  refine ⟨by kernel_rfl, fun j t ht => ?_⟩
  rw [Tryd.params4] at ht
  have hm : t ∈ [23] := by simpa using Array.mem_of_getElem? ht
  have hall : ([23].all fun u => !Tryd.prog.wantsStandIn u) = true := by kernel_rfl
  exact (show Tryd.prog.wantsStandIn t = false by simpa using List.all_eq_true.1 hall t hm)
end Go.Proofs.YtecmdhbalcenfaaDoor.crcOpens

namespace Go.Proofs.YtecmdhbalcenfaaDoor
/-- The card of CrcOpens. -/
theorem crcOpens_card : Rows.CrcOpensCardSaid :=
  Claim7.holds_tied_plain_at .later [] _ _ _ _ crcOpens.said (fun _ h => by cases h) (by kernel_rfl) (fun _ h => by cases h) crcOpens_row_tie rfl ⟨rfl, rfl⟩ (by kernel_rfl) rfl crcOpens.plain (by kernel_rfl)
#print axioms crcOpens_card
end Go.Proofs.YtecmdhbalcenfaaDoor
