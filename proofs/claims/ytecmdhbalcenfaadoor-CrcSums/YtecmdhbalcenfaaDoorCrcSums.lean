/-
  CrcSums answers true for every sum and all bytes, and nothing that was there is changed; the package-level table of half bytes starts as the program's text lays it (the card ties it).
-/
import Derived.Test.YtecmdhbalcenfaaDoorFrame
import Derived.Test.YtecmdhbalcenfaaDoorROpen
import Derived.Deep.RegionHeld3
namespace Go.Proofs.YtecmdhbalcenfaaDoor.crcSums
open Go.ChangeShapes Go.WideShapes Go.ChangeAt Go.RowKit Go.Deep Go.ChangeMaps

theorem sl_str {w : World} {v : Value} {X : List Int} (h : Sl w v X) : ∃ a c, v = .slice a X.length c ∧ ∀ W, Below w.heap.size w W → (convert 23 9 (.slice a X.length c)).run Tryd.prog W = .ok (.string (strB X)) W := by
  obtain ⟨a, c, rfl, _⟩ := id h
  exact ⟨a, c, rfl, fun W hb => (h.kept hb).conv⟩

/-- The bytes of a sum, told as a string. -/
theorem bytes_str (c : Nat) (w : World) :
    Calls Tryd.prog 13 #[.int .u32 c] w fun r w' => ∃ a k, r = .returned (.slice a 4 k) ∧ (∀ W, Below w'.heap.size w' W → (convert 23 9 (.slice a 4 k)).run Tryd.prog W = .ok (.string (strB (leB c))) W) ∧ Below w.heap.size w w' := by
  refine (bytes_any c w).mono ?_
  rintro e w' ⟨v', rfl, sl, bel⟩
  obtain ⟨a, k, rfl, h⟩ := sl_str sl
  exact ⟨a, k, rfl, h, bel⟩
theorem rbytes_str (c : Nat) (w : World) :
    Calls Tryd.prog 14 #[.int .u32 c] w fun r w' => ∃ a k, r = .returned (.slice a 4 k) ∧ (∀ W, Below w'.heap.size w' W → (convert 23 9 (.slice a 4 k)).run Tryd.prog W = .ok (.string (strB (leB c))) W) ∧ Below w.heap.size w w' := by
  refine (rbytes_any c w).mono ?_
  rintro e w' ⟨v', rfl, sl, bel⟩
  obtain ⟨a, k, rfl, h⟩ := sl_str sl
  exact ⟨a, k, rfl, h, bel⟩

set_option maxHeartbeats 40000000 in
theorem walk (c0 : Int) (a : Option Addr) (len cap : Nat) (zs : List Int) (w : World) (hw : Tab w) (wc : (Lit.int .u32 c0).wf = true) (hb : Bytes w a len cap zs) :
    Calls Tryd.prog 3 #[.int .u32 c0, .slice a len cap] w fun e w' => e = .returned (.bool true) ∧ Below w.heap.size w w' := by
  have hp := hw.pos
  have hcb := bounds_u32 wc
  have hm : len ≤ 140737488351232 ∧ len ≤ cap ∧ zs.length = cap ∧ cap ≤ 140737488351232 := ⟨by have := hb.2.2; omega, hb.2.2.1, hb.2.1, hb.2.2.2.1⟩
  obtain ⟨hm1, hm2, hm3, hm4⟩ := hm
  clear wc
  obtain ⟨c, rfl⟩ := Int.eq_ofNat_of_zero_le hcb.1
  have hc : c < 4294967296 := by omega
  clear hcb
  by_cases hl : 4000 < len
  · clear hb
    go_enter Tryd.func3, Tryd.ntmps3
    go_wp2_with (go_at_call 8; refine (awake_any _ hw).mono ?_; rintro e w' ⟨rfl, hbel⟩)
    go_ret
    exact ⟨rfl, by assumption⟩
  · have hs := hb.sl
    have hlx : (zs.take len).length = len := by rw [List.length_take]; omega
    generalize zs.take len = xs at *
    have own0 := own_empty w
    have b0 : Below w.heap.size w (w.alloc (.cells #[] 5)) := (Below.refl _ _).alloc (Nat.le_refl _) _
    have sl0 := hs.kept b0
    have HB : Hid (∀ i, 0 ≤ xs.getD i 0 ∧ xs.getD i 0 < 256) := hs.bytes
    have HS : Hid (∀ W, Below w.heap.size w W → Sl W (.slice a len cap) xs) := fun W h => hs.kept h
    have HW : Hid (∀ W, Below w.heap.size w W → Tab W) := fun W h => hw.below h hp
    have HLX : Hid (xs.length = len) := hlx
    clear hs hb hw hp hm3
    go_enter Tryd.func3, Tryd.ntmps3
    go_wp2_with (at_builtin; refine wpList_append_sl rfl _ _ rfl w.heap.size _ _ _ rfl own0 _ xs rfl sl0 (by rw [HLX.out]; omega) (by simp) ?_)
    intro v1 w1 own1 hgrow
    have B1 : Below w.heap.size w w1 := b0.grown hgrow (by simp) (own_base own0)
    have sl1 := sl_owned own1 HB.out
    clear own0 own1 hgrow b0 sl0 hlx
    have BD : Below w1.heap.size w1 w1.drew := (Below.refl _ w1).drew
    have B0 : Hid (Below w.heap.size w w1.drew) := B1.drew
    have c9 := of_any _ xs w1.drew (HW.out _ B0.out) (sl1.kept BD)
    have c10 := rof_any _ xs w1.drew (HS.out _ B0.out)
    have c11 := more_any c _ xs w1.drew (HW.out _ B0.out) hc (sl1.kept BD)
    have c12 := rmore_any c _ xs w1.drew hc (HS.out _ B0.out)
    obtain ⟨ai, ci, rfl, ki⟩ := sl_str sl1
    rw [HLX.out] at c9 c11 ki
    rw [HLX.out]
    have KI : Hid (∀ W, Below w1.heap.size w1 W → (convert 23 9 (.slice ai len ci)).run Tryd.prog W = .ok (.string (strB xs)) W) := ki
    have KB : Hid (∀ W, Below w.heap.size w W → (convert 23 9 (.slice a len cap)).run Tryd.prog W = .ok (.string (strB xs)) W) := fun W h => (HS.out W h).conv
    have ki0 := KI.out _ BD
    have kb0 := KB.out _ B0.out
    have C13 : Hid (∀ W, _) := fun W => bytes_str c W
    have C14 : Hid (∀ W, _) := fun W => rbytes_str c W
    have D0 : Hid (Below w1.heap.size w1 w1.drew) := BD
    have HB1 : Hid (Below w.heap.size w w1) := B1
    clear ki sl1 BD B1 HS HB HLX B0
    generalize Reg.inv (Reg.run (Reg.inv c) xs) = M at *
    generalize sumOf xs = Z at *
    generalize strB xs = SX at *
    generalize strB (leB c) = SC at *
    go_wp2
    go_region_held (fun w' => (convert 23 9 (.slice ai len ci)).run Tryd.prog w' = .ok (.string SX) w' ∧ (convert 23 9 (.slice a len cap)).run Tryd.prog w' = .ok (.string SX) w') (first | exact ⟨ki0, kb0⟩ | exact ⟨ki6, kb6⟩ | exact ⟨ki7, kb7⟩ | exact ⟨ki8, kb8⟩) (first
      | (go_at_call 9; refine c9.mono ?_; rintro e w4 ⟨rfl, e4⟩; subst e4)
      | (go_at_call 10; refine c10.mono ?_; rintro e w4 ⟨rfl, e4⟩; subst e4)
      | (go_at_call 11; refine c11.mono ?_; rintro e w4 ⟨rfl, e4⟩; subst e4)
      | (go_at_call 12; refine c12.mono ?_; rintro e w4 ⟨rfl, e4⟩; subst e4)
      | (go_at_call 13; refine (C13.out _).mono ?_; rintro e w6 ⟨a6, c6, rfl, cv6, bel6⟩; have D6 : Below w1.heap.size w1 w6 := D0.out.trans (bel6.mono D0.out.size); have k6 := cv6 _ (Below.refl _ _); have ki6 := KI.out _ D6; have kb6 := KB.out _ (HB1.out.trans (D6.mono HB1.out.size)))
      | (go_at_call 14; refine (C14.out _).mono ?_; rintro e w7 ⟨a7, c7, rfl, cv7, bel7⟩; have D7 : Below w1.heap.size w1 w7 := D6.trans (bel7.mono D6.size); have k7 := cv7 _ (Below.refl _ _); have k76 := cv6 _ bel7; have ki7 := KI.out _ D7; have kb7 := KB.out _ (HB1.out.trans (D7.mono HB1.out.size)))
      | (go_at_call 8; refine (awake_any _ (HW.out _ (HB1.out.trans (D7.mono HB1.out.size)))).mono ?_; rintro e w8 ⟨rfl, bel8⟩; have D8 : Below w1.heap.size w1 w8 := D7.trans (bel8.mono D7.size); have B8 := HB1.out.trans (D8.mono HB1.out.size); have ki8 := KI.out _ D8; have kb8 := KB.out _ B8))
    all_goals
      go_wp2
      go_ret
      exact ⟨rfl, B8⟩

theorem contract (H : Type) (enc : TypeId × Value → H) (W : World) (base : Nat) (args : Array Value) (ds gs : List (DataW H)) (before : List MemPlace)
    (hval : ∀ (j : Nat) t v, Tryd.f3.params[j]? = some t → args[j]? = some v → Value.okWide Tryd.prog W .any base t v)
    (hW : DataW.Whole enc Tryd.prog Tryd.f3.params.toList Rows.crcSumsSpec.vars false W args.toList ds gs before) (hL : laidMetH Tryd.prog Rows.crcSumsRow.laid W)
    (hsz0 : (DataW.weightsEach Tryd.prog (Tryd.f3.params.toList ++ Rows.crcSumsSpec.plain.varTypes Tryd.prog) (ds ++ gs)).all (· ≤ reachBytes) = true) :
    Calls Tryd.prog 3 args W fun e W' => ∃ v, e = .returned v ∧ Rows.crcSumsSpec.post enc Tryd.prog Tryd.f3 false true false false W args v W' := by
  have hW' := hW
  obtain ⟨p, q, hA0, hV, rfl, hfz, hnd⟩ := hW
  have hA : DataW.TrodAll enc Tryd.prog W 0 (fun _ => true) true Tryd.f3.params.toList args.toList ds p := hA0
  rw [Tryd.params3] at hA hval hsz0
  obtain ⟨v0, vs0, d0, ds0, p0, q0, hargs, rfl, rfl, h0, r0⟩ := trodAll_cons hA
  obtain ⟨v1, vs1, d1, ds1, p1, q1, rfl, rfl, rfl, h1, r1⟩ := trodAll_cons r0
  obtain ⟨rfl, rfl, rfl⟩ := trodAll_nil r1
  obtain rfl : args = #[v0, v1] := by cases args; simp_all
  obtain ⟨rfl, rfl⟩ := trodVars_none hV
  have hsz : (DataW.weightsEach Tryd.prog [22, 23] [d0, d1]).all (· ≤ reachBytes) = true := hsz0
  obtain ⟨a0, rfl, rfl, rfl, w0⟩ := open_int Tryd.underlying22 (hval 0 22 v0 rfl rfl) h0
  have k1 := h1
  have lt1 : ∀ x ∈ p1, x.block < W.heap.size := by obtain ⟨m, hm⟩ := k1; exact DataW.trod_lt m _ _ _ hm
  obtain ⟨a1, len1, cap1, z1, rfl, w1⟩ := bytes_open 1 (hval 1 23 v1 rfl rfl) h1 hsz rfl rfl
  clear hA0
  refine (walk a0 a1 len1 cap1 z1 W (tab_of hL) w0 w1).mono fun e W' ⟨he, bel⟩ => ?_
  subst he
  exact ⟨_, rfl, _, _, _, [], _, [], hW', trodAll_mk1 (shut_bool Tryd.underlying4 _), (trodAll_cons_mk (shut_int Tryd.underlying22 w0) (trodAll_cons_mk (Below.trod laidOut (by kernel_rfl) (of_decide_eq_true (by kernel_rfl)) k1 bel lt1) trodAll_mk0)), rfl, bel.frame _, fun h => by cases h⟩

theorem laid_met (os : Os) : laidMet Tryd.prog Rows.crcSumsRow.laid (({ World.holding Tryd.prog os ⟨#[], #[], []⟩ with heap := (World.holding Tryd.prog os ⟨#[], #[], []⟩).heap.modify 0 fun
      | .cells _ t frozen => .cells #[.int .u32 0, .int .u32 498536548, .int .u32 997073096, .int .u32 651767980, .int .u32 1994146192, .int .u32 1802195444, .int .u32 1303535960, .int .u32 1342533948, .int .u32 3988292384, .int .u32 4027552580, .int .u32 3604390888, .int .u32 3412177804, .int .u32 2607071920, .int .u32 2262029012, .int .u32 2685067896, .int .u32 3183342108] t frozen
      | o => o } : World).forCall (fun _ _ => 0) ⟨#[], #[.int .u32 0, .slice none 0 0], []⟩).memory :=
  laidMet_of_run' 8 (by kernel_rfl) (by kernel_rfl)
theorem reads (os : Os) {H : Type} (enc : TypeId × Value → H) : ∃ places, DataW.whole enc Tryd.prog (({ World.holding Tryd.prog os ⟨#[], #[], []⟩ with heap := (World.holding Tryd.prog os ⟨#[], #[], []⟩).heap.modify 0 fun
      | .cells _ t frozen => .cells #[.int .u32 0, .int .u32 498536548, .int .u32 997073096, .int .u32 651767980, .int .u32 1994146192, .int .u32 1802195444, .int .u32 1303535960, .int .u32 1342533948, .int .u32 3988292384, .int .u32 4027552580, .int .u32 3604390888, .int .u32 3412177804, .int .u32 2607071920, .int .u32 2262029012, .int .u32 2685067896, .int .u32 3183342108] t frozen
      | o => o } : World).forCall (fun _ _ => 0) ⟨#[], #[.int .u32 0, .slice none 0 0], []⟩).memory Tryd.f3.params.toList Rows.crcSumsSpec.vars false #[Value.int .u32 0, .slice none 0 0].toList 8 = some ([.lit (.int .u32 0), .nil], [], places) :=
  ⟨[], by kernel_rfl⟩

set_option maxRecDepth 100000 in
theorem lifted (os : Os) (started : os.Started) (H : Type) (enc : TypeId × Value → H) (F : Stop.Interp) :
    ReturnsInHanded {} Tryd.checked os 3 .any ((OpenSpec.ofChange Rows.crcSumsSpec).preRow enc Tryd.prog Tryd.f3 Rows.crcSumsRow.domain false Rows.crcSumsRow.laid) (((OpenSpec.ofChange Rows.crcSumsSpec).at F).post enc Tryd.prog Tryd.f3 false true false false) := by
  obtain ⟨places, hx⟩ := reads os enc
  refine returnsInHanded_of_row (C := Tryd.checked) (s := OpenSpec.ofChange Rows.crcSumsSpec) own started (by kernel_rfl) Tryd.func3
    (witness_row_at (enc := enc) (C := Tryd.checked) false ({ World.holding Tryd.prog os ⟨#[], #[], []⟩ with heap := (World.holding Tryd.prog os ⟨#[], #[], []⟩).heap.modify 0 fun
      | .cells _ t frozen => .cells #[.int .u32 0, .int .u32 498536548, .int .u32 997073096, .int .u32 651767980, .int .u32 1994146192, .int .u32 1802195444, .int .u32 1303535960, .int .u32 1342533948, .int .u32 3988292384, .int .u32 4027552580, .int .u32 3604390888, .int .u32 3412177804, .int .u32 2607071920, .int .u32 2262029012, .int .u32 2685067896, .int .u32 3183342108] t frozen
      | o => o } : World) #[.int .u32 0, .slice none 0 0] rfl (by kernel_rfl) (by kernel_rfl) (by kernel_rfl)
      (OpenSpec.preRow_of_cond 8 hx (by kernel_rfl) (fun k hk => by cases hk) (by kernel_rfl) (laid_met os))) ?_
  intro W base args ds gs before hval hW _ _ hsz hL _ _
  exact contract H enc W base args ds gs before hval hW hL hsz

theorem said : Rows.CrcSumsSaid :=
  OpenClaim.holds_of_cond 3 Tryd.f3 rfl rfl rfl rfl rfl rfl rfl ⟨rfl, rfl, rfl, rfl, rfl⟩ rfl rfl rfl rfl rfl (by kernel_rfl) Tryd.func3 (by kernel_rfl)
    (of_decide_eq_true (by kernel_rfl)) (by unfold Func.isWrapper; first | (rw [if_pos (by decide +kernel)]; kernel_rfl) | (rw [if_neg (by decide +kernel)]; exact ⟨rfl, rfl⟩))
    (fun os started H enc _ F => by rw [OpenClaim.pre_eq_preRow]; exact lifted os started H enc F)

theorem plain (f : FuncId) (fn : Func) (hf : Tryd.pinned.checked.prog.funcNamed "sumpter/sumpterlaw03.CrcSums" = some f) (hfn : Tryd.pinned.checked.prog.funcs[f]? = some fn) :
    false = Tryd.pinned.checked.prog.looks [] ∧ ∀ (j : Nat) t, fn.params[j]? = some t → Tryd.pinned.checked.prog.wantsStandIn t = false := by
  obtain rfl : f = 3 := Option.some.inj ((show Tryd.prog.funcNamed "sumpter/sumpterlaw03.CrcSums" = some 3 by kernel_rfl).symm.trans hf) |>.symm
  obtain rfl : fn = Tryd.f3 := (Option.some.inj (Tryd.func3.symm.trans hfn)).symm
  refine ⟨by kernel_rfl, fun j t ht => ?_⟩
  rw [Tryd.params3] at ht
  have hm : t ∈ [22, 23] := by simpa using Array.mem_of_getElem? ht
  have hall : ([22, 23].all fun u => !Tryd.prog.wantsStandIn u) = true := by kernel_rfl
  exact (show Tryd.prog.wantsStandIn t = false by simpa using List.all_eq_true.1 hall t hm)
end Go.Proofs.YtecmdhbalcenfaaDoor.crcSums

namespace Go.Proofs.YtecmdhbalcenfaaDoor
/-- The card of CrcSums. -/
theorem crcSums_card : Rows.CrcSumsCardSaid :=
  Claim7.holds_tied_plain_at .later [] _ _ _ _ crcSums.said (fun _ h => by cases h) (by kernel_rfl) (fun _ h => by cases h) crcSums_row_tie rfl ⟨rfl, rfl⟩ (by kernel_rfl) rfl crcSums.plain (by kernel_rfl)
#print axioms crcSums_card
end Go.Proofs.YtecmdhbalcenfaaDoor
