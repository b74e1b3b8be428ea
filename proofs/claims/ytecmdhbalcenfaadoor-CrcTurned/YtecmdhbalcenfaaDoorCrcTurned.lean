/-
  CrcTurned answers true for all bytes, every place and every change of a byte, and nothing that was there is changed; the package-level table of half bytes starts as the program's text lays it (the card ties it).
-/
import Derived.Test.YtecmdhbalcenfaaDoorFrame
import Derived.Test.YtecmdhbalcenfaaDoorTurn
import Derived.Deep.RegionHeld3
namespace Go.Proofs.YtecmdhbalcenfaaDoor.crcTurned
open Go.ChangeShapes Go.WideShapes Go.ChangeAt Go.RowKit Go.Deep Go.ChangeMaps

theorem sl_str {w : World} {v : Value} {X : List Int} (h : Sl w v X) : ∃ a c, v = .slice a X.length c ∧ ∀ W, Below w.heap.size w W → (convert 23 9 (.slice a X.length c)).run Tryd.prog W = .ok (.string (strB X)) W := by
  obtain ⟨a, c, rfl, _⟩ := id h
  exact ⟨a, c, rfl, fun W hb => (h.kept hb).conv⟩

set_option maxHeartbeats 4000000 in
theorem walk (a : Option Addr) (len cap : Nat) (zs : List Int) (p t : Int) (w : World) (hw : Tab w) (hb : Bytes w a len cap zs) (wp : (Lit.int .u16 p).wf = true) (wt : (Lit.int .u8 t).wf = true) :
    Calls Tryd.prog 6 #[.slice a len cap, .int .u16 p, .int .u8 t] w fun e w' => e = .returned (.bool true) ∧ Below w.heap.size w w' := by
  have hp := hw.pos
  have hpb := bounds_u16 wp
  have htb := bounds_u8 wt
  have hm : len ≤ 140737488351232 ∧ len ≤ cap ∧ zs.length = cap ∧ cap ≤ 140737488351232 := ⟨by have := hb.2.2; omega, hb.2.2.1, hb.2.1, hb.2.2.2.1⟩
  obtain ⟨hm1, hm2, hm3, hm4⟩ := hm
  clear wp wt
  by_cases hl : 4000 < len
  · clear hb
    go_enter Tryd.func6, Tryd.ntmps6
    go_wp2_with (go_at_call 8; refine (awake_any _ hw).mono ?_; rintro e w' ⟨rfl, hbel⟩)
    go_ret
    exact ⟨rfl, by assumption⟩
  · have hs := hb.sl
    have hlx : (zs.take len).length = len := by rw [List.length_take]; omega
    generalize zs.take len = xs at *
    have c1 := seal_any _ xs w hw hs (by omega)
    have HBY : Hid (Reg.Byt xs) := byt_getD hs.bytes
    have HSB : Hid (∀ i, 0 ≤ (xs ++ leB (sumOf xs)).getD i 0 ∧ (xs ++ leB (sumOf xs)).getD i 0 < 256) := seal_bytes hs.bytes
    have HW : Hid (∀ W, Below w.heap.size w W → Tab W) := fun W h => hw.below h hp
    have HK : Hid (∀ W, Below w.heap.size w W → (convert 23 9 (.slice a len cap)).run Tryd.prog W = .ok (.string (strB xs)) W) := fun W h => (hs.kept h).conv
    have hlY : (xs ++ leB (sumOf xs)).length = len + 4 := by rw [List.length_append, leB_len, hlx]
    rw [hlY] at c1
    obtain ⟨o1, o2⟩ := open_seal xs
    have HT : Hid (∀ m, m < len + 4 → ∀ z : Int, (0 ≤ z ∧ z < 256) → z ≠ (xs ++ leB (sumOf xs)).getD m 0 → opE ((xs ++ leB (sumOf xs)).set m z) = 14 ∧ opX ((xs ++ leB (sumOf xs)).set m z) = []) := fun m hm z hz hne => open_turned HBY.out m (by rw [hlx]; exact hm) z hz hne
    generalize xs ++ leB (sumOf xs) = Y at *
    have HLY : Hid (Y.length = len + 4) := hlY
    have HLX : Hid (xs.length = len) := hlx
    clear hs hb hw hm3 HBY hlY hlx
    go_enter Tryd.func6, Tryd.ntmps6
    go_wp2_with fail
    refine c1.mono ?_
    rintro e w1 ⟨v1, rfl, own1, bel1⟩
    clear c1
    have sl1 := sl_owned own1 HSB.out
    have c2 := open_any v1 Y w1 (HW.out _ bel1) sl1 (by rw [HLY.out]; omega)
    rw [o1, o2] at c2
    obtain ⟨g, cp, cur, rfl, hg, _⟩ : ∃ g cap cur, v1 = .slice (some ⟨g, 0, none⟩) (len + 4) cap ∧ w.heap.size ≤ g ∧ w1.heap[g]? = some (.cells cur 5 (0, 0)) := by
      rcases own1.2 with ⟨_, h0⟩ | ⟨g, cap, cur, hv, hg, hh, _⟩
      · omega
      · exact ⟨g, cap, cur, hv, hg, hh⟩
    clear sl1 o1 o2
    have HO1 : Hid (w1.ownsRow w.heap.size 5 1 (.slice (some ⟨g, 0, none⟩) (len + 4) cp) (len + 4) (Y.map (Value.int .u8))) := own1
    clear own1
    go_wp2_with fail
    refine c2.mono ?_
    rintro e w2 ⟨v2, rfl, sl2, bel2⟩
    clear c2
    have HO2 : Hid (w2.ownsRow w.heap.size 5 1 (.slice (some ⟨g, 0, none⟩) (len + 4) cp) (len + 4) (Y.map (Value.int .u8))) := own_below HO1.out bel2
    have B2 : Below w.heap.size w w2 := bel1.trans (bel2.mono bel1.size)
    obtain ⟨ax, cx, rfl, kx⟩ := sl_str sl2
    have kx2 := kx _ (Below.refl _ _)
    have kb2 := HK.out _ B2
    rw [HLX.out] at kx2
    rw [HLX.out]
    clear kx sl2 bel1 bel2 HK HO1
    generalize strB xs = SX at *
    have HB2 : Hid (Below w.heap.size w w2) := B2
    have ha2 := awake_any _ (HW.out _ B2)
    clear B2
    by_cases ht0 : t = 0
    · subst ht0
      go_wp2_with (go_at_call 8; refine ha2.mono ?_; rintro e w' ⟨rfl, hbel⟩)
      go_ret
      exact ⟨rfl, HB2.out.trans (hbel.mono HB2.out.size)⟩
    · clear ha2
      obtain ⟨m, hk⟩ : ∃ m : Nat, p % ((len : Int) + 4) = m := ⟨(p % ((len : Int) + 4)).toNat, by have := Int.emod_nonneg p (show (len : Int) + 4 ≠ 0 by omega); omega⟩
      have hml : m < len + 4 := by have := Int.emod_lt_of_pos p (show 0 < (len : Int) + 4 by omega); omega
      have htm : Int.tmod p ((len : Int) + 4) = (m : Int) := by rw [Int.tmod_eq_emod_of_nonneg hpb.1]; exact hk
      have hwm : IntKind.i64.wrap (m : Int) = m := by rw [IntKind.wrap_i64]; omega
      have hwc : IntKind.i64.wrap p = p := by rw [IntKind.wrap_i64]; omega
      have hL0 : ¬ (len : Int) + 4 = 0 := by omega
      have hby := HSB.out m
      obtain ⟨z, hz, hzb, hzn⟩ := xor8 (Y.getD m 0) t hby (by omega) ht0
      obtain ⟨e1, e2⟩ := HT.out m hml z hzb hzn
      have sl2 := sl_owned HO2.out HSB.out
      have hcell : w2.cell? ⟨g, m, none⟩ = some (.int .u8 (Y.getD m 0)) := by
        obtain ⟨a', c', e, h1, h2, h3, h4⟩ := sl2
        simp only [Value.slice.injEq] at e
        obtain ⟨rfl, _, rfl⟩ := e
        rcases h4 with h | ⟨_, b, off, e, _, _, hc, _⟩
        · rw [HLY.out] at h; omega
        · cases e
          have := hc m (by rw [HLY.out]; exact hml)
          rwa [Nat.zero_add] at this
      have hfr : w2.frozen? ⟨g, m, none⟩ = false := by
        rcases HO2.out.2 with ⟨_, h0⟩ | ⟨g', cap', cur', hv, hg', hh, _⟩
        · omega
        · cases hv
          simp [World.frozen?, hh]
      have sl3 := sl2.set m hml z hzb
      rw [Nat.zero_add] at sl3
      have B3 : Below w.heap.size w (w2.setCell ⟨g, m, none⟩ (.int .u8 z)) := HB2.out.setCell hg _
      have c4 := open_any _ _ _ (HW.out _ B3) sl3 (by rw [List.length_set, HLY.out]; omega)
      rw [e1, e2] at c4
      have HB3 : Hid (Below w.heap.size w (w2.setCell ⟨g, m, none⟩ (.int .u8 z))) := B3
      have hi1 : (m : Int) < (len : Int) + 4 := by omega
      have hi2 : (0 : Int) ≤ (m : Int) := by omega
      have hte : ((t : Int) == 0) = false := by simpa using ht0
      clear e1 e2 hby hzb hzn sl2 sl3 HO2 HT HB2 B3 hk
      generalize Y.getD m 0 = x at *
      generalize Y.set m z = Y' at *
      go_wp2_with fail
      refine c4.mono ?_
      rintro e w4 ⟨v4, rfl, sl4, bel4⟩
      clear c4
      obtain ⟨ay, cy, rfl, _⟩ := sl4
      have B4 : Below w.heap.size w w4 := HB3.out.trans (bel4.mono HB3.out.size)
      have ca := awake_any _ (HW.out _ B4)
      have hl0 : ([] : List Int).length = 0 := rfl
      rw [hl0]
      clear bel4 HB3 hcell hfr
      go_wp2_with (go_at_call 8; refine ca.mono ?_; rintro e w5 ⟨rfl, hbel⟩)
      go_ret
      exact ⟨rfl, B4.trans (hbel.mono B4.size)⟩

theorem contract (H : Type) (enc : TypeId × Value → H) (W : World) (base : Nat) (args : Array Value) (ds gs : List (DataW H)) (before : List MemPlace)
    (hval : ∀ (j : Nat) t v, Tryd.f6.params[j]? = some t → args[j]? = some v → Value.okWide Tryd.prog W .any base t v)
    (hW : DataW.Whole enc Tryd.prog Tryd.f6.params.toList Rows.crcTurnedSpec.vars false W args.toList ds gs before) (hL : laidMetH Tryd.prog Rows.crcTurnedRow.laid W)
    (hsz0 : (DataW.weightsEach Tryd.prog (Tryd.f6.params.toList ++ Rows.crcTurnedSpec.plain.varTypes Tryd.prog) (ds ++ gs)).all (· ≤ reachBytes) = true) :
    Calls Tryd.prog 6 args W fun e W' => ∃ v, e = .returned v ∧ Rows.crcTurnedSpec.post enc Tryd.prog Tryd.f6 false true false false W args v W' := by
  have hW' := hW
  obtain ⟨p, q, hA0, hV, rfl, hfz, hnd⟩ := hW
  have hA : DataW.TrodAll enc Tryd.prog W 0 (fun _ => true) true Tryd.f6.params.toList args.toList ds p := hA0
  rw [Tryd.params6] at hA hval hsz0
  obtain ⟨v0, vs0, d0, ds0, p0, q0, hargs, rfl, rfl, h0, r0⟩ := trodAll_cons hA
  obtain ⟨v1, vs1, d1, ds1, p1, q1, rfl, rfl, rfl, h1, r1⟩ := trodAll_cons r0
  obtain ⟨v2, vs2, d2, ds2, p2, q2, rfl, rfl, rfl, h2, r2⟩ := trodAll_cons r1
  obtain ⟨rfl, rfl, rfl⟩ := trodAll_nil r2
  obtain rfl : args = #[v0, v1, v2] := by cases args; simp_all
  obtain ⟨rfl, rfl⟩ := trodVars_none hV
  have hsz : (DataW.weightsEach Tryd.prog [23, 36, 5] [d0, d1, d2]).all (· ≤ reachBytes) = true := hsz0
  have k0 := h0
  have lt0 : ∀ x ∈ p0, x.block < W.heap.size := by obtain ⟨m, hm⟩ := k0; exact DataW.trod_lt m _ _ _ hm
  obtain ⟨a0, len0, cap0, z0, rfl, w0⟩ := bytes_open 0 (hval 0 23 v0 rfl rfl) h0 hsz rfl rfl
  obtain ⟨a1, rfl, rfl, rfl, w1⟩ := open_int Tryd.underlying36 (hval 1 36 v1 rfl rfl) h1
  obtain ⟨a2, rfl, rfl, rfl, w2⟩ := open_int Tryd.underlying5 (hval 2 5 v2 rfl rfl) h2
  clear hA0
  refine (walk a0 len0 cap0 z0 a1 a2 W (tab_of hL) w0 w1 w2).mono fun e W' ⟨he, bel⟩ => ?_
  subst he
  exact ⟨_, rfl, _, _, _, [], _, [], hW', trodAll_mk1 (shut_bool Tryd.underlying4 _), (trodAll_cons_mk (Below.trod laidOut (by kernel_rfl) (of_decide_eq_true (by kernel_rfl)) k0 bel lt0) (trodAll_cons_mk (shut_int Tryd.underlying36 w1) (trodAll_cons_mk (shut_int Tryd.underlying5 w2) trodAll_mk0))), rfl, bel.frame _, fun h => by cases h⟩

theorem laid_met (os : Os) : laidMet Tryd.prog Rows.crcTurnedRow.laid (({ World.holding Tryd.prog os ⟨#[], #[], []⟩ with heap := (World.holding Tryd.prog os ⟨#[], #[], []⟩).heap.modify 0 fun
      | .cells _ t frozen => .cells #[.int .u32 0, .int .u32 498536548, .int .u32 997073096, .int .u32 651767980, .int .u32 1994146192, .int .u32 1802195444, .int .u32 1303535960, .int .u32 1342533948, .int .u32 3988292384, .int .u32 4027552580, .int .u32 3604390888, .int .u32 3412177804, .int .u32 2607071920, .int .u32 2262029012, .int .u32 2685067896, .int .u32 3183342108] t frozen
      | o => o } : World).forCall (fun _ _ => 0) ⟨#[], #[.slice none 0 0, .int .u16 0, .int .u8 0], []⟩).memory :=
  laidMet_of_run' 8 (by kernel_rfl) (by kernel_rfl)
theorem reads (os : Os) {H : Type} (enc : TypeId × Value → H) : ∃ places, DataW.whole enc Tryd.prog (({ World.holding Tryd.prog os ⟨#[], #[], []⟩ with heap := (World.holding Tryd.prog os ⟨#[], #[], []⟩).heap.modify 0 fun
      | .cells _ t frozen => .cells #[.int .u32 0, .int .u32 498536548, .int .u32 997073096, .int .u32 651767980, .int .u32 1994146192, .int .u32 1802195444, .int .u32 1303535960, .int .u32 1342533948, .int .u32 3988292384, .int .u32 4027552580, .int .u32 3604390888, .int .u32 3412177804, .int .u32 2607071920, .int .u32 2262029012, .int .u32 2685067896, .int .u32 3183342108] t frozen
      | o => o } : World).forCall (fun _ _ => 0) ⟨#[], #[.slice none 0 0, .int .u16 0, .int .u8 0], []⟩).memory Tryd.f6.params.toList Rows.crcTurnedSpec.vars false #[Value.slice none 0 0, .int .u16 0, .int .u8 0].toList 8 = some ([.nil, .lit (.int .u16 0), .lit (.int .u8 0)], [], places) :=
  ⟨[], by kernel_rfl⟩

set_option maxRecDepth 100000 in
theorem lifted (os : Os) (started : os.Started) (H : Type) (enc : TypeId × Value → H) (F : Stop.Interp) :
    ReturnsInHanded {} Tryd.checked os 6 .any ((OpenSpec.ofChange Rows.crcTurnedSpec).preRow enc Tryd.prog Tryd.f6 Rows.crcTurnedRow.domain false Rows.crcTurnedRow.laid) (((OpenSpec.ofChange Rows.crcTurnedSpec).at F).post enc Tryd.prog Tryd.f6 false true false false) := by
  obtain ⟨places, hx⟩ := reads os enc
  refine returnsInHanded_of_row (C := Tryd.checked) (s := OpenSpec.ofChange Rows.crcTurnedSpec) own started (by kernel_rfl) Tryd.func6
    (witness_row_at (enc := enc) (C := Tryd.checked) false ({ World.holding Tryd.prog os ⟨#[], #[], []⟩ with heap := (World.holding Tryd.prog os ⟨#[], #[], []⟩).heap.modify 0 fun
      | .cells _ t frozen => .cells #[.int .u32 0, .int .u32 498536548, .int .u32 997073096, .int .u32 651767980, .int .u32 1994146192, .int .u32 1802195444, .int .u32 1303535960, .int .u32 1342533948, .int .u32 3988292384, .int .u32 4027552580, .int .u32 3604390888, .int .u32 3412177804, .int .u32 2607071920, .int .u32 2262029012, .int .u32 2685067896, .int .u32 3183342108] t frozen
      | o => o } : World) #[.slice none 0 0, .int .u16 0, .int .u8 0] rfl (by kernel_rfl) (by kernel_rfl) (by kernel_rfl)
      (OpenSpec.preRow_of_cond 8 hx (by kernel_rfl) (fun k hk => by cases hk) (by kernel_rfl) (laid_met os))) ?_
  intro W base args ds gs before hval hW _ _ hsz hL _ _
  exact contract H enc W base args ds gs before hval hW hL hsz

theorem said : Rows.CrcTurnedSaid :=
  OpenClaim.holds_of_cond 6 Tryd.f6 rfl rfl rfl rfl rfl rfl rfl ⟨rfl, rfl, rfl, rfl, rfl⟩ rfl rfl rfl rfl rfl (by kernel_rfl) Tryd.func6 (by kernel_rfl)
    (of_decide_eq_true (by kernel_rfl)) (by unfold Func.isWrapper; first | (rw [if_pos (by decide +kernel)]; kernel_rfl) | (rw [if_neg (by decide +kernel)]; exact ⟨rfl, rfl⟩))
    (fun os started H enc _ F => by rw [OpenClaim.pre_eq_preRow]; exact lifted os started H enc F)

theorem plain (f : FuncId) (fn : Func) (hf : Tryd.pinned.checked.prog.funcNamed "sumpter/sumpterlaw03.CrcTurned" = some f) (hfn : Tryd.pinned.checked.prog.funcs[f]? = some fn) :
    false = Tryd.pinned.checked.prog.looks [] ∧ ∀ (j : Nat) t, fn.params[j]? = some t → Tryd.pinned.checked.prog.wantsStandIn t = false := by
  obtain rfl : f = 6 := Option.some.inj ((show Tryd.prog.funcNamed "sumpter/sumpterlaw03.CrcTurned" = some 6 by kernel_rfl).symm.trans hf) |>.symm
  obtain rfl : fn = Tryd.f6 := (Option.some.inj (Tryd.func6.symm.trans hfn)).symm
  refine ⟨by kernel_rfl, fun j t ht => ?_⟩
  rw [Tryd.params6] at ht
  have hm : t ∈ [23, 36, 5] := by simpa using Array.mem_of_getElem? ht
  have hall : ([23, 36, 5].all fun u => !Tryd.prog.wantsStandIn u) = true := by kernel_rfl
  exact (show Tryd.prog.wantsStandIn t = false by simpa using List.all_eq_true.1 hall t hm)
end Go.Proofs.YtecmdhbalcenfaaDoor.crcTurned

namespace Go.Proofs.YtecmdhbalcenfaaDoor
/-- The card of CrcTurned. -/
theorem crcTurned_card : Rows.CrcTurnedCardSaid :=
  Claim7.holds_tied_plain_at .later [] _ _ _ _ crcTurned.said (fun _ h => by cases h) (by kernel_rfl) (fun _ h => by cases h) crcTurned_row_tie rfl ⟨rfl, rfl⟩ (by kernel_rfl) rfl crcTurned.plain (by kernel_rfl)
#print axioms crcTurned_card
end Go.Proofs.YtecmdhbalcenfaaDoor
