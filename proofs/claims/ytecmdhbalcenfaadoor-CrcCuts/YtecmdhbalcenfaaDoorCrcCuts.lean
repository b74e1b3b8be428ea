/-
  CrcCuts answers true for all bytes and every cut, and nothing that was there is changed; the package-level table of half bytes starts as the program's text lays it (the card ties it).
-/
import Derived.Test.YtecmdhbalcenfaaDoorFrame
import Derived.Deep.RegionHeld3
namespace Go.Proofs.YtecmdhbalcenfaaDoor.crcCuts
open Go.ChangeShapes Go.WideShapes Go.ChangeAt Go.RowKit Go.Deep Go.ChangeMaps

theorem more_drop (xs : List Int) (k : Nat) : Reg.inv (Reg.run (Reg.inv (sumOf (xs.take k))) (xs.drop k)) = sumOf xs := by
  unfold sumOf
  rw [Reg.inv_inv, ← Reg.run_append, List.take_append_drop]

set_option maxHeartbeats 1000000 in
theorem walk (a : Option Addr) (len cap : Nat) (zs : List Int) (c : Int) (w : World) (hw : Tab w) (hb : Bytes w a len cap zs) (wc : (Lit.int .u16 c).wf = true) :
    Calls Tryd.prog 5 #[.slice a len cap, .int .u16 c] w fun e w' => e = .returned (.bool true) ∧ Below w.heap.size w w' := by
  have hc := bounds_u16 wc
  have hp := hw.pos
  have hm : len ≤ 140737488351232 ∧ len ≤ cap ∧ zs.length = cap ∧ cap ≤ 140737488351232 := ⟨by have := hb.2.2; omega, hb.2.2.1, hb.2.1, hb.2.2.2.1⟩
  obtain ⟨hm1, hm2, hm3, hm4⟩ := hm
  clear wc
  by_cases hl : 4000 < len
  · clear hb
    go_enter Tryd.func5, Tryd.ntmps5
    go_wp2_with (go_at_call 8; refine (awake_any _ hw).mono ?_; rintro e w' ⟨rfl, hbel⟩)
    go_ret
    exact ⟨rfl, by assumption⟩
  · obtain ⟨k, hk⟩ : ∃ k : Nat, c % ((len : Int) + 1) = k := ⟨(c % ((len : Int) + 1)).toNat, by have := Int.emod_nonneg c (show (len : Int) + 1 ≠ 0 by omega); omega⟩
    have hkl : k ≤ len := by have := Int.emod_lt_of_pos c (show 0 < (len : Int) + 1 by omega); omega
    have bd : Below w.heap.size w w.drew := (Below.refl _ w).drew
    have hwd : Tab w.drew := hw.below bd hp
    have hbd := hb.below bd
    have hs := hbd.sl
    have HOF : Hid (∀ m, m ≤ len → Calls Tryd.prog 9 #[.slice a m cap] w.drew fun e w' => e = .returned (.int .u32 (sumOf ((zs.take len).take m) : Nat)) ∧ w' = w.drew) := fun m hm => of_any _ _ w.drew hwd (hs.take m hm)
    have hlt : sumOf ((zs.take len).take k) < 4294967296 := sum_lt (byt_getD (bytes_take _ k hs.bytes))
    have hmo : ∀ v, Sl w.drew v ((zs.take len).drop k) → Calls Tryd.prog 11 #[.int .u32 (sumOf ((zs.take len).take k) : Nat), v] w.drew fun e w' => e = .returned (.int .u32 (sumOf ((zs.take len).take len) : Nat)) ∧ w' = w.drew := fun v hv => by
      have := more_any (sumOf ((zs.take len).take k)) v _ w.drew hwd hlt hv
      rw [more_drop] at this
      have e : (zs.take len).take len = zs.take len := by rw [List.take_take, Nat.min_self]
      rw [e]
      exact this
    have hdr := hbd.drop k hkl
    have HA : Hid (Calls Tryd.prog 8 #[] w.drew fun r w' => r = .returned (.bool true) ∧ Below w.drew.heap.size w.drew w') := awake_any _ hwd
    have HD : Hid (Below w.heap.size w w.drew) := bd
    generalize (zs.take len).drop k = D at *
    generalize hF : (fun m => sumOf ((zs.take len).take m)) = F at *
    have HOF : Hid (∀ m, m ≤ len → Calls Tryd.prog 9 #[.slice a m cap] w.drew fun e w' => e = .returned (.int .u32 (F m : Nat)) ∧ w' = w.drew) := by rw [← hF]; exact HOF
    have hmo : ∀ v, Sl w.drew v D → Calls Tryd.prog 11 #[.int .u32 (F k : Nat), v] w.drew fun e w' => e = .returned (.int .u32 (F len : Nat)) ∧ w' = w.drew := by rw [← hF]; exact hmo
    clear hF hb hbd hs hlt hwd hw bd
    have ht : Int.tmod c ((len : Int) + 1) = (k : Int) := by rw [Int.tmod_eq_emod_of_nonneg hc.1]; exact hk
    have hwm : IntKind.i64.wrap (k : Int) = k := by rw [IntKind.wrap_i64]; omega
    have hwc : IntKind.i64.wrap c = c := by rw [IntKind.wrap_i64]; omega
    have hL0 : ¬ (len : Int) + 1 = 0 := by omega
    have hi1 : (k : Int) ≤ (cap : Int) := by omega
    have hi2 : (k : Int) ≤ (len : Int) := by omega
    have hi3 : (0 : Int) ≤ (k : Int) := by omega
    have hi4 : k ≤ cap := by omega
    rcases hdr with ⟨hck, sd⟩ | ⟨hck, b, off, rfl, sd⟩
    · subst hck
      obtain rfl : len = cap := by omega
      clear hi1 hi2 hi4
      have cm := hmo _ sd
      clear hmo sd
      go_enter Tryd.func5, Tryd.ntmps5
      go_wp2
      go_region_held3 (fun _ => True) (trivial) (first | (go_at_call 9; refine (HOF.out _ (by omega)).mono ?_; rintro e w4 ⟨rfl, e4⟩; subst e4) | (go_at_call 11; refine cm.mono ?_; rintro e w4 ⟨rfl, e4⟩; subst e4) | (go_at_call 8; refine HA.out.mono ?_; rintro e w5 ⟨rfl, hbel⟩))
      all_goals
        go_wp2
        go_ret
        exact ⟨rfl, HD.out.trans (hbel.mono HD.out.size)⟩
    · have cm := hmo _ sd
      clear hmo sd
      go_enter Tryd.func5, Tryd.ntmps5
      go_wp2
      go_region_held3 (fun _ => True) (trivial) (first | (go_at_call 9; refine (HOF.out _ (by omega)).mono ?_; rintro e w4 ⟨rfl, e4⟩; subst e4) | (go_at_call 11; refine cm.mono ?_; rintro e w4 ⟨rfl, e4⟩; subst e4) | (go_at_call 8; refine HA.out.mono ?_; rintro e w5 ⟨rfl, hbel⟩))
      all_goals
        go_wp2
        go_ret
        exact ⟨rfl, HD.out.trans (hbel.mono HD.out.size)⟩

theorem contract (H : Type) (enc : TypeId × Value → H) (W : World) (base : Nat) (args : Array Value) (ds gs : List (DataW H)) (before : List MemPlace)
    (hval : ∀ (j : Nat) t v, Tryd.f5.params[j]? = some t → args[j]? = some v → Value.okWide Tryd.prog W .any base t v)
    (hW : DataW.Whole enc Tryd.prog Tryd.f5.params.toList Rows.crcCutsSpec.vars false W args.toList ds gs before) (hL : laidMetH Tryd.prog Rows.crcCutsRow.laid W)
    (hsz0 : (DataW.weightsEach Tryd.prog (Tryd.f5.params.toList ++ Rows.crcCutsSpec.plain.varTypes Tryd.prog) (ds ++ gs)).all (· ≤ reachBytes) = true) :
    Calls Tryd.prog 5 args W fun e W' => ∃ v, e = .returned v ∧ Rows.crcCutsSpec.post enc Tryd.prog Tryd.f5 false true false false W args v W' := by
  have hW' := hW
  obtain ⟨p, q, hA0, hV, rfl, hfz, hnd⟩ := hW
  have hA : DataW.TrodAll enc Tryd.prog W 0 (fun _ => true) true Tryd.f5.params.toList args.toList ds p := hA0
  rw [Tryd.params5] at hA hval hsz0
  obtain ⟨v0, vs0, d0, ds0, p0, q0, hargs, rfl, rfl, h0, r0⟩ := trodAll_cons hA
  obtain ⟨v1, vs1, d1, ds1, p1, q1, rfl, rfl, rfl, h1, r1⟩ := trodAll_cons r0
  obtain ⟨rfl, rfl, rfl⟩ := trodAll_nil r1
  obtain rfl : args = #[v0, v1] := by cases args; simp_all
  obtain ⟨rfl, rfl⟩ := trodVars_none hV
  have hsz : (DataW.weightsEach Tryd.prog [23, 36] [d0, d1]).all (· ≤ reachBytes) = true := hsz0
  have k0 := h0
  have lt0 : ∀ x ∈ p0, x.block < W.heap.size := by obtain ⟨m, hm⟩ := k0; exact DataW.trod_lt m _ _ _ hm
  obtain ⟨a0, len0, cap0, z0, rfl, w0⟩ := bytes_open 0 (hval 0 23 v0 rfl rfl) h0 hsz rfl rfl
  obtain ⟨a1, rfl, rfl, rfl, w1⟩ := open_int Tryd.underlying36 (hval 1 36 v1 rfl rfl) h1
  clear hA0
  refine (walk a0 len0 cap0 z0 a1 W (tab_of hL) w0 w1).mono fun e W' ⟨he, bel⟩ => ?_
  subst he
  exact ⟨_, rfl, _, _, _, [], _, [], hW', trodAll_mk1 (shut_bool Tryd.underlying4 _), (trodAll_cons_mk (Below.trod laidOut (by kernel_rfl) (of_decide_eq_true (by kernel_rfl)) k0 bel lt0) (trodAll_cons_mk (shut_int Tryd.underlying36 w1) trodAll_mk0)), rfl, bel.frame _, fun h => by cases h⟩

theorem laid_met (os : Os) : laidMet Tryd.prog Rows.crcCutsRow.laid (({ World.holding Tryd.prog os ⟨#[], #[], []⟩ with heap := (World.holding Tryd.prog os ⟨#[], #[], []⟩).heap.modify 0 fun
      | .cells _ t frozen => .cells #[.int .u32 0, .int .u32 498536548, .int .u32 997073096, .int .u32 651767980, .int .u32 1994146192, .int .u32 1802195444, .int .u32 1303535960, .int .u32 1342533948, .int .u32 3988292384, .int .u32 4027552580, .int .u32 3604390888, .int .u32 3412177804, .int .u32 2607071920, .int .u32 2262029012, .int .u32 2685067896, .int .u32 3183342108] t frozen
      | o => o } : World).forCall (fun _ _ => 0) ⟨#[], #[.slice none 0 0, .int .u16 0], []⟩).memory :=
  laidMet_of_run' 8 (by kernel_rfl) (by kernel_rfl)
theorem reads (os : Os) {H : Type} (enc : TypeId × Value → H) : ∃ places, DataW.whole enc Tryd.prog (({ World.holding Tryd.prog os ⟨#[], #[], []⟩ with heap := (World.holding Tryd.prog os ⟨#[], #[], []⟩).heap.modify 0 fun
      | .cells _ t frozen => .cells #[.int .u32 0, .int .u32 498536548, .int .u32 997073096, .int .u32 651767980, .int .u32 1994146192, .int .u32 1802195444, .int .u32 1303535960, .int .u32 1342533948, .int .u32 3988292384, .int .u32 4027552580, .int .u32 3604390888, .int .u32 3412177804, .int .u32 2607071920, .int .u32 2262029012, .int .u32 2685067896, .int .u32 3183342108] t frozen
      | o => o } : World).forCall (fun _ _ => 0) ⟨#[], #[.slice none 0 0, .int .u16 0], []⟩).memory Tryd.f5.params.toList Rows.crcCutsSpec.vars false #[Value.slice none 0 0, .int .u16 0].toList 8 = some ([.nil, .lit (.int .u16 0)], [], places) :=
  ⟨[], by kernel_rfl⟩

set_option maxRecDepth 100000 in
theorem lifted (os : Os) (started : os.Started) (H : Type) (enc : TypeId × Value → H) (F : Stop.Interp) :
    ReturnsInHanded {} Tryd.checked os 5 .any ((OpenSpec.ofChange Rows.crcCutsSpec).preRow enc Tryd.prog Tryd.f5 Rows.crcCutsRow.domain false Rows.crcCutsRow.laid) (((OpenSpec.ofChange Rows.crcCutsSpec).at F).post enc Tryd.prog Tryd.f5 false true false false) := by
  obtain ⟨places, hx⟩ := reads os enc
  refine returnsInHanded_of_row (C := Tryd.checked) (s := OpenSpec.ofChange Rows.crcCutsSpec) own started (by kernel_rfl) Tryd.func5
    (witness_row_at (enc := enc) (C := Tryd.checked) false ({ World.holding Tryd.prog os ⟨#[], #[], []⟩ with heap := (World.holding Tryd.prog os ⟨#[], #[], []⟩).heap.modify 0 fun
      | .cells _ t frozen => .cells #[.int .u32 0, .int .u32 498536548, .int .u32 997073096, .int .u32 651767980, .int .u32 1994146192, .int .u32 1802195444, .int .u32 1303535960, .int .u32 1342533948, .int .u32 3988292384, .int .u32 4027552580, .int .u32 3604390888, .int .u32 3412177804, .int .u32 2607071920, .int .u32 2262029012, .int .u32 2685067896, .int .u32 3183342108] t frozen
      | o => o } : World) #[.slice none 0 0, .int .u16 0] rfl (by kernel_rfl) (by kernel_rfl) (by kernel_rfl)
      (OpenSpec.preRow_of_cond 8 hx (by kernel_rfl) (fun k hk => by cases hk) (by kernel_rfl) (laid_met os))) ?_
  intro W base args ds gs before hval hW _ _ hsz hL _ _
  exact contract H enc W base args ds gs before hval hW hL hsz

theorem said : Rows.CrcCutsSaid :=
  OpenClaim.holds_of_cond 5 Tryd.f5 rfl rfl rfl rfl rfl rfl rfl ⟨rfl, rfl, rfl, rfl, rfl⟩ rfl rfl rfl rfl rfl (by kernel_rfl) Tryd.func5 (by kernel_rfl)
    (of_decide_eq_true (by kernel_rfl)) (by unfold Func.isWrapper; first | (rw [if_pos (by decide +kernel)]; kernel_rfl) | (rw [if_neg (by decide +kernel)]; exact ⟨rfl, rfl⟩))
    (fun os started H enc _ F => by rw [OpenClaim.pre_eq_preRow]; exact lifted os started H enc F)

theorem plain (f : FuncId) (fn : Func) (hf : Tryd.pinned.checked.prog.funcNamed "sumpter/sumpterlaw03.CrcCuts" = some f) (hfn : Tryd.pinned.checked.prog.funcs[f]? = some fn) :
    false = Tryd.pinned.checked.prog.looks [] ∧ ∀ (j : Nat) t, fn.params[j]? = some t → Tryd.pinned.checked.prog.wantsStandIn t = false := by
  obtain rfl : f = 5 := Option.some.inj ((show Tryd.prog.funcNamed "sumpter/sumpterlaw03.CrcCuts" = some 5 by kernel_rfl).symm.trans hf) |>.symm
  obtain rfl : fn = Tryd.f5 := (Option.some.inj (Tryd.func5.symm.trans hfn)).symm
  refine ⟨by kernel_rfl, fun j t ht => ?_⟩
  rw [Tryd.params5] at ht
  have hm : t ∈ [23, 36] := by simpa using Array.mem_of_getElem? ht
  have hall : ([23, 36].all fun u => !Tryd.prog.wantsStandIn u) = true := by kernel_rfl
  exact (show Tryd.prog.wantsStandIn t = false by simpa using List.all_eq_true.1 hall t hm)
end Go.Proofs.YtecmdhbalcenfaaDoor.crcCuts

namespace Go.Proofs.YtecmdhbalcenfaaDoor
/-- The card of CrcCuts. -/
theorem crcCuts_card : Rows.CrcCutsCardSaid :=
  Claim7.holds_tied_plain_at .later [] _ _ _ _ crcCuts.said (fun _ h => by cases h) (by kernel_rfl) (fun _ h => by cases h) crcCuts_row_tie rfl ⟨rfl, rfl⟩ (by kernel_rfl) rfl crcCuts.plain (by kernel_rfl)
#print axioms crcCuts_card
end Go.Proofs.YtecmdhbalcenfaaDoor
