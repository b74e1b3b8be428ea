/-
  CrcLinear answers true for all bytes, and nothing that was there is changed; the package-level table of half bytes starts as the program's text lays it (the card ties it).
-/
import Derived.Test.YtecmdhbalcenfaaDoorFrame
import Derived.Test.YtecmdhbalcenfaaDoorLin
import Derived.Deep.RegionHeld3
namespace Go.Proofs.YtecmdhbalcenfaaDoor.crcLinear
open Go.ChangeShapes Go.WideShapes Go.ChangeAt Go.RowKit Go.Deep Go.ChangeMaps

set_option maxHeartbeats 8000000 in
theorem walk (a : Option Addr) (la ka : Nat) (za : List Int) (b : Option Addr) (lb kb : Nat) (zb : List Int) (c : Option Addr) (lc kc : Nat) (zc : List Int) (w : World) (hw : Tab w) (ha : Bytes w a la ka za) (hb : Bytes w b lb kb zb) (hc : Bytes w c lc kc zc) :
    Calls Tryd.prog 7 #[.slice a la ka, .slice b lb kb, .slice c lc kc] w fun e w' => e = .returned (.bool true) ∧ Below w.heap.size w w' := by
  have hp := hw.pos
  obtain ⟨i0, hi, hz0, hz1, hz2⟩ := info_parts info5'
  have ma : la ≤ ka ∧ za.length = ka ∧ ka ≤ 140737488351232 := ⟨ha.2.2.1, ha.2.1, ha.2.2.2.1⟩
  have mb : lb ≤ kb ∧ zb.length = kb ∧ kb ≤ 140737488351232 := ⟨hb.2.2.1, hb.2.1, hb.2.2.2.1⟩
  have mc : lc ≤ kc ∧ zc.length = kc ∧ kc ≤ 140737488351232 := ⟨hc.2.2.1, hc.2.1, hc.2.2.2.1⟩
  obtain ⟨n, hn⟩ : ∃ n, n = min (min la lb) (min lc 300) := ⟨_, rfl⟩
  have hmin : ∀ ts t W, (Builtin.min_ ts t #[.int .i64 (la : Int), .int .i64 (lb : Int), .int .i64 (lc : Int), .int .i64 300]).run Tryd.prog W = .ok (.int .i64 (n : Int)) W := fun ts t W => run_min4 W ts t la lb lc 300 n hn
  have na : n ≤ la := by omega
  have nb : n ≤ lb := by omega
  have nc : n ≤ lc := by omega
  have n3 : n ≤ 300 := by omega
  clear hn
  have sa := ha.sl
  have sb := hb.sl
  have sc := hc.sl
  -- the four sums
  have ta := sa.take n na
  have tb := sb.take n nb
  have tc := sc.take n nc
  have lta : ((za.take la).take n).length = n := by simp [List.length_take]; omega
  have ltb : ((zb.take lb).take n).length = n := by simp [List.length_take]; omega
  have ltc : ((zc.take lc).take n).length = n := by simp [List.length_take]; omega
  have hfx := fill_xors sa.bytes sb.bytes sc.bytes n (by simp [List.length_take]; omega) (by simp [List.length_take]; omega) (by simp [List.length_take]; omega)
  have hs3 := sum_three _ _ _ (lta.trans ltb.symm) (lta.trans ltc.symm)
  rw [← hfx] at hs3
  have ltA := sum_lt (byt_getD ta.bytes)
  have ltB := sum_lt (byt_getD tb.bytes)
  have ltC := sum_lt (byt_getD tc.bytes)
  have X1 := u32_xor_nat _ _ ltA ltB
  have ltAB := Reg.xor_lt ltA ltB
  have X2 := u32_xor_nat _ _ ltAB ltC
  have X3 := u32_xor_nat _ _ (Reg.xor_lt ltAB ltC) (Reg.xor_lt ltAB ltC)
  rw [Nat.xor_self] at X3
  rw [← hs3] at X2 X3
  have HX3 := fun i => x3_bd sa.bytes sb.bytes sc.bytes i
  have Ka : Hid (∀ j, j < n → ∃ bb oo, a = some ⟨bb, oo, none⟩ ∧ ∀ W, Below w.heap.size w W → W.cell? ⟨bb, oo + j, none⟩ = some (.int .u8 ((za.take la).getD j 0))) := fun j hj => by
    obtain ⟨a', c', e, h1, h2, h3, h4⟩ := sa
    have hl : (za.take la).length = la := by rw [List.length_take]; omega
    rw [hl] at e h4
    cases e
    rcases h4 with h | ⟨_, bb, oo, rfl, _, _, hcell, _⟩
    · omega
    · have := hcell j (by omega)
      exact ⟨bb, oo, rfl, fun W hW => (hW.cell (p := ⟨bb, oo + j, none⟩) (World.block_lt_of_cell? _ _ this)).trans this⟩
  have Kb : Hid (∀ j, j < n → ∃ bb oo, b = some ⟨bb, oo, none⟩ ∧ ∀ W, Below w.heap.size w W → W.cell? ⟨bb, oo + j, none⟩ = some (.int .u8 ((zb.take lb).getD j 0))) := fun j hj => by
    obtain ⟨a', c', e, h1, h2, h3, h4⟩ := sb
    have hl : (zb.take lb).length = lb := by rw [List.length_take]; omega
    rw [hl] at e h4
    cases e
    rcases h4 with h | ⟨_, bb, oo, rfl, _, _, hcell, _⟩
    · omega
    · have := hcell j (by omega)
      exact ⟨bb, oo, rfl, fun W hW => (hW.cell (p := ⟨bb, oo + j, none⟩) (World.block_lt_of_cell? _ _ this)).trans this⟩
  have Kc : Hid (∀ j, j < n → ∃ bb oo, c = some ⟨bb, oo, none⟩ ∧ ∀ W, Below w.heap.size w W → W.cell? ⟨bb, oo + j, none⟩ = some (.int .u8 ((zc.take lc).getD j 0))) := fun j hj => by
    obtain ⟨a', c', e, h1, h2, h3, h4⟩ := sc
    have hl : (zc.take lc).length = lc := by rw [List.length_take]; omega
    rw [hl] at e h4
    cases e
    rcases h4 with h | ⟨_, bb, oo, rfl, _, _, hcell, _⟩
    · omega
    · have := hcell j (by omega)
      exact ⟨bb, oo, rfl, fun W hW => (hW.cell (p := ⟨bb, oo + j, none⟩) (World.block_lt_of_cell? _ _ this)).trans this⟩
  have HV : Hid (∀ j, x3 (za.take la) (zb.take lb) (zc.take lc) j = bits .xor .u8 (bits .xor .u8 ((za.take la).getD j 0) ((zb.take lb).getD j 0)) ((zc.take lc).getD j 0)) := fun j => rfl
  have TA : Hid (∀ W, Below w.heap.size w W → Calls Tryd.prog 9 #[.slice a n ka] W fun e w' => e = .returned (.int .u32 (sumOf ((za.take la).take n) : Nat)) ∧ w' = W) := fun W h => of_any _ _ W (hw.below h hp) (ta.kept h)
  have TB : Hid (∀ W, Below w.heap.size w W → Calls Tryd.prog 9 #[.slice b n kb] W fun e w' => e = .returned (.int .u32 (sumOf ((zb.take lb).take n) : Nat)) ∧ w' = W) := fun W h => of_any _ _ W (hw.below h hp) (tb.kept h)
  have TC : Hid (∀ W, Below w.heap.size w W → Calls Tryd.prog 9 #[.slice c n kc] W fun e w' => e = .returned (.int .u32 (sumOf ((zc.take lc).take n) : Nat)) ∧ w' = W) := fun W h => of_any _ _ W (hw.below h hp) (tc.kept h)
  have HW : Hid (∀ W, Below w.heap.size w W → Tab W) := fun W h => hw.below h hp
  have HX : Hid (∀ i, 0 ≤ x3 (za.take la) (zb.take lb) (zc.take lc) i ∧ x3 (za.take la) (zb.take lb) (zc.take lc) i < 256) := HX3
  generalize sumOf ((za.take la).take n) = SA at *
  generalize sumOf ((zb.take lb).take n) = SB at *
  generalize sumOf ((zc.take lc).take n) = SC at *
  have HSD : Hid (sumOf (fill (x3 (za.take la) (zb.take lb) (zc.take lc)) n n) = (SA ^^^ SB) ^^^ SC) := hs3
  rw [hs3] at X2 X3
  generalize x3 (za.take la) (zb.take lb) (zc.take lc) = f at *
  generalize (SA ^^^ SB) ^^^ SC = SD at *
  generalize SA ^^^ SB = SAB at *
  clear hfx hs3 lta ltb ltc ltA ltB ltC ltAB ta tb tc sa sb sc ha hb hc hw HX3
  have ma1 := ma.1
  have mb1 := mb.1
  have mc1 := mc.1
  have ma2 := ma.2.2
  have mb2 := mb.2.2
  have mc2 := mc.2.2
  generalize za.take la = A at *
  generalize zb.take lb = B at *
  generalize zc.take lc = C at *
  clear ma mb mc
  go_enter Tryd.func7, Tryd.ntmps7
  go_wp2_with (at_make; refine wpList_make_full _ rfl _ _ 23 rfl w.heap.size 5 i0 (.int .u8 0) 1 Tryd.underlying23 hi hz0 hz1 .i64 .i64 _ _ n rfl rfl rfl rfl (by rw [hz2]; omega) (by unfold maxLen; omega) (Nat.le_refl _) ?_)
  intro w1 own1 hgrow
  have B1 : Below w.heap.size w w1 := (Below.refl _ w).grown hgrow (Nat.le_refl _) (fun k hk => by cases hk)
  have e0 : (madeCells #[Value.int .u8 0] n).toList = (fill f n 0).map (Value.int .u8) := by
    rw [fill_zero, toList_madeCells_one]
    simp
  rw [e0] at own1
  have fr1 : ∀ i, w1.frozen? ⟨w.heap.size, i, none⟩ = false := fun i => by
    rcases own1.2 with ⟨hv, _⟩ | ⟨g', cap', cur', hv, hg', hh, _⟩
    · cases hv
    · cases hv
      simp [World.frozen?, hh]
  have sl1 : Sl w1 (.slice (some ⟨w.heap.size, 0, none⟩) n n) (fill f n 0) := sl_owned own1 (by rw [fill_zero]; exact byteList _ (by simp))
  have HSL : Hid (Sl w1 (.slice (some ⟨w.heap.size, 0, none⟩) n n) (fill f n 0)) := sl1
  have HFR : Hid (∀ i, w1.frozen? ⟨w.heap.size, i, none⟩ = false) := fr1
  have HB1 : Hid (Below w.heap.size w w1) := B1
  clear own1 hgrow e0 fr1 sl1 B1
  obtain ⟨G, hG⟩ : ∃ G, G = w.heap.size := ⟨_, rfl⟩
  rw [← hG] at HSL HFR ⊢
  have HG : Hid (G = w.heap.size) := hG
  clear hG
  go_wp2
  go_loopw [9] (fun i wr => ∃ j : Nat, j ≤ n ∧ i = .int .i64 j ∧ Sl wr (.slice (some ⟨G, 0, none⟩) n n) (fill f n j) ∧ (∀ i, wr.frozen? ⟨G, i, none⟩ = false) ∧ Below w.heap.size w wr) (fun i _ => n - (intOf i).toNat)
  case atStart => exact ⟨0, by omega, rfl, HSL.out, HFR.out, HB1.out⟩
  case round =>
    obtain ⟨j, hj, rfl, sl, fr, bel⟩ := hrel
    have SL : Hid (Sl wr (.slice (some ⟨G, 0, none⟩) n n) (fill f n j)) := sl
    have FR : Hid (∀ i, wr.frozen? ⟨G, i, none⟩ = false) := fr
    have BEL : Hid (Below w.heap.size w wr) := bel
    clear sl fr bel
    by_cases hlt : j < n
    · obtain ⟨ba, oa, rfl, ea⟩ := Ka.out j hlt
      obtain ⟨bb, ob, rfl, eb⟩ := Kb.out j hlt
      obtain ⟨bc, oc, rfl, ec⟩ := Kc.out j hlt
      have ca := ea _ BEL.out
      have cb := eb _ BEL.out
      have cc := ec _ BEL.out
      have fj := FR.out j
      have hv := HV.out j
      have hfb := HX.out j
      have cg : ∃ x, wr.cell? ⟨G, j, none⟩ = some (.int .u8 x) := by
        obtain ⟨a', c', e, h1, h2, h3, h4⟩ := SL.out
        rw [fill_len] at e h4
        cases e
        rcases h4 with h | ⟨_, bb, oo, e, _, _, hcell, _⟩
        · omega
        · cases e
          have := hcell j (by omega)
          rw [Nat.zero_add] at this
          exact ⟨_, this⟩
      obtain ⟨x, cg⟩ := cg
      have NS : Hid (Sl (wr.setCell ⟨G, j, none⟩ (.int .u8 (f j))).drew (.slice (some ⟨G, 0, none⟩) n n) (fill f n (j + 1))) := by
        have := SL.out.set j hlt (f j) hfb
        rw [fill_set, Nat.zero_add] at this
        exact this.kept ((Below.refl _ _).drew)
      generalize f j = y at *
      generalize A.getD j 0 = za' at *
      generalize B.getD j 0 = zb' at *
      generalize C.getD j 0 = zc' at *
      replace hv : bits .xor .u8 (bits .xor .u8 za' zb') zc' = y := hv.symm
      clear ea eb ec hfb
      have q1 : (j : Int) < (n : Int) := by omega
      have q2 : (j : Int) < (la : Int) := by omega
      have q3 : (j : Int) < (lb : Int) := by omega
      have q4 : (j : Int) < (lc : Int) := by omega
      have q5 : (0 : Int) ≤ (j : Int) := by omega
      go_wp2
      go_region
      have NB : Below w.heap.size w (wr.setCell ⟨G, j, none⟩ (.int .u8 y)).drew := (BEL.out.setCell (by rw [HG.out]; exact Nat.le_refl _) _).drew
      have NF : ∀ i, (wr.setCell ⟨G, j, none⟩ (.int .u8 y)).drew.frozen? ⟨G, i, none⟩ = false := fun i => by simpa using FR.out i
      have HNB : Hid (Below w.heap.size w (wr.setCell ⟨G, j, none⟩ (.int .u8 y)).drew) := NB
      have HNF : Hid (∀ i, (wr.setCell ⟨G, j, none⟩ (.int .u8 y)).drew.frozen? ⟨G, i, none⟩ = false) := NF
      clear NB NF cg ca cb cc fj hv
      go_wp2
      go_roundw
      case rel => exact ⟨j + 1, by omega, by go_num, NS.out, HNF.out, HNB.out⟩
      case measure => simp [intOf]; omega
    · obtain rfl : j = n := by omega
      have BD : Below w.heap.size w wr.drew := BEL.out.drew
      have ca := TA.out _ BD
      have cb := TB.out _ BD
      have cc := TC.out _ BD
      have cd := of_any _ _ wr.drew (HW.out _ BD) (SL.out.kept ((Below.refl _ _).drew))
      rw [HSD.out] at cd
      have cw := awake_any _ (HW.out _ BD)
      have HBD : Hid (Below w.heap.size w wr.drew) := BD
      have p1 : (j : Int) ≤ (ka : Int) := by omega
      have p2 : (j : Int) ≤ (kb : Int) := by omega
      have p3 : (j : Int) ≤ (kc : Int) := by omega
      have p4 : (0 : Int) ≤ (j : Int) := by omega
      have p5 : j ≤ ka := by omega
      have p6 : j ≤ kb := by omega
      have p7 : j ≤ kc := by omega
      rw [show ((0 : Nat) : Int) = 0 from rfl] at X3
      clear hlt BD SL FR TA TB TC HW HSL HFR HB1 hmin
      go_wp2
      go_region_held3 (fun _ => True) (trivial) (first
        | (go_at_call_of 9 (Value.slice a j ka); refine ca.mono ?_; rintro e w4 ⟨rfl, e4⟩; rw [e4])
        | (go_at_call_of 9 (Value.slice b j kb); refine cb.mono ?_; rintro e w4 ⟨rfl, e4⟩; rw [e4])
        | (go_at_call_of 9 (Value.slice c j kc); refine cc.mono ?_; rintro e w4 ⟨rfl, e4⟩; rw [e4])
        | (go_at_call_of 9 (Value.slice (some ⟨G, 0, none⟩) j j); refine cd.mono ?_; rintro e w4 ⟨rfl, e4⟩; rw [e4])
        | (go_at_call 8; refine cw.mono ?_; rintro e w5 ⟨rfl, hbel⟩))
      all_goals
        go_wp2
        go_ret
        exact ⟨rfl, HBD.out.trans (hbel.mono HBD.out.size)⟩

theorem contract (H : Type) (enc : TypeId × Value → H) (W : World) (base : Nat) (args : Array Value) (ds gs : List (DataW H)) (before : List MemPlace)
    (hval : ∀ (j : Nat) t v, Tryd.f7.params[j]? = some t → args[j]? = some v → Value.okWide Tryd.prog W .any base t v)
    (hW : DataW.Whole enc Tryd.prog Tryd.f7.params.toList Rows.crcLinearSpec.vars false W args.toList ds gs before) (hL : laidMetH Tryd.prog Rows.crcLinearRow.laid W)
    (hsz0 : (DataW.weightsEach Tryd.prog (Tryd.f7.params.toList ++ Rows.crcLinearSpec.plain.varTypes Tryd.prog) (ds ++ gs)).all (· ≤ reachBytes) = true) :
    Calls Tryd.prog 7 args W fun e W' => ∃ v, e = .returned v ∧ Rows.crcLinearSpec.post enc Tryd.prog Tryd.f7 false true false false W args v W' := by
  have hW' := hW
  obtain ⟨p, q, hA0, hV, rfl, hfz, hnd⟩ := hW
  have hA : DataW.TrodAll enc Tryd.prog W 0 (fun _ => true) true Tryd.f7.params.toList args.toList ds p := hA0
  rw [Tryd.params7] at hA hval hsz0
  obtain ⟨v0, vs0, d0, ds0, p0, q0, hargs, rfl, rfl, h0, r0⟩ := trodAll_cons hA
  obtain ⟨v1, vs1, d1, ds1, p1, q1, rfl, rfl, rfl, h1, r1⟩ := trodAll_cons r0
  obtain ⟨v2, vs2, d2, ds2, p2, q2, rfl, rfl, rfl, h2, r2⟩ := trodAll_cons r1
  obtain ⟨rfl, rfl, rfl⟩ := trodAll_nil r2
  obtain rfl : args = #[v0, v1, v2] := by cases args; simp_all
  obtain ⟨rfl, rfl⟩ := trodVars_none hV
  have hsz : (DataW.weightsEach Tryd.prog [23, 23, 23] [d0, d1, d2]).all (· ≤ reachBytes) = true := hsz0
  have k0 := h0
  have lt0 : ∀ x ∈ p0, x.block < W.heap.size := by obtain ⟨m, hm⟩ := k0; exact DataW.trod_lt m _ _ _ hm
  obtain ⟨a0, len0, cap0, z0, rfl, w0⟩ := bytes_open 0 (hval 0 23 v0 rfl rfl) h0 hsz rfl rfl
  have k1 := h1
  have lt1 : ∀ x ∈ p1, x.block < W.heap.size := by obtain ⟨m, hm⟩ := k1; exact DataW.trod_lt m _ _ _ hm
  obtain ⟨a1, len1, cap1, z1, rfl, w1⟩ := bytes_open 1 (hval 1 23 v1 rfl rfl) h1 hsz rfl rfl
  have k2 := h2
  have lt2 : ∀ x ∈ p2, x.block < W.heap.size := by obtain ⟨m, hm⟩ := k2; exact DataW.trod_lt m _ _ _ hm
  obtain ⟨a2, len2, cap2, z2, rfl, w2⟩ := bytes_open 2 (hval 2 23 v2 rfl rfl) h2 hsz rfl rfl
  clear hA0
  refine (walk a0 len0 cap0 z0 a1 len1 cap1 z1 a2 len2 cap2 z2 W (tab_of hL) w0 w1 w2).mono fun e W' ⟨he, bel⟩ => ?_
  subst he
  exact ⟨_, rfl, _, _, _, [], _, [], hW', trodAll_mk1 (shut_bool Tryd.underlying4 _), (trodAll_cons_mk (Below.trod laidOut (by kernel_rfl) (of_decide_eq_true (by kernel_rfl)) k0 bel lt0) (trodAll_cons_mk (Below.trod laidOut (by kernel_rfl) (of_decide_eq_true (by kernel_rfl)) k1 bel lt1) (trodAll_cons_mk (Below.trod laidOut (by kernel_rfl) (of_decide_eq_true (by kernel_rfl)) k2 bel lt2) trodAll_mk0))), rfl, bel.frame _, fun h => by cases h⟩

theorem laid_met (os : Os) : laidMet Tryd.prog Rows.crcLinearRow.laid (({ World.holding Tryd.prog os ⟨#[], #[], []⟩ with heap := (World.holding Tryd.prog os ⟨#[], #[], []⟩).heap.modify 0 fun
      | .cells _ t frozen => .cells #[.int .u32 0, .int .u32 498536548, .int .u32 997073096, .int .u32 651767980, .int .u32 1994146192, .int .u32 1802195444, .int .u32 1303535960, .int .u32 1342533948, .int .u32 3988292384, .int .u32 4027552580, .int .u32 3604390888, .int .u32 3412177804, .int .u32 2607071920, .int .u32 2262029012, .int .u32 2685067896, .int .u32 3183342108] t frozen
      | o => o } : World).forCall (fun _ _ => 0) ⟨#[], #[.slice none 0 0, .slice none 0 0, .slice none 0 0], []⟩).memory :=
  laidMet_of_run' 8 (by kernel_rfl) (by kernel_rfl)
theorem reads (os : Os) {H : Type} (enc : TypeId × Value → H) : ∃ places, DataW.whole enc Tryd.prog (({ World.holding Tryd.prog os ⟨#[], #[], []⟩ with heap := (World.holding Tryd.prog os ⟨#[], #[], []⟩).heap.modify 0 fun
      | .cells _ t frozen => .cells #[.int .u32 0, .int .u32 498536548, .int .u32 997073096, .int .u32 651767980, .int .u32 1994146192, .int .u32 1802195444, .int .u32 1303535960, .int .u32 1342533948, .int .u32 3988292384, .int .u32 4027552580, .int .u32 3604390888, .int .u32 3412177804, .int .u32 2607071920, .int .u32 2262029012, .int .u32 2685067896, .int .u32 3183342108] t frozen
      | o => o } : World).forCall (fun _ _ => 0) ⟨#[], #[.slice none 0 0, .slice none 0 0, .slice none 0 0], []⟩).memory Tryd.f7.params.toList Rows.crcLinearSpec.vars false #[Value.slice none 0 0, .slice none 0 0, .slice none 0 0].toList 8 = some ([.nil, .nil, .nil], [], places) :=
  ⟨[], by kernel_rfl⟩

set_option maxRecDepth 100000 in
theorem lifted (os : Os) (started : os.Started) (H : Type) (enc : TypeId × Value → H) (F : Stop.Interp) :
    ReturnsInHanded {} Tryd.checked os 7 .any ((OpenSpec.ofChange Rows.crcLinearSpec).preRow enc Tryd.prog Tryd.f7 Rows.crcLinearRow.domain false Rows.crcLinearRow.laid) (((OpenSpec.ofChange Rows.crcLinearSpec).at F).post enc Tryd.prog Tryd.f7 false true false false) := by
  obtain ⟨places, hx⟩ := reads os enc
  refine returnsInHanded_of_row (C := Tryd.checked) (s := OpenSpec.ofChange Rows.crcLinearSpec) own started (by kernel_rfl) Tryd.func7
    (witness_row_at (enc := enc) (C := Tryd.checked) false ({ World.holding Tryd.prog os ⟨#[], #[], []⟩ with heap := (World.holding Tryd.prog os ⟨#[], #[], []⟩).heap.modify 0 fun
      | .cells _ t frozen => .cells #[.int .u32 0, .int .u32 498536548, .int .u32 997073096, .int .u32 651767980, .int .u32 1994146192, .int .u32 1802195444, .int .u32 1303535960, .int .u32 1342533948, .int .u32 3988292384, .int .u32 4027552580, .int .u32 3604390888, .int .u32 3412177804, .int .u32 2607071920, .int .u32 2262029012, .int .u32 2685067896, .int .u32 3183342108] t frozen
      | o => o } : World) #[.slice none 0 0, .slice none 0 0, .slice none 0 0] rfl (by kernel_rfl) (by kernel_rfl) (by kernel_rfl)
      (OpenSpec.preRow_of_cond 8 hx (by kernel_rfl) (fun k hk => by cases hk) (by kernel_rfl) (laid_met os))) ?_
  intro W base args ds gs before hval hW _ _ hsz hL _ _
  exact contract H enc W base args ds gs before hval hW hL hsz

theorem said : Rows.CrcLinearSaid :=
  OpenClaim.holds_of_cond 7 Tryd.f7 rfl rfl rfl rfl rfl rfl rfl ⟨rfl, rfl, rfl, rfl, rfl⟩ rfl rfl rfl rfl rfl (by kernel_rfl) Tryd.func7 (by kernel_rfl)
    (of_decide_eq_true (by kernel_rfl)) (by unfold Func.isWrapper; first | (rw [if_pos (by decide +kernel)]; kernel_rfl) | (rw [if_neg (by decide +kernel)]; exact ⟨rfl, rfl⟩))
    (fun os started H enc _ F => by rw [OpenClaim.pre_eq_preRow]; exact lifted os started H enc F)

theorem plain (f : FuncId) (fn : Func) (hf : Tryd.pinned.checked.prog.funcNamed "sumpter/sumpterlaw03.CrcLinear" = some f) (hfn : Tryd.pinned.checked.prog.funcs[f]? = some fn) :
    false = Tryd.pinned.checked.prog.looks [] ∧ ∀ (j : Nat) t, fn.params[j]? = some t → Tryd.pinned.checked.prog.wantsStandIn t = false := by
  obtain rfl : f = 7 := Option.some.inj ((show Tryd.prog.funcNamed "sumpter/sumpterlaw03.CrcLinear" = some 7 by kernel_rfl).symm.trans hf) |>.symm
  obtain rfl : fn = Tryd.f7 := (Option.some.inj (Tryd.func7.symm.trans hfn)).symm
  refine ⟨by kernel_rfl, fun j t ht => ?_⟩
  rw [Tryd.params7] at ht
  have hm : t ∈ [23, 23, 23] := by simpa using Array.mem_of_getElem? ht
  have hall : ([23, 23, 23].all fun u => !Tryd.prog.wantsStandIn u) = true := by kernel_rfl
  exact (show Tryd.prog.wantsStandIn t = false by simpa using List.all_eq_true.1 hall t hm)
end Go.Proofs.YtecmdhbalcenfaaDoor.crcLinear

namespace Go.Proofs.YtecmdhbalcenfaaDoor
/-- The card of CrcLinear. -/
theorem crcLinear_card : Rows.CrcLinearCardSaid :=
  Claim7.holds_tied_plain_at .later [] _ _ _ _ crcLinear.said (fun _ h => by cases h) (by kernel_rfl) (fun _ h => by cases h) crcLinear_row_tie rfl ⟨rfl, rfl⟩ (by kernel_rfl) rfl crcLinear.plain (by kernel_rfl)
#print axioms crcLinear_card
end Go.Proofs.YtecmdhbalcenfaaDoor
