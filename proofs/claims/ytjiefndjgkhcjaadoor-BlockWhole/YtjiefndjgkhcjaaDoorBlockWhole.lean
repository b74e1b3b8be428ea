/-
  BlockWhole: each block of a file of up to 400 bytes is found by its bytes, at its place, or at one ahead, in each size from 1 to 64; there are as many as have room; for all bytes; no condition.
-/
import Derived.Test.YtjiefndjgkhcjaaDoorFr
namespace Go.Proofs.YtjiefndjgkhcjaaDoor.blockWhole
open Go.ChangeShapes Go.WideShapes Go.ChangeAt Go.RowKit Go.Deep Go.ChangeMaps
set_option maxRecDepth 100000

theorem sgs_at (b : List Int) (z n j : Nat) (h : j < n) : atI (sgs b z n) j = sumB (blk b z j) := by
  simp [atI, sgs, List.getD, h]
theorem fi_le (l : List Sg) (y : Sg) (j : Nat) (hj : j < l.length) (h : atI l j = y) : fi l y.k y.s ≤ j := by
  unfold fi
  rcases Nat.lt_or_ge j (l.findIdx fun x : Sg => decide (x.k = y.k) && decide (x.s = y.s)) with h1 | h1
  · have h2 := List.not_of_lt_findIdx h1
    rw [← atI_eq l j hj, h] at h2
    simp at h2
  · exact h1
theorem find_blk (b : List Int) (z n j : Nat) (h : j < n) (hz : (blk b z j).length = z) : ∃ p, p ≤ j ∧ bfnd (sgs b z n) z (blk b z j) = (((p * z : Nat) : Int), true) ∧ wk (sgs b z n) (Ro.rs (blk b z j)) = true := by
  have hl := sgs_len b z n
  have h1 := fi_le (sgs b z n) (sumB (blk b z j)) j (by omega) (sgs_at b z n j h)
  have h2 : fi (sgs b z n) (Ro.rs (blk b z j)) (Sh.Pl.sha (blk b z j)) ≤ j := h1
  refine ⟨_, h2, ?_, fi_wk _ _ _ (Nat.lt_of_le_of_lt h2 (by omega))⟩
  unfold bfnd
  rw [if_pos ⟨by rw [hz], by omega⟩, Int.natCast_mul]
set_option maxHeartbeats 8000000 in
theorem walk (v0 : Value) (b : List Int) (s : Int) (w : World) (hw : Ta w) (h0 : Sl w v0 b) (hs : (Lit.int .u8 s).wf = true) :
    Calls Tryd.prog 6 #[v0, .int .u8 s] w fun e w' => e = .returned (.bool true) ∧ Below w.heap.size w w' := by
  have s1 := bounds_u8 hs
  have CA : Hid (∀ W, Below w.heap.size w W → Calls Tryd.prog 9 #[] W fun e w' => e = .returned (.bool true) ∧ Below W.heap.size W w') := fun W hb => awake_any W (hw.kept hb)
  obtain ⟨k, hk⟩ : ∃ k : Nat, (1 : Int) + s % 64 = k := ⟨(1 + s % 64).toNat, by omega⟩
  have k1 : 1 ≤ k := by omega
  have k2 : k ≤ 64 := by omega
  have ht : Int.tmod s 64 = s % 64 := Int.tmod_eq_emod_of_nonneg s1.1
  obtain ⟨a0, c0, rfl, hc, hm, h3, -⟩ := id h0
  have HS : Hid (Sl w (.slice a0 b.length c0) b) := h0
  obtain ⟨L, hL⟩ : ∃ L, L = b.length := ⟨_, rfl⟩
  have HL : Hid (L = b.length) := hL
  have HW : Hid (Ta w) := hw
  rw [← hL] at HS hc ⊢
  have hm2 : (L : Int) ≤ 9223372036854775807 := by unfold maxLen at hm; omega
  clear h0 hs hw h3 hL
  by_cases h4 : 400 < L
  · have h5 : 400 < (L : Int) := by omega
    have ca := CA.out w (Below.refl _ _)
    go_enter Tryd.func6, Tryd.ntmps6
    go_wp2_with fail
    refine ca.mono ?_
    rintro e w2 ⟨rfl, b2⟩
    have B2 : Hid (Below w.heap.size w w2) := b2
    clear ca b2
    go_wp2
    go_ret
    exact ⟨rfl, B2.out⟩
  · have h5 : ¬ 400 < (L : Int) := by omega
    have hq : L / k ≤ L := Nat.div_le_self L k
    have C1 := sign_any (.slice a0 L c0) b k w HS.out HW.out
    have eb : bsig b (k : Int) = (sgs b k (L / k), 0) := by
      unfold bsig
      rw [if_neg (by omega), if_neg (by rw [Int.toNat_natCast, ← HL.out]; omega), Int.toNat_natCast, ← HL.out]
    have ec : chk (k : Int) (L : Int) (L / k) = 0 := by
      unfold chk
      rw [if_neg (by omega), if_neg (by omega), Int.toNat_natCast, Int.toNat_natCast, if_neg (by omega)]
    have HBL : Hid (∀ j, j < L / k → (j + 1) * k ≤ L) := fun j hj => blk_le L k j hj
    have HDV : Hid (∀ j, (j + 1) * k ≤ L → j < L / k) := fun j hj => by
      rw [Nat.lt_iff_add_one_le, Nat.le_div_iff_mul_le (by omega)]
      exact hj
    have HF : Hid (∀ j, j < L / k → ∃ p, p ≤ j ∧ bfnd (sgs b k (L / k)) k (blk b k j) = (((p * k : Nat) : Int), true) ∧ wk (sgs b k (L / k)) (Ro.rs (blk b k j)) = true) := fun j hj => find_blk b k (L / k) j hj (blk_len b k j (by rw [← HL.out]; exact blk_le L k j hj))
    have g3 : ¬ (k : Int) = 0 := by omega
    have g4 : Int.tdiv (L : Int) (k : Int) = ((L / k : Nat) : Int) := (Int.ofNat_tdiv L k).symm
    have g4' : (L : Int) / (k : Int) = ((L / k : Nat) : Int) := (Int.natCast_ediv L k).symm
    rw [eb] at C1
    have HLN : Hid ((sgs b k (L / k)).length = L / k) := sgs_len _ _ _
    clear eb
    generalize L / k = q at *
    have hq2 : q ≤ 400 := by omega
    obtain ⟨l, hl⟩ : ∃ l, l = sgs b k q := ⟨_, rfl⟩
    rw [← hl] at C1 HF HLN
    clear hl
    simp only at C1
    go_enter Tryd.func6, Tryd.ntmps6
    go_wp2_with fail
    refine C1.mono ?_
    rintro e w2 ⟨v2, rfl, r2, b2⟩
    clear C1
    have B2 : Hid (Below w.heap.size w w2) := b2
    have CN := new_any (k : Int) (L : Int) v2 l w2 r2.is (by rw [HLN.out]; omega)
    rw [HLN.out, ec] at CN
    obtain ⟨a2, c2, rfl, -⟩ := r2.is.shape
    rw [HLN.out] at CN ⊢
    clear r2 b2
    go_wp2_with fail
    refine CN.mono ?_
    rintro e w3 ⟨v3, rfl, n3, b3⟩
    clear CN
    have B3 : Hid (Below w.heap.size w w3) := B2.out.trans (b3.mono B2.out.size)
    unfold NX at n3
    rw [if_pos (by rw [HLN.out]; exact ec)] at n3
    obtain ⟨g, m, rfl, ix⟩ := n3
    have I3 : Hid (∀ x, Below w3.heap.size w3 x → IX x w2.heap.size g m k l.length l) := fun x hx => ix.kept hx
    clear ix b3 B2 ec
    go_wp2_with fail
    go_loopw [10] (fun p wr => ∃ j i : Nat, i = j * k ∧ j ≤ q ∧ p = .int .i64 i ∧ Below w3.heap.size w3 wr) (fun p _ => L + 1 - (intOf p).toNat)
    case atStart => exact ⟨0, 0, by omega, by omega, rfl, Below.refl _ _⟩
    case round =>
      obtain ⟨j, i, hi, hj, rfl, bel⟩ := hrel
      have HB : Hid (Below w3.heap.size w3 wr) := bel
      have HBW : Hid (Below w.heap.size w wr) := B3.out.trans (bel.mono B3.out.size)
      have HI : Hid (i = j * k) := hi
      have e1 : (j + 1) * k = i + k := by rw [Nat.add_mul, Nat.one_mul, hi]
      have HE1 : Hid ((j + 1) * k = i + k) := e1
      clear bel hi
      by_cases hlt : j < q
      · have hbl := HBL.out j hlt
        rw [e1] at hbl
        have lt2 : (i : Int) + (k : Int) ≤ (L : Int) := by omega
        obtain ⟨p, hp, hf, hwk⟩ := HF.out j hlt
        have hs2 := HS.out.kept HBW.out
        obtain ⟨bb, off, rfl⟩ : ∃ bb off, a0 = some ⟨bb, off, none⟩ := by
          obtain ⟨a', c', e, _, _, _, hr⟩ := hs2
          cases e
          rcases hr with hr | ⟨_, bb, off, e, _⟩
          · have := HL.out; omega
          · exact ⟨bb, off, e⟩
        have hsl := sl_blk hs2 k i j hbl HI.out
        have HSB : Hid (∀ x, Below w.heap.size w x → Sl x (.slice (some ⟨bb, off + i, none⟩) k (c0 - i)) (blk b k j)) := fun x hx => sl_blk (HS.out.kept hx) k i j hbl HI.out
        have hbk := blk_len b k j (by rw [HE1.out, ← HL.out]; exact hbl)
        have CF := find_any wr w2.heap.size g m k l.length l (I3.out wr HB.out) _ (blk b k j) hsl (HW.out.kept HBW.out) (by omega)
        rw [hf] at CF
        have hpk : p * k ≤ i := by rw [HI.out]; exact Nat.mul_le_mul_right k hp
        have hpm : (p * k) % k = 0 := Nat.mul_mod_left p k
        have HWK : Hid (wk l (Ro.rs (blk b k j)) = true) := hwk
        have HRR : Hid (0 ≤ Ro.rs (blk b k j) ∧ Ro.rs (blk b k j) < 4294967296) := Ro.rs_range _
        clear hf hs2 hsl hbk hwk hp e1
        generalize p * k = pk at *
        generalize blk b k j = X at *
        have n1 : (0 : Int) ≤ (i : Int) := by omega
        have n2 : (i : Int) ≤ ((i + k : Nat) : Int) := by omega
        have n3 : ((i + k : Nat) : Int) ≤ (c0 : Int) := by omega
        have n4 : (i + k) - i = k := by omega
        have p1 : ¬ (i : Int) < (pk : Int) := by omega
        have p2 : Int.tmod (pk : Int) (k : Int) = 0 := by rw [Int.tmod_eq_emod_of_nonneg (by omega)]; omega
        have p3 : (pk : Int) % (k : Int) = 0 := by omega
        simp only at CF
        go_wp2_with fail
        refine CF.mono ?_
        rintro e w4 ⟨rfl, b4⟩
        clear CF
        have B4 : Hid (Below w3.heap.size w3 w4) := HB.out.trans (b4.mono HB.out.size)
        have BW4 : Hid (Below w.heap.size w w4) := HBW.out.trans (b4.mono HBW.out.size)
        have CS := Ro.sum_any _ X w4 (HSB.out w4 BW4.out)
        obtain ⟨ni, g4i⟩ := I3.out w4 B4.out
        have CW := weak_any w4 _ _ _ _ _ _ _ _ g4i (Ro.rs X) HRR.out
        rw [HWK.out] at CW
        clear g4i b4 HWK HRR HSB
        generalize Ro.rs X = kk at *
        go_wp2_with fail
        refine CS.mono ?_
        rintro e w5 ⟨rfl, hq5⟩
        replace hq5 := hq5.symm
        subst hq5
        clear CS
        go_wp2_with fail
        refine CW.mono ?_
        rintro e w5 ⟨rfl, hq5⟩
        replace hq5 := hq5.symm
        subst hq5
        clear CW
        go_wp2
        go_roundw
        case rel => exact ⟨j + 1, i + k, HE1.out.symm, by omega, by go_num, B4.out⟩
        case measure => simp [intOf]; omega
      · obtain rfl : j = q := by omega
        have hnl : ¬ i + k ≤ L := fun h => hlt (HDV.out j (by rw [e1]; exact h))
        have lt2 : ¬ (i : Int) + (k : Int) ≤ (L : Int) := by omega
        have ca := CA.out wr HBW.out
        have hiL : i ≤ 25600 := by rw [HI.out]; exact Nat.le_trans (Nat.mul_le_mul hq2 k2) (by omega)
        clear e1
        go_wp2_with fail
        refine ca.mono ?_
        rintro e w6 ⟨rfl, b6⟩
        have B6 : Hid (Below w.heap.size w w6) := HBW.out.trans (b6.mono HBW.out.size)
        clear ca b6
        go_wp2
        go_ret
        exact ⟨rfl, B6.out⟩

theorem contract (H : Type) (enc : TypeId × Value → H) (W : World) (base : Nat) (args : Array Value) (ds gs : List (DataW H)) (before : List MemPlace)
    (hval : ∀ (j : Nat) t v, Tryd.f6.params[j]? = some t → args[j]? = some v → Value.okWide Tryd.prog W .any base t v)
    (hW : DataW.Whole enc Tryd.prog Tryd.f6.params.toList Rows.blockWholeSpec.vars false W args.toList ds gs before) (hL : laidMetH Tryd.prog Rows.blockWholeRow.laid W)
    (hsz0 : (DataW.weightsEach Tryd.prog (Tryd.f6.params.toList ++ Rows.blockWholeSpec.plain.varTypes Tryd.prog) (ds ++ gs)).all (· ≤ reachBytes) = true) :
    Calls Tryd.prog 6 args W fun e W' => ∃ v, e = .returned v ∧ Rows.blockWholeSpec.post enc Tryd.prog Tryd.f6 false true false false W args v W' := by
  have hW' := hW
  obtain ⟨p, q, hA0, hV, rfl, hfz, hnd⟩ := hW
  have hA : DataW.TrodAll enc Tryd.prog W 0 (fun _ => true) true Tryd.f6.params.toList args.toList ds p := hA0
  rw [Tryd.params6] at hA hval hsz0
  obtain ⟨v0, vs0, d0, ds0, p0, q0, hargs, rfl, rfl, h0, r0⟩ := trodAll_cons hA
  obtain ⟨v1, vs1, d1, ds1, p1, q1, rfl, rfl, rfl, h1, r1⟩ := trodAll_cons r0
  obtain ⟨rfl, rfl, rfl⟩ := trodAll_nil r1
  obtain rfl : args = #[v0, v1] := by cases args; simp_all
  obtain ⟨rfl, rfl⟩ := trodVars_none hV
  have k0 := h0
  have lt0 : ∀ x ∈ p0, x.block < W.heap.size := by obtain ⟨m, hm⟩ := k0; exact DataW.trod_lt m _ _ _ hm
  obtain ⟨L0, w0⟩ := sl_in (hval 0 22 v0 rfl rfl) h0
  obtain ⟨a1, rfl, rfl, rfl, w1⟩ := open_int Tryd.underlying5 (hval 1 5 v1 rfl rfl) h1
  clear hA0
  refine (walk v0 L0 a1 W (ta_of hL) w0 w1).mono fun e W' ⟨he, bel⟩ => ?_
  subst he
  exact ⟨_, rfl, _, _, _, [], _, [], hW', trodAll_mk1 (shut_bool Tryd.underlying4 _), (trodAll_cons_mk (Below.trod laidOut (by kernel_rfl) (of_decide_eq_true (by kernel_rfl)) k0 bel lt0) (trodAll_cons_mk (shut_int Tryd.underlying5 w1) trodAll_mk0)), rfl, bel.frame _, fun h => by cases h⟩

theorem laid_met (os : Os) : laidMet Tryd.prog Rows.blockWholeRow.laid (({ World.holding Tryd.prog os ⟨#[], #[], []⟩ with heap := ((((World.holding Tryd.prog os ⟨#[], #[], []⟩).heap.modify 0 (fun
      | .cells _ t frozen => .cells shaFirst t frozen
      | o => o)).modify 1 (fun
      | .cells _ t frozen => .cells #[.int .i64 1, .int .i64 2, .int .i64 4, .int .i64 8] t frozen
      | o => o)).modify 2 (fun
      | .cells _ t frozen => .cells shaRounds t frozen
      | o => o)) } : World).forCall (fun _ _ => 0) ⟨#[], #[.slice none 0 0, .int .u8 0], []⟩).memory :=
  laidMet_of_run' 8 (by kernel_rfl) (by kernel_rfl)
theorem reads (os : Os) {H : Type} (enc : TypeId × Value → H) : ∃ places, DataW.whole enc Tryd.prog (({ World.holding Tryd.prog os ⟨#[], #[], []⟩ with heap := ((((World.holding Tryd.prog os ⟨#[], #[], []⟩).heap.modify 0 (fun
      | .cells _ t frozen => .cells shaFirst t frozen
      | o => o)).modify 1 (fun
      | .cells _ t frozen => .cells #[.int .i64 1, .int .i64 2, .int .i64 4, .int .i64 8] t frozen
      | o => o)).modify 2 (fun
      | .cells _ t frozen => .cells shaRounds t frozen
      | o => o)) } : World).forCall (fun _ _ => 0) ⟨#[], #[.slice none 0 0, .int .u8 0], []⟩).memory Tryd.f6.params.toList Rows.blockWholeSpec.vars false #[Value.slice none 0 0, .int .u8 0].toList 8 = some ([.nil, .lit (.int .u8 0)], [], places) :=
  ⟨[], by kernel_rfl⟩

set_option maxRecDepth 100000 in
theorem lifted (os : Os) (started : os.Started) (H : Type) (enc : TypeId × Value → H) (F : Stop.Interp) :
    ReturnsInHanded {} Tryd.checked os 6 .any ((OpenSpec.ofChange Rows.blockWholeSpec).preRow enc Tryd.prog Tryd.f6 Rows.blockWholeRow.domain false Rows.blockWholeRow.laid) (((OpenSpec.ofChange Rows.blockWholeSpec).at F).post enc Tryd.prog Tryd.f6 false true false false) := by
  obtain ⟨places, hx⟩ := reads os enc
  refine returnsInHanded_of_row (C := Tryd.checked) (s := OpenSpec.ofChange Rows.blockWholeSpec) own started (by kernel_rfl) Tryd.func6
    (witness_row_at (enc := enc) (C := Tryd.checked) false ({ World.holding Tryd.prog os ⟨#[], #[], []⟩ with heap := ((((World.holding Tryd.prog os ⟨#[], #[], []⟩).heap.modify 0 (fun
      | .cells _ t frozen => .cells shaFirst t frozen
      | o => o)).modify 1 (fun
      | .cells _ t frozen => .cells #[.int .i64 1, .int .i64 2, .int .i64 4, .int .i64 8] t frozen
      | o => o)).modify 2 (fun
      | .cells _ t frozen => .cells shaRounds t frozen
      | o => o)) } : World) #[.slice none 0 0, .int .u8 0] rfl (by kernel_rfl) (by kernel_rfl) (by kernel_rfl)
      (OpenSpec.preRow_of_cond 8 hx (by kernel_rfl) (fun k hk => by cases hk) (by kernel_rfl) (laid_met os))) ?_
  intro W base args ds gs before hval hW _ _ hsz hL _ _
  exact contract H enc W base args ds gs before hval hW hL hsz

theorem said : Rows.BlockWholeSaid :=
  OpenClaim.holds_of_cond 6 Tryd.f6 rfl rfl rfl rfl rfl rfl rfl ⟨rfl, rfl, rfl, rfl, rfl⟩ rfl rfl rfl rfl rfl (by kernel_rfl) Tryd.func6 (by kernel_rfl)
    (of_decide_eq_true (by kernel_rfl)) (by unfold Func.isWrapper; first | (rw [if_pos (by decide +kernel)]; kernel_rfl) | (rw [if_neg (by decide +kernel)]; exact ⟨rfl, rfl⟩))
    (fun os started H enc _ F => by rw [OpenClaim.pre_eq_preRow]; exact lifted os started H enc F)

theorem plain (f : FuncId) (fn : Func) (hf : Tryd.pinned.checked.prog.funcNamed "sumpter/sumpterlaw11.BlockWhole" = some f) (hfn : Tryd.pinned.checked.prog.funcs[f]? = some fn) :
    false = Tryd.pinned.checked.prog.looks [] ∧ ∀ (j : Nat) t, fn.params[j]? = some t → Tryd.pinned.checked.prog.wantsStandIn t = false := by
  obtain rfl : f = 6 := Option.some.inj ((show Tryd.prog.funcNamed "sumpter/sumpterlaw11.BlockWhole" = some 6 by kernel_rfl).symm.trans hf) |>.symm
  obtain rfl : fn = Tryd.f6 := (Option.some.inj (Tryd.func6.symm.trans hfn)).symm
  refine ⟨by kernel_rfl, fun j t ht => ?_⟩
  rw [Tryd.params6] at ht
  have hm : t ∈ [22, 5] := by simpa using Array.mem_of_getElem? ht
  have hall : ([22, 5].all fun u => !Tryd.prog.wantsStandIn u) = true := by kernel_rfl
  exact (show Tryd.prog.wantsStandIn t = false by simpa using List.all_eq_true.1 hall t hm)
end Go.Proofs.YtjiefndjgkhcjaaDoor.blockWhole

namespace Go.Proofs.YtjiefndjgkhcjaaDoor
/-- The card of BlockWhole. -/
theorem blockWhole_card : Rows.BlockWholeCardSaid :=
  Claim7.holds_tied_plain_at .later [] _ _ _ _ blockWhole.said (fun _ h => by cases h) (by kernel_rfl) (fun _ h => by cases h) blockWhole_row_tie rfl ⟨rfl, rfl⟩ (by kernel_rfl) rfl blockWhole.plain (by kernel_rfl)
#print axioms blockWhole_card
end Go.Proofs.YtjiefndjgkhcjaaDoor
