/-
  MatchSums: any sums at all (at most 60), in any size from 1 to 64, lead for any bytes (at most 160) to the operations that the document says; else the closed case alone is asked. It holds for every input of the row; the two tables of sha (first, rounds) hold what their declarations lay when the call begins.
-/
import Derived.Test.YtlhmpcmlpfffoaaDoorFr
import Derived.Test.YtlhmpcmlpfffoaaDoorRw
namespace Go.Proofs.YtlhmpcmlpfffoaaDoor.matchSums
open Go.ChangeShapes Go.WideShapes Go.ChangeAt Go.RowKit Go.Deep Go.ChangeMaps
set_option maxRecDepth 100000

set_option maxHeartbeats 8000000 in
theorem walk (z : Int) (v1 : Value) (l : List Sg) (v2 : Value) (b : List Int) (w : World) (hw : Ta w) (hz : (Lit.int .i64 z).wf = true) (hg : GS w v1 l) (h1 : SlX w v2 b) :
    Calls Tryd.prog 4 #[.int .i64 z, v1, v2] w fun e w' => e = .returned (.bool true) ∧ Below w.heap.size w w' := by
  have z0 := bounds_i64 hz
  have CA : Hid (∀ W, Below w.heap.size w W → Calls Tryd.prog 9 #[] W fun e w' => e = .returned (.bool true) ∧ Below W.heap.size W w') := fun W hb => awake_any W (hw.kept hb)
  obtain ⟨ga, gc, rfl, gl, gm, -⟩ := hg.shape
  have HG : Hid (GS w (.slice ga l.length gc) l) := hg
  obtain ⟨LS, hLS⟩ : ∃ LS, LS = l.length := ⟨_, rfl⟩
  have HLS : Hid (LS = l.length) := hLS
  rw [← hLS] at HG gl ⊢
  have bLS : (LS : Int) ≤ 9223372036854775807 := by unfold maxLen at gm; omega
  obtain ⟨a1, c1, rfl, hc1, hm1, hn1, -⟩ := id h1.1
  have H1 : Hid (SlX w (.slice a1 b.length c1) b) := h1
  obtain ⟨LB, hLB⟩ : ∃ LB, LB = b.length := ⟨_, rfl⟩
  have HLB : Hid (LB = b.length) := hLB
  rw [← hLB] at H1 hc1 ⊢
  have bLB : (LB : Int) ≤ 9223372036854775807 := by unfold maxLen at hm1; omega
  have HW : Hid (Ta w) := hw
  clear h1 hz hw hg hLS hLB gm hm1 hn1
  by_cases q1 : z < 1
  · go_enter Tryd.func4, Tryd.ntmps4
    have ca := CA.out w (Below.refl w.heap.size w)
    go_wp2_with fail
    refine ca.mono ?_
    rintro e wz ⟨rfl, bz⟩
    have BZ : Hid (Below w.heap.size w wz) := ((Below.refl w.heap.size w)).trans (bz.mono ((Below.refl w.heap.size w)).size)
    clear ca bz
    go_wp2
    go_ret
    exact ⟨rfl, BZ.out⟩
  · by_cases q2 : 64 < z
    · go_enter Tryd.func4, Tryd.ntmps4
      have ca := CA.out w (Below.refl w.heap.size w)
      go_wp2_with fail
      refine ca.mono ?_
      rintro e wz ⟨rfl, bz⟩
      have BZ : Hid (Below w.heap.size w wz) := ((Below.refl w.heap.size w)).trans (bz.mono ((Below.refl w.heap.size w)).size)
      clear ca bz
      go_wp2
      go_ret
      exact ⟨rfl, BZ.out⟩
    · by_cases q3 : 60 < LS
      · have q3' : 60 < (LS : Int) := by omega
        go_enter Tryd.func4, Tryd.ntmps4
        have ca := CA.out w (Below.refl w.heap.size w)
        go_wp2_with fail
        refine ca.mono ?_
        rintro e wz ⟨rfl, bz⟩
        have BZ : Hid (Below w.heap.size w wz) := ((Below.refl w.heap.size w)).trans (bz.mono ((Below.refl w.heap.size w)).size)
        clear ca bz
        go_wp2
        go_ret
        exact ⟨rfl, BZ.out⟩
      · have q3' : ¬ 60 < (LS : Int) := by omega
        by_cases q4 : 160 < LB
        · have q4' : 160 < (LB : Int) := by omega
          go_enter Tryd.func4, Tryd.ntmps4
          have ca := CA.out w (Below.refl w.heap.size w)
          go_wp2_with fail
          refine ca.mono ?_
          rintro e wz ⟨rfl, bz⟩
          have BZ : Hid (Below w.heap.size w wz) := ((Below.refl w.heap.size w)).trans (bz.mono ((Below.refl w.heap.size w)).size)
          clear ca bz
          go_wp2
          go_ret
          exact ⟨rfl, BZ.out⟩
        · have q4' : ¬ 160 < (LB : Int) := by omega
          obtain ⟨k, rfl⟩ : ∃ k : Nat, z = k := ⟨z.toNat, by omega⟩
          have hch : chk (k : Int) ((k : Int) * (LS : Int)) LS = 0 := by
            have hm : (k : Int) * (LS : Int) ≤ 64 * 60 := Int.mul_le_mul (by omega) (by omega) (by omega) (by omega)
            have hm0 : (0 : Int) ≤ (k : Int) * (LS : Int) := Int.mul_nonneg (by omega) (by omega)
            have e : ((k : Int) * (LS : Int)).toNat = k * LS := by rw [← Int.natCast_mul, Int.toNat_natCast]
            have e2 : k * LS / k = LS := Nat.mul_div_cancel_left LS (by omega)
            unfold chk
            rw [if_neg (by omega), if_neg (by omega), e, Int.toNat_natCast, e2, if_neg (by omega)]
          have CN := new_any (k : Int) ((k : Int) * (LS : Int)) _ l w HG.out (by rw [← HLS.out]; omega)
          rw [← HLS.out, hch] at CN
          have HNX : Hid (∀ x v, NX w x v k ((k : Int) * (LS : Int)) l → ∃ g m, v = .pointer (some ⟨g, 0, none⟩) ∧ IX x w.heap.size g m k (LS : Int) l) := fun x v hx => by
            unfold NX at hx
            rw [← HLS.out, if_pos hch] at hx
            exact hx
          have hmul : wrap64 ((k : Int) * (LS : Int)) = (k : Int) * (LS : Int) := by
            have hm : (k : Int) * (LS : Int) ≤ 64 * 60 := Int.mul_le_mul (by omega) (by omega) (by omega) (by omega)
            have hm0 : (0 : Int) ≤ (k : Int) * (LS : Int) := Int.mul_nonneg (by omega) (by omega)
            generalize (k : Int) * (LS : Int) = P at *
            unfold wrap64
            omega
          have mb1 : -9223372036854775808 ≤ (k : Int) * (LS : Int) ∧ (k : Int) * (LS : Int) ≤ 9223372036854775807 := by
            have hm : (k : Int) * (LS : Int) ≤ 64 * 60 := Int.mul_le_mul (by omega) (by omega) (by omega) (by omega)
            have hm0 : (0 : Int) ≤ (k : Int) * (LS : Int) := Int.mul_nonneg (by omega) (by omega)
            omega
          have B0 : Hid (Below w.heap.size w w) := Below.refl _ _
          clear hch z0
          generalize hP : (k : Int) * (LS : Int) = P at *
          obtain ⟨mb1, mb2⟩ := mb1
          go_enter Tryd.func4, Tryd.ntmps4
          go_wp2_with fail
          refine CN.mono ?_
          rintro e w1 ⟨u1, rfl, nx, b1⟩
          clear CN
          have B1 : Hid (Below w.heap.size w w1) := B0.out.trans (b1.mono B0.out.size)
          obtain ⟨g, m, rfl, ix⟩ := HNX.out w1 u1 nx
          have C3 := search_any w1 w.heap.size g m k LS l ix _ b (H1.out.kept B1.out) (HW.out.kept B1.out) (by omega) (by omega) (by rw [← HLS.out]; omega) (by rw [← HLB.out]; omega)
          clear ix nx HNX b1
          go_wp2_with fail
          refine C3.mono ?_
          rintro e w3 ⟨v3, rfl, o3, b3⟩
          clear C3
          have B3 : Hid (Below w.heap.size w w3) := B1.out.trans (b3.mono B1.out.size)
          have C4 := rsearch_any w3 k _ l (HG.out.kept B3.out) _ b (H1.out.kept B3.out) (by omega) (by omega) (by rw [← HLS.out]; omega) (by rw [← HLB.out]; omega)
          have HRL : Hid ((srch (bfnd l k) k b 0 0 []).length ≤ 100000) := by
            unfold Hid
            have := srch_len (bfnd l k) k b (by omega)
            rw [← HLB.out] at this
            omega
          have O3 : Hid (∀ x, Below w3.heap.size w3 x → XS x v3 (srch (bfnd l k) k b 0 0 [])) := fun x hx => (o3.below hx).xs
          obtain ⟨ra3, rc3, rfl, -⟩ := o3.shape
          clear o3 b3
          generalize srch (bfnd l k) k b 0 0 [] = R at *
          go_wp2_with fail
          refine C4.mono ?_
          rintro e w4 ⟨v4, rfl, o4, b4⟩
          clear C4
          have B4 : Hid (Below w.heap.size w w4) := B3.out.trans (b4.mono B3.out.size)
          have C5 := rsame_any _ _ R R w4 (O3.out w4 b4) o4.xs HRL.out HRL.out
          rw [saX_self] at C5
          obtain ⟨ra4, rc4, rfl, -⟩ := o4.shape
          clear o4 b4 O3
          generalize R.length = RL at *
          go_wp2_with fail
          refine C5.mono ?_
          rintro e w5 ⟨rfl, b5⟩
          clear C5
          have B5 : Hid (Below w.heap.size w w5) := B4.out.trans (b5.mono B4.out.size)
          clear b5
          have ca := CA.out w5 B5.out
          go_wp2_with fail
          refine ca.mono ?_
          rintro e wz ⟨rfl, bz⟩
          have BZ : Hid (Below w.heap.size w wz) := (B5.out).trans (bz.mono (B5.out).size)
          clear ca bz
          go_wp2
          go_ret
          exact ⟨rfl, BZ.out⟩

theorem contract (H : Type) (enc : TypeId × Value → H) (W : World) (base : Nat) (args : Array Value) (ds gs : List (DataW H)) (before : List MemPlace)
    (hval : ∀ (j : Nat) t v, Tryd.f4.params[j]? = some t → args[j]? = some v → Value.okWide Tryd.prog W .any base t v)
    (hW : DataW.Whole enc Tryd.prog Tryd.f4.params.toList Rows.matchSumsSpec.vars false W args.toList ds gs before) (hL : laidMetH Tryd.prog Rows.matchSumsRow.laid W)
    (hsz0 : (DataW.weightsEach Tryd.prog (Tryd.f4.params.toList ++ Rows.matchSumsSpec.plain.varTypes Tryd.prog) (ds ++ gs)).all (· ≤ reachBytes) = true) :
    Calls Tryd.prog 4 args W fun e W' => ∃ v, e = .returned v ∧ Rows.matchSumsSpec.post enc Tryd.prog Tryd.f4 false true false false W args v W' := by
  have hW' := hW
  obtain ⟨p, q, hA0, hV, rfl, hfz, hnd⟩ := hW
  have hA : DataW.TrodAll enc Tryd.prog W 0 (fun _ => true) true Tryd.f4.params.toList args.toList ds p := hA0
  rw [Tryd.params4] at hA hval hsz0
  obtain ⟨v0, vs0, d0, ds0, p0, q0, hargs, rfl, rfl, h0, r0⟩ := trodAll_cons hA
  obtain ⟨v1, vs1, d1, ds1, p1, q1, rfl, rfl, rfl, h1, r1⟩ := trodAll_cons r0
  obtain ⟨v2, vs2, d2, ds2, p2, q2, rfl, rfl, rfl, h2, r2⟩ := trodAll_cons r1
  obtain ⟨rfl, rfl, rfl⟩ := trodAll_nil r2
  obtain rfl : args = #[v0, v1, v2] := by cases args; simp_all
  obtain ⟨rfl, rfl⟩ := trodVars_none hV
  obtain ⟨a0, rfl, rfl, rfl, w0⟩ := open_int Tryd.underlying3 (hval 0 3 v0 rfl rfl) h0
  have k1 := h1
  have lt1 : ∀ x ∈ p1, x.block < W.heap.size := by obtain ⟨m, hm⟩ := k1; exact DataW.trod_lt m _ _ _ hm
  obtain ⟨L1, w1⟩ := sigs_in (hval 1 27 v1 rfl rfl) h1
  have k2 := h2
  have lt2 : ∀ x ∈ p2, x.block < W.heap.size := by obtain ⟨m, hm⟩ := k2; exact DataW.trod_lt m _ _ _ hm
  obtain ⟨L2, w2⟩ := slx_in (hval 2 22 v2 rfl rfl) h2
  clear hA0
  refine (walk a0 v1 L1 v2 L2 W (ta_of hL) w0 w1 w2).mono fun e W' ⟨he, bel⟩ => ?_
  subst he
  exact ⟨_, rfl, _, _, _, [], _, [], hW', trodAll_mk1 (shut_bool Tryd.underlying4 _), (trodAll_cons_mk (shut_int Tryd.underlying3 w0) (trodAll_cons_mk (Below.trod laidOut (by kernel_rfl) (of_decide_eq_true (by kernel_rfl)) k1 bel lt1) (trodAll_cons_mk (Below.trod laidOut (by kernel_rfl) (of_decide_eq_true (by kernel_rfl)) k2 bel lt2) trodAll_mk0))), rfl, bel.frame _, fun h => by cases h⟩

theorem laid_met (os : Os) : laidMet Tryd.prog Rows.matchSumsRow.laid (({ World.holding Tryd.prog os ⟨#[], #[], []⟩ with heap := (((World.holding Tryd.prog os ⟨#[], #[], []⟩).heap.modify 0 (fun
      | .cells _ t frozen => .cells shaFirst t frozen
      | o => o)).modify 1 (fun
      | .cells _ t frozen => .cells shaRounds t frozen
      | o => o)) } : World).forCall (fun _ _ => 0) ⟨#[], #[.int .i64 0, .slice none 0 0, .slice none 0 0], []⟩).memory :=
  laidMet_of_run' 8 (by kernel_rfl) (by kernel_rfl)
theorem reads (os : Os) {H : Type} (enc : TypeId × Value → H) : ∃ places, DataW.whole enc Tryd.prog (({ World.holding Tryd.prog os ⟨#[], #[], []⟩ with heap := (((World.holding Tryd.prog os ⟨#[], #[], []⟩).heap.modify 0 (fun
      | .cells _ t frozen => .cells shaFirst t frozen
      | o => o)).modify 1 (fun
      | .cells _ t frozen => .cells shaRounds t frozen
      | o => o)) } : World).forCall (fun _ _ => 0) ⟨#[], #[.int .i64 0, .slice none 0 0, .slice none 0 0], []⟩).memory Tryd.f4.params.toList Rows.matchSumsSpec.vars false #[Value.int .i64 0, .slice none 0 0, .slice none 0 0].toList 8 = some ([.lit (.int .i64 0), .nil, .nil], [], places) :=
  ⟨[], by kernel_rfl⟩

set_option maxRecDepth 100000 in
theorem lifted (os : Os) (started : os.Started) (H : Type) (enc : TypeId × Value → H) (F : Stop.Interp) :
    ReturnsInHanded {} Tryd.checked os 4 .any ((OpenSpec.ofChange Rows.matchSumsSpec).preRow enc Tryd.prog Tryd.f4 Rows.matchSumsRow.domain false Rows.matchSumsRow.laid) (((OpenSpec.ofChange Rows.matchSumsSpec).at F).post enc Tryd.prog Tryd.f4 false true false false) := by
  obtain ⟨places, hx⟩ := reads os enc
  refine returnsInHanded_of_row (C := Tryd.checked) (s := OpenSpec.ofChange Rows.matchSumsSpec) own started (by kernel_rfl) Tryd.func4
    (witness_row_at (enc := enc) (C := Tryd.checked) false ({ World.holding Tryd.prog os ⟨#[], #[], []⟩ with heap := (((World.holding Tryd.prog os ⟨#[], #[], []⟩).heap.modify 0 (fun
      | .cells _ t frozen => .cells shaFirst t frozen
      | o => o)).modify 1 (fun
      | .cells _ t frozen => .cells shaRounds t frozen
      | o => o)) } : World) #[.int .i64 0, .slice none 0 0, .slice none 0 0] rfl (by kernel_rfl) (by kernel_rfl) (by kernel_rfl)
      (OpenSpec.preRow_of_cond 8 hx (by kernel_rfl) (fun k hk => by cases hk) (by kernel_rfl) (laid_met os))) ?_
  intro W base args ds gs before hval hW _ _ hsz hL _ _
  exact contract H enc W base args ds gs before hval hW hL hsz

theorem said : Rows.MatchSumsSaid :=
  OpenClaim.holds_of_cond 4 Tryd.f4 rfl rfl rfl rfl rfl rfl rfl ⟨rfl, rfl, rfl, rfl, rfl⟩ rfl rfl rfl rfl rfl (by kernel_rfl) Tryd.func4 (by kernel_rfl)
    (of_decide_eq_true (by kernel_rfl)) (by unfold Func.isWrapper; first | (rw [if_pos (by decide +kernel)]; kernel_rfl) | (rw [if_neg (by decide +kernel)]; exact ⟨rfl, rfl⟩))
    (fun os started H enc _ F => by rw [OpenClaim.pre_eq_preRow]; exact lifted os started H enc F)

theorem plain (f : FuncId) (fn : Func) (hf : Tryd.pinned.checked.prog.funcNamed "sumpter/sumpterlaw12.MatchSums" = some f) (hfn : Tryd.pinned.checked.prog.funcs[f]? = some fn) :
    false = Tryd.pinned.checked.prog.looks [] ∧ ∀ (j : Nat) t, fn.params[j]? = some t → Tryd.pinned.checked.prog.wantsStandIn t = false := by
  obtain rfl : f = 4 := Option.some.inj ((show Tryd.prog.funcNamed "sumpter/sumpterlaw12.MatchSums" = some 4 by kernel_rfl).symm.trans hf) |>.symm
  obtain rfl : fn = Tryd.f4 := (Option.some.inj (Tryd.func4.symm.trans hfn)).symm
  refine ⟨by kernel_rfl, fun j t ht => ?_⟩
  rw [Tryd.params4] at ht
  have hm : t ∈ [3, 27, 22] := by simpa using Array.mem_of_getElem? ht
  have hall : ([3, 27, 22].all fun u => !Tryd.prog.wantsStandIn u) = true := by kernel_rfl
  exact (show Tryd.prog.wantsStandIn t = false by simpa using List.all_eq_true.1 hall t hm)
end Go.Proofs.YtlhmpcmlpfffoaaDoor.matchSums

namespace Go.Proofs.YtlhmpcmlpfffoaaDoor
/-- The card of MatchSums. -/
theorem matchSums_card : Rows.MatchSumsCardSaid :=
  Claim7.holds_tied_plain_at .later [] _ _ _ _ matchSums.said (fun _ h => by cases h) (by kernel_rfl) (fun _ h => by cases h) matchSums_row_tie rfl ⟨rfl, rfl⟩ (by kernel_rfl) rfl matchSums.plain (by kernel_rfl)
#print axioms matchSums_card
end Go.Proofs.YtlhmpcmlpfffoaaDoor
