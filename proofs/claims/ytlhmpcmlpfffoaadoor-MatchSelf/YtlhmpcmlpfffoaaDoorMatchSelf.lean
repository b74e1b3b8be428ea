/-
  MatchSelf: a file whose size is whole blocks is, of itself, copies alone, as many bytes as it has; of an empty one it is bytes alone; files of at most 400 bytes, blocks of 1 to 64, else the closed case alone is asked. It holds for every input of the row; the two tables of sha (first, rounds) hold what their declarations lay when the call begins.
-/
import Derived.Test.YtlhmpcmlpfffoaaDoorFr
import Derived.Test.YtlhmpcmlpfffoaaDoorXq
namespace Go.Proofs.YtlhmpcmlpfffoaaDoor.matchSelf
open Go.ChangeShapes Go.WideShapes Go.ChangeAt Go.RowKit Go.Deep Go.ChangeMaps
set_option maxRecDepth 100000

set_option maxHeartbeats 8000000 in
theorem walk (v0 : Value) (b : List Int) (s : Int) (w : World) (hw : Ta w) (h0 : SlX w v0 b) (hs : (Lit.int .u8 s).wf = true) :
    Calls Tryd.prog 7 #[v0, .int .u8 s] w fun e w' => e = .returned (.bool true) ∧ Below w.heap.size w w' := by
  have s1 := bounds_u8 hs
  obtain ⟨k, hk⟩ : ∃ k : Nat, (1 : Int) + s % 64 = k := ⟨(1 + s % 64).toNat, by omega⟩
  have k1 : 1 ≤ k := by omega
  have k2 : k ≤ 64 := by omega
  have ht : Int.tmod s 64 = s % 64 := Int.tmod_eq_emod_of_nonneg s1.1
  have CA : Hid (∀ W, Below w.heap.size w W → Calls Tryd.prog 9 #[] W fun e w' => e = .returned (.bool true) ∧ Below W.heap.size W w') := fun W hb => awake_any W (hw.kept hb)
  obtain ⟨a0, c0, rfl, hc0, hm0, hn0, -⟩ := id h0.1
  have H0 : Hid (SlX w (.slice a0 b.length c0) b) := h0
  obtain ⟨LB, hLB⟩ : ∃ LB, LB = b.length := ⟨_, rfl⟩
  have HLB : Hid (LB = b.length) := hLB
  rw [← hLB] at H0 hc0 ⊢
  have bLB : (LB : Int) ≤ 9223372036854775807 := by unfold maxLen at hm0; omega
  have HW : Hid (Ta w) := hw
  clear h0 hs hw hLB hm0 hn0
  by_cases h4 : 400 < LB
  · have h5 : 400 < (LB : Int) := by omega
    go_enter Tryd.func7, Tryd.ntmps7
    have ca := CA.out w (Below.refl w.heap.size w)
    go_wp2_with fail
    refine ca.mono ?_
    rintro e wz ⟨rfl, bz⟩
    have BZ : Hid (Below w.heap.size w wz) := ((Below.refl w.heap.size w)).trans (bz.mono ((Below.refl w.heap.size w)).size)
    clear ca bz
    go_wp2
    go_ret
    exact ⟨rfl, BZ.out⟩
  · have h5 : ¬ 400 < (LB : Int) := by omega
    have g3 : ¬ (k : Int) = 0 := by omega
    have g4 : Int.tmod (LB : Int) (k : Int) = ((LB % k : Nat) : Int) := (Int.ofNat_tmod LB k).symm
    have g4' : (LB : Int) % (k : Int) = ((LB % k : Nat) : Int) := (Int.natCast_emod LB k).symm
    have g5 : LB % k ≤ LB := Nat.mod_le LB k
    obtain ⟨M, hM⟩ : ∃ M, M = LB - LB % k := ⟨_, rfl⟩
    have HM : Hid (M % k = 0) := by
      unfold Hid
      have hd := Nat.div_add_mod LB k
      rw [hM, show LB - LB % k = k * (LB / k) by omega]
      exact Nat.mul_mod_right _ _
    have g6 : (LB : Int) - ((LB % k : Nat) : Int) = (M : Int) := by omega
    have g7 : M ≤ LB := by omega
    have h0m : SlX w (.slice a0 M c0) (b.take M) := ⟨H0.out.1.take M g7, fun x n c e hc => H0.out.2 x LB c (by cases e; rfl) hc⟩
    have HLM : Hid ((b.take M).length = M) := by unfold Hid; rw [List.length_take, ← HLB.out]; omega
    have S0 : Hid (SlX w (.slice a0 M c0) (b.take M)) := h0m
    clear hM h0m H0 HLB
    generalize b.take M = X at *
    generalize LB % k = r at *
    have C1 := index_any _ X k w S0.out.1 HW.out (by omega) (by omega) (by rw [HLM.out]; omega)
    have HSN : Hid ((sums X k).length ≤ 4096) := by unfold Hid; rw [sums_len, HLM.out]; have := Nat.div_le_self M k; omega
    have HSF := srch_self X k (by omega) (by rw [HLM.out]; exact HM.out)
    have HRN : Hid (srch (bfnd [] (k : Int)) k X 0 0 [] = whl X) := srch_none _ k X (by omega) (bfnd_nil _)
    have HRL : Hid ((srch (bfnd (sums X k) k) k X 0 0 []).length ≤ 100000) := by
      unfold Hid
      have := srch_len (bfnd (sums X k) k) k X (by omega)
      rw [HLM.out] at this
      omega
    have HNB : Hid (Nb (srch (bfnd (sums X k) k) k X 0 0 [])) := srch_nb (sums X k) k X (by omega) (by omega) HSN.out (by rw [HLM.out]; omega)
    have HWL : Hid ((whl X).length ≤ 100000) := by unfold Hid; have := (whl_len X).2; omega
    rw [HLM.out] at HSF
    obtain ⟨sf1, sf2⟩ := HSF
    have SF1 : Hid (cpd (srch (bfnd (sums X k) k) k X 0 0 []) = (M : Int)) := sf1
    have SF2 : Hid (lit (srch (bfnd (sums X k) k) k X 0 0 []) = 0) := sf2
    have m1 : (0 : Int) ≤ (M : Int) := by omega
    have m2 : (M : Int) ≤ (c0 : Int) := by omega
    have B0 : Hid (Below w.heap.size w w) := Below.refl _ _
    clear sf1 sf2
    go_enter Tryd.func7, Tryd.ntmps7
    go_wp2_with fail
    refine C1.mono ?_
    rintro e w1 ⟨B, g, m, N, rfl, ix, b1⟩
    clear C1
    have B1 : Hid (Below w.heap.size w w1) := B0.out.trans (b1.mono B0.out.size)
    have C2 := index_any _ [] k w1 (Sl.none w1) (HW.out.kept B1.out) (by omega) (by omega) (Nat.zero_le _)
    rw [sums_nil] at C2
    have I1 : Hid (∀ x, Below w1.heap.size w1 x → IX x B g m k N (sums X k)) := fun x hx => ix.kept hx
    clear ix b1 m1 m2
    go_wp2_with fail
    refine C2.mono ?_
    rintro e w2 ⟨B', g', m', N', rfl, iy, b2⟩
    clear C2
    have B2 : Hid (Below w.heap.size w w2) := B1.out.trans (b2.mono B1.out.size)
    have I2 : Hid (∀ x, Below w2.heap.size w2 x → IX x B' g' m' k N' []) := fun x hx => iy.kept hx
    have C3 := search_any w2 B g m k N (sums X k) (I1.out w2 b2) _ X (S0.out.kept B2.out) (HW.out.kept B2.out) (by omega) (by omega) HSN.out (by rw [HLM.out]; omega)
    clear iy b2 I1
    go_wp2_with fail
    refine C3.mono ?_
    rintro e w3 ⟨v3, rfl, o3, b3⟩
    clear C3
    have B3 : Hid (Below w.heap.size w w3) := B2.out.trans (b3.mono B2.out.size)
    have O3 : Hid (∀ x, Below w3.heap.size w3 x → XS x v3 (srch (bfnd (sums X k) k) k X 0 0 [])) := fun x hx => (o3.below hx).xs
    have B23 : Hid (Below w2.heap.size w2 w3) := b3
    obtain ⟨ra3, rc3, rfl, -⟩ := o3.shape
    clear o3 b3
    generalize srch (bfnd (sums X k) k) k X 0 0 [] = R at *
    have C4 := copied_any _ R w3 (O3.out w3 (Below.refl _ _)) HRL.out HNB.out
    rw [SF1.out] at C4
    generalize hRn : R.length = RL at *
    go_wp2_with fail
    refine C4.mono ?_
    rintro e w4 ⟨rfl, b4⟩
    clear C4
    have B4 : Hid (Below w.heap.size w w4) := B3.out.trans (b4.mono B3.out.size)
    have B34 : Hid (Below w3.heap.size w3 w4) := b4
    have C5 := literal_any _ R w4 (O3.out w4 b4) (by rw [hRn]; exact HRL.out) (by rw [SF2.out]; omega)
    rw [SF2.out] at C5
    have t0 : ((M : Int) == (M : Int)) = true := by simp
    clear b4 hRn
    go_wp2_with fail
    refine C5.mono ?_
    rintro e w5 ⟨rfl, b5⟩
    clear C5
    have B5 : Hid (Below w.heap.size w w5) := B4.out.trans (b5.mono B4.out.size)
    have B25 : Hid (Below w2.heap.size w2 w5) := (B23.out.trans (B34.out.mono B23.out.size)).trans (b5.mono (B23.out.trans (B34.out.mono B23.out.size)).size)
    have C6 := search_any w5 B' g' m' k N' [] (I2.out w5 B25.out) _ X (S0.out.kept B5.out) (HW.out.kept B5.out) (by omega) (by omega) (Nat.zero_le _) (by rw [HLM.out]; omega)
    rw [HRN.out] at C6
    clear b5 I2 O3 B23 B34 B25
    go_wp2_with fail
    refine C6.mono ?_
    rintro e w6 ⟨v6, rfl, o6, b6⟩
    clear C6
    have B6 : Hid (Below w.heap.size w w6) := B5.out.trans (b6.mono B5.out.size)
    have C7 := whole_any _ X w6 (S0.out.1.kept B6.out) (by rw [HLM.out]; omega)
    have O6 : Hid (∀ x, Below w6.heap.size w6 x → XS x v6 (whl X)) := fun x hx => (o6.below hx).xs
    obtain ⟨ra6, rc6, rfl, -⟩ := o6.shape
    clear o6 b6
    generalize whl X = WX at *
    go_wp2_with fail
    refine C7.mono ?_
    rintro e w7 ⟨v7, rfl, o7, b7⟩
    clear C7
    have B7 : Hid (Below w.heap.size w w7) := B6.out.trans (b7.mono B6.out.size)
    have C8 := same_any _ _ WX WX w7 (O6.out w7 b7) o7.xs HWL.out HWL.out
    rw [saX_self] at C8
    obtain ⟨ra7, rc7, rfl, -⟩ := o7.shape
    clear o7 b7 O6
    generalize WX.length = WN at *
    go_wp2_with fail
    refine C8.mono ?_
    rintro e w8 ⟨rfl, b8⟩
    clear C8
    have B8 : Hid (Below w.heap.size w w8) := B7.out.trans (b8.mono B7.out.size)
    clear b8
    have ca := CA.out w8 B8.out
    go_wp2_with fail
    refine ca.mono ?_
    rintro e wz ⟨rfl, bz⟩
    have BZ : Hid (Below w.heap.size w wz) := (B8.out).trans (bz.mono (B8.out).size)
    clear ca bz
    go_wp2
    go_ret
    exact ⟨rfl, BZ.out⟩

theorem contract (H : Type) (enc : TypeId × Value → H) (W : World) (base : Nat) (args : Array Value) (ds gs : List (DataW H)) (before : List MemPlace)
    (hval : ∀ (j : Nat) t v, Tryd.f7.params[j]? = some t → args[j]? = some v → Value.okWide Tryd.prog W .any base t v)
    (hW : DataW.Whole enc Tryd.prog Tryd.f7.params.toList Rows.matchSelfSpec.vars false W args.toList ds gs before) (hL : laidMetH Tryd.prog Rows.matchSelfRow.laid W)
    (hsz0 : (DataW.weightsEach Tryd.prog (Tryd.f7.params.toList ++ Rows.matchSelfSpec.plain.varTypes Tryd.prog) (ds ++ gs)).all (· ≤ reachBytes) = true) :
    Calls Tryd.prog 7 args W fun e W' => ∃ v, e = .returned v ∧ Rows.matchSelfSpec.post enc Tryd.prog Tryd.f7 false true false false W args v W' := by
  have hW' := hW
  obtain ⟨p, q, hA0, hV, rfl, hfz, hnd⟩ := hW
  have hA : DataW.TrodAll enc Tryd.prog W 0 (fun _ => true) true Tryd.f7.params.toList args.toList ds p := hA0
  rw [Tryd.params7] at hA hval hsz0
  obtain ⟨v0, vs0, d0, ds0, p0, q0, hargs, rfl, rfl, h0, r0⟩ := trodAll_cons hA
  obtain ⟨v1, vs1, d1, ds1, p1, q1, rfl, rfl, rfl, h1, r1⟩ := trodAll_cons r0
  obtain ⟨rfl, rfl, rfl⟩ := trodAll_nil r1
  obtain rfl : args = #[v0, v1] := by cases args; simp_all
  obtain ⟨rfl, rfl⟩ := trodVars_none hV
  have k0 := h0
  have lt0 : ∀ x ∈ p0, x.block < W.heap.size := by obtain ⟨m, hm⟩ := k0; exact DataW.trod_lt m _ _ _ hm
  obtain ⟨L0, w0⟩ := slx_in (hval 0 22 v0 rfl rfl) h0
  obtain ⟨a1, rfl, rfl, rfl, w1⟩ := open_int Tryd.underlying5 (hval 1 5 v1 rfl rfl) h1
  clear hA0
  refine (walk v0 L0 a1 W (ta_of hL) w0 w1).mono fun e W' ⟨he, bel⟩ => ?_
  subst he
  exact ⟨_, rfl, _, _, _, [], _, [], hW', trodAll_mk1 (shut_bool Tryd.underlying4 _), (trodAll_cons_mk (Below.trod laidOut (by kernel_rfl) (of_decide_eq_true (by kernel_rfl)) k0 bel lt0) (trodAll_cons_mk (shut_int Tryd.underlying5 w1) trodAll_mk0)), rfl, bel.frame _, fun h => by cases h⟩

theorem laid_met (os : Os) : laidMet Tryd.prog Rows.matchSelfRow.laid (({ World.holding Tryd.prog os ⟨#[], #[], []⟩ with heap := (((World.holding Tryd.prog os ⟨#[], #[], []⟩).heap.modify 0 (fun
      | .cells _ t frozen => .cells shaFirst t frozen
      | o => o)).modify 1 (fun
      | .cells _ t frozen => .cells shaRounds t frozen
      | o => o)) } : World).forCall (fun _ _ => 0) ⟨#[], #[.slice none 0 0, .int .u8 0], []⟩).memory :=
  laidMet_of_run' 8 (by kernel_rfl) (by kernel_rfl)
theorem reads (os : Os) {H : Type} (enc : TypeId × Value → H) : ∃ places, DataW.whole enc Tryd.prog (({ World.holding Tryd.prog os ⟨#[], #[], []⟩ with heap := (((World.holding Tryd.prog os ⟨#[], #[], []⟩).heap.modify 0 (fun
      | .cells _ t frozen => .cells shaFirst t frozen
      | o => o)).modify 1 (fun
      | .cells _ t frozen => .cells shaRounds t frozen
      | o => o)) } : World).forCall (fun _ _ => 0) ⟨#[], #[.slice none 0 0, .int .u8 0], []⟩).memory Tryd.f7.params.toList Rows.matchSelfSpec.vars false #[Value.slice none 0 0, .int .u8 0].toList 8 = some ([.nil, .lit (.int .u8 0)], [], places) :=
  ⟨[], by kernel_rfl⟩

set_option maxRecDepth 100000 in
theorem lifted (os : Os) (started : os.Started) (H : Type) (enc : TypeId × Value → H) (F : Stop.Interp) :
    ReturnsInHanded {} Tryd.checked os 7 .any ((OpenSpec.ofChange Rows.matchSelfSpec).preRow enc Tryd.prog Tryd.f7 Rows.matchSelfRow.domain false Rows.matchSelfRow.laid) (((OpenSpec.ofChange Rows.matchSelfSpec).at F).post enc Tryd.prog Tryd.f7 false true false false) := by
  obtain ⟨places, hx⟩ := reads os enc
  refine returnsInHanded_of_row (C := Tryd.checked) (s := OpenSpec.ofChange Rows.matchSelfSpec) own started (by kernel_rfl) Tryd.func7
    (witness_row_at (enc := enc) (C := Tryd.checked) false ({ World.holding Tryd.prog os ⟨#[], #[], []⟩ with heap := (((World.holding Tryd.prog os ⟨#[], #[], []⟩).heap.modify 0 (fun
      | .cells _ t frozen => .cells shaFirst t frozen
      | o => o)).modify 1 (fun
      | .cells _ t frozen => .cells shaRounds t frozen
      | o => o)) } : World) #[.slice none 0 0, .int .u8 0] rfl (by kernel_rfl) (by kernel_rfl) (by kernel_rfl)
      (OpenSpec.preRow_of_cond 8 hx (by kernel_rfl) (fun k hk => by cases hk) (by kernel_rfl) (laid_met os))) ?_
  intro W base args ds gs before hval hW _ _ hsz hL _ _
  exact contract H enc W base args ds gs before hval hW hL hsz

theorem said : Rows.MatchSelfSaid :=
  OpenClaim.holds_of_cond 7 Tryd.f7 rfl rfl rfl rfl rfl rfl rfl ⟨rfl, rfl, rfl, rfl, rfl⟩ rfl rfl rfl rfl rfl (by kernel_rfl) Tryd.func7 (by kernel_rfl)
    (of_decide_eq_true (by kernel_rfl)) (by unfold Func.isWrapper; first | (rw [if_pos (by decide +kernel)]; kernel_rfl) | (rw [if_neg (by decide +kernel)]; exact ⟨rfl, rfl⟩))
    (fun os started H enc _ F => by rw [OpenClaim.pre_eq_preRow]; exact lifted os started H enc F)

theorem plain (f : FuncId) (fn : Func) (hf : Tryd.pinned.checked.prog.funcNamed "sumpter/sumpterlaw12.MatchSelf" = some f) (hfn : Tryd.pinned.checked.prog.funcs[f]? = some fn) :
    false = Tryd.pinned.checked.prog.looks [] ∧ ∀ (j : Nat) t, fn.params[j]? = some t → Tryd.pinned.checked.prog.wantsStandIn t = false := by
  obtain rfl : f = 7 := Option.some.inj ((show Tryd.prog.funcNamed "sumpter/sumpterlaw12.MatchSelf" = some 7 by kernel_rfl).symm.trans hf) |>.symm
  obtain rfl : fn = Tryd.f7 := (Option.some.inj (Tryd.func7.symm.trans hfn)).symm
  refine ⟨by kernel_rfl, fun j t ht => ?_⟩
  rw [Tryd.params7] at ht
  have hm : t ∈ [22, 5] := by simpa using Array.mem_of_getElem? ht
  have hall : ([22, 5].all fun u => !Tryd.prog.wantsStandIn u) = true := by kernel_rfl
  exact (show Tryd.prog.wantsStandIn t = false by simpa using List.all_eq_true.1 hall t hm)
end Go.Proofs.YtlhmpcmlpfffoaaDoor.matchSelf

namespace Go.Proofs.YtlhmpcmlpfffoaaDoor
/-- The card of MatchSelf. -/
theorem matchSelf_card : Rows.MatchSelfCardSaid :=
  Claim7.holds_tied_plain_at .later [] _ _ _ _ matchSelf.said (fun _ h => by cases h) (by kernel_rfl) (fun _ h => by cases h) matchSelf_row_tie rfl ⟨rfl, rfl⟩ (by kernel_rfl) rfl matchSelf.plain (by kernel_rfl)
#print axioms matchSelf_card
end Go.Proofs.YtlhmpcmlpfffoaaDoor
