/-
  MatchSearches: what any new file of at most 160 bytes has of any old one, by blocks of 1 to 32 bytes, is told by the program as by the document; for greater files the closed case alone is asked. It holds for every input of the row; the two tables of sha (first, rounds) hold what their declarations lay when the call begins.
-/
import Derived.Test.YtlhmpcmlpfffoaaDoorFr
import Derived.Test.YtlhmpcmlpfffoaaDoorRw
namespace Go.Proofs.YtlhmpcmlpfffoaaDoor.matchSearches
open Go.ChangeShapes Go.WideShapes Go.ChangeAt Go.RowKit Go.Deep Go.ChangeMaps
set_option maxRecDepth 100000

set_option maxHeartbeats 8000000 in
theorem walk (v0 : Value) (o : List Int) (v1 : Value) (b : List Int) (s : Int) (w : World) (hw : Ta w) (h0 : SlX w v0 o) (h1 : SlX w v1 b) (hs : (Lit.int .u8 s).wf = true) :
    Calls Tryd.prog 3 #[v0, v1, .int .u8 s] w fun e w' => e = .returned (.bool true) ∧ Below w.heap.size w w' := by
  have s1 := bounds_u8 hs
  obtain ⟨k, hk⟩ : ∃ k : Nat, (1 : Int) + s % 32 = k := ⟨(1 + s % 32).toNat, by omega⟩
  have k1 : 1 ≤ k := by omega
  have k2 : k ≤ 32 := by omega
  have ht : Int.tmod s 32 = s % 32 := Int.tmod_eq_emod_of_nonneg s1.1
  have CA : Hid (∀ W, Below w.heap.size w W → Calls Tryd.prog 9 #[] W fun e w' => e = .returned (.bool true) ∧ Below W.heap.size W w') := fun W hb => awake_any W (hw.kept hb)
  obtain ⟨a0, c0, rfl, hc0, hm0, hn0, -⟩ := id h0.1
  have H0 : Hid (SlX w (.slice a0 o.length c0) o) := h0
  obtain ⟨LO, hLO⟩ : ∃ LO, LO = o.length := ⟨_, rfl⟩
  have HLO : Hid (LO = o.length) := hLO
  rw [← hLO] at H0 hc0 ⊢
  have bLO : (LO : Int) ≤ 9223372036854775807 := by unfold maxLen at hm0; omega
  obtain ⟨a1, c1, rfl, hc1, hm1, hn1, -⟩ := id h1.1
  have H1 : Hid (SlX w (.slice a1 b.length c1) b) := h1
  obtain ⟨LB, hLB⟩ : ∃ LB, LB = b.length := ⟨_, rfl⟩
  have HLB : Hid (LB = b.length) := hLB
  rw [← hLB] at H1 hc1 ⊢
  have bLB : (LB : Int) ≤ 9223372036854775807 := by unfold maxLen at hm1; omega
  have HW : Hid (Ta w) := hw
  clear h0 h1 hs hw hLO hLB hm0 hm1 hn0 hn1
  by_cases h4 : 160 < LO
  · have h5 : 160 < (LO : Int) := by omega
    go_enter Tryd.func3, Tryd.ntmps3
    have ca := CA.out w (Below.refl w.heap.size w)
    go_wp2_with fail
    refine ca.mono ?_
    rintro e wz ⟨rfl, bz⟩
    have BZ : Hid (Below w.heap.size w wz) := ((Below.refl w.heap.size w)).trans (bz.mono ((Below.refl w.heap.size w)).size)
    clear ca bz
    go_wp2
    go_ret
    exact ⟨rfl, BZ.out⟩
  · have h5 : ¬ 160 < (LO : Int) := by omega
    by_cases h6 : 160 < LB
    · have h7 : 160 < (LB : Int) := by omega
      go_enter Tryd.func3, Tryd.ntmps3
      have ca := CA.out w (Below.refl w.heap.size w)
      go_wp2_with fail
      refine ca.mono ?_
      rintro e wz ⟨rfl, bz⟩
      have BZ : Hid (Below w.heap.size w wz) := ((Below.refl w.heap.size w)).trans (bz.mono ((Below.refl w.heap.size w)).size)
      clear ca bz
      go_wp2
      go_ret
      exact ⟨rfl, BZ.out⟩
    · have h7 : ¬ 160 < (LB : Int) := by omega
      have C1 := index_any _ o k w H0.out.1 HW.out (by omega) (by omega) (by rw [← HLO.out]; omega)
      have HSM : Hid (bsig o (k : Int) = (sums o k, 0)) := bsig_ok o k (by omega) (by omega) (by rw [← HLO.out]; omega)
      have HSN : Hid ((sums o k).length ≤ 4096) := by unfold Hid; rw [sums_len, ← HLO.out]; have := Nat.div_le_self LO k; omega
      have B0 : Hid (Below w.heap.size w w) := Below.refl _ _
      go_enter Tryd.func3, Tryd.ntmps3
      go_wp2_with fail
      refine C1.mono ?_
      rintro e w1 ⟨B, g, m, N, rfl, ix, b1⟩
      clear C1
      have B1 : Hid (Below w.heap.size w w1) := B0.out.trans (b1.mono B0.out.size)
      have C2 := rsign_any _ o k w1 (H0.out.1.kept B1.out)
      rw [HSM.out] at C2
      have I1 : Hid (∀ x, Below w1.heap.size w1 x → IX x B g m k N (sums o k)) := fun x hx => ix.kept hx
      clear ix b1
      go_wp2_with fail
      refine C2.mono ?_
      rintro e w2 ⟨v2, rfl, r2, b2⟩
      clear C2
      have B2 : Hid (Below w.heap.size w w2) := B1.out.trans (b2.mono B1.out.size)
      have R2 : Hid (∀ x, Below w2.heap.size w2 x → GS x v2 (sums o k)) := fun x hx => (r2.below hx).is
      have C3 := search_any w2 B g m k N (sums o k) (I1.out w2 b2) _ b (H1.out.kept B2.out) (HW.out.kept B2.out) (by omega) (by omega) HSN.out (by rw [← HLB.out]; omega)
      obtain ⟨ra, rc, rfl, -⟩ := r2.is.shape
      clear r2 b2 I1
      go_wp2_with fail
      refine C3.mono ?_
      rintro e w3 ⟨v3, rfl, o3, b3⟩
      clear C3
      have B3 : Hid (Below w.heap.size w w3) := B2.out.trans (b3.mono B2.out.size)
      have C4 := rsearch_any w3 k _ (sums o k) (R2.out w3 b3) _ b (H1.out.kept B3.out) (by omega) (by omega) HSN.out (by rw [← HLB.out]; omega)
      have HRL : Hid ((srch (bfnd (sums o k) k) k b 0 0 []).length ≤ 100000) := by
        unfold Hid
        have := srch_len (bfnd (sums o k) k) k b (by omega)
        rw [← HLB.out] at this
        omega
      have O3 : Hid (∀ x, Below w3.heap.size w3 x → XS x v3 (srch (bfnd (sums o k) k) k b 0 0 [])) := fun x hx => (o3.below hx).xs
      obtain ⟨ra3, rc3, rfl, -⟩ := o3.shape
      clear o3 b3 R2
      generalize srch (bfnd (sums o k) k) k b 0 0 [] = R at *
      generalize (sums o k).length = SN at *
      go_wp2_with fail
      refine C4.mono ?_
      rintro e w4 ⟨v4, rfl, o4, b4⟩
      clear C4
      have B4 : Hid (Below w.heap.size w w4) := B3.out.trans (b4.mono B3.out.size)
      have C5 := rsame_any _ _ R R w4 (O3.out w4 b4) o4.xs HRL.out HRL.out
      rw [saX_self] at C5
      obtain ⟨ra4, rc4, rfl, -⟩ := o4.shape
      clear o4 b4 O3
      generalize R.length = RL at *
      go_wp2_with fail
      refine C5.mono ?_
      rintro e w5 ⟨rfl, b5⟩
      clear C5
      have B5 : Hid (Below w.heap.size w w5) := B4.out.trans (b5.mono B4.out.size)
      clear b5
      have ca := CA.out w5 B5.out
      go_wp2_with fail
      refine ca.mono ?_
      rintro e wz ⟨rfl, bz⟩
      have BZ : Hid (Below w.heap.size w wz) := (B5.out).trans (bz.mono (B5.out).size)
      clear ca bz
      go_wp2
      go_ret
      exact ⟨rfl, BZ.out⟩

theorem contract (H : Type) (enc : TypeId × Value → H) (W : World) (base : Nat) (args : Array Value) (ds gs : List (DataW H)) (before : List MemPlace)
    (hval : ∀ (j : Nat) t v, Tryd.f3.params[j]? = some t → args[j]? = some v → Value.okWide Tryd.prog W .any base t v)
    (hW : DataW.Whole enc Tryd.prog Tryd.f3.params.toList Rows.matchSearchesSpec.vars false W args.toList ds gs before) (hL : laidMetH Tryd.prog Rows.matchSearchesRow.laid W)
    (hsz0 : (DataW.weightsEach Tryd.prog (Tryd.f3.params.toList ++ Rows.matchSearchesSpec.plain.varTypes Tryd.prog) (ds ++ gs)).all (· ≤ reachBytes) = true) :
    Calls Tryd.prog 3 args W fun e W' => ∃ v, e = .returned v ∧ Rows.matchSearchesSpec.post enc Tryd.prog Tryd.f3 false true false false W args v W' := by
  have hW' := hW
  obtain ⟨p, q, hA0, hV, rfl, hfz, hnd⟩ := hW
  have hA : DataW.TrodAll enc Tryd.prog W 0 (fun _ => true) true Tryd.f3.params.toList args.toList ds p := hA0
  rw [Tryd.params3] at hA hval hsz0
  obtain ⟨v0, vs0, d0, ds0, p0, q0, hargs, rfl, rfl, h0, r0⟩ := trodAll_cons hA
  obtain ⟨v1, vs1, d1, ds1, p1, q1, rfl, rfl, rfl, h1, r1⟩ := trodAll_cons r0
  obtain ⟨v2, vs2, d2, ds2, p2, q2, rfl, rfl, rfl, h2, r2⟩ := trodAll_cons r1
  obtain ⟨rfl, rfl, rfl⟩ := trodAll_nil r2
  obtain rfl : args = #[v0, v1, v2] := by cases args; simp_all
  obtain ⟨rfl, rfl⟩ := trodVars_none hV
  have k0 := h0
  have lt0 : ∀ x ∈ p0, x.block < W.heap.size := by obtain ⟨m, hm⟩ := k0; exact DataW.trod_lt m _ _ _ hm
  obtain ⟨L0, w0⟩ := slx_in (hval 0 22 v0 rfl rfl) h0
  have k1 := h1
  have lt1 : ∀ x ∈ p1, x.block < W.heap.size := by obtain ⟨m, hm⟩ := k1; exact DataW.trod_lt m _ _ _ hm
  obtain ⟨L1, w1⟩ := slx_in (hval 1 22 v1 rfl rfl) h1
  obtain ⟨a2, rfl, rfl, rfl, w2⟩ := open_int Tryd.underlying5 (hval 2 5 v2 rfl rfl) h2
  clear hA0
  refine (walk v0 L0 v1 L1 a2 W (ta_of hL) w0 w1 w2).mono fun e W' ⟨he, bel⟩ => ?_
  subst he
  exact ⟨_, rfl, _, _, _, [], _, [], hW', trodAll_mk1 (shut_bool Tryd.underlying4 _), (trodAll_cons_mk (Below.trod laidOut (by kernel_rfl) (of_decide_eq_true (by kernel_rfl)) k0 bel lt0) (trodAll_cons_mk (Below.trod laidOut (by kernel_rfl) (of_decide_eq_true (by kernel_rfl)) k1 bel lt1) (trodAll_cons_mk (shut_int Tryd.underlying5 w2) trodAll_mk0))), rfl, bel.frame _, fun h => by cases h⟩

theorem laid_met (os : Os) : laidMet Tryd.prog Rows.matchSearchesRow.laid (({ World.holding Tryd.prog os ⟨#[], #[], []⟩ with heap := (((World.holding Tryd.prog os ⟨#[], #[], []⟩).heap.modify 0 (fun
      | .cells _ t frozen => .cells shaFirst t frozen
      | o => o)).modify 1 (fun
      | .cells _ t frozen => .cells shaRounds t frozen
      | o => o)) } : World).forCall (fun _ _ => 0) ⟨#[], #[.slice none 0 0, .slice none 0 0, .int .u8 0], []⟩).memory :=
  laidMet_of_run' 8 (by kernel_rfl) (by kernel_rfl)
theorem reads (os : Os) {H : Type} (enc : TypeId × Value → H) : ∃ places, DataW.whole enc Tryd.prog (({ World.holding Tryd.prog os ⟨#[], #[], []⟩ with heap := (((World.holding Tryd.prog os ⟨#[], #[], []⟩).heap.modify 0 (fun
      | .cells _ t frozen => .cells shaFirst t frozen
      | o => o)).modify 1 (fun
      | .cells _ t frozen => .cells shaRounds t frozen
      | o => o)) } : World).forCall (fun _ _ => 0) ⟨#[], #[.slice none 0 0, .slice none 0 0, .int .u8 0], []⟩).memory Tryd.f3.params.toList Rows.matchSearchesSpec.vars false #[Value.slice none 0 0, .slice none 0 0, .int .u8 0].toList 8 = some ([.nil, .nil, .lit (.int .u8 0)], [], places) :=
  ⟨[], by kernel_rfl⟩

set_option maxRecDepth 100000 in
theorem lifted (os : Os) (started : os.Started) (H : Type) (enc : TypeId × Value → H) (F : Stop.Interp) :
    ReturnsInHanded {} Tryd.checked os 3 .any ((OpenSpec.ofChange Rows.matchSearchesSpec).preRow enc Tryd.prog Tryd.f3 Rows.matchSearchesRow.domain false Rows.matchSearchesRow.laid) (((OpenSpec.ofChange Rows.matchSearchesSpec).at F).post enc Tryd.prog Tryd.f3 false true false false) := by
  obtain ⟨places, hx⟩ := reads os enc
  refine returnsInHanded_of_row (C := Tryd.checked) (s := OpenSpec.ofChange Rows.matchSearchesSpec) own started (by kernel_rfl) Tryd.func3
    (witness_row_at (enc := enc) (C := Tryd.checked) false ({ World.holding Tryd.prog os ⟨#[], #[], []⟩ with heap := (((World.holding Tryd.prog os ⟨#[], #[], []⟩).heap.modify 0 (fun
      | .cells _ t frozen => .cells shaFirst t frozen
      | o => o)).modify 1 (fun
      | .cells _ t frozen => .cells shaRounds t frozen
      | o => o)) } : World) #[.slice none 0 0, .slice none 0 0, .int .u8 0] rfl (by kernel_rfl) (by kernel_rfl) (by kernel_rfl)
      (OpenSpec.preRow_of_cond 8 hx (by kernel_rfl) (fun k hk => by cases hk) (by kernel_rfl) (laid_met os))) ?_
  intro W base args ds gs before hval hW _ _ hsz hL _ _
  exact contract H enc W base args ds gs before hval hW hL hsz

theorem said : Rows.MatchSearchesSaid :=
  OpenClaim.holds_of_cond 3 Tryd.f3 rfl rfl rfl rfl rfl rfl rfl ⟨rfl, rfl, rfl, rfl, rfl⟩ rfl rfl rfl rfl rfl (by kernel_rfl) Tryd.func3 (by kernel_rfl)
    (of_decide_eq_true (by kernel_rfl)) (by unfold Func.isWrapper; first | (rw [if_pos (by decide +kernel)]; kernel_rfl) | (rw [if_neg (by decide +kernel)]; exact ⟨rfl, rfl⟩))
    (fun os started H enc _ F => by rw [OpenClaim.pre_eq_preRow]; exact lifted os started H enc F)

theorem plain (f : FuncId) (fn : Func) (hf : Tryd.pinned.checked.prog.funcNamed "sumpter/sumpterlaw12.MatchSearches" = some f) (hfn : Tryd.pinned.checked.prog.funcs[f]? = some fn) :
    false = Tryd.pinned.checked.prog.looks [] ∧ ∀ (j : Nat) t, fn.params[j]? = some t → Tryd.pinned.checked.prog.wantsStandIn t = false := by
  obtain rfl : f = 3 := Option.some.inj ((show Tryd.prog.funcNamed "sumpter/sumpterlaw12.MatchSearches" = some 3 by kernel_rfl).symm.trans hf) |>.symm
  obtain rfl : fn = Tryd.f3 := (Option.some.inj (Tryd.func3.symm.trans hfn)).symm
  refine ⟨by kernel_rfl, fun j t ht => ?_⟩
  rw [Tryd.params3] at ht
  have hm : t ∈ [22, 22, 5] := by simpa using Array.mem_of_getElem? ht
  have hall : ([22, 22, 5].all fun u => !Tryd.prog.wantsStandIn u) = true := by kernel_rfl
  exact (show Tryd.prog.wantsStandIn t = false by simpa using List.all_eq_true.1 hall t hm)
end Go.Proofs.YtlhmpcmlpfffoaaDoor.matchSearches

namespace Go.Proofs.YtlhmpcmlpfffoaaDoor
/-- The card of MatchSearches. -/
theorem matchSearches_card : Rows.MatchSearchesCardSaid :=
  Claim7.holds_tied_plain_at .later [] _ _ _ _ matchSearches.said (fun _ h => by cases h) (by kernel_rfl) (fun _ h => by cases h) matchSearches_row_tie rfl ⟨rfl, rfl⟩ (by kernel_rfl) rfl matchSearches.plain (by kernel_rfl)
#print axioms matchSearches_card
end Go.Proofs.YtlhmpcmlpfffoaaDoor
