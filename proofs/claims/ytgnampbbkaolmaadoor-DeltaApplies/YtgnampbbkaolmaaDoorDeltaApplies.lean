/-
  DeltaApplies: any operations make of any old file what the document says, or it is told why not, and the old file stays as it is; at most 300 operations, 20000 bytes, old files of at most 20000 bytes, else the closed case alone is asked. It holds for every input of the row; varint's table of widths holds what its declaration lays when the call begins.
-/
import Derived.Test.YtgnampbbkaolmaaDoorFr
import Derived.Test.YtgnampbbkaolmaaDoorCm
import Derived.Test.YtgnampbbkaolmaaDoorRk
namespace Go.Proofs.YtgnampbbkaolmaaDoor.deltaApplies
open Go.ChangeShapes Go.WideShapes Go.ChangeAt Go.RowKit Go.Deep Go.ChangeMaps
set_option maxRecDepth 100000

theorem app_err (old : List Int) (l : List Xp) : (appX old l).2 = chkX l old.length := by
  unfold appX
  split
  · rename_i h; exact h.symm
  · rfl
/-- A byte of a row of the call's own, written anew. -/
theorem ow_set {w : World} {B : Nat} {v : Value} {X : List Int} (h : Ow w B v X) (i : Nat) (hi : i < X.length) : ∃ g cap, v = .slice (some ⟨g, 0, none⟩) X.length cap ∧ X.length ≤ cap ∧ B ≤ g ∧ w.cell? ⟨g, i, none⟩ = some (.int .u8 (X.getD i 0)) ∧ w.frozen? ⟨g, i, none⟩ = false ∧
    ∀ z : Int, 0 ≤ z → z < 256 → Ow (w.setCell ⟨g, i, none⟩ (.int .u8 z)) B v (X.set i z) := by
  obtain ⟨h1, h2⟩ := h
  have h1' := h1
  rcases h1.2 with ⟨rfl, e⟩ | ⟨g, cap, cur, rfl, hg, hh, hl, hm, hs, ht⟩
  · omega
  have hc := h1'.cells (g := g) rfl i (.int .u8 (X.getD i 0)) (by simp [List.getD, hi])
  rw [Addr.add_lit, Nat.zero_add] at hc
  refine ⟨g, cap, rfl, hl, hg, hc, frozen_of_row _ _ _ _ _ hh, fun z z0 z1 => ⟨⟨by simp, .inr ⟨g, cap, cur.set! i (.int .u8 z), by simp, hg, ?_, by simpa using hl, hm, by simp [hs], ?_⟩⟩, fun k => ?_⟩⟩
  · rw [heap_setCell_same _ _ _ _ _ _ hh]
    simp
  · have hsz : i < cur.size := by rw [hs]; omega
    rw [List.length_set, Nat.mul_one]
    rw [Nat.mul_one] at ht
    simp only [Array.set!_eq_setIfInBounds, Array.toList_setIfInBounds]
    rw [List.take_set, ht, List.map_set]
  · by_cases hk : k = i
    · subst hk
      simp [List.getD, hi]
      omega
    · have := h2 k
      simpa [List.getD, List.getElem?_set_ne (fun e => hk e.symm)] using this
set_option maxHeartbeats 8000000 in
theorem walk (v0 : Value) (old : List Int) (v1 : Value) (l : List Xp) (w : World) (hw : Fi.Wid w) (h0 : SlX w v0 old) (h1 : XS w v1 l) :
    Calls Tryd.prog 3 #[v0, v1] w fun e w' => e = .returned (.bool true) ∧ Below w.heap.size w w' := by
  have CA : Hid (∀ W, Below w.heap.size w W → Calls Tryd.prog 9 #[] W fun e w' => e = .returned (.bool true) ∧ Below W.heap.size W w') := fun W hb => awake_any W (Wid.kept hw hb)
  obtain ⟨a0, c0, rfl, hc0, hm0, hn0, -⟩ := id h0.1
  obtain ⟨a1, c1, rfl, hc1, hm1, hn1⟩ := h1.shape
  have CL := light_any _ l 300 20000 w h1 (by decide) (by decide)
  have CV : Hid (∀ W, Below w.heap.size w W → (convert 22 9 (.slice a0 old.length c0)).run Tryd.prog W = .ok (.string (strB old)) W) := fun W hb => (h0.kept hb).1.conv
  have CP : Hid (∀ W, Below w.heap.size w W → l.length ≤ 1000000 → Calls Tryd.prog 10 #[.slice a0 old.length c0, .slice a1 l.length c1] W fun e w' => ∃ v', e = .returned (.tuple #[v', .int .i64 (appX old l).2]) ∧ Ow w' W.heap.size v' (appX old l).1 ∧ Below W.heap.size W w') := fun W hb hl => apply_any _ _ old l W (h0.kept hb) (h1.kept hb) hl
  have CR : Hid (∀ W, Below w.heap.size w W → l.length ≤ 1000000 → Calls Tryd.prog 11 #[.slice a0 old.length c0, .slice a1 l.length c1] W fun e w' => ∃ v', e = .returned (.tuple #[v', .int .i64 (appX old l).2]) ∧ Ow w' W.heap.size v' (appX old l).1 ∧ Below W.heap.size W w') := fun W hb hl => rapply_any _ _ old l W (h0.kept hb) (h1.kept hb) hl
  have CK : Hid (∀ W, Below w.heap.size w W → l.length ≤ 1000000 → Calls Tryd.prog 12 #[.slice a1 l.length c1, .int .i64 (old.length : Nat)] W fun e w' => e = .returned (.int .i64 (appX old l).2) ∧ Below W.heap.size W w') := fun W hb hl => by
    rw [app_err]
    exact check_any _ l old.length W (h1.kept hb) hl (by unfold maxLen at hm0; omega)
  obtain ⟨LO, hLO⟩ : ∃ LO, LO = old.length := ⟨_, rfl⟩
  obtain ⟨LL, hLL⟩ : ∃ LL, LL = l.length := ⟨_, rfl⟩
  have HLL : Hid (LL = l.length) := hLL
  rw [← hLO] at CP CR CK CV hc0 ⊢
  rw [← hLL] at CL CP CR CK hc1 ⊢
  unfold maxLen at hm0 hm1
  clear h0 h1 hw hLO hLL hn0 hn1
  generalize strB old = SO at *
  by_cases h3 : 20000 < LO
  · have h4 : 20000 < (LO : Int) := by omega
    have ca := CA.out w (Below.refl _ _)
    go_enter Tryd.func3, Tryd.ntmps3
    go_wp2_with fail
    refine ca.mono ?_
    rintro e wz ⟨rfl, bz⟩
    have BZ : Hid (Below w.heap.size w wz) := bz
    clear ca bz
    go_wp2
    go_ret
    exact ⟨rfl, BZ.out⟩
  · have h4 : ¬ 20000 < (LO : Int) := by omega
    go_enter Tryd.func3, Tryd.ntmps3
    go_wp2_with fail
    refine CL.mono ?_
    rintro e wq ⟨lb, rfl, hq, hlg⟩
    replace hq := hq.symm
    subst hq
    clear CL
    cases lb with
    | false =>
      have ca := CA.out w (Below.refl _ _)
      go_wp2_with fail
      refine ca.mono ?_
      rintro e wz ⟨rfl, bz⟩
      have BZ : Hid (Below w.heap.size w wz) := bz
      clear ca bz
      go_wp2
      go_ret
      exact ⟨rfl, BZ.out⟩
    | true =>
      obtain ⟨g1, g2, g3⟩ := hlg rfl
      rw [← HLL.out] at g1
      have c := CP.out w (Below.refl _ _) (by omega)
      have cv := CV.out w (Below.refl _ _)
      clear hlg g2 g3 CP
      generalize appX old l = R at *
      obtain ⟨A, E⟩ := R
      simp only at c CR CK
      go_wp2_with fail
      refine c.mono ?_
      rintro e w1 ⟨v1, rfl, o1, b1⟩
      clear c cv
      have B1 : Hid (Below w.heap.size w w1) := b1
      have c := CR.out w1 B1.out (by omega)
      have O1 : Hid (∀ W, Below w1.heap.size w1 W → Ow W w.heap.size v1 A) := fun W hb => o1.below hb
      obtain ⟨aa, ac, rfl⟩ := o1.shape
      obtain ⟨-, hLc, hcm, -⟩ := o1.slx.facts
      unfold maxLen at hcm
      have hLm : A.length ≤ 9223372036854775807 := by omega
      clear o1 b1 CR hLc hcm
      obtain ⟨LA, hLA⟩ : ∃ LA, LA = A.length := ⟨_, rfl⟩
      have HLA : Hid (LA = A.length) := hLA
      rw [← hLA] at O1 hLm ⊢
      clear hLA
      go_wp2_with fail
      refine c.mono ?_
      rintro e w2 ⟨v2, rfl, o2, b2⟩
      clear c
      have B2 : Hid (Below w.heap.size w w2) := B1.out.trans (b2.mono B1.out.size)
      have B12 : Hid (Below w1.heap.size w1 w2) := b2
      obtain ⟨ba, bc, rfl⟩ := o2.shape
      have cv1 := (O1.out w2 b2).sl.conv
      have cv2 := o2.sl.conv
      have c := CK.out w2 B2.out (by omega)
      rw [← HLA.out] at cv2 ⊢
      clear o2 b2 CK
      generalize strB A = SA at *
      go_wp2_with fail
      refine c.mono ?_
      rintro e w3 ⟨rfl, b3⟩
      clear c cv1 cv2
      have B3 : Hid (Below w.heap.size w w3) := B2.out.trans (b3.mono B2.out.size)
      have O3 : Hid (Ow w3 w.heap.size (.slice aa LA ac) A) := O1.out w3 (B12.out.trans (b3.mono B12.out.size))
      clear b3 B12 O1
      go_wp2_with fail
      go_loopw [11] (fun q wr => ∃ (j : Nat) (X : List Int), j ≤ LA ∧ q = .int .i64 j ∧ X.length = LA ∧ Ow wr w.heap.size (.slice aa LA ac) X ∧ Below w.heap.size w wr) (fun q _ => LA - (intOf q).toNat)
      case atStart => exact ⟨0, A, by omega, rfl, HLA.out.symm, O3.out, B3.out⟩
      case round =>
        clear O3 B3
        obtain ⟨j, X, hj, rfl, hX, ox, bel⟩ := hrel
        have HB : Hid (Below w.heap.size w wr) := bel
        by_cases hlt : j < LA
        · have lt2 : (j : Int) < (LA : Int) := by omega
          have lt3 : (0 : Int) ≤ (j : Int) := by omega
          obtain ⟨g, cap, he, hcap, hBg, k0, f0, hset⟩ := ow_set ox j (by omega)
          cases he
          have hby := ox.2 j
          have HSET : Hid (∀ z : Int, 0 ≤ z → z < 256 → Ow (wr.setCell ⟨g, j, none⟩ (.int .u8 z)) w.heap.size (.slice (some ⟨g, 0, none⟩) X.length ac) (X.set j z)) := hset
          have HBS : Hid (∀ z : Value, Below w.heap.size w (wr.setCell ⟨g, j, none⟩ z)) := fun z => ⟨bel.os, bel.tape, bel.output, by have := bel.size; simp [World.setCell]; omega, fun k hk => (heap_setCell_other _ _ _ _ (by simp only; omega)).trans (bel.block k hk)⟩
          have HXL : Hid (∀ z, (X.set j z).length = X.length) := fun z => List.length_set ..
          clear hset ox bel hX
          generalize X.getD j 0 = xv at *
          go_wp2
          have yw : (j : Int) + 1 = ((j + 1 : Nat) : Int) := by omega
          have q1 : 0 ≤ (xv + 1) % 256 := Int.emod_nonneg _ (by decide)
          have q2 : (xv + 1) % 256 < 256 := Int.emod_lt_of_pos _ (by decide)
          have s1 := HSET.out ((xv + 1) % 256) q1 q2
          have s2 := HBS.out (.int .u8 ((xv + 1) % 256))
          have s3 := HXL.out ((xv + 1) % 256)
          generalize (xv + 1) % 256 = z at *
          rw [yw]
          refine ⟨⟨j + 1, X.set j z, hlt, rfl, s3, s1, s2⟩, ?_⟩
          simp only [intOf, Int.toNat_natCast]
          omega
        · obtain rfl : j = LA := by omega
          have cv := CV.out wr HB.out
          have ca := CA.out wr HB.out
          clear ox bel hX
          go_wp2_with fail
          refine ca.mono ?_
          rintro e wz ⟨rfl, bz⟩
          have BZ : Hid (Below w.heap.size w wz) := HB.out.trans (bz.mono HB.out.size)
          clear ca bz cv
          go_wp2
          go_ret
          exact ⟨rfl, BZ.out⟩

theorem contract (H : Type) (enc : TypeId × Value → H) (W : World) (base : Nat) (args : Array Value) (ds gs : List (DataW H)) (before : List MemPlace)
    (hval : ∀ (j : Nat) t v, Tryd.f3.params[j]? = some t → args[j]? = some v → Value.okWide Tryd.prog W .any base t v)
    (hW : DataW.Whole enc Tryd.prog Tryd.f3.params.toList Rows.deltaAppliesSpec.vars false W args.toList ds gs before) (hL : laidMetH Tryd.prog Rows.deltaAppliesRow.laid W)
    (hsz0 : (DataW.weightsEach Tryd.prog (Tryd.f3.params.toList ++ Rows.deltaAppliesSpec.plain.varTypes Tryd.prog) (ds ++ gs)).all (· ≤ reachBytes) = true) :
    Calls Tryd.prog 3 args W fun e W' => ∃ v, e = .returned v ∧ Rows.deltaAppliesSpec.post enc Tryd.prog Tryd.f3 false true false false W args v W' := by
  have hW' := hW
  obtain ⟨p, q, hA0, hV, rfl, hfz, hnd⟩ := hW
  have hA : DataW.TrodAll enc Tryd.prog W 0 (fun _ => true) true Tryd.f3.params.toList args.toList ds p := hA0
  rw [Tryd.params3] at hA hval hsz0
  obtain ⟨v0, vs0, d0, ds0, p0, q0, hargs, rfl, rfl, h0, r0⟩ := trodAll_cons hA
  obtain ⟨v1, vs1, d1, ds1, p1, q1, rfl, rfl, rfl, h1, r1⟩ := trodAll_cons r0
  obtain ⟨rfl, rfl, rfl⟩ := trodAll_nil r1
  obtain rfl : args = #[v0, v1] := by cases args; simp_all
  obtain ⟨rfl, rfl⟩ := trodVars_none hV
  have k0 := h0
  have lt0 : ∀ x ∈ p0, x.block < W.heap.size := by obtain ⟨m, hm⟩ := k0; exact DataW.trod_lt m _ _ _ hm
  obtain ⟨L0, w0⟩ := slx_in (hval 0 22 v0 rfl rfl) h0
  have k1 := h1
  have lt1 : ∀ x ∈ p1, x.block < W.heap.size := by obtain ⟨m, hm⟩ := k1; exact DataW.trod_lt m _ _ _ hm
  obtain ⟨L1, w1⟩ := ops_in (hval 1 23 v1 rfl rfl) h1
  clear hA0
  refine (walk v0 L0 v1 L1 W (wi_of hL) w0 w1).mono fun e W' ⟨he, bel⟩ => ?_
  subst he
  exact ⟨_, rfl, _, _, _, [], _, [], hW', trodAll_mk1 (shut_bool Tryd.underlying4 _), (trodAll_cons_mk (Below.trod laidOut (by kernel_rfl) (of_decide_eq_true (by kernel_rfl)) k0 bel lt0) (trodAll_cons_mk (Below.trod laidOut (by kernel_rfl) (of_decide_eq_true (by kernel_rfl)) k1 bel lt1) trodAll_mk0)), rfl, bel.frame _, fun h => by cases h⟩

theorem laid_met (os : Os) : laidMet Tryd.prog Rows.deltaAppliesRow.laid (({ World.holding Tryd.prog os ⟨#[], #[], []⟩ with heap := ((World.holding Tryd.prog os ⟨#[], #[], []⟩).heap.modify 2 (fun
      | .cells _ t frozen => .cells widT t frozen
      | o => o)) } : World).forCall (fun _ _ => 0) ⟨#[], #[.slice none 0 0, .slice none 0 0], []⟩).memory :=
  laidMet_of_run' 8 (by kernel_rfl) (by kernel_rfl)
theorem reads (os : Os) {H : Type} (enc : TypeId × Value → H) : ∃ places, DataW.whole enc Tryd.prog (({ World.holding Tryd.prog os ⟨#[], #[], []⟩ with heap := ((World.holding Tryd.prog os ⟨#[], #[], []⟩).heap.modify 2 (fun
      | .cells _ t frozen => .cells widT t frozen
      | o => o)) } : World).forCall (fun _ _ => 0) ⟨#[], #[.slice none 0 0, .slice none 0 0], []⟩).memory Tryd.f3.params.toList Rows.deltaAppliesSpec.vars false #[Value.slice none 0 0, .slice none 0 0].toList 8 = some ([.nil, .nil], [], places) :=
  ⟨[], by kernel_rfl⟩

set_option maxRecDepth 100000 in
theorem lifted (os : Os) (started : os.Started) (H : Type) (enc : TypeId × Value → H) (F : Stop.Interp) :
    ReturnsInHanded {} Tryd.checked os 3 .any ((OpenSpec.ofChange Rows.deltaAppliesSpec).preRow enc Tryd.prog Tryd.f3 Rows.deltaAppliesRow.domain false Rows.deltaAppliesRow.laid) (((OpenSpec.ofChange Rows.deltaAppliesSpec).at F).post enc Tryd.prog Tryd.f3 false true false false) := by
  obtain ⟨places, hx⟩ := reads os enc
  refine returnsInHanded_of_row (C := Tryd.checked) (s := OpenSpec.ofChange Rows.deltaAppliesSpec) own started (by kernel_rfl) Tryd.func3
    (witness_row_at (enc := enc) (C := Tryd.checked) false ({ World.holding Tryd.prog os ⟨#[], #[], []⟩ with heap := ((World.holding Tryd.prog os ⟨#[], #[], []⟩).heap.modify 2 (fun
      | .cells _ t frozen => .cells widT t frozen
      | o => o)) } : World) #[.slice none 0 0, .slice none 0 0] rfl (by kernel_rfl) (by kernel_rfl) (by kernel_rfl)
      (OpenSpec.preRow_of_cond 8 hx (by kernel_rfl) (fun k hk => by cases hk) (by kernel_rfl) (laid_met os))) ?_
  intro W base args ds gs before hval hW _ _ hsz hL _ _
  exact contract H enc W base args ds gs before hval hW hL hsz

theorem said : Rows.DeltaAppliesSaid :=
  OpenClaim.holds_of_cond 3 Tryd.f3 rfl rfl rfl rfl rfl rfl rfl ⟨rfl, rfl, rfl, rfl, rfl⟩ rfl rfl rfl rfl rfl (by kernel_rfl) Tryd.func3 (by kernel_rfl)
    (of_decide_eq_true (by kernel_rfl)) (by unfold Func.isWrapper; first | (rw [if_pos (by decide +kernel)]; kernel_rfl) | (rw [if_neg (by decide +kernel)]; exact ⟨rfl, rfl⟩))
    (fun os started H enc _ F => by rw [OpenClaim.pre_eq_preRow]; exact lifted os started H enc F)

theorem plain (f : FuncId) (fn : Func) (hf : Tryd.pinned.checked.prog.funcNamed "sumpter/sumpterlaw13.DeltaApplies" = some f) (hfn : Tryd.pinned.checked.prog.funcs[f]? = some fn) :
    true = Tryd.pinned.checked.prog.looks [] ∧ ∀ (j : Nat) t, fn.params[j]? = some t → Tryd.pinned.checked.prog.wantsStandIn t = false := by
  obtain rfl : f = 3 := Option.some.inj ((show Tryd.prog.funcNamed "sumpter/sumpterlaw13.DeltaApplies" = some 3 by kernel_rfl).symm.trans hf) |>.symm
  obtain rfl : fn = Tryd.f3 := (Option.some.inj (Tryd.func3.symm.trans hfn)).symm
  refine ⟨by kernel_rfl, fun j t ht => ?_⟩
  rw [Tryd.params3] at ht
  have hm : t ∈ [22, 23] := by simpa using Array.mem_of_getElem? ht
  have hall : ([22, 23].all fun u => !Tryd.prog.wantsStandIn u) = true := by kernel_rfl
  exact (show Tryd.prog.wantsStandIn t = false by simpa using List.all_eq_true.1 hall t hm)
end Go.Proofs.YtgnampbbkaolmaaDoor.deltaApplies

namespace Go.Proofs.YtgnampbbkaolmaaDoor
/-- The card of DeltaApplies. -/
theorem deltaApplies_card : Rows.DeltaAppliesCardSaid :=
  Claim7.holds_tied_plain_at .later [] _ _ _ _ deltaApplies.said (fun _ h => by cases h) (by kernel_rfl) (fun _ h => by cases h) deltaApplies_row_tie rfl ⟨rfl, rfl⟩ (by kernel_rfl) rfl deltaApplies.plain (by kernel_rfl)
#print axioms deltaApplies_card
end Go.Proofs.YtgnampbbkaolmaaDoor
