/-
  where each sample is the same, without delay, that is what the state tells, and the variance falls to nothing. No conditions but the given statement's own.
-/
import Derived.Test.YtbomkapnkpjjbaaSt
namespace Go.Proofs.Ytbomkapnkpjjbaa.rttSteady
open Go.ChangeShapes Go.WideShapes Go.ChangeAt Go.RowKit Go.Deep Go.ChangeMaps
set_option maxRecDepth 100000

set_option maxHeartbeats 8000000 in
theorem walk (n : Int) (t : Int) (w : World) (h0 : (Lit.int .u16 n).wf = true) (h1 : (Lit.int .u8 t).wf = true) :
    Calls Try.prog 6 #[.int .u16 n, .int .u8 t] w fun e w' => e = .returned (.bool true) ∧ Below w.heap.size w w' := by
  have nb := bounds_u16 h0
  have tb := bounds_u8 h1
  clear h0 h1
  obtain ⟨m, rfl⟩ : ∃ m : Nat, t = m := ⟨t.toNat, by omega⟩
  obtain ⟨W1, hW1⟩ : ∃ W1, W1 = w.alloc (.cells #[.bool false, .int .i64 0, .int .i64 0, .int .i64 0, .int .i64 0] 24) := ⟨_, rfl⟩
  have b1 : Below w.heap.size w W1 := by rw [hW1]; exact al_below _ _
  have g1 : SB W1 w.heap.size 24 (stN n 0) := by rw [hW1]; exact heap_new _ _
  have HB1 : Hid (Below w.heap.size w W1) := b1
  have HS1 : Hid (SB W1 w.heap.size 24 (stN n 0)) := g1
  have HNB : Hid (0 ≤ n ∧ n < 65536) := by unfold Hid; omega
  have hnw := wrS (x := n) (by omega) (by omega)
  have htw := wrS (x := (m : Int)) (by omega) (by omega)
  have hm : m < 256 := by omega
  clear b1 g1 nb tb
  go_enter Try.func6, Try.ntmps6
  go_upto_region 2 with fail
  rw [← hW1]
  clear hW1
  go_wp2_with fail
  go_loopw [6, 7] (fun s6 z wr => ∃ j : Nat, j ≤ m + 1 ∧ z = .int .i64 j ∧ s6 = .int .i64 (laN n j) ∧ SB wr w.heap.size 24 (stN n j) ∧ Below w.heap.size w wr) (fun _ z _ => m + 1 - (intOf z).toNat)
  case atStart => exact ⟨0, by omega, rfl, rfl, HS1.out, HB1.out⟩
  case round =>
    obtain ⟨j, hj, rfl, rfl, sb, bl⟩ := hrel
    have HB : Hid (Below w.heap.size w wr) := bl
    have HS : Hid (SB wr w.heap.size 24 (stN n j)) := sb
    clear sb bl HS1 HB1
    by_cases hlt : j ≤ m
    · have lt2 : (j : Int) ≤ (m : Int) := by omega
      have hnx := st_next HNB.out j
      obtain ⟨⟨a0, a1, a2, a3, a4⟩, ha⟩ : ∃ x, x = stN n j := ⟨_, rfl⟩
      have cs := sample_any a0 a1 a2 a3 a4 n 0 wr
      rw [show (⟨a0, a1, a2, a3, a4⟩ : Sta) = stN n j from ha, hnx] at cs
      have HS2 : Hid (SB wr w.heap.size 24 ⟨a0, a1, a2, a3, a4⟩) := by unfold Hid; rw [ha]; exact HS.out
      have hvl := la_le HNB.out j
      have HVQ : Hid (laN n (j + 1) = vn n j) := rfl
      have HSQ : Hid (stN n (j + 1) = ⟨true, n, n, n, vn n j⟩) := rfl
      rw [HSQ.out] at cs
      generalize laN n j = la at *
      generalize vn n j = V at *
      clear ha hnx
      go_wp2_with (refine wpList_load_row rfl 24 _ rfl w.heap.size rfl 24 #[.bool a0, .int .i64 a1, .int .i64 a2, .int .i64 a3, .int .i64 a4] (0, 0) _ HS2.out Try.underlying24 rfl infoS ?_)
      refine cs.mono ?_
      rintro e w2 ⟨rfl, b2⟩
      have hs3 := HS.out.kept b2
      have hb3 := HB.out.trans (b2.mono HB.out.size)
      obtain ⟨W3, hW3⟩ : ∃ W3, W3 = w2.setRow w.heap.size #[.bool true, .int .i64 n, .int .i64 n, .int .i64 n, .int .i64 V] := ⟨_, rfl⟩
      have HS3 : Hid (SB W3 w.heap.size 24 ⟨true, n, n, n, V⟩) := by unfold Hid; rw [hW3]; exact hs3.set ⟨true, n, n, n, V⟩
      have HB3 : Hid (Below w.heap.size w W3) := by unfold Hid; rw [hW3]; exact below_setRow hb3 (Nat.le_refl _) _
      have HO3 : Hid (SB w2 w.heap.size 24 (stN n j)) := hs3
      clear cs b2 hs3 hb3 HS HB HS2
      go_wp2_with (refine wpList_store_row rfl 24 _ _ rfl w.heap.size #[.bool true, .int .i64 n, .int .i64 n, .int .i64 n, .int .i64 V] rfl rfl 24 _ HO3.out infoS rfl (st5_one _ _ _ _ _) (Hid.out ?_))
      unfold Hid
      rw [← hW3]
      clear hW3 HO3
      obtain ⟨c0, c1, c2, c3, c4⟩ := HS3.out.sc
      go_wp2
      go_roundw
      case rel => exact ⟨j + 1, by omega, by go_num, by rw [HVQ.out], by rw [HSQ.out]; exact HS3.out, HB3.out⟩
      case measure => simp [intOf]; omega
    · obtain rfl : j = m + 1 := by omega
      have lt2 : ¬ (((m + 1 : Nat) : Int) ≤ (m : Int)) := by omega
      have hs2 : SB wr w.heap.size 24 ⟨true, n, n, n, vn n m⟩ := HS.out
      obtain ⟨c0, c1, c2, c3, c4⟩ := hs2.sc
      have ca := awake_any wr
      by_cases h60 : m < 60
      · have k60 : (m : Int) < 60 := by omega
        generalize vn n m = V at *
        clear hs2
        go_wp2_with fail
        refine ca.mono ?_
        rintro e wz ⟨rfl, bz⟩
        have HZ : Hid (Below w.heap.size w wz) := HB.out.trans (bz.mono HB.out.size)
        clear ca bz
        go_wp2
        go_ret
        exact ⟨rfl, HZ.out⟩
      · have k60 : ¬ (m : Int) < 60 := by omega
        rw [vn_zero HNB.out (by omega)] at c4
        clear hs2
        go_wp2_with fail
        refine ca.mono ?_
        rintro e wz ⟨rfl, bz⟩
        have HZ : Hid (Below w.heap.size w wz) := HB.out.trans (bz.mono HB.out.size)
        clear ca bz
        go_wp2
        go_ret
        exact ⟨rfl, HZ.out⟩

theorem contract (H : Type) (enc : TypeId × Value → H) (W : World) (base : Nat) (args : Array Value) (ds gs : List (DataW H)) (before : List MemPlace)
    (hval : ∀ (j : Nat) t v, Try.f6.params[j]? = some t → args[j]? = some v → Value.okWide Try.prog W .any base t v)
    (hW : DataW.Whole enc Try.prog Try.f6.params.toList Rows.rttSteadySpec.vars false W args.toList ds gs before) (_hL : laidMetH Try.prog Rows.rttSteadyRow.laid W)
    (hsz0 : (DataW.weightsEach Try.prog (Try.f6.params.toList ++ Rows.rttSteadySpec.plain.varTypes Try.prog) (ds ++ gs)).all (· ≤ reachBytes) = true) :
    Calls Try.prog 6 args W fun e W' => ∃ v, e = .returned v ∧ Rows.rttSteadySpec.post enc Try.prog Try.f6 false true false false W args v W' := by
  have hW' := hW
  obtain ⟨p, q, hA0, hV, rfl, hfz, hnd⟩ := hW
  have hA : DataW.TrodAll enc Try.prog W 0 (fun _ => true) true Try.f6.params.toList args.toList ds p := hA0
  rw [Try.params6] at hA hval hsz0
  obtain ⟨v0, vs0, d0, ds0, p0, q0, hargs, rfl, rfl, h0, r0⟩ := trodAll_cons hA
  obtain ⟨v1, vs1, d1, ds1, p1, q1, rfl, rfl, rfl, h1, r1⟩ := trodAll_cons r0
  obtain ⟨rfl, rfl, rfl⟩ := trodAll_nil r1
  obtain rfl : args = #[v0, v1] := by cases args; simp_all
  obtain ⟨rfl, rfl⟩ := trodVars_none hV
  obtain ⟨a0, rfl, rfl, rfl, w0⟩ := open_int Try.underlying37 (hval 0 37 v0 rfl rfl) h0
  obtain ⟨a1, rfl, rfl, rfl, w1⟩ := open_int Try.underlying5 (hval 1 5 v1 rfl rfl) h1
  clear hA0
  refine (walk a0 a1 W w0 w1).mono fun e W' ⟨he, bel⟩ => ?_
  subst he
  exact ⟨_, rfl, _, _, _, [], _, [], hW', trodAll_mk1 (shut_bool Try.underlying4 _), (trodAll_cons_mk (shut_int Try.underlying37 w0) (trodAll_cons_mk (shut_int Try.underlying5 w1) trodAll_mk0)), rfl, bel.frame _, fun h => by cases h⟩

theorem laid_met (os : Os) : laidMet Try.prog Rows.rttSteadyRow.laid ((World.holding Try.prog os ⟨#[], #[], []⟩).forCall (fun _ _ => 0) ⟨#[], #[.int .u16 0, .int .u8 0], []⟩).memory :=
  laidMet_of_run' 8 (by kernel_rfl) (by kernel_rfl)
theorem reads (os : Os) {H : Type} (enc : TypeId × Value → H) : ∃ places, DataW.whole enc Try.prog ((World.holding Try.prog os ⟨#[], #[], []⟩).forCall (fun _ _ => 0) ⟨#[], #[.int .u16 0, .int .u8 0], []⟩).memory Try.f6.params.toList Rows.rttSteadySpec.vars false #[Value.int .u16 0, .int .u8 0].toList 8 = some ([.lit (.int .u16 0), .lit (.int .u8 0)], [], places) :=
  ⟨[], by kernel_rfl⟩

set_option maxRecDepth 100000 in
theorem lifted (os : Os) (started : os.Started) (H : Type) (enc : TypeId × Value → H) (F : Stop.Interp) :
    ReturnsInHanded {} Try.checked os 6 .any ((OpenSpec.ofChange Rows.rttSteadySpec).preRow enc Try.prog Try.f6 Rows.rttSteadyRow.domain false Rows.rttSteadyRow.laid) (((OpenSpec.ofChange Rows.rttSteadySpec).at F).post enc Try.prog Try.f6 false true false false) := by
  obtain ⟨places, hx⟩ := reads os enc
  refine returnsInHanded_of_row (C := Try.checked) (s := OpenSpec.ofChange Rows.rttSteadySpec) own started (by kernel_rfl) Try.func6
    (witness_row_at (enc := enc) (C := Try.checked) false (World.holding Try.prog os ⟨#[], #[], []⟩) #[.int .u16 0, .int .u8 0] rfl (by kernel_rfl) (by kernel_rfl) (by kernel_rfl)
      (OpenSpec.preRow_of_cond 8 hx (by kernel_rfl) (fun k hk => by cases hk) (by kernel_rfl) (laid_met os))) ?_
  intro W base args ds gs before hval hW _ _ hsz hL _ _
  exact contract H enc W base args ds gs before hval hW hL hsz

theorem said : Rows.RttSteadySaid :=
  OpenClaim.holds_of_cond 6 Try.f6 rfl rfl rfl rfl rfl rfl rfl ⟨rfl, rfl, rfl, rfl, rfl⟩ rfl rfl rfl rfl rfl (by kernel_rfl) Try.func6 (by kernel_rfl)
    (of_decide_eq_true (by kernel_rfl)) (by unfold Func.isWrapper; first | (rw [if_pos (by decide +kernel)]; kernel_rfl) | (rw [if_neg (by decide +kernel)]; exact ⟨rfl, rfl⟩))
    (fun os started H enc _ F => by rw [OpenClaim.pre_eq_preRow]; exact lifted os started H enc F)

end Go.Proofs.Ytbomkapnkpjjbaa.rttSteady

namespace Go.Proofs.Ytbomkapnkpjjbaa
/-- RttSteady. -/
theorem rttSteady_holds : Rows.RttSteadySaid := rttSteady.said
#print axioms rttSteady_holds
end Go.Proofs.Ytbomkapnkpjjbaa
