/-
  RollAlong: whatever the bytes and the width, the law answers true, and the bytes read as before. No condition.
-/
import Derived.Test.YtdaogagliglokaaWinQ
namespace Go.Proofs.Ytdaogagliglokaa.rollAlong
open Go.ChangeShapes Go.WideShapes Go.ChangeAt Go.RowKit Go.Deep Go.ChangeMaps

theorem width (u : Int) (hu : (Lit.int .u8 u).wf = true) : ∃ k : Nat, Int.tmod u 64 = (k : Int) ∧ k < 64 := by
  have h : 0 ≤ u ∧ u ≤ 255 := bounds_u8 hu
  refine ⟨(u % 64).toNat, ?_, by omega⟩
  rw [Int.tmod_eq_emod_of_nonneg h.1]
  omega

set_option maxHeartbeats 4000000 in
theorem walk (a : Option Addr) (len cap : Nat) (zs : List Int) (u : Int) (w : World) (hb : Bytes w a len cap zs) (hu : (Lit.int .u8 u).wf = true) :
    Calls Try.prog 6 #[.slice a len cap, .int .u8 u] w fun e w' => e = .returned (.bool true) ∧ Below w.heap.size w w' := by
  have HA : Hid (∀ W, Calls Try.prog 9 #[] W fun e w' => e = .returned (.bool true) ∧ Below W.heap.size W w') := awake_any
  have sl := hb.sl
  obtain ⟨hlc, hcm, htl⟩ := hb.len_le
  have hu2 : 0 ≤ u ∧ u ≤ 255 := bounds_u8 hu
  obtain ⟨k0, hk, hk64⟩ := width u hu
  obtain ⟨N, hN⟩ : ∃ N : Nat, N = 1 + k0 := ⟨_, rfl⟩
  have hN1 : (1 : Int) + (k0 : Int) = (N : Int) := by omega
  have hNp : 0 < N := by omega
  have hN64 : N ≤ 64 := by omega
  clear hu hN
  by_cases hl : 1000 < len
  · have hl' : (1000 : Int) < len := by omega
    clear hb sl htl
    have ca := HA.out w
    go_enter Try.func6, Try.ntmps6
    go_wp2_with fail
    refine ca.mono ?_
    rintro e w1 ⟨rfl, bel⟩
    clear ca
    go_wp2_with fail
    go_ret
    exact ⟨rfl, bel⟩
  have hl' : ¬ (1000 : Int) < len := by omega
  by_cases hl2 : len < N
  · have hl2' : (len : Int) < N := by omega
    clear hb sl htl
    have ca := HA.out w
    go_enter Try.func6, Try.ntmps6
    go_wp2_with fail
    refine ca.mono ?_
    rintro e w1 ⟨rfl, bel⟩
    clear ca
    go_wp2_with fail
    go_ret
    exact ⟨rfl, bel⟩
  have hl2' : ¬ (len : Int) < N := by omega
  obtain ⟨b, off, rfl, hcell⟩ := hb.at (by omega)
  have HC : Hid (∀ W, Below w.heap.size w W → ∀ j, j < len → W.cell? ⟨b, off + j, none⟩ = some (.int .u8 ((zs.take len).getD j 0))) := hcell
  have HB : Hid (∀ i, 0 ≤ (zs.take len).getD i 0 ∧ (zs.take len).getD i 0 < 256) := hb.bound
  have cn := wnew_any _ _ w (sl.take N (by omega)) (by rw [List.length_take]; omega)
  have HS : Hid (∀ W k, Below w.heap.size w W → k + N ≤ len → Calls Try.prog 12 #[.slice (some ⟨b, off + k, none⟩) N (cap - k)] W fun e w' => e = .returned (.int .u32 (rs (over (zs.take len) N k))) ∧ w' = W) := fun W k hB hk =>
    sum_any _ _ W (((sl.drop k (by omega)).take N (by omega)).kept hB)
  have HO : Hid (∀ k, k + N < len → ∃ c r, over (zs.take len) N k = c :: r ∧ r.length + 1 = N ∧ r ++ [(zs.take len).getD (k + N) 0] = over (zs.take len) N (k + 1)) := fun k hk => over_step _ N k hNp (by rw [htl]; exact hk)
  have HL : Hid (∀ k, k + N ≤ len → (over (zs.take len) N k).length = N) := fun k hk => over_len _ N k (by rw [htl]; exact hk)
  have HW0 : Hid ((zs.take len).take N = over (zs.take len) N 0) := rfl
  clear hcell hb sl htl
  generalize zs.take len = X at *
  rw [HW0.out] at cn
  have hN0 : ((N : Int) ≤ (cap : Int)) := by omega
  go_enter Try.func6, Try.ntmps6
  go_wp2_with fail
  refine cn.mono ?_
  rintro e w0 ⟨g, hv0, rfl, win0, bel0⟩
  clear cn
  go_wp2_with fail
  go_loopw [7] (fun i wr => ∃ (k : Nat) (hv : Value), k + N ≤ len ∧ i = .int .i64 ((k + N : Nat) : Int) ∧ Win wr w.heap.size g hv (over X N k) ∧ Below w.heap.size w wr) (fun i _ => len - (intOf i).toNat)
  case atStart => exact ⟨0, hv0, by omega, by rw [Nat.zero_add], win0, bel0⟩
  case round =>
    clear win0 bel0
    obtain ⟨k, hv, hkN, rfl, win, bel⟩ := hrel
    have S1 : Hid (∀ m, Calls Try.prog 20 #[.pointer (some ⟨g, 0, none⟩)] (wr.drewN m) fun e w' => e = .returned (.int .u32 (rs (over X N k))) ∧ w' = wr.drewN m) := fun m => wsum_any _ g hv _ _ (win.kept (below_drewN (Below.refl _ _) m))
    have S2 : Hid (∀ m, Calls Try.prog 12 #[.slice (some ⟨b, off + k, none⟩) N (cap - k)] (wr.drewN m) fun e w' => e = .returned (.int .u32 (rs (over X N k))) ∧ w' = wr.drewN m) := fun m => HS.out _ k (below_drewN bel m) hkN
    have S3 : Hid (∀ m, Calls Try.prog 21 #[.pointer (some ⟨g, 0, none⟩)] (wr.drewN m) fun e w' => e = .returned (.int .i64 (N : Nat)) ∧ ∃ m', w' = (wr.drewN m).drewN m') := fun m => by
      have := wlenQ_any _ g hv _ _ (win.kept (below_drewN (Below.refl _ _) m)) (by rw [HL.out k hkN]; omega)
      rwa [HL.out k hkN] at this
    generalize rs (over X N k) = r at *
    obtain ⟨J, hJ⟩ : ∃ J, J = k + N := ⟨_, rfl⟩
    have hsub : (J : Int) - (N : Int) = (k : Int) := by omega
    have hJk : J - k = N := by omega
    have hJl : J ≤ len := by omega
    have hkc : ¬ cap = k := by omega
    rw [← hJ]
    have HJ : Hid (J = k + N) := hJ
    clear hJ
    have HWin : Hid (Win wr w.heap.size g hv (over X N k)) := win
    have HBel : Hid (Below w.heap.size w wr) := bel
    clear win bel
    by_cases hend : len ≤ J
    · have hend' : (len : Int) ≤ J := by omega
      go_wp2_with fail
      go_quiet ((first | (go_at_call 20; exact Calls.quiet_of_same (S1.out _)) | (go_at_call 12; exact Calls.quiet_of_same (S2.out _)) | (go_at_call 21; exact Calls.quiet_of (S3.out _))))
      go_wp2_with fail
      refine (HA.out _).mono ?_
      rintro e w1 ⟨rfl, bel1⟩
      have belw := (below_drewN HBel.out nq).trans (bel1.mono HBel.out.size)
      clear bel1
      go_wp2_with fail
      go_ret
      exact ⟨rfl, belw⟩
    · have hend' : ¬ (len : Int) ≤ J := by omega
      have hlt' : (J : Int) < len := by omega
      have dj := HC.out wr HBel.out J (by omega)
      obtain ⟨c, r1, ho1, ho2, ho3⟩ := HO.out k (by have := HJ.out; omega)
      have HR : Hid (∀ m, Calls Try.prog 19 #[.pointer (some ⟨g, 0, none⟩), .int .u8 (X.getD J 0)] (wr.drewN m) fun e w' => e = .returned (.bool true) ∧ ∃ hv', Win w' w.heap.size g hv' (over X N (k + 1)) ∧ Below w.heap.size w w') := fun m => by
        have hw := HWin.out.kept (below_drewN (Below.refl _ _) m)
        rw [ho1] at hw
        refine (wroll_some _ g hv c (X.getD J 0) r1 _ hw (by omega) (HB.out J).1 (HB.out J).2).mono ?_
        rintro e w' ⟨rfl, hv', k1, k2, _⟩
        rw [HJ.out, ho3] at k1
        exact ⟨rfl, hv', k1, (below_drewN HBel.out m).trans (hw.fr k2)⟩
      clear ho1 ho2 ho3
      generalize X.getD J 0 = z at *
      go_wp2_with fail
      go_quiet ((first | (go_at_call 20; exact Calls.quiet_of_same (S1.out _)) | (go_at_call 12; exact Calls.quiet_of_same (S2.out _)) | (go_at_call 21; exact Calls.quiet_of (S3.out _))))
      go_wp2_with fail
      refine (HR.out _).mono ?_
      rintro e w1 ⟨rfl, hv1, win1, bel1⟩
      have W1 : Hid (Win w1 w.heap.size g hv1 (over X N (k + 1))) := win1
      have B1 : Hid (Below w.heap.size w w1) := bel1
      clear win1 bel1 dj S1 S2 S3
      go_wp2_with fail
      go_roundw
      case rel => exact ⟨k + 1, hv1, by have := HJ.out; omega, by have := HJ.out; go_num, W1.out, B1.out⟩
      case measure => simp [intOf]; omega

theorem contract (H : Type) (enc : TypeId × Value → H) (W : World) (base : Nat) (args : Array Value) (ds gs : List (DataW H)) (before : List MemPlace)
    (hval : ∀ (j : Nat) t v, Try.f6.params[j]? = some t → args[j]? = some v → Value.okWide Try.prog W .any base t v)
    (hW : DataW.Whole enc Try.prog Try.f6.params.toList Rows.rollAlongSpec.vars false W args.toList ds gs before) (_hL : laidMetH Try.prog Rows.rollAlongRow.laid W)
    (hsz0 : (DataW.weightsEach Try.prog (Try.f6.params.toList ++ Rows.rollAlongSpec.plain.varTypes Try.prog) (ds ++ gs)).all (· ≤ reachBytes) = true) :
    Calls Try.prog 6 args W fun e W' => ∃ v, e = .returned v ∧ Rows.rollAlongSpec.post enc Try.prog Try.f6 false true false false W args v W' := by
  have hW' := hW
  obtain ⟨p, q, hA0, hV, rfl, hfz, hnd⟩ := hW
  have hA : DataW.TrodAll enc Try.prog W 0 (fun _ => true) true Try.f6.params.toList args.toList ds p := hA0
  rw [Try.params6] at hA hval hsz0
  obtain ⟨v0, vs0, d0, ds0, p0, q0, hargs, rfl, rfl, h0, r0⟩ := trodAll_cons hA
  obtain ⟨v1, vs1, d1, ds1, p1, q1, rfl, rfl, rfl, h1, r1⟩ := trodAll_cons r0
  obtain ⟨rfl, rfl, rfl⟩ := trodAll_nil r1
  obtain rfl : args = #[v0, v1] := by cases args; simp_all
  obtain ⟨rfl, rfl⟩ := trodVars_none hV
  have hsz : (DataW.weightsEach Try.prog [22, 5] [d0, d1]).all (· ≤ reachBytes) = true := hsz0
  have k0 := h0
  have lt0 : ∀ x ∈ p0, x.block < W.heap.size := by obtain ⟨m, hm⟩ := k0; exact DataW.trod_lt m _ _ _ hm
  obtain ⟨a0, len0, cap0, z0, rfl, w0⟩ := bytes_open 0 (hval 0 22 v0 rfl rfl) h0 hsz rfl rfl
  obtain ⟨a1, rfl, rfl, rfl, w1⟩ := open_int Try.underlying5 (hval 1 5 v1 rfl rfl) h1
  clear hA0
  refine (walk a0 len0 cap0 z0 a1 W w0 w1).mono fun e W' ⟨he, bel⟩ => ?_
  subst he
  exact ⟨_, rfl, _, _, _, [], _, [], hW', trodAll_mk1 (shut_bool Try.underlying4 _), (trodAll_cons_mk (Below.trod laidOut (by kernel_rfl) (of_decide_eq_true (by kernel_rfl)) k0 bel lt0) (trodAll_cons_mk (shut_int Try.underlying5 w1) trodAll_mk0)), rfl, bel.frame _, fun h => by cases h⟩

theorem laid_met (os : Os) : laidMet Try.prog Rows.rollAlongRow.laid ((World.holding Try.prog os ⟨#[], #[], []⟩).forCall (fun _ _ => 0) ⟨#[], #[.slice none 0 0, .int .u8 0], []⟩).memory :=
  laidMet_of_run' 8 (by kernel_rfl) (by kernel_rfl)
theorem reads (os : Os) {H : Type} (enc : TypeId × Value → H) : ∃ places, DataW.whole enc Try.prog ((World.holding Try.prog os ⟨#[], #[], []⟩).forCall (fun _ _ => 0) ⟨#[], #[.slice none 0 0, .int .u8 0], []⟩).memory Try.f6.params.toList Rows.rollAlongSpec.vars false #[Value.slice none 0 0, .int .u8 0].toList 8 = some ([.nil, .lit (.int .u8 0)], [], places) :=
  ⟨[], by kernel_rfl⟩

set_option maxRecDepth 100000 in
theorem lifted (os : Os) (started : os.Started) (H : Type) (enc : TypeId × Value → H) (F : Stop.Interp) :
    ReturnsInHanded {} Try.checked os 6 .any ((OpenSpec.ofChange Rows.rollAlongSpec).preRow enc Try.prog Try.f6 Rows.rollAlongRow.domain false Rows.rollAlongRow.laid) (((OpenSpec.ofChange Rows.rollAlongSpec).at F).post enc Try.prog Try.f6 false true false false) := by
  obtain ⟨places, hx⟩ := reads os enc
  refine returnsInHanded_of_row (C := Try.checked) (s := OpenSpec.ofChange Rows.rollAlongSpec) own started (by kernel_rfl) Try.func6
    (witness_row_at (enc := enc) (C := Try.checked) false (World.holding Try.prog os ⟨#[], #[], []⟩) #[.slice none 0 0, .int .u8 0] rfl (by kernel_rfl) (by kernel_rfl) (by kernel_rfl)
      (OpenSpec.preRow_of_cond 8 hx (by kernel_rfl) (fun k hk => by cases hk) (by kernel_rfl) (laid_met os))) ?_
  intro W base args ds gs before hval hW _ _ hsz hL _ _
  exact contract H enc W base args ds gs before hval hW hL hsz

theorem said : Rows.RollAlongSaid :=
  OpenClaim.holds_of_cond 6 Try.f6 rfl rfl rfl rfl rfl rfl rfl ⟨rfl, rfl, rfl, rfl, rfl⟩ rfl rfl rfl rfl rfl (by kernel_rfl) Try.func6 (by kernel_rfl)
    (of_decide_eq_true (by kernel_rfl)) (by unfold Func.isWrapper; first | (rw [if_pos (by decide +kernel)]; kernel_rfl) | (rw [if_neg (by decide +kernel)]; exact ⟨rfl, rfl⟩))
    (fun os started H enc _ F => by rw [OpenClaim.pre_eq_preRow]; exact lifted os started H enc F)

end Go.Proofs.Ytdaogagliglokaa.rollAlong

namespace Go.Proofs.Ytdaogagliglokaa
/-- RollAlong. -/
theorem rollAlong_holds : Rows.RollAlongSaid := rollAlong.said
#print axioms rollAlong_holds
end Go.Proofs.Ytdaogagliglokaa
