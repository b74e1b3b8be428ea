/-
  RollForgets: whatever the bytes, the law answers true, and they read as before. No condition.
-/
import Derived.Test.YtdaogagliglokaaWinQ
namespace Go.Proofs.Ytdaogagliglokaa.rollForgets
open Go.ChangeShapes Go.WideShapes Go.ChangeAt Go.RowKit Go.Deep Go.ChangeMaps

theorem drop_step (A B : List Int) (j : Nat) (h : j < A.length) : A.drop j ++ B = A.getD j 0 :: (A.drop (j + 1) ++ B) := by
  rw [List.drop_eq_getElem_cons h, List.cons_append, show A.getD j 0 = A[j] by simp [List.getD, List.getElem?_eq_getElem h]]
theorem take_step (A B : List Int) (j : Nat) (h : j < B.length) : (A ++ B.take j) ++ [B.getD j 0] = A ++ B.take (j + 1) := by
  rw [take_next B j h, List.append_assoc]

set_option maxHeartbeats 4000000 in
theorem walk (a : Option Addr) (len cap : Nat) (zs : List Int) (a2 : Option Addr) (len2 cap2 : Nat) (ys : List Int) (w : World) (hb : Bytes w a len cap zs) (hb2 : Bytes w a2 len2 cap2 ys) :
    Calls Try.prog 7 #[.slice a len cap, .slice a2 len2 cap2] w fun e w' => e = .returned (.bool true) ∧ Below w.heap.size w w' := by
  have HA : Hid (∀ W, Calls Try.prog 9 #[] W fun e w' => e = .returned (.bool true) ∧ Below W.heap.size W w') := awake_any
  have sl := hb.sl
  have sl2 := hb2.sl
  obtain ⟨hlc, hcm, htl⟩ := hb.len_le
  obtain ⟨hlc2, hcm2, htl2⟩ := hb2.len_le
  by_cases hl : 1000 < len
  · have hl' : (1000 : Int) < len := by omega
    clear hb sl htl hb2 sl2 htl2
    have ca := HA.out w
    go_enter Try.func7, Try.ntmps7
    go_wp2_with fail
    refine ca.mono ?_
    rintro e w1 ⟨rfl, bel⟩
    clear ca
    go_wp2_with fail
    go_ret
    exact ⟨rfl, bel⟩
  have hl' : ¬ (1000 : Int) < len := by omega
  by_cases hl2 : 1000 < len2
  · have hl2' : (1000 : Int) < len2 := by omega
    clear hb sl htl hb2 sl2 htl2
    have ca := HA.out w
    go_enter Try.func7, Try.ntmps7
    go_wp2_with fail
    refine ca.mono ?_
    rintro e w1 ⟨rfl, bel⟩
    clear ca
    go_wp2_with fail
    go_ret
    exact ⟨rfl, bel⟩
  have hl2' : ¬ (1000 : Int) < len2 := by omega
  have cn := wnew_any _ _ w sl (by omega)
  have HC : Hid (0 < len → ∃ b off, a = some ⟨b, off, none⟩ ∧ ∀ W, Below w.heap.size w W → ∀ j, j < len → W.cell? ⟨b, off + j, none⟩ = some (.int .u8 ((zs.take len).getD j 0))) := hb.at
  have HC2 : Hid (0 < len2 → ∃ b off, a2 = some ⟨b, off, none⟩ ∧ ∀ W, Below w.heap.size w W → ∀ j, j < len2 → W.cell? ⟨b, off + j, none⟩ = some (.int .u8 ((ys.take len2).getD j 0))) := hb2.at
  have HB2 : Hid (∀ i, 0 ≤ (ys.take len2).getD i 0 ∧ (ys.take len2).getD i 0 < 256) := hb2.bound
  have HSL : Hid (∀ W, Below w.heap.size w W → Sl W (.slice a2 len2 cap2) (ys.take len2)) := fun W hB => sl2.kept hB
  have HT : Hid ((zs.take len).length = len ∧ (ys.take len2).length = len2) := ⟨htl, htl2⟩
  clear hb sl htl hb2 sl2 htl2
  generalize zs.take len = X at *
  generalize ys.take len2 = Y at *
  go_enter Try.func7, Try.ntmps7
  go_wp2_with fail
  refine cn.mono ?_
  rintro e w0 ⟨g, hv0, rfl, win0, bel0⟩
  clear cn
  go_wp2_with fail
  go_loopw [6] (fun i wr => ∃ (j : Nat) (hv : Value), j ≤ len2 ∧ i = .int .i64 (j : Int) ∧ Win wr w.heap.size g hv (X ++ Y.take j) ∧ Below w.heap.size w wr) (fun i _ => len2 - (intOf i).toNat)
  case atStart => exact ⟨0, hv0, by omega, rfl, by simpa using win0, bel0⟩
  case round =>
    clear win0 bel0
    obtain ⟨j, hv, hj, rfl, win, bel⟩ := hrel
    by_cases hlt : j < len2
    · obtain ⟨b, off, rfl, hcell⟩ := HC2.out (by omega)
      have dj := hcell wr bel j hlt
      have ci : Calls Try.prog 17 #[.pointer (some ⟨g, 0, none⟩), .int .u8 (Y.getD j 0)] wr fun e w' => e = .returned (.tuple #[]) ∧ ∃ hv', Win w' w.heap.size g hv' (X ++ Y.take (j + 1)) ∧ Below w.heap.size w w' := by
        refine (win_any _ g hv _ (Y.getD j 0) wr win (by have := HT.out; rw [List.length_append, List.length_take]; omega) (HB2.out j).1 (HB2.out j).2).mono ?_
        rintro e w' ⟨rfl, hv', k1, k2, _⟩
        rw [take_step X Y j (by rw [HT.out.2]; exact hlt)] at k1
        exact ⟨rfl, hv', k1, bel.trans (win.fr k2)⟩
      clear hcell win bel
      generalize Y.getD j 0 = z at *
      go_wp2_with fail
      refine ci.mono ?_
      rintro e w1 ⟨rfl, hv1, win1, bel1⟩
      have W1 : Hid (Win w1 w.heap.size g hv1 (X ++ Y.take (j + 1))) := win1
      have B1 : Hid (Below w.heap.size w w1) := bel1
      clear win1 bel1 ci dj
      go_wp2_with fail
      go_roundw
      case rel => exact ⟨j + 1, hv1, by omega, by go_num, W1.out, B1.out⟩
      case measure => simp [intOf]; omega
    · obtain rfl : j = len2 := by omega
      have win' : Win wr w.heap.size g hv (X ++ Y) := by
        rw [List.take_of_length_le (by rw [HT.out.2]; exact Nat.le_refl _)] at win
        exact win
      clear win
      go_wp2_with fail
      go_loopw [7] (fun i wr => ∃ (k : Nat) (hv : Value), k ≤ len ∧ i = .int .i64 (k : Int) ∧ Win wr w.heap.size g hv (X.drop k ++ Y) ∧ Below w.heap.size w wr) (fun i _ => len - (intOf i).toNat)
      case atStart => exact ⟨0, hv, by omega, rfl, win', bel⟩
      case round =>
        clear win' bel
        obtain ⟨k, hv, hk, rfl, win, bel⟩ := hrel
        by_cases hkl : k < len
        · obtain ⟨b, off, rfl, hcell⟩ := HC.out (by omega)
          have co : Calls Try.prog 18 #[.pointer (some ⟨g, 0, none⟩)] wr fun e w' => e = .returned (.tuple #[.int .u8 (X.getD k 0), .bool true]) ∧ w'.cell? ⟨b, off + k, none⟩ = some (.int .u8 (X.getD k 0)) ∧ ∃ hv', Win w' w.heap.size g hv' (X.drop (k + 1) ++ Y) ∧ Below w.heap.size w w' := by
            rw [drop_step X Y k (by rw [HT.out.1]; exact hkl)] at win
            refine (wout_some _ g hv (X.getD k 0) _ wr win (by have := HT.out; rw [List.length_append, List.length_drop]; omega)).mono ?_
            rintro e w' ⟨rfl, hv', k1, k2, _⟩
            have belw := bel.trans (win.fr k2)
            exact ⟨rfl, hcell w' belw k hkl, hv', k1, belw⟩
          clear hcell win bel
          generalize X.getD k 0 = z at *
          go_wp2_with fail
          refine co.mono ?_
          rintro e w1 ⟨rfl, dj, hv1, win1, bel1⟩
          have W1 : Hid (Win w1 w.heap.size g hv1 (X.drop (k + 1) ++ Y)) := win1
          have B1 : Hid (Below w.heap.size w w1) := bel1
          clear win1 bel1 co
          go_wp2_with fail
          go_roundw
          case rel => exact ⟨k + 1, hv1, by omega, by go_num, W1.out, B1.out⟩
          case measure => simp [intOf]; omega
        · obtain rfl : k = len := by omega
          have win2 : Win wr w.heap.size g hv Y := by
            rw [List.drop_of_length_le (by rw [HT.out.1]; exact Nat.le_refl _), List.nil_append] at win
            exact win
          have b1 := (Below.refl wr.heap.size wr).drew
          have belD := bel.trans (b1.mono bel.size)
          have s1 := wsum_any _ g hv Y wr.drew (win2.kept b1)
          have s2 := sum_any _ Y wr.drew (HSL.out _ belD)
          have s3 := wbytes_any _ g hv Y wr.drew (win2.kept b1) (by rw [HT.out.2]; omega)
          have v0 := (HSL.out _ belD).conv
          have HCV : Hid (∀ W, Below w.heap.size w W → (convert 22 9 (.slice a2 j cap2)).run Try.prog W = .ok (.string (strB Y)) W) := fun W hB => (HSL.out W hB).conv
          have HBy : Hid (∀ i, 0 ≤ Y.getD i 0 ∧ Y.getD i 0 < 256) := HB2.out
          clear win win2
          generalize rs Y = r at *
          rw [HT.out.2] at s3
          go_wp2_with fail
          go_region_with ((first
            | (go_at_call 20; refine s1.mono ?_; rintro e w1 ⟨rfl, rfl⟩)
            | (go_at_call 12; refine s2.mono ?_; rintro e w1 ⟨rfl, rfl⟩)
            | (go_at_call 22; refine s3.mono ?_; rintro e w1 ⟨v1, rfl, own1, bel1⟩; have B1 := belD.trans (bel1.mono belD.size); have cv0 := HCV.out w1 B1; have cv1 := sl_owned own1 HBy.out; obtain ⟨a1, cap1, rfl⟩ := own_shape own1; have cv2 := cv1.conv; clear own1 bel1 cv1)
            | (go_at_call 9; refine (HA.out _).mono ?_; rintro e w2 ⟨rfl, bel2⟩; have B2 := B1.trans (bel2.mono B1.size); clear bel2)))
          all_goals
            go_wp2_with fail
            go_ret
            exact ⟨rfl, B2⟩

theorem contract (H : Type) (enc : TypeId × Value → H) (W : World) (base : Nat) (args : Array Value) (ds gs : List (DataW H)) (before : List MemPlace)
    (hval : ∀ (j : Nat) t v, Try.f7.params[j]? = some t → args[j]? = some v → Value.okWide Try.prog W .any base t v)
    (hW : DataW.Whole enc Try.prog Try.f7.params.toList Rows.rollForgetsSpec.vars false W args.toList ds gs before) (_hL : laidMetH Try.prog Rows.rollForgetsRow.laid W)
    (hsz0 : (DataW.weightsEach Try.prog (Try.f7.params.toList ++ Rows.rollForgetsSpec.plain.varTypes Try.prog) (ds ++ gs)).all (· ≤ reachBytes) = true) :
    Calls Try.prog 7 args W fun e W' => ∃ v, e = .returned v ∧ Rows.rollForgetsSpec.post enc Try.prog Try.f7 false true false false W args v W' := by
  have hW' := hW
  obtain ⟨p, q, hA0, hV, rfl, hfz, hnd⟩ := hW
  have hA : DataW.TrodAll enc Try.prog W 0 (fun _ => true) true Try.f7.params.toList args.toList ds p := hA0
  rw [Try.params7] at hA hval hsz0
  obtain ⟨v0, vs0, d0, ds0, p0, q0, hargs, rfl, rfl, h0, r0⟩ := trodAll_cons hA
  obtain ⟨v1, vs1, d1, ds1, p1, q1, rfl, rfl, rfl, h1, r1⟩ := trodAll_cons r0
  obtain ⟨rfl, rfl, rfl⟩ := trodAll_nil r1
  obtain rfl : args = #[v0, v1] := by cases args; simp_all
  obtain ⟨rfl, rfl⟩ := trodVars_none hV
  have hsz : (DataW.weightsEach Try.prog [22, 22] [d0, d1]).all (· ≤ reachBytes) = true := hsz0
  have k0 := h0
  have lt0 : ∀ x ∈ p0, x.block < W.heap.size := by obtain ⟨m, hm⟩ := k0; exact DataW.trod_lt m _ _ _ hm
  obtain ⟨a0, len0, cap0, z0, rfl, w0⟩ := bytes_open 0 (hval 0 22 v0 rfl rfl) h0 hsz rfl rfl
  have k1 := h1
  have lt1 : ∀ x ∈ p1, x.block < W.heap.size := by obtain ⟨m, hm⟩ := k1; exact DataW.trod_lt m _ _ _ hm
  obtain ⟨a1, len1, cap1, z1, rfl, w1⟩ := bytes_open 1 (hval 1 22 v1 rfl rfl) h1 hsz rfl rfl
  clear hA0
  refine (walk a0 len0 cap0 z0 a1 len1 cap1 z1 W w0 w1).mono fun e W' ⟨he, bel⟩ => ?_
  subst he
  exact ⟨_, rfl, _, _, _, [], _, [], hW', trodAll_mk1 (shut_bool Try.underlying4 _), (trodAll_cons_mk (Below.trod laidOut (by kernel_rfl) (of_decide_eq_true (by kernel_rfl)) k0 bel lt0) (trodAll_cons_mk (Below.trod laidOut (by kernel_rfl) (of_decide_eq_true (by kernel_rfl)) k1 bel lt1) trodAll_mk0)), rfl, bel.frame _, fun h => by cases h⟩

theorem laid_met (os : Os) : laidMet Try.prog Rows.rollForgetsRow.laid ((World.holding Try.prog os ⟨#[], #[], []⟩).forCall (fun _ _ => 0) ⟨#[], #[.slice none 0 0, .slice none 0 0], []⟩).memory :=
  laidMet_of_run' 8 (by kernel_rfl) (by kernel_rfl)
theorem reads (os : Os) {H : Type} (enc : TypeId × Value → H) : ∃ places, DataW.whole enc Try.prog ((World.holding Try.prog os ⟨#[], #[], []⟩).forCall (fun _ _ => 0) ⟨#[], #[.slice none 0 0, .slice none 0 0], []⟩).memory Try.f7.params.toList Rows.rollForgetsSpec.vars false #[Value.slice none 0 0, .slice none 0 0].toList 8 = some ([.nil, .nil], [], places) :=
  ⟨[], by kernel_rfl⟩

set_option maxRecDepth 100000 in
theorem lifted (os : Os) (started : os.Started) (H : Type) (enc : TypeId × Value → H) (F : Stop.Interp) :
    ReturnsInHanded {} Try.checked os 7 .any ((OpenSpec.ofChange Rows.rollForgetsSpec).preRow enc Try.prog Try.f7 Rows.rollForgetsRow.domain false Rows.rollForgetsRow.laid) (((OpenSpec.ofChange Rows.rollForgetsSpec).at F).post enc Try.prog Try.f7 false true false false) := by
  obtain ⟨places, hx⟩ := reads os enc
  refine returnsInHanded_of_row (C := Try.checked) (s := OpenSpec.ofChange Rows.rollForgetsSpec) own started (by kernel_rfl) Try.func7
    (witness_row_at (enc := enc) (C := Try.checked) false (World.holding Try.prog os ⟨#[], #[], []⟩) #[.slice none 0 0, .slice none 0 0] rfl (by kernel_rfl) (by kernel_rfl) (by kernel_rfl)
      (OpenSpec.preRow_of_cond 8 hx (by kernel_rfl) (fun k hk => by cases hk) (by kernel_rfl) (laid_met os))) ?_
  intro W base args ds gs before hval hW _ _ hsz hL _ _
  exact contract H enc W base args ds gs before hval hW hL hsz

theorem said : Rows.RollForgetsSaid :=
  OpenClaim.holds_of_cond 7 Try.f7 rfl rfl rfl rfl rfl rfl rfl ⟨rfl, rfl, rfl, rfl, rfl⟩ rfl rfl rfl rfl rfl (by kernel_rfl) Try.func7 (by kernel_rfl)
    (of_decide_eq_true (by kernel_rfl)) (by unfold Func.isWrapper; first | (rw [if_pos (by decide +kernel)]; kernel_rfl) | (rw [if_neg (by decide +kernel)]; exact ⟨rfl, rfl⟩))
    (fun os started H enc _ F => by rw [OpenClaim.pre_eq_preRow]; exact lifted os started H enc F)

end Go.Proofs.Ytdaogagliglokaa.rollForgets

namespace Go.Proofs.Ytdaogagliglokaa
/-- RollForgets. -/
theorem rollForgets_holds : Rows.RollForgetsSaid := rollForgets.said
#print axioms rollForgets_holds
end Go.Proofs.Ytdaogagliglokaa
