/-
  What two answers; what every right program makes of two operations.
-/
import Derived.Test.YtfccjeepmhgckaaDoorDa
import Derived.Test.YtfccjeepmhgckaaDoorDl
import Derived.Test.YtfccjeepmhgckaaDoorDm
import Derived.Test.YtfccjeepmhgckaaDoorDj
import Derived.Test.YtfccjeepmhgckaaDoorDq
import Derived.Test.YtfccjeepmhgckaaDoorRm
import Derived.Lib.SlBytesConst
namespace Go.Proofs.YtfccjeepmhgckaaDoor
open Go.RowKit
set_option maxRecDepth 100000

theorem conv_last (w : World) (C : Array Value) (n c : Nat) : (convert 26 26 (.slice (some ⟨w.heap.size, 0, none⟩) n c)).run Tryd.prog (w.alloc (.cells C 5)) = .ok (.slice (some ⟨w.heap.size, 0, none⟩) n c) (w.alloc (.cells C 5 (C.size, C.size + 1))) :=
  Lib.run_convert_bytes_const w 26 5 C n c Tryd.underlying26 Tryd.underlying5
/-- Bytes of a constant, as a slice. -/
theorem sl_const (w : World) (X : List Int) (m : Nat × Nat) (hX : X.all (fun z => 0 ≤ z && z < 256) = true) (hl : X.length ≤ maxLen) : Sl (w.alloc (.cells (X.map (Value.int .u8)).toArray 5 m)) (.slice (some ⟨w.heap.size, 0, none⟩) X.length X.length) X := by
  refine ⟨_, X.length, rfl, Nat.le_refl _, hl, (fun e => by cases e), ?_⟩
  rcases Nat.eq_zero_or_pos X.length with h0 | hp
  · exact .inl h0
  · refine .inr ⟨hp, w.heap.size, 0, rfl, Nat.le_refl _, hl, fun i hi => ?_, byteList X hX⟩
    rw [cell_of_row _ _ _ _ _ _ (heap_alloc_new _ _)]
    simp [List.getD, hi]
theorem slx_const (w : World) (X : List Int) (m : Nat × Nat) (hX : X.all (fun z => 0 ≤ z && z < 256) = true) (hl : X.length ≤ maxLen) : SlX (w.alloc (.cells (X.map (Value.int .u8)).toArray 5 m)) (.slice (some ⟨w.heap.size, 0, none⟩) X.length X.length) X :=
  ⟨sl_const w X m hX hl, fun x n c e _ => by cases e; rfl⟩
/-- Two operations. -/
def tw (a n : Int) : List Xp := [⟨true, a, n, []⟩, ⟨false, 0, 0, [120, 121]⟩]
theorem xs_two (w : World) (a n : Int) : XS ((w.alloc (.cells #[.int .u8 120, .int .u8 121] 5 (2, 3))).alloc (.cells #[.bool true, .int .i64 a, .int .i64 n, .slice none 0 0, .bool false, .int .i64 0, .int .i64 0, .slice (some ⟨w.heap.size, 0, none⟩) 2 2] 46)) (.slice (some ⟨w.heap.size + 1, 0, none⟩) 2 2) (tw a n) := by
  have hs := sl_const w [120, 121] (2, 3) (by decide) (by unfold maxLen; decide)
  have hh := heap_alloc_new (w.alloc (.cells #[.int .u8 120, .int .u8 121] 5 (2, 3))) (.cells #[.bool true, .int .i64 a, .int .i64 n, .slice none 0 0, .bool false, .int .i64 0, .int .i64 0, .slice (some ⟨w.heap.size, 0, none⟩) 2 2] 46)
  rw [show (w.alloc (.cells #[.int .u8 120, .int .u8 121] 5 (2, 3))).heap.size = w.heap.size + 1 by simp] at hh
  have hb := al_below (w.alloc (.cells #[.int .u8 120, .int .u8 121] 5 (2, 3))) (.cells #[.bool true, .int .i64 a, .int .i64 n, .slice none 0 0, .bool false, .int .i64 0, .int .i64 0, .slice (some ⟨w.heap.size, 0, none⟩) 2 2] 46)
  have hs2 := hs.kept hb
  refine ⟨fun i => if i = 0 then .slice none 0 0 else .slice (some ⟨w.heap.size, 0, none⟩) 2 2, _, 2, rfl, Nat.le_refl _, by unfold maxLen; decide, (fun e => by cases e), .inr ⟨w.heap.size + 1, 0, rfl, fun i hi => ?_⟩⟩
  rcases (show i = 0 ∨ i = 1 by simp [tw] at hi; omega) with rfl | rfl
  · refine ⟨?_, ?_, ?_, ?_, Sl.none _⟩
    all_goals
      rw [cell_of_row _ _ _ _ _ _ hh]
      rfl
  · refine ⟨?_, ?_, ?_, ?_, hs2⟩
    all_goals
      rw [cell_of_row _ _ _ _ _ _ hh]
      rfl
set_option maxHeartbeats 2000000 in
theorem two_any (w : World) : Calls Tryd.prog 14 #[] w fun e w' => ∃ v, e = .returned v ∧ XS w' v (tw 0 6) ∧ Below w.heap.size w w' := by
  have hcv := conv_last w #[.int .u8 120, .int .u8 121] 2 2
  have HX : Hid (XS ((w.alloc (.cells #[.int .u8 120, .int .u8 121] 5 (2, 3))).alloc (.cells #[.bool true, .int .i64 0, .int .i64 6, .slice none 0 0, .bool false, .int .i64 0, .int .i64 0, .slice (some ⟨w.heap.size, 0, none⟩) 2 2] 46)) (.slice (some ⟨w.heap.size + 1, 0, none⟩) 2 2) (tw 0 6)) := xs_two w 0 6
  have HB : Hid (Below w.heap.size w ((w.alloc (.cells #[.int .u8 120, .int .u8 121] 5 (2, 3))).alloc (.cells #[.bool true, .int .i64 0, .int .i64 6, .slice none 0 0, .bool false, .int .i64 0, .int .i64 0, .slice (some ⟨w.heap.size, 0, none⟩) 2 2] 46))) := ((Below.refl _ _).alloc (Nat.le_refl _) _).alloc (by simp) _
  go_enter Tryd.func14, Tryd.ntmps14
  go_wp2
  go_ret
  exact ⟨_, rfl, HX.out, HB.out⟩
def aw6 : List Int := [97, 98, 99, 100, 101, 102]
def aw8 : List Int := [97, 98, 99, 100, 101, 102, 120, 121]
def aw7 : List Int := [1, 0, 6, 0, 2, 120, 121]
theorem aw_may : ∀ x ∈ tw 0 6, mayX x 6 = true := by decide
theorem aw_app : appX aw6 (tw 0 6) = (aw8, 0) := by decide
theorem aw_put : putX (tw 0 6) = aw7 := by decide
theorem aw_feed : feedP ⟨6, 0, [], 0⟩ (putX (tw 0 6)) = (⟨6, 8, [], 0⟩, tw 0 6, 0) := by
  have h := tks_all 6 (by decide) (tw 0 6) 0 [] (Int.le_refl _) aw_may (by decide)
  unfold feedP
  simp only [if_true, List.nil_append] at h ⊢
  rw [h]
  rfl
theorem aw_from : froX (tw 0 6) 4 = tw 4 2 := rfl
theorem aw_s8 : strB aw8 = ⟨#[97, 98, 99, 100, 101, 102, 120, 121]⟩ := rfl
theorem aw_s7 : strB aw7 = ⟨#[1, 0, 6, 0, 2, 120, 121]⟩ := rfl
theorem aw_small : (tw 0 6).length ≤ 100000 ∧ (tw 4 2).length ≤ 100000 := by decide
theorem aw_d : ∀ x ∈ tw 0 6, x.d.length ≤ 1000000 := by decide
theorem aw_x : ∀ x ∈ tw 0 6, 0 ≤ x.a ∧ x.a ≤ 1099511627776 ∧ 0 ≤ x.n ∧ x.n ≤ 9223372036854775807 ∧ x.d.length ≤ 1000000000 := by decide
set_option maxHeartbeats 8000000 in
theorem awake_any (w : World) (ht : Fi.Wid w) : Calls Tryd.prog 5 #[] w fun e w' => e = .returned (.bool true) ∧ Below w.heap.size w w' := by
  obtain ⟨W1, hW1⟩ : ∃ W1, W1 = w.alloc (.cells (aw6.map (Value.int .u8)).toArray 5 (6, 7)) := ⟨_, rfl⟩
  have b1 : Below w.heap.size w W1 := by rw [hW1]; exact al_below _ _
  have s1 : SlX W1 (.slice (some ⟨w.heap.size, 0, none⟩) 6 6) aw6 := by rw [hW1]; exact slx_const w aw6 (6, 7) (by decide) (by unfold maxLen; decide)
  have hcv := conv_last w #[.int .u8 97, .int .u8 98, .int .u8 99, .int .u8 100, .int .u8 101, .int .u8 102] 6 6
  have hw1 : w.alloc (.cells #[.int .u8 97, .int .u8 98, .int .u8 99, .int .u8 100, .int .u8 101, .int .u8 102] 5 (6, 6 + 1)) = W1 := hW1.symm
  have B1 : Hid (Below w.heap.size w W1) := b1
  have S1 : Hid (SlX W1 (.slice (some ⟨w.heap.size, 0, none⟩) 6 6) aw6) := s1
  have HT : Hid (∀ W, Below w.heap.size w W → Fi.Wid W) := fun W hb => Wid.kept ht hb
  clear hW1 b1 s1 ht
  have c := two_any W1
  go_enter Tryd.func5, Tryd.ntmps5
  go_wp2_with fail
  try rw [hw1]
  clear hw1 hcv
  refine c.mono ?_
  rintro e w2 ⟨v2, rfl, x2, b2⟩
  clear c
  have B2 : Hid (Below w.heap.size w w2) := B1.out.trans (b2.mono B1.out.size)
  have c := apply_any _ v2 aw6 (tw 0 6) w2 (S1.out.kept b2) x2 (by decide)
  rw [aw_app] at c
  obtain ⟨ta, tc, rfl, -⟩ := x2.shape
  clear x2 b2 S1
  simp only [tw, List.length_cons, List.length_nil] at c ⊢
  go_wp2_with fail
  refine c.mono ?_
  rintro e w3 ⟨v3, rfl, o3, b3⟩
  clear c
  have B3 : Hid (Below w.heap.size w w3) := B2.out.trans (b3.mono B2.out.size)
  have O3 : Hid (∀ W, Below w3.heap.size w3 W → Ow W w2.heap.size v3 aw8) := fun W hb => o3.below hb
  obtain ⟨aa, ac, rfl⟩ := o3.shape
  clear o3 b3
  have c := dnew_any 6 w3 (by decide)
  go_wp2_with fail
  refine c.mono ?_
  rintro e w4 ⟨rfl, d4, b4⟩
  clear c
  have B4 : Hid (Below w.heap.size w w4) := B3.out.trans (b4.mono B3.out.size)
  have B34 : Hid (Below w3.heap.size w3 w4) := b4
  have D4 : Hid (DC w4 w3.heap.size w3.heap.size (.slice none 0 0) ⟨6, 0, [], 0⟩) := d4
  clear d4 b4
  have c := two_any w4
  go_wp2_with fail
  refine c.mono ?_
  rintro e w5 ⟨v5, rfl, x5, b5⟩
  clear c
  have B5 : Hid (Below w.heap.size w w5) := B4.out.trans (b5.mono B4.out.size)
  have B35 : Hid (Below w3.heap.size w3 w5) := B34.out.trans (b5.mono B34.out.size)
  have D5 : Hid (DC w5 w3.heap.size w3.heap.size (.slice none 0 0) ⟨6, 0, [], 0⟩) := D4.out.kept b5
  have c := put_any v5 (tw 0 6) w5 x5 (by decide) aw_d (HT.out _ B5.out)
  obtain ⟨ta, tc, rfl, -⟩ := x5.shape
  clear x5 b5 D4 B34
  simp only [tw, List.length_cons, List.length_nil] at c ⊢
  go_wp2_with fail
  refine c.mono ?_
  rintro e w6 ⟨v6, rfl, o6, b6⟩
  clear c
  have B6 : Hid (Below w.heap.size w w6) := B5.out.trans (b6.mono B5.out.size)
  have B36 : Hid (Below w3.heap.size w3 w6) := B35.out.trans (b6.mono B35.out.size)
  have c := feed_any w6 w3.heap.size w3.heap.size (.slice none 0 0) v6 ⟨6, 0, [], 0⟩ (putX (tw 0 6)) (D5.out.kept b6) o6.sl (fun W hb => HT.out W (B6.out.trans (hb.mono (Nat.le_trans B3.out.size (Nat.le_refl _))))) (by rw [aw_put]; decide)
  unfold FP at c
  rw [aw_feed] at c
  obtain ⟨pa, pc, rfl⟩ := o6.shape
  clear o6 b6 D5 B35
  go_wp2_with fail
  refine c.mono ?_
  rintro e w7 ⟨lv, rv, rfl, x7, d7, k7, -⟩
  clear c
  have k37 : Below w3.heap.size w6 w7 := k7.below (Nat.le_refl _) (fun k e => by cases e) B36.out.size
  have B37 : Hid (Below w3.heap.size w3 w7) := B36.out.trans k37
  have B7 : Hid (Below w.heap.size w w7) := B6.out.trans (k37.mono B3.out.size)
  have D7 : Hid (∀ W, Below w7.heap.size w7 W → DC W w3.heap.size w3.heap.size rv ⟨6, 8, [], 0⟩) := fun W hb => d7.kept hb
  have X7 : Hid (∀ W, Below w7.heap.size w7 W → XS W lv (tw 0 6)) := fun W hb => (x7.ox.below hb).xs
  obtain ⟨la, lc, rfl, -⟩ := x7.ox.shape
  have cv := (O3.out w7 B37.out).sl.conv
  rw [aw_s8] at cv
  have h8 : aw8.length = 8 := rfl
  rw [h8] at cv ⊢
  clear d7 x7 k7 k37 O3 B36
  have c := two_any w7
  simp only [tw, List.length_cons, List.length_nil]
  go_wp2_with fail
  refine c.mono ?_
  rintro e w8 ⟨v8, rfl, x8, b8⟩
  clear c cv
  have B8 : Hid (Below w.heap.size w w8) := B7.out.trans (b8.mono B7.out.size)
  have B78 : Hid (Below w7.heap.size w7 w8) := b8
  have c := put_any v8 (tw 0 6) w8 x8 (by decide) aw_d (HT.out _ B8.out)
  rw [aw_put] at c
  obtain ⟨ta, tc, rfl, -⟩ := x8.shape
  clear x8 b8
  simp only [tw, List.length_cons, List.length_nil] at c ⊢
  go_wp2_with fail
  refine c.mono ?_
  rintro e w9 ⟨v9, rfl, o9, b9⟩
  clear c
  have B9 : Hid (Below w.heap.size w w9) := B8.out.trans (b9.mono B8.out.size)
  have B79 : Hid (Below w7.heap.size w7 w9) := B78.out.trans (b9.mono B78.out.size)
  obtain ⟨pa9, pc9, rfl⟩ := o9.shape
  have cv := o9.sl.conv
  rw [aw_s7] at cv
  have h7 : aw7.length = 7 := rfl
  rw [h7] at cv ⊢
  clear o9 b9 B78
  have c := two_any w9
  go_wp2_with fail
  refine c.mono ?_
  rintro e w10 ⟨v10, rfl, x10, b10⟩
  clear c cv
  have B10 : Hid (Below w.heap.size w w10) := B9.out.trans (b10.mono B9.out.size)
  have B710 : Hid (Below w7.heap.size w7 w10) := B79.out.trans (b10.mono B79.out.size)
  have c := rsame_any _ _ (tw 0 6) (tw 0 6) w10 (X7.out w10 B710.out) x10 aw_small.1 aw_small.1
  rw [saX_self] at c
  obtain ⟨ta, tc, rfl, -⟩ := x10.shape
  clear x10 b10 B79 X7
  simp only [tw, List.length_cons, List.length_nil] at c ⊢
  go_wp2_with fail
  refine c.mono ?_
  rintro e w11 ⟨rfl, b11⟩
  clear c
  have B11 : Hid (Below w.heap.size w w11) := B10.out.trans (b11.mono B10.out.size)
  have B711 : Hid (Below w7.heap.size w7 w11) := B710.out.trans (b11.mono B710.out.size)
  have c := made_any w11 _ _ _ _ (D7.out w11 B711.out)
  have c' := rest_any w11 _ _ _ _ (D7.out w11 B711.out)
  simp only [List.length_nil] at c c'
  clear b11 B710 D7
  go_wp2_with fail
  refine c.mono ?_
  rintro e wq ⟨rfl, hq⟩
  replace hq := hq.symm
  subst hq
  clear c
  go_wp2_with fail
  refine c'.mono ?_
  rintro e wq ⟨rfl, hq⟩
  replace hq := hq.symm
  subst hq
  clear c'
  have c := two_any w11
  go_wp2_with fail
  refine c.mono ?_
  rintro e w12 ⟨v12, rfl, x12, b12⟩
  clear c
  have B12 : Hid (Below w.heap.size w w12) := B11.out.trans (b12.mono B11.out.size)
  have c := from_any v12 (tw 0 6) 4 w12 x12 (by decide) (by decide) aw_x
  rw [aw_from] at c
  obtain ⟨ta, tc, rfl, -⟩ := x12.shape
  clear x12 b12
  simp only [tw, List.length_cons, List.length_nil] at c ⊢
  go_wp2_with fail
  refine c.mono ?_
  rintro e w13 ⟨v13, rfl, o13, b13⟩
  clear c
  have B13 : Hid (Below w.heap.size w w13) := B12.out.trans (b13.mono B12.out.size)
  have x14 := xs_two w13 4 2
  have b14 : Below w13.heap.size w13 ((w13.alloc (.cells #[.int .u8 120, .int .u8 121] 5 (2, 3))).alloc (.cells #[.bool true, .int .i64 4, .int .i64 2, .slice none 0 0, .bool false, .int .i64 0, .int .i64 0, .slice (some ⟨w13.heap.size, 0, none⟩) 2 2] 46)) := ((Below.refl _ _).alloc (Nat.le_refl _) _).alloc (by simp) _
  obtain ⟨W14, hW14⟩ : ∃ W14, W14 = ((w13.alloc (.cells #[.int .u8 120, .int .u8 121] 5 (2, 3))).alloc (.cells #[.bool true, .int .i64 4, .int .i64 2, .slice none 0 0, .bool false, .int .i64 0, .int .i64 0, .slice (some ⟨w13.heap.size, 0, none⟩) 2 2] 46)) := ⟨_, rfl⟩
  rw [← hW14] at x14 b14
  have B14 : Hid (Below w.heap.size w W14) := B13.out.trans (b14.mono B13.out.size)
  have c := rsame_any _ _ (tw 4 2) (tw 4 2) W14 (o13.xs.kept b14) x14 aw_small.2 aw_small.2
  rw [saX_self] at c
  obtain ⟨fa, fc, rfl, -⟩ := o13.shape
  have hcv := conv_last w13 #[.int .u8 120, .int .u8 121] 2 2
  have HW14 : Hid (W14 = ((w13.alloc (.cells #[.int .u8 120, .int .u8 121] 5 (2, 3))).alloc (.cells #[.bool true, .int .i64 4, .int .i64 2, .slice none 0 0, .bool false, .int .i64 0, .int .i64 0, .slice (some ⟨w13.heap.size, 0, none⟩) 2 2] 46))) := hW14
  clear o13 b13 x14 b14 hW14
  simp only [List.length_cons, List.length_nil] at c ⊢
  go_wp2_with fail
  rw [HW14.out] at c
  refine c.mono ?_
  rintro e w15 ⟨rfl, b15⟩
  clear c hcv
  rw [← HW14.out] at b15
  have BZ : Hid (Below w.heap.size w w15) := B14.out.trans (b15.mono B14.out.size)
  clear b15
  go_wp2
  go_ret
  exact ⟨rfl, BZ.out⟩
end Go.Proofs.YtfccjeepmhgckaaDoor
