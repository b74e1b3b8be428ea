/-
  What every right program makes of two samples.
-/
import Derived.Test.YtbomkapnkpjjbaaPr
namespace Go.Proofs.Ytbomkapnkpjjbaa
open Go.RowKit

abbrev sA : Sta := ⟨true, 10, 10, 10, 5⟩
abbrev sU : Sta := ⟨true, 18, 10, 10, 5⟩
theorem awake_any (w : World) : Calls Try.prog 12 #[] w fun e w' => e = .returned (.bool true) ∧ Below w.heap.size w w' := by
  have c1 := sample_any false 0 0 0 0 10 0 w
  rw [show smp ⟨false, 0, 0, 0, 0⟩ 10 0 = sA from by decide +kernel] at c1
  go_enter Try.func12, Try.ntmps12
  go_wp2_with fail
  refine c1.mono ?_
  rintro e w1 ⟨rfl, b1⟩
  obtain ⟨W2, hW2⟩ : ∃ W2, W2 = w1.alloc (.cells #[.bool true, .int .i64 10, .int .i64 10, .int .i64 10, .int .i64 5] 24) := ⟨_, rfl⟩
  have b2 : Below w1.heap.size w1 W2 := by rw [hW2]; exact al_below _ _
  have HS2 : Hid (SB W2 w1.heap.size 24 sA) := by unfold Hid; rw [hW2]; exact heap_new _ _
  have HB2 : Hid (Below w.heap.size w W2) := b1.trans (b2.mono b1.size)
  clear c1 b1 b2
  go_wp2_with (refine wpList_store_row rfl 24 _ _ rfl w1.heap.size #[.bool true, .int .i64 10, .int .i64 10, .int .i64 10, .int .i64 5] rfl rfl 24 _ (heap_alloc_new _ _) infoS rfl (st5_one _ _ _ _ _) (Hid.out ?_))
  unfold Hid
  rw [World.setRow_alloc_new, ← hW2]
  clear hW2
  have c2 := sample_any true 10 10 10 5 18 2 W2
  rw [show smp ⟨true, 10, 10, 10, 5⟩ 18 2 = sU from by decide +kernel] at c2
  go_wp2_with (refine wpList_load_row rfl 24 _ rfl w1.heap.size rfl 24 #[.bool true, .int .i64 10, .int .i64 10, .int .i64 10, .int .i64 5] (0, 0) _ HS2.out Try.underlying24 rfl infoS ?_)
  refine c2.mono ?_
  rintro e w3 ⟨rfl, b3⟩
  obtain ⟨W4, hW4⟩ : ∃ W4, W4 = w3.alloc (.cells #[.bool true, .int .i64 18, .int .i64 10, .int .i64 10, .int .i64 5] 24) := ⟨_, rfl⟩
  have b4 : Below w3.heap.size w3 W4 := by rw [hW4]; exact al_below _ _
  have HS4 : Hid (SB W4 w1.heap.size 24 sA) := (HS2.out.kept b3).kept b4
  have HU4 : Hid (SB W4 w3.heap.size 24 sU) := by unfold Hid; rw [hW4]; exact heap_new _ _
  have HB4 : Hid (Below w.heap.size w W4) := (HB2.out.trans (b3.mono HB2.out.size)).trans (b4.mono (HB2.out.trans (b3.mono HB2.out.size)).size)
  clear c2 b3 b4 HS2 HB2
  go_wp2_with (refine wpList_store_row rfl 24 _ _ rfl w3.heap.size #[.bool true, .int .i64 18, .int .i64 10, .int .i64 10, .int .i64 5] rfl rfl 24 _ (heap_alloc_new _ _) infoS rfl (st5_one _ _ _ _ _) (Hid.out ?_))
  unfold Hid
  rw [World.setRow_alloc_new, ← hW4]
  clear hW4
  generalize w1.heap.size = gS at *
  generalize w3.heap.size = gU at *
  have c5 := probe_any true 10 10 10 5 0 W4
  rw [show prb ⟨true, 10, 10, 10, 5⟩ 0 = 30 from by decide +kernel] at c5
  obtain ⟨e0, e1, e2, e3, e4⟩ := HS4.out.sc
  obtain ⟨f0, f1, f2, f3, f4⟩ := HU4.out.sc
  go_wp2_with (first | refine wpList_load_row rfl 24 _ rfl gS rfl 24 #[.bool true, .int .i64 10, .int .i64 10, .int .i64 10, .int .i64 5] (0, 0) _ HS4.out Try.underlying24 rfl infoS ?_ | refine wpList_load_row rfl 24 _ rfl gU rfl 24 #[.bool true, .int .i64 18, .int .i64 10, .int .i64 10, .int .i64 5] (0, 0) _ HU4.out Try.underlying24 rfl infoS ?_)
  refine c5.mono ?_
  rintro e w5 ⟨rfl, b5⟩
  have HS5 : Hid (SB w5 gS 24 sA) := HS4.out.kept b5
  have HU5 : Hid (SB w5 gU 24 sU) := HU4.out.kept b5
  have HB5 : Hid (Below w.heap.size w w5) := HB4.out.trans (b5.mono HB4.out.size)
  clear c5 b5 HS4 HU4 HB4 e0 e1 e2 e3 e4 f0 f1 f2 f3 f4
  have c6 := late_any true 10 10 10 5 w5
  rw [show lat ⟨true, 10, 10, 10, 5⟩ = 11 from by decide +kernel] at c6
  obtain ⟨e0, e1, e2, e3, e4⟩ := HS5.out.sc
  obtain ⟨f0, f1, f2, f3, f4⟩ := HU5.out.sc
  go_wp2_with (first | refine wpList_load_row rfl 24 _ rfl gS rfl 24 #[.bool true, .int .i64 10, .int .i64 10, .int .i64 10, .int .i64 5] (0, 0) _ HS5.out Try.underlying24 rfl infoS ?_ | refine wpList_load_row rfl 24 _ rfl gU rfl 24 #[.bool true, .int .i64 18, .int .i64 10, .int .i64 10, .int .i64 5] (0, 0) _ HU5.out Try.underlying24 rfl infoS ?_)
  refine c6.mono ?_
  rintro e w6 ⟨rfl, b6⟩
  have HS6 : Hid (SB w6 gS 24 sA) := HS5.out.kept b6
  have HU6 : Hid (SB w6 gU 24 sU) := HU5.out.kept b6
  have HB6 : Hid (Below w.heap.size w w6) := HB5.out.trans (b6.mono HB5.out.size)
  clear c6 b6 HS5 HU5 HB5 e0 e1 e2 e3 e4 f0 f1 f2 f3 f4
  have c7 := probe_any false 0 0 0 0 1 w6
  rw [show prb ⟨false, 0, 0, 0, 0⟩ 1 = 32 from by decide +kernel] at c7
  obtain ⟨e0, e1, e2, e3, e4⟩ := HS6.out.sc
  obtain ⟨f0, f1, f2, f3, f4⟩ := HU6.out.sc
  go_wp2_with (first | refine wpList_load_row rfl 24 _ rfl gS rfl 24 #[.bool true, .int .i64 10, .int .i64 10, .int .i64 10, .int .i64 5] (0, 0) _ HS6.out Try.underlying24 rfl infoS ?_ | refine wpList_load_row rfl 24 _ rfl gU rfl 24 #[.bool true, .int .i64 18, .int .i64 10, .int .i64 10, .int .i64 5] (0, 0) _ HU6.out Try.underlying24 rfl infoS ?_)
  refine c7.mono ?_
  rintro e w7 ⟨rfl, b7⟩
  have HS7 : Hid (SB w7 gS 24 sA) := HS6.out.kept b7
  have HU7 : Hid (SB w7 gU 24 sU) := HU6.out.kept b7
  have HB7 : Hid (Below w.heap.size w w7) := HB6.out.trans (b7.mono HB6.out.size)
  clear c7 b7 HS6 HU6 HB6 e0 e1 e2 e3 e4 f0 f1 f2 f3 f4
  have c8 := check_any true 18 10 10 5 w7
  rw [show chk ⟨true, 18, 10, 10, 5⟩ = true from by decide +kernel] at c8
  obtain ⟨e0, e1, e2, e3, e4⟩ := HS7.out.sc
  obtain ⟨f0, f1, f2, f3, f4⟩ := HU7.out.sc
  go_wp2_with (first | refine wpList_load_row rfl 24 _ rfl gS rfl 24 #[.bool true, .int .i64 10, .int .i64 10, .int .i64 10, .int .i64 5] (0, 0) _ HS7.out Try.underlying24 rfl infoS ?_ | refine wpList_load_row rfl 24 _ rfl gU rfl 24 #[.bool true, .int .i64 18, .int .i64 10, .int .i64 10, .int .i64 5] (0, 0) _ HU7.out Try.underlying24 rfl infoS ?_)
  refine c8.mono ?_
  rintro e w8 ⟨rfl, b8⟩
  have HS8 : Hid (SB w8 gS 24 sA) := HS7.out.kept b8
  have HU8 : Hid (SB w8 gU 24 sU) := HU7.out.kept b8
  have HB8 : Hid (Below w.heap.size w w8) := HB7.out.trans (b8.mono HB7.out.size)
  clear c8 b8 HS7 HU7 HB7 e0 e1 e2 e3 e4 f0 f1 f2 f3 f4
  go_wp2
  go_ret
  exact ⟨rfl, HB8.out⟩
end Go.Proofs.Ytbomkapnkpjjbaa
