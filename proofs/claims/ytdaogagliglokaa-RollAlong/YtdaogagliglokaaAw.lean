/-
  The closed case of each statement (awake) answers true, whatever the memory.
-/
import Derived.Test.YtdaogagliglokaaWinR
namespace Go.Proofs.Ytdaogagliglokaa
open Go.RowKit

theorem sl123 (w : World) : Sl (w.alloc (.cells #[.int .u8 1, .int .u8 2, .int .u8 3] 5)) (.slice (some ⟨w.heap.size, 0, none⟩) 3 3) [1, 2, 3] :=
  ⟨_, 3, rfl, by simp, by simp [maxLen], (fun e => by cases e), row_new w [1, 2, 3] (byteList _ (by decide)) (by simp [maxLen])⟩

theorem rs123 : rs [1, 2, 3] = 655366 := by decide
theorem rs234 : rs [2, 3, 4] = 1048585 := by decide
theorem pa123 : pa [1, 2, 3] = 6 := by decide
theorem pb123 : pb [1, 2, 3] = 10 := by decide

set_option maxHeartbeats 2000000 in
theorem awake_any (w : World) : Calls Try.prog 9 #[] w fun e w' => e = .returned (.bool true) ∧ Below w.heap.size w w' := by
  have b0 : Below w.heap.size w (w.alloc (.cells #[.int .u8 1, .int .u8 2, .int .u8 3] 5)) := (Below.refl _ _).alloc (Nat.le_refl _) _
  have c1 := wnew_any _ [1, 2, 3] _ (sl123 w) (by simp)
  obtain ⟨w0, hw0⟩ : ∃ w0, w0 = w.alloc (.cells #[.int .u8 1, .int .u8 2, .int .u8 3] 5) := ⟨_, rfl⟩
  rw [← hw0] at c1 b0
  have HW0 : Hid (w.alloc (.cells #[.int .u8 1, .int .u8 2, .int .u8 3] 5) = w0) := hw0.symm
  clear hw0
  have HSum : Hid (∀ W : World, Calls Try.prog 12 #[.slice (some ⟨W.heap.size, 0, none⟩) 3 3] (W.alloc (.cells #[.int .u8 1, .int .u8 2, .int .u8 3] 5)) fun e w' => e = .returned (.int .u32 655366) ∧ w' = (W.alloc (.cells #[.int .u8 1, .int .u8 2, .int .u8 3] 5))) := fun W => by
    have := sum_any _ _ _ (sl123 W)
    rwa [rs123] at this
  have HPair : Hid (∀ W : World, Calls Try.prog 11 #[.slice (some ⟨W.heap.size, 0, none⟩) 3 3] (W.alloc (.cells #[.int .u8 1, .int .u8 2, .int .u8 3] 5)) fun e w' => e = .returned (.complex .f64 4618441417868443648 4621819117588971520) ∧ w' = (W.alloc (.cells #[.int .u8 1, .int .u8 2, .int .u8 3] 5))) := fun W => by
    have := pair_any _ _ _ (sl123 W)
    rwa [pa123, pb123, ← fl_six, ← fl_ten] at this
  have HPack : Hid (∀ W : World, Calls Try.prog 14 #[.complex .f64 4618441417868443648 4621819117588971520] W fun e w' => e = .returned (.int .u32 655366) ∧ w' = W) := fun W => by
    have := packp_any [1, 2, 3] W
    rwa [pa123, pb123, ← fl_six, ← fl_ten, rs123] at this
  have o1 : FloatKind.f64.format.order 4618441417868443648 4618441417868443648 = some .eq := by decide
  have o2 : FloatKind.f64.format.order 4621819117588971520 4621819117588971520 = some .eq := by decide
  have hs0 : w.heap.size ≤ w0.heap.size := b0.size
  go_enter Try.func9, Try.ntmps9
  go_wp2_with (rw [HW0.out])
  refine c1.mono ?_
  rintro e w1 ⟨g, hv, rfl, win1, bel1⟩
  clear c1
  have B1 := b0.trans (bel1.mono hs0)
  have bA : Below w1.heap.size w1 (w1.alloc (.cells #[.int .u8 1, .int .u8 2, .int .u8 3] 5)) := (Below.refl _ _).alloc (Nat.le_refl _) _
  have win2 := win1.kept bA
  have c2 := HSum.out w1
  have c3 := wroll_some _ g hv 1 4 [2, 3] _ win2 (by simp) (by decide) (by decide)
  have B2 := B1.trans (bA.mono B1.size)
  have WW : Hid (Win (w1.alloc (.cells #[.int .u8 1, .int .u8 2, .int .u8 3] 5)) w0.heap.size g hv [1, 2, 3]) := win2
  clear win1 win2 bA bel1 b0
  go_wp2_with fail
  refine c2.mono ?_
  rintro e w2 ⟨rfl, rfl⟩
  clear c2
  go_wp2_with fail
  refine c3.mono ?_
  rintro e w3 ⟨rfl, hv3, win3, fr3, _⟩
  clear c3
  have B3 := B2.trans ((WW.out.fr fr3).mono hs0)
  have c4 := wsum_any _ g hv3 _ w3 win3
  rw [show ([2, 3] ++ [4] : List Int) = [2, 3, 4] from rfl, rs234] at c4
  have c5 := wlen_any _ g hv3 _ w3 win3 (by simp)
  rw [show (([2, 3] ++ [4] : List Int).length : Nat) = 3 from rfl] at c5
  clear win3 fr3 B2 B1 WW
  go_wp2_with fail
  refine c4.mono ?_
  rintro e w4 ⟨rfl, rfl⟩
  clear c4
  go_wp2_with fail
  refine c5.mono ?_
  rintro e w5 ⟨rfl, bel5, heq⟩
  clear heq
  clear c5
  have B5 := B3.trans (bel5.mono B3.size)
  have c6 := HPair.out w5
  clear B3 bel5
  go_wp2_with fail
  refine c6.mono ?_
  rintro e w6 ⟨rfl, rfl⟩
  clear c6
  have B6 := B5.trans ((Below.refl w.heap.size w5).alloc B5.size (.cells #[.int .u8 1, .int .u8 2, .int .u8 3] 5))
  go_wp2_with fail
  refine (HPack.out _).mono ?_
  rintro e w7 ⟨rfl, rfl⟩
  go_wp2_with fail
  go_ret
  exact ⟨rfl, B6⟩
end Go.Proofs.Ytdaogagliglokaa
