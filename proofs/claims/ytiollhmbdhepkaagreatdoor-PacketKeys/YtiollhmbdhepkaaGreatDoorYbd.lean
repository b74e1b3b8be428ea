/-
  What lay lays.
-/
import Derived.Test.YtiollhmbdhepkaaGreatDoorYax
namespace Go.Proofs.YtiollhmbdhepkaaGreatDoor
open Go.RowKit Go.Shelf
set_option maxRecDepth 100000

set_option maxHeartbeats 8000000 in
theorem lay1 (p : Fm) (sv : Value) (w : World) (ht : Tb w) (hi : FI w p sv) (hok : Ok p) (hk : p.k = 1) :
    Calls Tryz.prog 52 #[.agg (plA p sv)] w fun e w' => ∃ v, e = .returned v ∧ Ow w' w.heap.size v (putM p) ∧ Below w.heap.size w w' := by
  obtain ⟨W1, hW1⟩ : ∃ W1, W1 = w.alloc (.cells (plA p sv) 33) := ⟨_, rfl⟩
  have b1 : Below w.heap.size w W1 := by rw [hW1]; exact al_below _ _
  have g1 : PF W1 w.heap.size 33 p sv := by rw [hW1]; exact PF.new w _ p sv
  obtain ⟨W2, hW2⟩ : ∃ W2, W2 = W1.alloc (.cells #[.int .i64 (pkN 1), .int .i64 (mT 1)] 83) := ⟨_, rfl⟩
  have b2 : Below W1.heap.size W1 W2 := by rw [hW2]; exact al_below _ _
  have g2 : W2.heap[W1.heap.size]? = some (.cells #[.int .i64 (pkN 1), .int .i64 (mT 1)] 83 (0, 0)) := by rw [hW2]; exact heap_alloc_new _ _
  have B2 : Below w.heap.size w W2 := b1.trans (b2.mono b1.size)
  have FG : Hid (∀ x, From W2 x → PF x w.heap.size 33 p sv) := fun x hx => (g1.kept b2).kept hx
  have FK : Hid (∀ x, From W2 x → PC x w.heap.size p sv) := fun x hx => (FG.out x hx).pc hi.k.nl
  have FS : Hid (∀ x, From W2 x → x.cell? ⟨W1.heap.size, 0, none⟩ = some (.int .i64 (pkN 1)) ∧ x.cell? ⟨W1.heap.size, 1, none⟩ = some (.int .i64 (mT 1))) := fun x hx => by
    have := blk_kept g2 hx (blk_lt g2)
    exact ⟨by simp [World.cell?, this], by simp [World.cell?, this]⟩
  have FB : Hid (∀ x, From W2 x → Below w.heap.size w x) := fun x hx => B2.trans (Below.mono hx B2.size)
  have FT : Hid (∀ x, From W2 x → Fi.Wid x) := fun x hx => (ht.next (FB.out x hx)).v
  have FN : Hid (W2.heap.size = W2.heap.size) := rfl
  have HWN : Hid (w.heap.size ≤ W2.heap.size) := B2.size
  have HI : Hid (FI w p sv) := hi
  have HOK : Hid (Ok p) := hok
  obtain ⟨t0, t1⟩ := (ht.next b1).s 1 (by omega)
  have hks := (g1.pc hi.k.nl).c0
  rw [hk] at hks
  have HPM : Hid (putM p = ([1] :: []).flatten) := by
    unfold Hid
    exact putM_1 hk
  obtain ⟨sa, sc, rfl, -, -, -⟩ := hi.s.shape
  obtain ⟨Wa, hWa⟩ : ∃ Wa, Wa = W2.alloc (.cells #[.int .u8 1] 5) := ⟨_, rfl⟩
  obtain ⟨X0, hX0⟩ : ∃ X0, X0 = Wa.alloc (.cells #[.slice (some ⟨W2.heap.size, 0, none⟩) 1 1] 34) := ⟨_, rfl⟩
  have ba : Below W2.heap.size W2 Wa := by rw [hWa]; exact al_below _ _
  have bx : Below Wa.heap.size Wa X0 := by rw [hX0]; exact al_below _ _
  have FX0 : Hid (From W2 X0) := ba.trans (bx.mono ba.size)
  have pa : Pt Wa (.slice (some ⟨W2.heap.size, 0, none⟩) 1 1) [1] := by rw [hWa]; exact Pt.byte W2 1 (by omega)
  have hza : Wa.heap.size = W2.heap.size + 1 := by rw [hWa]; simp
  have LX0 : Hid (LQ X0 W2.heap.size (.slice (some ⟨W2.heap.size + 1, 0, none⟩) 1 1) [[1]]) := by unfold Hid; rw [hX0, ← hza]; exact LQ.one pa ba.size
  clear b1 g1 b2 g2 B2 ht hi ba bx pa FN hok hza
  have CI : Hid (∀ W, Calls Tryz.prog 47 #[.agg #[.int .i64 (pkN 1), .int .i64 (mT 1)], .int .i64 1] W fun e w' => e = .returned (.bool false) ∧ Below W.heap.size W w') := fun W => has_k 1 (by omega) (by omega) W 1 _ (by decide)
  have CN : Hid (∀ W, Calls Tryz.prog 47 #[.agg #[.int .i64 (pkN 1), .int .i64 (mT 1)], .int .i64 2] W fun e w' => e = .returned (.bool false) ∧ Below W.heap.size W w') := fun W => has_k 1 (by omega) (by omega) W 2 _ (by decide)
  have CF : Hid (∀ W, Calls Tryz.prog 47 #[.agg #[.int .i64 (pkN 1), .int .i64 (mT 1)], .int .i64 4] W fun e w' => e = .returned (.bool false) ∧ Below W.heap.size W w') := fun W => has_k 1 (by omega) (by omega) W 4 _ (by decide)
  have CC : Hid (∀ W, Calls Tryz.prog 47 #[.agg #[.int .i64 (pkN 1), .int .i64 (mT 1)], .int .i64 8] W fun e w' => e = .returned (.bool false) ∧ Below W.heap.size W w') := fun W => has_k 1 (by omega) (by omega) W 8 _ (by decide)
  have CO : Hid (∀ W, Calls Tryz.prog 47 #[.agg #[.int .i64 (pkN 1), .int .i64 (mT 1)], .int .i64 16] W fun e w' => e = .returned (.bool false) ∧ Below W.heap.size W w') := fun W => has_k 1 (by omega) (by omega) W 16 _ (by decide)
  have CT : Hid (∀ W, Calls Tryz.prog 47 #[.agg #[.int .i64 (pkN 1), .int .i64 (mT 1)], .int .i64 32] W fun e w' => e = .returned (.bool false) ∧ Below W.heap.size W w') := fun W => has_k 1 (by omega) (by omega) W 32 _ (by decide)
  have CS : Hid (∀ W, Calls Tryz.prog 47 #[.agg #[.int .i64 (pkN 1), .int .i64 (mT 1)], .int .i64 64] W fun e w' => e = .returned (.bool false) ∧ Below W.heap.size W w') := fun W => has_k 1 (by omega) (by omega) W 64 _ (by decide)
  generalize pkN 1 = pk at *
  generalize mT 1 = mt at *
  go_enter Tryz.func52, Tryz.ntmps52
  go_upto_region 1 with fail
  rw [← hW1]
  clear hW1
  go_upto_region 2 with fail
  rw [← hW2]
  clear hW2 t0 t1
  have hks := (FK.out W2 (Below.refl _ _)).c0
  rw [hk] at hks
  go_upto_region 3 with fail
  rw [← hWa, ← hX0]
  clear hWa hX0 hk hks
  have ch := CI.out X0
  obtain ⟨s0, s1⟩ := FS.out X0 FX0.out
  go_wp2_with fail
  refine ch.mono ?_
  rintro e Y1 ⟨rfl, bY1⟩
  have FY1 : Hid (From W2 Y1) := FX0.out.trans (Below.mono bY1 FX0.out.size)
  have LY1 : Hid (LQ Y1 W2.heap.size (.slice (some ⟨W2.heap.size + 1, 0, none⟩) 1 1) [[1]]) := LX0.out.below bY1
  clear ch bY1 s0 s1 FX0 LX0
  have ch := CN.out Y1
  obtain ⟨s0, s1⟩ := FS.out Y1 FY1.out
  go_wp2_with fail
  refine ch.mono ?_
  rintro e Y2 ⟨rfl, bY2⟩
  have FY2 : Hid (From W2 Y2) := FY1.out.trans (Below.mono bY2 FY1.out.size)
  have LY2 : Hid (LQ Y2 W2.heap.size (.slice (some ⟨W2.heap.size + 1, 0, none⟩) 1 1) [[1]]) := LY1.out.below bY2
  clear ch bY2 s0 s1 FY1 LY1
  have ch := CF.out Y2
  obtain ⟨s0, s1⟩ := FS.out Y2 FY2.out
  go_wp2_with fail
  refine ch.mono ?_
  rintro e Y3 ⟨rfl, bY3⟩
  have FY3 : Hid (From W2 Y3) := FY2.out.trans (Below.mono bY3 FY2.out.size)
  have LY3 : Hid (LQ Y3 W2.heap.size (.slice (some ⟨W2.heap.size + 1, 0, none⟩) 1 1) [[1]]) := LY2.out.below bY3
  clear ch bY3 s0 s1 FY2 LY2
  have ch := CC.out Y3
  obtain ⟨s0, s1⟩ := FS.out Y3 FY3.out
  go_wp2_with fail
  refine ch.mono ?_
  rintro e Y4 ⟨rfl, bY4⟩
  have FY4 : Hid (From W2 Y4) := FY3.out.trans (Below.mono bY4 FY3.out.size)
  have LY4 : Hid (LQ Y4 W2.heap.size (.slice (some ⟨W2.heap.size + 1, 0, none⟩) 1 1) [[1]]) := LY3.out.below bY4
  clear ch bY4 s0 s1 FY3 LY3
  have ch := CO.out Y4
  obtain ⟨s0, s1⟩ := FS.out Y4 FY4.out
  go_wp2_with fail
  refine ch.mono ?_
  rintro e Y5 ⟨rfl, bY5⟩
  have FY5 : Hid (From W2 Y5) := FY4.out.trans (Below.mono bY5 FY4.out.size)
  have LY5 : Hid (LQ Y5 W2.heap.size (.slice (some ⟨W2.heap.size + 1, 0, none⟩) 1 1) [[1]]) := LY4.out.below bY5
  clear ch bY5 s0 s1 FY4 LY4
  have ch := CT.out Y5
  obtain ⟨s0, s1⟩ := FS.out Y5 FY5.out
  go_wp2_with fail
  refine ch.mono ?_
  rintro e Y6 ⟨rfl, bY6⟩
  have FY6 : Hid (From W2 Y6) := FY5.out.trans (Below.mono bY6 FY5.out.size)
  have LY6 : Hid (LQ Y6 W2.heap.size (.slice (some ⟨W2.heap.size + 1, 0, none⟩) 1 1) [[1]]) := LY5.out.below bY6
  clear ch bY6 s0 s1 FY5 LY5
  have ch := CS.out Y6
  obtain ⟨s0, s1⟩ := FS.out Y6 FY6.out
  go_wp2_with fail
  refine ch.mono ?_
  rintro e Y7 ⟨rfl, bY7⟩
  have FY7 : Hid (From W2 Y7) := FY6.out.trans (Below.mono bY7 FY6.out.size)
  have LY7 : Hid (LQ Y7 W2.heap.size (.slice (some ⟨W2.heap.size + 1, 0, none⟩) 1 1) [[1]]) := LY6.out.below bY7
  clear ch bY7 s0 s1 FY6 LY6
  obtain ⟨pp, pc, epp, HP⟩ := LY7.out.parts (by simp)
  injection epp with e1 e2 e3
  subst e1
  subst e3
  clear e2
  have cj := fjoin_any (some ⟨W2.heap.size + 1, 0, none⟩) 1 [[1]] Y7 HP (by have := hlen_ok HOK.out HI.out.k.nl; rw [HPM.out] at this; exact this)
  have cjl : ([[1]] : List (List Int)).length = 1 := rfl
  rw [cjl] at cj
  have HFM : Hid (putM p = ([[1]] : List (List Int)).flatten) := HPM.out
  clear HP HPM cjl
  generalize ([[1]] : List (List Int)).flatten = FM at *
  go_wp2_with fail
  refine cj.mono ?_
  rintro e w9 ⟨v9, rfl, o9, b9⟩
  have HB9 : Hid (Below w.heap.size w w9) := (FB.out Y7 FY7.out).trans (b9.mono (FB.out Y7 FY7.out).size)
  have HO9 : Hid (Ow w9 w.heap.size v9 FM) := o9.mono (Nat.le_trans HWN.out FY7.out.size)
  clear cj b9 o9
  go_wp2
  go_ret
  exact ⟨_, rfl, by rw [HFM.out]; exact HO9.out, HB9.out⟩
end Go.Proofs.YtiollhmbdhepkaaGreatDoor
